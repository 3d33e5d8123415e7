/-
  Layer 11 (ipv4): the reference's Two, Sum and Low; ipv4's place and low.
-/
import Derived.Test.YtonchibngcoefaaIpv4Sum
namespace Go.Proofs.Ytonchibngcoefaa
open Go.ChangeShapes Go.WideShapes Go.ChangeAt Go.RowKit Go.Deep
set_option linter.unusedVariables false
set_option linter.unusedSimpArgs false

def twoA (l : List UInt8) (i : Nat) : Nat := byteAt l i * 256 + byteAt l (i + 1)
theorem twoA_le (l : List UInt8) (i : Nat) : twoA l i ≤ 65535 := by have := byteAt_lt l i; have := byteAt_lt l (i + 1); unfold twoA; omega
def twoN (l : List UInt8) (i : Nat) : Nat → Nat
  | 0 => 0
  | j + 1 => twoN l i j * 256 + byteAt l (i + j)

set_option maxHeartbeats 1000000 in
theorem two11 (l : List UInt8) (i : Nat) (hl : l.length ≤ 100000) (hi : i ≤ 200000) (w : World) : Calls Try.prog 58 #[.string (S l), .int .i64 (i : Int)] w fun e w' => e = .returned (.int .i64 (twoA l i : Nat)) ∧ w' = w := by
  have hss : (S l).size = l.length := S_size l
  have HE := Lib.hid (show twoA l i = twoN l i 2 by unfold twoA; simp [twoN])
  rw [HE.out]
  go_enter Try.func58, Try.ntmps58
  go_wp2_with fail
  go_loop [5, 6] (fun n k => ∃ j m : Nat, j ≤ 2 ∧ m = i + j ∧ k = .int .i64 (m : Int) ∧ n = .int .i64 (twoN l i j : Nat)) (fun _ k => i + 2 - (intOf k).toNat)
  case atStart => exact ⟨0, i, by omega, rfl, rfl, rfl⟩
  case round =>
    obtain ⟨j, m, hj, hm, rfl, rfl⟩ := hrel
    by_cases hlt : j < 2
    · have hn : twoN l i j ≤ 255 := by
        rcases (show j = 0 ∨ j = 1 by omega) with rfl | rfl
        · simp [twoN]
        · have := byteAt_lt l (i + 0); simp [twoN] at *; omega
      have HN := Lib.hid (show twoN l i (j + 1) = twoN l i j * 256 + byteAt l m by rw [hm]; rfl)
      generalize twoN l i j = n at *
      by_cases hin : m < l.length
      · have hx := ix_str l m hin
        have hbt := byteAt_lt l m
        rw [← byteAt_in l m hin] at hx
        have HM := Lib.hid hm
        have hm1 : (m : Int) < (i : Int) + 2 := by omega
        generalize byteAt l m = b at *
        clear hm
        go_wp2_with fail
        go_round
        case rel => exact ⟨j + 1, m + 1, by omega, by have := HM.out; omega, by go_num, by rw [HN.out]; go_num⟩
        case measure => have := HM.out; simp [intOf]; omega
      · have hb0 := byteAt_out l m hin
        rw [hb0] at HN
        have HM := Lib.hid hm
        have hm1 : (m : Int) < (i : Int) + 2 := by omega
        clear hb0 hm
        go_wp2_with fail
        go_round
        case rel => exact ⟨j + 1, m + 1, by omega, by have := HM.out; omega, by go_num, by rw [HN.out]; go_num⟩
        case measure => have := HM.out; simp [intOf]; omega
    · obtain rfl : j = 2 := by omega
      have hm1 : ¬ (m : Int) < (i : Int) + 2 := by omega
      go_wp2_with fail
      go_ret
      exact ⟨rfl, rfl⟩

theorem tot_two (l : List UInt8) (j : Nat) : tot l (2 * j + 2) = tot l (2 * j) + twoA l (2 * j) := by
  simp only [tot, twoA]
  rw [if_pos (by omega), if_neg (by omega)]
  omega
theorem tot_end (l : List UInt8) (i : Nat) (h1 : l.length ≤ i) (h2 : i ≤ l.length + 1) : tot l i = tot l l.length := by
  rcases (show i = l.length ∨ i = l.length + 1 by omega) with rfl | rfl
  · rfl
  · simp only [tot]
    rw [byteAt_out l l.length (by omega)]
    split <;> omega

set_option maxHeartbeats 1000000 in
theorem refSum11 (l : List UInt8) (hl : l.length ≤ 100000) (w : World) : Calls Try.prog 25 #[.string (S l)] w fun e w' => e = .returned (.int .i64 (sumA l)) ∧ w' = w := by
  have hss : (S l).size = l.length := S_size l
  unfold sumA
  go_enter Try.func25, Try.ntmps25
  go_wp2_with fail
  go_loop [3, 4] (fun n i => ∃ j : Nat, 2 * j ≤ l.length + 1 ∧ i = .int .i64 ((2 * j : Nat) : Int) ∧ n = .int .i64 (can (tot l (2 * j)) : Nat)) (fun _ i => l.length + 2 - (intOf i).toNat)
  case atStart => exact ⟨0, by omega, rfl, rfl⟩
  case round =>
    obtain ⟨j, hj, rfl, rfl⟩ := hrel
    have hc := can_le (tot l (2 * j))
    by_cases hlt : 2 * j < l.length
    · have TW := Lib.hid (fun w => two11 l (2 * j) hl (by omega) w)
      have ht := twoA_le l (2 * j)
      have HA := can_add (tot l (2 * j)) (twoA l (2 * j)) ht
      rw [← tot_two] at HA
      have HA := Lib.hid HA
      have HI := Lib.hid (show 2 * (j + 1) = 2 * j + 2 by omega)
      generalize can (tot l (2 * j)) = c at *
      generalize twoA l (2 * j) = x at *
      by_cases hg : 65535 < c + x
      · have HA' := Lib.hid (show can (tot l (2 * j + 2)) = c + x - 65535 by rw [HA.out, if_pos hg])
        clear HA
        go_wp2_with fail
        refine (TW.out _).mono ?_
        rintro e w1 ⟨rfl, rfl⟩
        go_wp2_with fail
        go_round
        case rel => exact ⟨j + 1, by omega, by go_num, by rw [HI.out, HA'.out]; go_num⟩
        case measure => simp [intOf]; omega
      · have HA' := Lib.hid (show can (tot l (2 * j + 2)) = c + x by rw [HA.out, if_neg hg])
        clear HA
        go_wp2_with fail
        refine (TW.out _).mono ?_
        rintro e w1 ⟨rfl, rfl⟩
        go_wp2_with fail
        go_round
        case rel => exact ⟨j + 1, by omega, by go_num, by rw [HI.out, HA'.out]; go_num⟩
        case measure => simp [intOf]; omega
    · have HT := Lib.hid (tot_end l (2 * j) (by omega) hj)
      rw [HT.out] at hc ⊢
      go_wp2_with fail
      go_ret
      exact ⟨rfl, rfl⟩

theorem low11 (n : Int) (k : Nat) (hk : k ≤ 100) (hn : -9223372036854775808 ≤ n ∧ n ≤ 9223372036854775807) (w : World) : Calls Try.prog 60 #[.int .i64 n, .int .i64 (k : Int)] w fun e w' => e = .returned (.string (S (be (u64n n) k))) ∧ Touch [] w w' := by
  have P := Lib.hid (fun w => refPutNum k hk (u64n n) (u64n_lt n) w)
  have f := u64n_cast n
  generalize u64n n = x at *
  have f' : IntKind.u64.wrap n = (x : Int) := by rw [IntKind.wrap_u64]; omega
  clear f
  go_enter Try.func60, Try.ntmps60
  go_wp2_with fail
  refine (P.out _).mono ?_
  rintro e w1 ⟨rfl, t1⟩
  have T1 := Lib.hid t1
  clear t1
  go_wp2_with fail
  go_ret
  exact ⟨rfl, T1.out⟩

theorem be_mod (u : Nat) : be (u % 4294967296) 4 = be u 4 := by
  have h : ∀ k, k < 4 → UInt8.ofNat (u % 4294967296 / 256 ^ k) = UInt8.ofNat (u / 256 ^ k) := by
    intro k hk
    apply UInt8.toNat_inj.1
    rcases (show k = 0 ∨ k = 1 ∨ k = 2 ∨ k = 3 by omega) with rfl | rfl | rfl | rfl <;> simp <;> omega
  simp only [be]
  rw [h 3 (by omega), h 2 (by omega), h 1 (by omega), h 0 (by omega)]
theorem low4 (hi lo : Nat) (hlo : lo < 18446744073709551616) (w : World) : Calls Try.prog 74 #[av hi lo] w fun e w' => e = .returned (.string (S (be lo 4))) ∧ Touch [] w w' := by
  have e : bytesA 4 0 (lo % 4294967296) = be lo 4 := by
    have hr : rightA 4 0 (lo % 4294967296) = true := by unfold rightA; simp; omega
    unfold bytesA
    rw [hr, if_pos rfl, if_pos rfl, be_mod]
  have B0 := fun w => bytes10 4 0 (lo % 4294967296) (by omega) (by omega) w
  rw [e] at B0
  clear e
  generalize be lo 4 = M at *
  have B : Hid (∀ w, Calls Try.prog 18 #[.int .i64 4, .agg #[.int .u64 0, .int .u64 ((lo % 4294967296 : Nat) : Int)]] w fun e w' => e = .returned (.string (S M)) ∧ Touch [] w w') := Lib.hid B0
  have ha := u64_and_nat lo 4294967295 hlo (by omega)
  rw [show lo &&& 4294967295 = lo % 4294967296 from Nat.and_two_pow_sub_one_eq_mod lo 32] at ha
  have ha' : bits .and .u64 (lo : Int) 4294967295 = ((lo % 4294967296 : Nat) : Int) := ha
  have T0 := Lib.hid ((Touch.refl [] w).alloc (.cells #[.int .u64 (hi : Int), .int .u64 (lo : Int)] 44))
  generalize lo % 4294967296 = lw at *
  unfold av
  clear B0 ha
  go_enter Try.func74, Try.ntmps74
  go_wp2_with fail
  refine (B.out _).mono ?_
  rintro e w1 ⟨rfl, t1⟩
  have T1 := Lib.hid (T0.out.trans t1 (by simp))
  clear t1
  go_wp2_with fail
  go_ret
  exact ⟨rfl, T1.out⟩
end Go.Proofs.Ytonchibngcoefaa
