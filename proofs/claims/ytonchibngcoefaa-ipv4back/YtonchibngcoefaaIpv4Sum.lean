/-
  Layer 11 (ipv4): Sum, and the reference's Two and Sum.
-/
import Derived.Test.YtonchibngcoefaaInetH
namespace Go.Proofs.Ytonchibngcoefaa
open Go.ChangeShapes Go.WideShapes Go.ChangeAt Go.RowKit Go.Deep
set_option linter.unusedVariables false
set_option linter.unusedSimpArgs false

def byteAt (l : List UInt8) (k : Nat) : Nat := (l[k]?.getD 0).toNat
theorem byteAt_lt (l : List UInt8) (k : Nat) : byteAt l k < 256 := (l[k]?.getD 0).toNat_lt
theorem byteAt_in (l : List UInt8) (k : Nat) (h : k < l.length) : byteAt l k = (l[k]).toNat := by unfold byteAt; simp [h]
theorem byteAt_out (l : List UInt8) (k : Nat) (h : ¬ k < l.length) : byteAt l k = 0 := by unfold byteAt; simp [List.getElem?_eq_none (Nat.le_of_not_lt h)]
/-- The sum of the first k bytes, each at its place in a number of 16 bits. -/
def tot (l : List UInt8) : Nat → Nat
  | 0 => 0
  | k + 1 => tot l k + (if k % 2 = 0 then byteAt l k * 256 else byteAt l k)
theorem tot_le (l : List UInt8) : ∀ k, tot l k ≤ k * 65280
  | 0 => by simp [tot]
  | k + 1 => by
    have := tot_le l k
    have hb := byteAt_lt l k
    simp only [tot]
    split <;> omega
/-- What a sum becomes by folding: the same but for multiples of 65535, and 0 only at 0. -/
def can (t : Nat) : Nat := if t = 0 then 0 else (t - 1) % 65535 + 1
theorem can_le (t : Nat) : can t ≤ 65535 := by unfold can; split <;> omega
theorem can_small {t : Nat} (h : t ≤ 65535) : can t = t := by
  unfold can
  split
  · omega
  · rw [Nat.mod_eq_of_lt (by omega)]; omega
theorem can_fold {t : Nat} (h : 65535 < t) : can (t / 65536 + t % 65536) = can t := by
  unfold can
  have h1 : t = 65536 * (t / 65536) + t % 65536 := (Nat.div_add_mod t 65536).symm
  have hq : 1 ≤ t / 65536 := by omega
  rw [if_neg (by omega), if_neg (by omega)]
  have e : t - 1 = (t / 65536 + t % 65536 - 1) + 65535 * (t / 65536) := by omega
  rw [e, Nat.add_mul_mod_self_left]
theorem can_add (t x : Nat) (hx : x ≤ 65535) : can (t + x) = if 65535 < can t + x then can t + x - 65535 else can t + x := by
  unfold can
  by_cases h0 : t = 0
  · subst h0
    simp only [if_true, Nat.zero_add]
    split
    · rename_i h; subst h; simp
    · rw [if_neg (by omega), Nat.mod_eq_of_lt (by omega)]; omega
  · rw [if_neg (by omega), if_neg h0]
    have hm := Nat.mod_lt (t - 1) (show 65535 > 0 by omega)
    have e : t + x - 1 = ((t - 1) % 65535 + x) + 65535 * ((t - 1) / 65535) := by have := Nat.div_add_mod (t - 1) 65535; omega
    rw [e, Nat.add_mul_mod_self_left]
    generalize (t - 1) % 65535 = r at *
    split
    · rw [show r + x = (r + x - 65535) + 65535 by omega, Nat.add_mod_right, Nat.mod_eq_of_lt (by omega)]; omega
    · rw [Nat.mod_eq_of_lt (by omega)]; omega
def sumA (l : List UInt8) : Int := 65535 - (can (tot l l.length) : Int)
theorem sumA_in (l : List UInt8) : 0 ≤ sumA l ∧ sumA l ≤ 65535 := by have := can_le (tot l l.length); unfold sumA; omega

theorem and16 (t : Nat) (h : t < 9223372036854775808) : bits .and .i64 (t : Int) 65535 = ((t % 65536 : Nat) : Int) := by
  have hx : t &&& 65535 = t % 65536 := Nat.and_two_pow_sub_one_eq_mod t 16
  have e1 : (BitVec.ofInt 64 (t : Int)).toNat = t := by rw [BitVec.ofInt_natCast, BitVec.toNat_ofNat]; exact Nat.mod_eq_of_lt (by omega)
  have e2 : (BitVec.ofInt 64 (65535 : Int)).toNat = 65535 := rfl
  show IntKind.i64.wrap ((BitVec.ofInt 64 (t : Int) &&& BitVec.ofInt 64 (65535 : Int)).toNat : Int) = _
  rw [BitVec.toNat_and, e1, e2, hx, IntKind.wrap_i64]
  omega

set_option maxHeartbeats 1000000 in
set_option maxRecDepth 100000 in
theorem sum11 (l : List UInt8) (hl : l.length ≤ 100000) (w : World) : Calls Try.prog 24 #[.string (S l)] w fun e w' => e = .returned (.int .i64 (sumA l)) ∧ w' = w := by
  have hss : (S l).size = l.length := S_size l
  unfold sumA
  go_enter Try.func24, Try.ntmps24
  go_wp2_with fail
  go_loop [3, 7] (fun s i => ∃ k : Nat, k ≤ l.length ∧ i = .int .i64 k ∧ s = .int .i64 (tot l k : Nat)) (fun _ i => l.length - (intOf i).toNat)
  case atStart => exact ⟨0, Nat.zero_le _, rfl, rfl⟩
  case round =>
    obtain ⟨k, hk, rfl, rfl⟩ := hrel
    have hb := tot_le l k
    by_cases hlt : k < l.length
    · have hx := ix_str l k hlt
      have hbt := byteAt_lt l k
      rw [← byteAt_in l k hlt] at hx
      have HT := Lib.hid (show tot l (k + 1) = tot l k + (if k % 2 = 0 then byteAt l k * 256 else byteAt l k) from rfl)
      generalize tot l k = t at *
      generalize byteAt l k = b at *
      have hkb : (k : Int) * 65280 ≤ 6528000000 := by omega
      by_cases h2 : k % 2 = 0
      · have m2 : ((k : Int) % 2 == 0) = true := by simp; omega
        have HT' := Lib.hid (show tot l (k + 1) = t + b * 256 by rw [HT.out, if_pos h2])
        clear HT h2
        go_wp2_with fail
        go_round
        case rel => exact ⟨k + 1, by omega, by go_num, by rw [HT'.out]; go_num⟩
        case measure => simp [intOf]; omega
      · have m2 : ((k : Int) % 2 == 0) = false := by simp; omega
        have HT' := Lib.hid (show tot l (k + 1) = t + b by rw [HT.out, if_neg h2])
        clear HT h2
        go_wp2_with fail
        go_round
        case rel => exact ⟨k + 1, by omega, by go_num, by rw [HT'.out]; go_num⟩
        case measure => simp [intOf]; omega
    · obtain rfl : k = l.length := by omega
      obtain ⟨T, hT⟩ : ∃ T, tot l l.length = T := ⟨_, rfl⟩
      have HTt := Lib.hid hT
      rw [hT] at hb ⊢
      clear hT
      go_wp2_with fail
      go_loop [3] (fun s => ∃ t : Nat, s = .int .i64 (t : Int) ∧ can t = can T ∧ t ≤ 10000000000) (fun s => (intOf s).toNat)
      case atStart => exact ⟨T, rfl, rfl, by omega⟩
      case round =>
        obtain ⟨t, rfl, hc, ht⟩ := hrel
        by_cases hg : 65535 < t
        · have ha := and16 t (by omega)
          have HC := Lib.hid (show can (t / 65536 + t % 65536) = can T by rw [can_fold hg]; exact hc)
          clear hc
          go_wp2_with fail
          go_round
          case rel => exact ⟨t / 65536 + t % 65536, by go_num, HC.out, by omega⟩
          case measure => simp [intOf]; omega
        · have HC := Lib.hid (show can T = t by rw [← hc]; exact can_small (by omega))
          clear hc
          go_wp2_with fail
          go_ret
          exact ⟨ret_int (by rw [HTt.out, HC.out]), rfl⟩
end Go.Proofs.Ytonchibngcoefaa
