/-
  SatKeeps: for every a, b, c the law on bounds, order and rounding of sat returns true. No conditions.
-/
import Derived.Test.YtcegpapfcfpblaaSatLaws
import Derived.Deep.DeepCutAuto
namespace Go.Proofs.Ytcegpapfcfpblaa
open Go.ChangeShapes Go.WideShapes Go.ChangeAt Go.RowKit Go.Joins
set_option linter.unusedVariables false

theorem satAdd_comm (a b : Int) : satAdd b a = satAdd a b := by unfold satAdd; rw [Int.add_comm]
theorem satMul_comm (a b : Int) : satMul b a = satMul a b := by unfold satMul; rw [Int.mul_comm]
theorem satSub_anti (a b : Int) : satSub a b = -satSub b a := by
  unfold satSub
  rw [← hold_neg, Int.neg_sub]
theorem satAdd_bd (a b : Int) : -1152921504606846976 ≤ satAdd a b ∧ satAdd a b ≤ 1152921504606846976 := hold_bd _
theorem satSub_bd (a b : Int) : -1152921504606846976 ≤ satSub a b ∧ satSub a b ≤ 1152921504606846976 := hold_bd _
theorem satMul_bd (a b : Int) : -1152921504606846976 ≤ satMul a b ∧ satMul a b ≤ 1152921504606846976 := hold_bd _
theorem satAdd_mono (a : Int) {b c : Int} (h : b ≤ c) : satAdd a b ≤ satAdd a c := hold_mono (by have := hold_mono h; omega)
theorem satSub_mono (a : Int) {b c : Int} (h : b ≤ c) : satSub a c ≤ satSub a b := hold_mono (by have := hold_mono h; omega)
theorem satSub_back (a b : Int) (h1 : -1152921504606846976 < satAdd a b) (h2 : satAdd a b < 1152921504606846976) : satSub (satAdd a b) b = hold a := by
  have ha := hold_bd a
  have hb := hold_bd b
  unfold satAdd at h1 h2 ⊢
  have e : hold (hold a + hold b) = hold a + hold b := by
    by_cases g1 : hold a + hold b ≤ -1152921504606846976
    · rw [hold_down g1] at h1; omega
    · by_cases g2 : 1152921504606846976 ≤ hold a + hold b
      · rw [hold_up g2] at h2; omega
      · exact hold_in (by omega) (by omega)
  unfold satSub
  rw [e, hold_in (x := hold a + hold b) (by omega) (by omega), show hold a + hold b - hold b = hold a by omega, hold_hold]

theorem up_bd (a b c : Int) : 0 ≤ partV a b c ∧ partV a b c ≤ upV a b c ∧ upV a b c - partV a b c ≤ 1 ∧ upV a b c ≤ 1152921504606846976 := by
  by_cases h : okParts a b c
  · rw [partV_yes h, upV_yes h]
    have hq := Int.natCast_nonneg (quo a b c)
    unfold satPart satUp
    generalize (quo a b c : Int) = q at *
    unfold hold
    repeat' split
    all_goals omega
  · rw [partV_no h, upV_no h]
    omega

/-- Where nothing is clamped, the two quotients lie round the exact one. -/
theorem parts_exact (a b c : Int) (h : 0 ≤ a ∧ a ≤ 1073741824 ∧ 0 ≤ b ∧ b ≤ 1073741824 ∧ 1 ≤ c ∧ c ≤ 1073741824) :
    partV a b c * c ≤ a * b ∧ a * b - partV a b c * c < c ∧ a * b ≤ upV a b c * c ∧ upV a b c * c - a * b < c ∧ 0 ≤ partV a b c * c ∧ 0 ≤ a * b ∧ a * b ≤ 1152921504606846976 := by
  have hok : okParts a b c := by unfold okParts; omega
  rw [partV_yes hok, upV_yes hok]
  obtain ⟨m, rfl⟩ := Int.eq_ofNat_of_zero_le h.1
  obtain ⟨n, rfl⟩ := Int.eq_ofNat_of_zero_le h.2.2.1
  obtain ⟨k, rfl⟩ := Int.eq_ofNat_of_zero_le (show 0 ≤ c by omega)
  have hmn : m * n ≤ 1073741824 * 1073741824 := Nat.mul_le_mul (by omega) (by omega)
  unfold satPart satUp quo rem
  simp only [Int.toNat_natCast]
  have hd := Nat.div_add_mod' (m * n) k
  have hm := Nat.mod_lt (m * n) (show k > 0 by omega)
  have hle : m * n / k ≤ m * n := Nat.div_le_self _ _
  have hhalf : 2 ≤ k → m * n / k ≤ m * n / 2 := fun h => Nat.div_le_div_left h (by omega)
  have hone : k = 1 → m * n % k = 0 := fun h => by rw [h, Nat.mod_one]
  rw [← Int.natCast_mul]
  by_cases h0 : 0 < m * n % k
  · rw [if_pos h0]
    generalize m * n / k = Q at *
    generalize m * n % k = R at *
    generalize m * n = Z at *
    have hX : (Q : Int) * (k : Int) = ((Q * k : Nat) : Int) := (Int.natCast_mul _ _).symm
    generalize Q * k = X at *
    have h2 := hhalf (by omega)
    rw [hold_in (x := (Q : Int)) (by omega) (by omega), hold_in (by omega) (by omega), Int.add_mul, Int.one_mul, hX]
    omega
  · rw [if_neg h0, Int.add_zero]
    generalize m * n / k = Q at *
    generalize m * n % k = R at *
    generalize m * n = Z at *
    have hX : (Q : Int) * (k : Int) = ((Q * k : Nat) : Int) := (Int.natCast_mul _ _).symm
    generalize Q * k = X at *
    rw [hold_in (x := (Q : Int)) (by omega) (by omega), hX]
    omega

set_option maxHeartbeats 4000000 in
set_option maxRecDepth 100000 in
theorem satKeeps_walk (a b c : Int) (w : World) (wa : fits a) (wb : fits b) (wc : fits c) :
    Calls Try.prog 5 #[.int .i64 a, .int .i64 b, .int .i64 c] w fun e w' => e = .returned (.bool true) ∧ Below w.heap.size w w' := by
  have A1 := Lib.hid (fun w => add_any a b w)
  have A2 := Lib.hid (fun w => add_any a c w)
  have A3 := fun w => add_any b a w
  rw [satAdd_comm] at A3
  have A3 := Lib.hid A3
  have M1 := Lib.hid (fun w => mul_any a b w)
  have M2 := fun w => mul_any b a w
  rw [satMul_comm] at M2
  have M2 := Lib.hid M2
  have S1 := Lib.hid (fun w => sub_any a b w)
  have S2 := Lib.hid (fun w => sub_any b a w)
  have S3 := Lib.hid (fun w => sub_any a c w)
  have S4 := Lib.hid (fun w => sub_any (satAdd a b) b w)
  have Hh := Lib.hid (fun w => hold_any a w)
  have P1 := Lib.hid (fun w => part_any a b c w)
  have U1 := Lib.hid (fun w => up_any a b c w)
  have b1 := satAdd_bd a b
  have b2 := satMul_bd a b
  have b3 := satSub_bd a b
  have b4 := satSub_bd b a
  have nd : (satSub a b != -satSub b a) = false := by rw [satSub_anti a b]; simp
  have mo : b ≤ c → satAdd a b ≤ satAdd a c ∧ satSub a c ≤ satSub a b := fun h => ⟨satAdd_mono a h, satSub_mono a h⟩
  have MO := Lib.hid mo
  have bk : -1152921504606846976 < satAdd a b → satAdd a b < 1152921504606846976 → (satSub (satAdd a b) b != hold a) = false := fun h1 h2 => by rw [satSub_back a b h1 h2]; simp
  have BK := Lib.hid bk
  have b5 := up_bd a b c
  have EX := Lib.hid (parts_exact a b c)
  clear mo bk
  generalize satSub (satAdd a b) b = g at *
  generalize hold a = ha at *
  generalize satAdd a b = s at *
  generalize satAdd a c = s2 at *
  generalize satMul a b = p at *
  generalize satSub a b = d at *
  generalize satSub b a = d' at *
  generalize satSub a c = d2 at *
  generalize partV a b c = dn at *
  generalize upV a b c = up at *
  have t1 : decide (s < -1152921504606846976) = false := by simp; omega
  have t2 : decide (1152921504606846976 < s) = false := by simp; omega
  have t3 : decide (p < -1152921504606846976) = false := by simp; omega
  have t4 : decide (1152921504606846976 < p) = false := by simp; omega
  go_enter Try.func5, Try.ntmps5
  go_wp2_with fail
  refine (A1.out _).mono ?_
  rintro e w ⟨rfl, rfl⟩
  go_wp2_with fail
  refine (M1.out _).mono ?_
  rintro e w1 ⟨rfl, hb1⟩
  go_wp2_with fail
  refine (A3.out _).mono ?_
  rintro e w1 ⟨rfl, rfl⟩
  go_wp2_with fail
  refine (M2.out _).mono ?_
  rintro e w2 ⟨rfl, hb2⟩
  go_wp2_with fail
  refine (S1.out _).mono ?_
  rintro e w2 ⟨rfl, rfl⟩
  go_wp2_with fail
  refine (S2.out _).mono ?_
  rintro e w2 ⟨rfl, rfl⟩
  have hb := bnext hb1 hb2
  clear hb1 hb2 A3 M1 M2 S2
  go_upto_region 4 with fail
  clear t1 t2 t3 t4 nd b2 b3 b4
  go_cut [80] (fun v wx => v = .bool false ∧ Below w.heap.size w wx)
  case first =>
    by_cases hbc : b ≤ c
    · have hm := MO.out hbc
      have q1 : decide (s2 < s) = false := by simp; omega
      have q2 : decide (d < d2) = false := by simp; omega
      have q3 : decide (b ≤ c) = true := by simp; omega
      clear BK EX
      go_wp2_with fail
      refine (A1.out _).mono ?_
      rintro e wx ⟨rfl, rfl⟩
      go_wp2_with fail
      refine (A2.out _).mono ?_
      rintro e wx ⟨rfl, rfl⟩
      go_wp2_with fail
      refine (S1.out _).mono ?_
      rintro e wx ⟨rfl, rfl⟩
      go_wp2_with fail
      refine (S3.out _).mono ?_
      rintro e wx ⟨rfl, rfl⟩
      go_wp2_with fail
      go_meet
      exact ⟨rfl, hb⟩
    · have q3 : decide (b ≤ c) = false := by simp; omega
      clear BK EX
      go_wp2_with fail
      go_meet
      exact ⟨rfl, hb⟩
  case rest =>
    clear hb
    obtain ⟨rfl, hb⟩ := hcut
    go_upto_region 6 with fail
    go_cut [94] (fun v wx => v = .bool false ∧ Below w.heap.size w wx)
    case first =>
      by_cases h1 : -1152921504606846976 < s
      · by_cases h2 : s < 1152921504606846976
        · have q1 := BK.out h1 h2
          go_wp2_with fail
          refine (S4.out _).mono ?_
          rintro e wx ⟨rfl, rfl⟩
          go_wp2_with fail
          refine (Hh.out _).mono ?_
          rintro e wx ⟨rfl, rfl⟩
          go_wp2_with fail
          go_meet
          exact ⟨rfl, hb⟩
        · go_wp2_with fail
          go_meet
          exact ⟨rfl, hb⟩
      · go_wp2_with fail
        go_meet
        exact ⟨rfl, hb⟩
    case rest =>
      clear hb
      obtain ⟨rfl, hb⟩ := hcut
      go_wp2_with fail
      refine (P1.out _).mono ?_
      rintro e w3 ⟨rfl, hb3⟩
      go_wp2_with fail
      refine (U1.out _).mono ?_
      rintro e w4 ⟨rfl, hb4⟩
      have hbn := bnext (bnext hb hb3) hb4
      clear hb hb3 hb4
      go_upto_region 11 with fail
      clear A1 A2 S1 S3 S4 Hh P1 U1 MO BK b1
      by_cases hin : 0 ≤ a ∧ a ≤ 1073741824 ∧ 0 ≤ b ∧ b ≤ 1073741824 ∧ 1 ≤ c ∧ c ≤ 1073741824
      · have hx := EX.out hin
        clear EX
        go_wp2_with (go_at_call 21; refine (satLives_any _).mono ?_; rintro e w5 ⟨rfl, hb5⟩)
        go_ret
        exact ⟨rfl, bnext hbn hb5⟩
      · clear EX
        rcases (show a < 0 ∨ (0 ≤ a ∧ b < 0) ∨ (0 ≤ a ∧ 0 ≤ b ∧ c < 1) ∨ (0 ≤ a ∧ 0 ≤ b ∧ 1 ≤ c ∧ 1073741824 < a) ∨ (0 ≤ a ∧ 0 ≤ b ∧ 1 ≤ c ∧ a ≤ 1073741824 ∧ 1073741824 < b) ∨
          (0 ≤ a ∧ 0 ≤ b ∧ 1 ≤ c ∧ a ≤ 1073741824 ∧ b ≤ 1073741824 ∧ 1073741824 < c) by omega) with g | g | g | g | g | g
        all_goals
          clear hin
          go_wp2_with (go_at_call 21; refine (satLives_any _).mono ?_; rintro e w5 ⟨rfl, hb5⟩)
          go_ret
          exact ⟨rfl, bnext hbn hb5⟩

set_option maxRecDepth 100000 in
theorem satKeeps_calls : LawCalls Try.prog 5 Try.f5 := by
  intro H enc W base args ds p hval hA hlt
  rw [Try.params5] at hA hval
  obtain ⟨v0, vs0, d0, ds0, p0, q0, hargs, rfl, rfl, h0, r0⟩ := trodAll_cons hA
  obtain ⟨v1, vs1, d1, ds1, p1, q1, rfl, rfl, rfl, h1, r1⟩ := trodAll_cons r0
  obtain ⟨v2, vs2, d2, ds2, p2, q2, rfl, rfl, rfl, h2, r2⟩ := trodAll_cons r1
  obtain ⟨rfl, rfl, rfl⟩ := trodAll_nil r2
  obtain rfl : args = #[v0, v1, v2] := by cases args; simp_all
  obtain ⟨a, rfl, rfl, rfl, wa⟩ := open_int Try.underlying3 (hval 0 3 v0 rfl rfl) h0
  obtain ⟨b, rfl, rfl, rfl, wb⟩ := open_int Try.underlying3 (hval 1 3 v1 rfl rfl) h1
  obtain ⟨c, rfl, rfl, rfl, wc⟩ := open_int Try.underlying3 (hval 2 3 v2 rfl rfl) h2
  exact satKeeps_walk a b c W (i64_in wa) (i64_in wb) (i64_in wc)

set_option maxRecDepth 100000 in
theorem satKeeps_lifted (os : Os) (started : os.Started) (H : Type) (enc : TypeId × Value → H) :
    ReturnsInHanded {} Try.checked os 5 .any (Rows.satKeepsSpec.pre6 enc Try.prog Try.f5 Rows.satKeepsRow.domain false) (Rows.satKeepsSpec.post enc Try.prog Try.f5 false true false false) := by
  refine returnsInHanded_of_change (C := Try.checked) own started (by kernel_rfl) Try.func5
    (ChangeSpec.witness6 (enc := enc) (C := Try.checked) false ⟨#[], #[.int .i64 0, .int .i64 0, .int .i64 0], []⟩ 8 (by kernel_rfl) (by kernel_rfl) (by kernel_rfl) (by kernel_rfl)) ?_
  intro W base args ds gs before hval hW _ _
  exact law_contract laidOut (by kernel_rfl) rfl rfl boolType (fun ds h => by match ds, h with | [_, _, _], _ => rfl) satKeeps_calls W base args ds gs before hval hW

theorem satKeeps_holds : Rows.SatKeepsSaid :=
  OpenClaim.holds_of_wide 5 Try.f5 rfl rfl rfl rfl rfl rfl rfl ⟨rfl, rfl, rfl, rfl, rfl⟩ rfl rfl rfl rfl rfl (by kernel_rfl) Try.func5 (by kernel_rfl)
    (of_decide_eq_true (by kernel_rfl)) (by unfold Func.isWrapper; first | (rw [if_pos (by decide +kernel)]; kernel_rfl) | (rw [if_neg (by decide +kernel)]; exact ⟨rfl, rfl⟩))
    (fun os started H enc _ => satKeeps_lifted os started H enc)
#print axioms satKeeps_holds
end Go.Proofs.Ytcegpapfcfpblaa
