/-
  EwmaStays: for every average, sample and weight the law on what a step of ewma leaves between returns true. No conditions.
-/
import Derived.Test.YtbhjljffcgfcdaaEwma3
import Derived.Lib.SmallJoins
import Derived.Deep.DeepCutAuto
namespace Go.Proofs.Ytbhjljffcgfcdaa
open Go.ChangeShapes Go.WideShapes Go.ChangeAt Go.RowKit Go.Joins
set_option linter.unusedVariables false

theorem stays_facts (avg x w : Int) : ∃ a b s far near : Int, a = hold avg ∧ b = hold x ∧ s = stepV avg x w ∧ far = restV avg x w 3 ∧ near = restV avg x w 9 ∧
    (a < b ∧ a ≤ s ∧ s ≤ far ∧ far ≤ near ∧ near ≤ b ∨ b < a ∧ s ≤ a ∧ far ≤ s ∧ near ≤ far ∧ b ≤ near ∨ a = b ∧ s = b ∧ far = b ∧ near = b) := by
  refine ⟨_, _, _, _, _, rfl, rfl, rfl, rfl, rfl, ?_⟩
  have h1 := restV_on avg x w 0 2
  have h2 := restV_on avg x w 2 6
  rw [show restV avg x w (0 + 1) = stepV avg x w from rfl] at h1
  simp only [show 0 + 1 + 2 = 3 from rfl, show 3 + 6 = 9 from rfl] at h1 h2
  generalize restV avg x w 3 = f at *
  generalize restV avg x w 9 = n at *
  generalize stepV avg x w = s at *
  omega

set_option maxHeartbeats 1000000 in
set_option maxRecDepth 100000 in
theorem ewmaStays_walk (avg x w : Int) (wd : World) (ha : fit64 avg) (hx : fit64 x) (hw : fit64 w) :
    Calls Try.prog 5 #[.int .i64 avg, .int .i64 x, .int .i64 w] wd fun e w' => e = .returned (.bool true) ∧ Below wd.heap.size wd w' := by
  unfold fit64 at ha hx hw
  obtain ⟨a, b, s, far, near, ea, eb, es, ef, en, hf⟩ := stays_facts avg x w
  have C1 := step_any avg x w wd
  have C2 := rest_any avg x w 3 wd
  have C3 := rest_any avg x w 9 wd
  rw [show times 3 = 3 from rfl, ← ef] at C2
  rw [show times 9 = 9 from rfl, ← en] at C3
  rw [← es] at C1
  have D1 := Lib.hid C1
  have D2 := Lib.hid C2
  have D3 := Lib.hid C3
  have EN := Lib.hid (fun (h : ¬ (0 ≤ w ∧ w ≤ 16)) => (es.trans (stepV_no h)).trans ea.symm)
  clear C1 C2 C3 ef en es
  have EA := Lib.hid ea
  have EB := Lib.hid eb
  clear ea eb
  go_enter Try.func5, Try.ntmps5
  go_upto_region 1 with fail
  go_cut [7, 8] (fun u v wx => u = .int .i64 a ∧ v = .int .i64 b ∧ wx = wd)
  case first =>
    clear D1 D2 D3 EN hf
    rcases (show 1152921504606846976 < avg ∨ avg < -1152921504606846976 ∨ -1152921504606846976 ≤ avg ∧ avg ≤ 1152921504606846976 by omega) with g | g | g <;>
    rcases (show 1152921504606846976 < x ∨ x < -1152921504606846976 ∨ -1152921504606846976 ≤ x ∧ x ≤ 1152921504606846976 by omega) with k | k | k
    all_goals
      go_wp2_with fail
      all_goals
        go_meet
        rw [EA.out, EB.out]
        exact ⟨congrArg (Value.int .i64) (by unfold hold; repeat' split; all_goals omega), congrArg (Value.int .i64) (by unfold hold; repeat' split; all_goals omega), rfl⟩
  case rest =>
    obtain ⟨rfl, rfl, rfl⟩ := hcut
    have bd := hold_bd avg
    have bd' := hold_bd x
    rw [← EA.out] at bd
    rw [← EB.out] at bd'
    clear EA EB
    by_cases hv : 0 ≤ w ∧ w ≤ 16
    · clear EN
      rcases hf with hf | hf | ⟨rfl, rfl, rfl, rfl⟩
      all_goals
        go_wp2_with fail
        refine (D1.out).mono ?_
        rintro e w' ⟨rfl, rfl⟩
        go_wp2_with fail
        refine (D2.out).mono ?_
        rintro e w' ⟨rfl, rfl⟩
        go_wp2_with fail
        refine (D3.out).mono ?_
        rintro e w' ⟨rfl, rfl⟩
        go_wp2_with (go_at_call 10; refine (ewmaLives_any _).mono ?_; rintro e w' ⟨rfl, rfl⟩)
        go_ret
        exact ⟨rfl, Below.refl _ _⟩
    · have hs := EN.out hv
      have bs : (s == a) = true := by simpa using hs
      clear EN hs
      rcases hf with hf | hf | ⟨rfl, rfl, rfl, rfl⟩
      all_goals
        by_cases hn : w < 0
        all_goals
          go_wp2_with fail
          refine (D1.out).mono ?_
          rintro e w' ⟨rfl, rfl⟩
          go_wp2_with (go_at_call 10; refine (ewmaLives_any _).mono ?_; rintro e w' ⟨rfl, rfl⟩)
          go_ret
          exact ⟨rfl, Below.refl _ _⟩

set_option maxRecDepth 100000 in
theorem ewmaStays_calls : LawCalls Try.prog 5 Try.f5 := by
  intro H enc W base args ds p hval hA hlt
  rw [Try.params5] at hA hval
  obtain ⟨v0, vs0, d0, ds0, p0, q0, hargs, rfl, rfl, h0, r0⟩ := trodAll_cons hA
  obtain ⟨v1, vs1, d1, ds1, p1, q1, rfl, rfl, rfl, h1, r1⟩ := trodAll_cons r0
  obtain ⟨v2, vs2, d2, ds2, p2, q2, rfl, rfl, rfl, h2, r2⟩ := trodAll_cons r1
  obtain ⟨rfl, rfl, rfl⟩ := trodAll_nil r2
  obtain rfl : args = #[v0, v1, v2] := by cases args; simp_all
  obtain ⟨a, rfl, rfl, rfl, wa⟩ := open_int Try.underlying3 (hval 0 3 v0 rfl rfl) h0
  obtain ⟨b, rfl, rfl, rfl, wb⟩ := open_int Try.underlying3 (hval 1 3 v1 rfl rfl) h1
  obtain ⟨c, rfl, rfl, rfl, wc⟩ := open_int Try.underlying3 (hval 2 3 v2 rfl rfl) h2
  exact ewmaStays_walk a b c W (i64_in wa) (i64_in wb) (i64_in wc)

set_option maxRecDepth 100000 in
theorem ewmaStays_lifted (os : Os) (started : os.Started) (H : Type) (enc : TypeId × Value → H) :
    ReturnsInHanded {} Try.checked os 5 .any (Rows.ewmaStaysSpec.pre6 enc Try.prog Try.f5 Rows.ewmaStaysRow.domain false) (Rows.ewmaStaysSpec.post enc Try.prog Try.f5 false true false false) := by
  refine returnsInHanded_of_change (C := Try.checked) own started (by kernel_rfl) Try.func5
    (ChangeSpec.witness6 (enc := enc) (C := Try.checked) false ⟨#[], #[.int .i64 0, .int .i64 0, .int .i64 0], []⟩ 8 (by kernel_rfl) (by kernel_rfl) (by kernel_rfl) (by kernel_rfl)) ?_
  intro W base args ds gs before hval hW _ _
  exact law_contract laidOut (by kernel_rfl) rfl rfl boolType (fun ds h => by match ds, h with | [_, _, _], _ => rfl) ewmaStays_calls W base args ds gs before hval hW

theorem ewmaStays_holds : Rows.EwmaStaysSaid :=
  OpenClaim.holds_of_wide 5 Try.f5 rfl rfl rfl rfl rfl rfl rfl ⟨rfl, rfl, rfl, rfl, rfl⟩ rfl rfl rfl rfl rfl (by kernel_rfl) Try.func5 (by kernel_rfl)
    (of_decide_eq_true (by kernel_rfl)) (by unfold Func.isWrapper; first | (rw [if_pos (by decide +kernel)]; kernel_rfl) | (rw [if_neg (by decide +kernel)]; exact ⟨rfl, rfl⟩))
    (fun os started H enc _ => ewmaStays_lifted os started H enc)
#print axioms ewmaStays_holds
end Go.Proofs.Ytbhjljffcgfcdaa
