/-
  PortsTells: for every protocol and all bytes the law on ports' Of, Has and Least returns true. No conditions.
-/
import Derived.Test.YtfeeaokeomcafaaPortsMake
import Derived.ChangeMaps5
namespace Go.Proofs.Ytfeeaokeomcafaa
open Go.ChangeShapes Go.WideShapes Go.ChangeAt Go.RowKit Go.Deep
set_option linter.unusedVariables false

theorem str_S (s : ByteArray) : ∃ l, s = S l := ⟨s.data.toList, by unfold S; simp⟩
set_option maxHeartbeats 2000000 in
set_option maxRecDepth 100000 in
theorem portsTells_walk (x : Int) (l : List UInt8) (w : World) :
    Calls Try.prog 7 #[.int .i64 x, .string (S l)] w fun e w' => e = .returned (.bool true) ∧ Below w.heap.size w w' := by
  have hz := S_size l
  have LV := Lib.hid (fun w => lives13 w)
  by_cases h : 200 < l.length
  · have g : (200 : Int) < (l.length : Int) := by omega
    go_enter Try.func7, Try.ntmps7
    go_wp2_with fail
    refine (LV.out _).mono ?_
    rintro e w1 ⟨rfl, t1⟩
    go_wp2_with fail
    go_ret
    exact ⟨rfl, t1.below (by simp) (Nat.le_refl _)⟩
  · have g : ¬ ((200 : Int) < (l.length : Int)) := by omega
    have O1 := Lib.hid (fun w => portsOf x l (by omega) w)
    have O2 := Lib.hid (fun w => refOf13 x l (by omega) w)
    have L1 := Lib.hid (fun w => least_any x w)
    have L2 := Lib.hid (fun w => has_any x w)
    generalize portsA x l = a at *
    generalize portsB x l = b at *
    generalize portsE x l = er at *
    by_cases h6 : x = 6
    · subst h6
      rw [show leastV 6 = 20 from rfl] at L1 L2
      rw [show decide ((0 : Int) < 20) = true from rfl] at L2
      go_enter Try.func7, Try.ntmps7
      go_wp2_with fail
      refine (O1.out _).mono ?_
      rintro e w1 ⟨rfl, t1⟩
      go_wp2_with fail
      refine (O2.out _).mono ?_
      rintro e w2 ⟨rfl, t2⟩
      have T2 := Lib.hid (t1.trans t2 (by simp))
      clear t1 t2
      go_wp2_with fail
      refine (L1.out _).mono ?_
      rintro e w2 ⟨rfl, rfl⟩
      go_wp2_with fail
      refine (L2.out _).mono ?_
      rintro e w2 ⟨rfl, rfl⟩
      go_wp2_with fail
      refine (LV.out _).mono ?_
      rintro e w3 ⟨rfl, t3⟩
      go_wp2_with fail
      go_ret
      exact ⟨rfl, (T2.out.trans t3 (by simp)).below (by simp) (Nat.le_refl _)⟩
    · have b6 : (x == 6) = false := by simpa using h6
      by_cases h17 : x = 17
      · subst h17
        rw [show leastV 17 = 8 from rfl] at L1 L2
        rw [show decide ((0 : Int) < 8) = true from rfl] at L2
        go_enter Try.func7, Try.ntmps7
        go_wp2_with fail
        refine (O1.out _).mono ?_
        rintro e w1 ⟨rfl, t1⟩
        go_wp2_with fail
        refine (O2.out _).mono ?_
        rintro e w2 ⟨rfl, t2⟩
        have T2 := Lib.hid (t1.trans t2 (by simp))
        clear t1 t2
        go_wp2_with fail
        refine (L1.out _).mono ?_
        rintro e w2 ⟨rfl, rfl⟩
        go_wp2_with fail
        refine (L2.out _).mono ?_
        rintro e w2 ⟨rfl, rfl⟩
        go_wp2_with fail
        refine (LV.out _).mono ?_
        rintro e w3 ⟨rfl, t3⟩
        go_wp2_with fail
        go_ret
        exact ⟨rfl, (T2.out.trans t3 (by simp)).below (by simp) (Nat.le_refl _)⟩
      · have b17 : (x == 17) = false := by simpa using h17
        rw [show leastV x = 0 by unfold leastV; rw [if_neg h6, if_neg h17]] at L1 L2
        rw [show decide ((0 : Int) < 0) = false from rfl] at L2
        go_enter Try.func7, Try.ntmps7
        go_wp2_with fail
        refine (O1.out _).mono ?_
        rintro e w1 ⟨rfl, t1⟩
        go_wp2_with fail
        refine (O2.out _).mono ?_
        rintro e w2 ⟨rfl, t2⟩
        have T2 := Lib.hid (t1.trans t2 (by simp))
        clear t1 t2
        go_wp2_with fail
        refine (L1.out _).mono ?_
        rintro e w2 ⟨rfl, rfl⟩
        go_wp2_with fail
        refine (L2.out _).mono ?_
        rintro e w2 ⟨rfl, rfl⟩
        go_wp2_with fail
        refine (LV.out _).mono ?_
        rintro e w3 ⟨rfl, t3⟩
        go_wp2_with fail
        go_ret
        exact ⟨rfl, (T2.out.trans t3 (by simp)).below (by simp) (Nat.le_refl _)⟩

set_option maxRecDepth 100000 in
theorem portsTells_calls : LawCalls Try.prog 7 Try.f7 := by
  intro H enc W base args ds p hval hA hlt
  rw [Try.params7] at hA hval
  obtain ⟨v0, vs0, d0, ds0, p0, q0, hargs, rfl, rfl, h0, r0⟩ := trodAll_cons hA
  obtain ⟨v1, vs1, d1, ds1, p1, q1, rfl, rfl, rfl, h1, r1⟩ := trodAll_cons r0
  obtain ⟨rfl, rfl, rfl⟩ := trodAll_nil r1
  obtain rfl : args = #[v0, v1] := by cases args; simp_all
  obtain ⟨x, rfl, rfl, rfl, wx⟩ := open_int Try.underlying3 (hval 0 3 v0 rfl rfl) h0
  obtain ⟨s, rfl, rfl, rfl, hs⟩ := Go.ChangeMaps.open_string Try.underlying9 (hval 1 9 v1 rfl rfl) h1
  obtain ⟨l, rfl⟩ := str_S s
  exact portsTells_walk x l W
set_option maxRecDepth 100000 in
theorem portsTells_lifted (os : Os) (started : os.Started) (H : Type) (enc : TypeId × Value → H) :
    ReturnsInHanded {} Try.checked os 7 .any (Rows.portsTellsSpec.pre6 enc Try.prog Try.f7 Rows.portsTellsRow.domain false) (Rows.portsTellsSpec.post enc Try.prog Try.f7 false true false false) := by
  refine returnsInHanded_of_change (C := Try.checked) own started (by kernel_rfl) Try.func7
    (ChangeSpec.witness6 (enc := enc) (C := Try.checked) false ⟨#[], #[.int .i64 0, .string ⟨#[]⟩], []⟩ 8 (by kernel_rfl) (by kernel_rfl) (by kernel_rfl) (by kernel_rfl)) ?_
  intro W base args ds gs before hval hW _ _
  exact law_contract laidOut (by kernel_rfl) rfl rfl boolType (fun ds h => by match ds, h with | [_, _], _ => rfl) portsTells_calls W base args ds gs before hval hW

theorem portsTells_holds : Rows.PortsTellsSaid :=
  OpenClaim.holds_of_wide 7 Try.f7 rfl rfl rfl rfl rfl rfl rfl ⟨rfl, rfl, rfl, rfl, rfl⟩ rfl rfl rfl rfl rfl (by kernel_rfl) Try.func7 (by kernel_rfl)
    (of_decide_eq_true (by kernel_rfl)) (by unfold Func.isWrapper; first | (rw [if_pos (by decide +kernel)]; kernel_rfl) | (rw [if_neg (by decide +kernel)]; exact ⟨rfl, rfl⟩))
    (fun os started H enc _ => portsTells_lifted os started H enc)
#print axioms portsTells_holds
end Go.Proofs.Ytfeeaokeomcafaa
