/-
  CutoffStays: for every top and every event the law of layer 28 returns true. No conditions.
-/
import Derived.Test.YtcegpapfcfpblabCut
import Derived.Lib.SmallJoins
namespace Go.Proofs.Ytcegpapfcfpblab
open Go.ChangeShapes Go.WideShapes Go.ChangeAt Go.RowKit Go.Joins

theorem come_in (n l : Int) (o : Bool) (h : 1 ≤ n) : come n l o ≤ n ∧ 1 ≤ come n l o := by
  unfold come
  repeat' split
  all_goals omega
theorem gone_in (n l : Int) (o m : Bool) (h : n ≤ 9) : n ≤ gone n l o m ∧ gone n l o m ≤ 9 := by
  unfold gone
  split <;> omega
theorem gone_far (n l : Int) (o m : Bool) (h : n < l) : gone n l o m = n := by
  unfold gone
  rw [if_neg (by omega)]

theorem stays_walk (t k l : Int) (o m : Bool) (ht : 0 ≤ t ∧ t ≤ 255) (w : World) :
    Calls Try.prog 8 #[.int .u8 t, .agg #[.int .i64 k, .int .i64 l, .bool o, .bool m]] w fun e w' => e = .returned (.bool true) ∧ Below w.heap.size w w' := by
  have c1 := come_in (1 + t % 9) l o (by omega)
  have c2 := gone_in (1 + t % 9) l o m (by omega)
  by_cases hl : 1 + t % 9 < l
  · have c3 := gone_far (1 + t % 9) l o m hl
    have hb : (gone (1 + t % 9) l o m != 1 + t % 9) = false := by rw [c3]; simp
    clear c3
    go_enter Try.func8, Try.ntmps8
    go_wp2
    go_quiet (first | (go_at_call 40; exact Calls.quiet_of_same (come_any _ _ _ _)) | (go_at_call 42; exact Calls.quiet_of_same (gone_any _ _ _ _ _)))
    go_wp2_with (go_at_call 39; refine (cutLives_any _).mono ?_; rintro e w' ⟨rfl, rfl⟩)
    go_ret
    exact ⟨rfl, below_le (below_alloc1 w _) (Nat.le_refl _) |>.trans (below_draws _ _ _)⟩
  · go_enter Try.func8, Try.ntmps8
    go_wp2
    go_quiet (first | (go_at_call 40; exact Calls.quiet_of_same (come_any _ _ _ _)) | (go_at_call 42; exact Calls.quiet_of_same (gone_any _ _ _ _ _)))
    go_wp2_with (go_at_call 39; refine (cutLives_any _).mono ?_; rintro e w' ⟨rfl, rfl⟩)
    go_ret
    exact ⟨rfl, below_le (below_alloc1 w _) (Nat.le_refl _) |>.trans (below_draws _ _ _)⟩

set_option maxRecDepth 100000 in
theorem stays_calls : LawCalls Try.prog 8 Try.f8 := by
  intro H enc W base args ds p hval hA hlt
  rw [Try.params8] at hA hval
  obtain ⟨v0, vs0, d0, ds0, p0, q0, hargs, rfl, rfl, h0, r0⟩ := trodAll_cons hA
  obtain ⟨v1, vs1, d1, ds1, p1, q1, rfl, rfl, rfl, h1, r1⟩ := trodAll_cons r0
  obtain ⟨rfl, rfl, rfl⟩ := trodAll_nil r1
  obtain rfl : args = #[v0, v1] := by cases args; simp_all
  obtain ⟨t, rfl, rfl, rfl, wt⟩ := open_int Try.underlying5 (hval 0 5 v0 rfl rfl) h0
  obtain ⟨c0, c1, c2, c3, y0, y1, y2, y3, n, rfl, rfl, rfl, g0, g1, g2, g3⟩ := open_agg4 Try.underlying77 (by kernel_rfl) (by kernel_rfl) (hval 1 77 v1 rfl rfl) h1
  obtain ⟨k, e0, rfl, wk⟩ := DataW.trod_int Try.underlying3 g0
  obtain ⟨l, e1, rfl, wl⟩ := DataW.trod_int Try.underlying3 g1
  obtain ⟨o, e2, rfl⟩ := DataW.trod_bool Try.underlying4 g2
  obtain ⟨m, e3, rfl⟩ := DataW.trod_bool Try.underlying4 g3
  simp at e0 e1 e2 e3
  subst e0 e1 e2 e3
  have ht : 0 ≤ t ∧ t ≤ 255 := by simpa [Lit.wf, IntKind.min, IntKind.max, IntKind.signed, IntKind.bits] using wt
  exact stays_walk t k l o m ht W

set_option maxRecDepth 100000 in
theorem cutoffStays_lifted (os : Os) (started : os.Started) (H : Type) (enc : TypeId × Value → H) :
    ReturnsInHanded {} Try.checked os 8 .any (Rows.cutoffStaysSpec.pre6 enc Try.prog Try.f8 Rows.cutoffStaysRow.domain false) (Rows.cutoffStaysSpec.post enc Try.prog Try.f8 false true false false) := by
  refine returnsInHanded_of_change (C := Try.checked) own started (by kernel_rfl) Try.func8
    (ChangeSpec.witness6 (enc := enc) (C := Try.checked) false ⟨#[], #[.int .u8 0, .agg #[.int .i64 0, .int .i64 0, .bool false, .bool false]], []⟩ 8 (by kernel_rfl) (by kernel_rfl) (by kernel_rfl) (by kernel_rfl)) ?_
  intro W base args ds gs before hval hW _ _
  exact law_contract laidOut (by kernel_rfl) rfl rfl boolType (fun ds h => by match ds, h with | [_, _], _ => rfl) stays_calls W base args ds gs before hval hW

theorem cutoffStays_holds : Rows.CutoffStaysSaid :=
  OpenClaim.holds_of_wide 8 Try.f8 rfl rfl rfl rfl rfl rfl rfl ⟨rfl, rfl, rfl, rfl, rfl⟩ rfl rfl rfl rfl rfl (by kernel_rfl) Try.func8 (by kernel_rfl)
    (of_decide_eq_true (by kernel_rfl)) (by unfold Func.isWrapper; first | (rw [if_pos (by decide +kernel)]; kernel_rfl) | (rw [if_neg (by decide +kernel)]; exact ⟨rfl, rfl⟩))
    (fun os started H enc _ => cutoffStays_lifted os started H enc)
#print axioms cutoffStays_holds
end Go.Proofs.Ytcegpapfcfpblab
