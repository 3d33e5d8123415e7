/-
  Single operations of a region, for wp_region_phi.
-/
import Derived.Test.YtcfogoepoghedaaPhi
namespace Go.Proofs.Ytcfogoepoghedaa
open Go.ChangeShapes Go.WideShapes Go.ChangeAt Go.RowKit Go.Deep
set_option linter.unusedVariables false

section
variable {P : Program} {ops : Array Oper} {a a0 : Act} {w : World} {φ : Value → World → Prop} {o : Oper}
theorem known_slot (hk : Known ops a0 a) (t : Nat) (hn : (ops.all fun o => o.dst != some t) = true) {v : Value} (h0 : a0.tmps[t]? = some v) : a.eval (.tmp t) = v := by
  have h := hk.2.2 t (fun j o ho hd => by
    have := Array.all_eq_true'.1 hn o (Array.mem_of_getElem? ho)
    simp [hd] at this)
  simp [Act.eval, h, h0]
theorem has_slot {Φ : Nat → Value → World → Prop} {j : Nat} (h : Has ops Φ a w j) {o : Oper} {d : Tmp} (ho : ops[j]? = some o) (hd : o.dst = some d) : ∃ v, a.eval (.tmp d) = v ∧ Φ j v w := by
  obtain ⟨v, h1, h2⟩ := h o d ho hd
  exact ⟨v, by simp [Act.eval, h1], h2⟩
theorem wanted_none (h : o.guard = none) : Region.wanted o (yielded ops a.tmps) = true := by unfold Region.wanted; rw [h]
theorem wanted_some {g : Nat} {b : Bool} {og : Oper} {d : Tmp} (h : o.guard = some (g, b)) (hg : ops[g]? = some og) (hd : og.dst = some d) (hv : a.eval (.tmp d) = .bool b) : Region.wanted o (yielded ops a.tmps) = true := by
  unfold Region.wanted
  rw [h]
  simp only [yielded, hg, Option.bind_some, hd]
  simp only [Act.eval, Array.getD_eq_getD_getElem?] at hv
  cases hx : a.tmps[d]? with
  | none => rw [hx] at hv; simp [undef] at hv
  | some u =>
    rw [hx] at hv
    simp at hv
    subst hv
    simp
theorem does_value (hw : Region.wanted o (yielded ops a.tmps) = true) {v : Value} (hrun : (execOp a.eval o).run P w = .ok (.value v) w) (h : φ v w) : Does P ops φ o a w := ⟨hw, by rw [hrun]; exact ⟨h, Touch.refl _ _⟩⟩
theorem does_enter (hw : Region.wanted o (yielded ops a.tmps) = true) {f : FuncId} {args : Array Value} (hrun : (execOp a.eval o).run P w = .ok (.enter f args) w)
    (h : Calls P f args w fun e w'' => ∃ v, e = .returned v ∧ φ v w'' ∧ Touch [] w w'') : Does P ops φ o a w := ⟨hw, by rw [hrun]; exact ⟨Touch.refl _ _, h⟩⟩
end
end Go.Proofs.Ytcfogoepoghedaa
