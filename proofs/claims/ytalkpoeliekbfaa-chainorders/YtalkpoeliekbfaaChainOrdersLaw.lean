/-
  Layer 7 (chain): ChainOrders is true for every input: nodes come out as they went in, through joins too; whoever wants no more is told no more; lists that aren't there have nothing.
  No condition.
-/
import Derived.Test.YtalkpoeliekbfaaChain27
namespace Go.Proofs.Ytalkpoeliekbfaa
open Go.ChangeShapes Go.WideShapes Go.ChangeAt Go.RowKit Go.Deep
set_option linter.unusedVariables false
set_option linter.unusedSimpArgs false
set_option maxRecDepth 100000 in
theorem bool_cells {W : World} {base : Nat} {H : Type} {enc : TypeId × Value → H} {v : Value} {d : DataW H} {p : List MemPlace} (hv : Value.okWide Try.prog W .any base 45 v)
    (h : DataW.Trod enc Try.prog W 0 (fun _ => true) true 45 v d p) : ∃ A len cap X, v = .slice A len cap ∧ BoolCells W W.heap.size A len X := by
  have hC : Try.prog.cellsOf 4 = 1 := by kernel_rfl
  obtain ⟨A, len, cap, rfl, hl, hm, hi⟩ := slice_elems Try.underlying45 (by omega) hv h
  obtain ⟨X, hX⟩ := Deep.choose_lt (α := Bool) (n := len) (p := fun i x => ∃ b off, A = some ⟨b, off, none⟩ ∧ b < W.heap.size ∧ W.cell? ⟨b, off + i, none⟩ = some (.bool x)) (fun i hlt => by
    obtain ⟨b, off, n, cs, x, hA, hb, hlen, hat, hx⟩ := hi i hlt
    rw [hC] at hlen hat
    have h0 := hat 0 (by omega)
    obtain ⟨u, rfl⟩ : ∃ u, cs = [u] := by
      match cs, hlen with
      | [u], _ => exact ⟨u, rfl⟩
    obtain ⟨k, rfl⟩ := cell_bool Try.underlying4 hx
    exact ⟨k, b, off, hA, hb, by simpa using h0⟩)
  exact ⟨A, len, cap, X, rfl, hX⟩
set_option maxRecDepth 100000 in
theorem chainOrders_calls : LawCalls Try.prog 4 Try.f4 := by
  intro H enc W base args ds p hval hA hlt
  rw [Try.params4] at hA hval
  obtain ⟨v0, vs0, d0, ds0, p0, q0, hargs, rfl, rfl, h0, r0⟩ := trodAll_cons hA
  obtain ⟨v1, vs1, d1, ds1, p1, q1, rfl, rfl, rfl, h1, r1⟩ := trodAll_cons r0
  obtain ⟨rfl, rfl, rfl⟩ := trodAll_nil r1
  obtain rfl : args = #[v0, v1] := by cases args; simp_all
  obtain ⟨A, len, cap, X, rfl, hX⟩ := bool_cells (hval 0 45 v0 rfl rfl) h0
  obtain ⟨most, rfl, rfl, rfl, wm⟩ := open_int Try.underlying3 (hval 1 3 v1 rfl rfl) h1
  by_cases h60 : 60 < len
  · refine (orders_long A len cap most W h60).mono ?_
    rintro e w' ⟨he, t⟩
    exact ⟨he, t.below (by simp) (Nat.le_refl _)⟩
  · refine (orders_short A len cap most X W (by omega) hX).mono ?_
    rintro e w' ⟨he, t⟩
    exact ⟨he, t.below (by simp) (Nat.le_refl _)⟩

set_option maxRecDepth 100000 in
theorem chainOrders_lifted (os : Os) (started : os.Started) (H : Type) (enc : TypeId × Value → H) :
    ReturnsInHanded {} Try.checked os 4 .any (Rows.chainOrdersSpec.pre6 enc Try.prog Try.f4 Rows.chainOrdersRow.domain false) (Rows.chainOrdersSpec.post enc Try.prog Try.f4 false true false false) := by
  refine returnsInHanded_of_change (C := Try.checked) own started (by kernel_rfl) Try.func4
    (ChangeSpec.witness6 (enc := enc) (C := Try.checked) false ⟨#[], #[.slice none 0 0, .int .i64 0], []⟩ 8 (by kernel_rfl) (by kernel_rfl) (by kernel_rfl) (by kernel_rfl)) ?_
  intro W base args ds gs before hval hW _ _
  exact law_contract laidOut (by kernel_rfl) rfl rfl boolType (fun ds h => by match ds, h with | [_, _], _ => rfl) chainOrders_calls W base args ds gs before hval hW

theorem chainOrders_holds : Rows.ChainOrdersSaid :=
  OpenClaim.holds_of_wide 4 Try.f4 rfl rfl rfl rfl rfl rfl rfl ⟨rfl, rfl, rfl, rfl, rfl⟩ rfl rfl rfl rfl rfl (by kernel_rfl) Try.func4 (by kernel_rfl)
    (of_decide_eq_true (by kernel_rfl)) (by unfold Func.isWrapper; first | (rw [if_pos (by decide +kernel)]; kernel_rfl) | (rw [if_neg (by decide +kernel)]; exact ⟨rfl, rfl⟩))
    (fun os started H enc _ => chainOrders_lifted os started H enc)
#print axioms chainOrders_holds
end Go.Proofs.Ytalkpoeliekbfaa
