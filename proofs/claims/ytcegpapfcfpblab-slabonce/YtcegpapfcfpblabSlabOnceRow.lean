/-
  SlabOnce holds: its row.
-/
import Derived.Test.YtcegpapfcfpblabSlabOnceLaw
namespace Go.Proofs.Ytcegpapfcfpblab
open Go.ChangeShapes Go.WideShapes Go.ChangeAt Go.RowKit Go.Deep
set_option linter.unusedVariables false

set_option maxRecDepth 100000 in
/-- An argument that is a slice of int. -/
theorem int_cells (W : World) (base : Nat) (H : Type) (enc : TypeId × Value → H) (v : Value) (d : DataW H) (p : List MemPlace) (hv : Value.okWide Try.prog W .any base 26 v) (h : DataW.Trod enc Try.prog W 0 (fun _ => true) true 26 v d p) :
    ∃ A len cap X, v = .slice A len cap ∧ len ≤ maxLen ∧ ICells W W.heap.size A len X := by
  have k1 : Try.prog.cellsOf 3 = 1 := by kernel_rfl
  obtain ⟨A, len, cap, rfl, hl, hm, hi⟩ := slice_elems Try.underlying26 (by rw [k1]; exact Nat.zero_lt_one) hv h
  haveI : Inhabited Int := ⟨0⟩
  obtain ⟨X, hX⟩ := Deep.choose_lt (α := Int) (n := len) (p := fun i x => ∃ b off, A = some ⟨b, off, none⟩ ∧ b < W.heap.size ∧ W.cell? ⟨b, off + i, none⟩ = some (.int .i64 x)) (fun i hi' => by
    obtain ⟨b, off, n, cs, x, hA, hb, hlen, hat, hx⟩ := hi i hi'
    rw [k1] at hlen hat
    obtain ⟨u, rfl⟩ : ∃ u, cs = [u] := by
      match cs, hlen with
      | [u], _ => exact ⟨u, rfl⟩
    obtain ⟨y, rfl, wy⟩ := cell_int Try.underlying3 hx
    have hc := hat 0 (by omega)
    rw [Nat.mul_one, Nat.add_zero] at hc
    exact ⟨y, b, off, hA, hb, hc⟩)
  exact ⟨A, len, cap, X, rfl, Nat.le_trans hl hm, hX⟩

set_option maxRecDepth 100000 in
theorem slabOnce_calls : LawCalls Try.prog 4 Try.f4 := by
  intro H enc W base args ds p hval hA hlt
  rw [Try.params4] at hA hval
  obtain ⟨v0, vs0, d0, ds0, p0, q0, hargs, rfl, rfl, h0, r0⟩ := trodAll_cons hA
  obtain ⟨v1, vs1, d1, ds1, p1, q1, rfl, rfl, rfl, h1, r1⟩ := trodAll_cons r0
  obtain ⟨rfl, rfl, rfl⟩ := trodAll_nil r1
  obtain rfl : args = #[v0, v1] := by cases args; simp_all
  obtain ⟨t, rfl, rfl, rfl, wt⟩ := open_int Try.underlying5 (hval 0 5 v0 rfl rfl) h0
  have ht := u8_in wt
  obtain ⟨z, rfl⟩ := Int.eq_ofNat_of_zero_le ht.1
  obtain ⟨A, len, cap, X, rfl, hm, hX⟩ := int_cells W base H enc v1 d1 p1 (hval 1 26 v1 rfl rfl) h1
  exact slabOnce_walk z A len cap X W (by omega) hm hX

set_option maxRecDepth 100000 in
theorem slabOnce_lifted (os : Os) (started : os.Started) (H : Type) (enc : TypeId × Value → H) :
    ReturnsInHanded {} Try.checked os 4 .any (Rows.slabOnceSpec.pre6 enc Try.prog Try.f4 Rows.slabOnceRow.domain false) (Rows.slabOnceSpec.post enc Try.prog Try.f4 false true false false) := by
  refine returnsInHanded_of_change (C := Try.checked) own started (by kernel_rfl) Try.func4
    (ChangeSpec.witness6 (enc := enc) (C := Try.checked) false ⟨#[], #[.int .u8 0, .slice none 0 0], []⟩ 8 (by kernel_rfl) (by kernel_rfl) (by kernel_rfl) (by kernel_rfl)) ?_
  intro W base args ds gs before hval hW _ _
  exact law_contract laidOut (by kernel_rfl) rfl rfl boolType (fun ds h => by match ds, h with | [_, _], _ => rfl) slabOnce_calls W base args ds gs before hval hW

theorem slabOnce_holds : Rows.SlabOnceSaid :=
  OpenClaim.holds_of_wide 4 Try.f4 rfl rfl rfl rfl rfl rfl rfl ⟨rfl, rfl, rfl, rfl, rfl⟩ rfl rfl rfl rfl rfl (by kernel_rfl) Try.func4 (by kernel_rfl)
    (of_decide_eq_true (by kernel_rfl)) (by unfold Func.isWrapper; first | (rw [if_pos (by decide +kernel)]; kernel_rfl) | (rw [if_neg (by decide +kernel)]; exact ⟨rfl, rfl⟩))
    (fun os started H enc _ => slabOnce_lifted os started H enc)
#print axioms slabOnce_holds
end Go.Proofs.Ytcegpapfcfpblab
