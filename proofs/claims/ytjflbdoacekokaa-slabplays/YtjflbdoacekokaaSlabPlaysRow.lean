/-
  SlabPlays: for every number of slots and list of calls the law on the allocator returns true. No conditions.
-/
import Derived.Test.YtjflbdoacekokaaSlabPlaysLaw
import Derived.Lib.SmallJoins
namespace Go.Proofs.Ytjflbdoacekokaa
open Go.ChangeShapes Go.WideShapes Go.ChangeAt Go.RowKit Go.Deep Go.Joins
set_option linter.unusedVariables false

set_option maxRecDepth 100000 in
theorem act_cells (W : World) (base : Nat) (H : Type) (enc : TypeId × Value → H) (v : Value) (d : DataW H) (p : List MemPlace) (hv : Value.okWide Try.prog W .any base 22 v)
    (h : DataW.Trod enc Try.prog W 0 (fun _ => true) true 22 v d p) : ∃ A len cap X, v = .slice A len cap ∧ len ≤ maxLen ∧ ACells W W.heap.size A len X := by
  have k1 : Try.prog.cellsOf 3 = 1 := by kernel_rfl
  have k2 : Try.prog.cellsOf 32 = 2 := by kernel_rfl
  have k3 : Try.prog.cellsOf 34 = 3 := by kernel_rfl
  obtain ⟨A, len, cap, rfl, hl, hm, hi⟩ := slice_elems Try.underlying22 (by rw [k3]; omega) hv h
  haveI : Inhabited Act3 := ⟨⟨0, 0, 0⟩⟩
  obtain ⟨X, hX⟩ := Deep.choose_lt (α := Act3) (n := len) (p := fun i x => ∃ b off, A = some ⟨b, off, none⟩ ∧ b < W.heap.size ∧ W.cell? ⟨b, off + i * 3, none⟩ = some (.int .i64 x.what) ∧ W.cell? ⟨b, off + i * 3 + 1, none⟩ = some (.int .i64 x.slot) ∧ W.cell? ⟨b, off + i * 3 + 2, none⟩ = some (.int .i64 x.turn)) (fun i hi' => by
    obtain ⟨b, off, n, cs, x, hA, hb, hlen, hat, hx⟩ := hi i hi'
    rw [k3] at hlen hat
    obtain ⟨c0, c1, c2, rfl⟩ : ∃ c0 c1 c2, cs = [c0, c1, c2] := by
      match cs, hlen with
      | [c0, c1, c2], _ => exact ⟨c0, c1, c2, rfl⟩
    have e0 := hat 0 (by omega)
    have e1 := hat 1 (by omega)
    have e2 := hat 2 (by omega)
    obtain ⟨ys, m, _, _, _, hyl, hf⟩ := DataW.trod_struct Try.underlying34 hx
    have g0 : DataW.trod enc Try.prog W 0 (fun _ => true) true m 3 (([c0, c1, c2].drop 0).take (Try.prog.cellsOf 3)) = ys[0]? := hf 0 _ rfl
    have g1 : DataW.trod enc Try.prog W 0 (fun _ => true) true m 32 (([c0, c1, c2].drop 1).take (Try.prog.cellsOf 32)) = ys[1]? := hf 1 _ rfl
    rw [List.getElem?_eq_getElem (by rw [hyl]; exact Nat.succ_pos _), k1] at g0
    rw [List.getElem?_eq_getElem (by rw [hyl]; exact Nat.lt_succ_self _), k2] at g1
    simp only [List.drop_zero, List.drop_succ_cons, List.take_succ_cons, List.take_zero] at g0 g1
    obtain ⟨zs, m', _, _, _, hzl, hf'⟩ := DataW.trod_struct Try.underlying32 g1
    have f0 : DataW.trod enc Try.prog W 0 (fun _ => true) true m' 3 (([c1, c2].drop 0).take (Try.prog.cellsOf 3)) = zs[0]? := hf' 0 _ rfl
    have f1 : DataW.trod enc Try.prog W 0 (fun _ => true) true m' 3 (([c1, c2].drop 1).take (Try.prog.cellsOf 3)) = zs[1]? := hf' 1 _ rfl
    rw [List.getElem?_eq_getElem (by rw [hzl]; exact Nat.succ_pos _), k1] at f0
    rw [List.getElem?_eq_getElem (by rw [hzl]; exact Nat.lt_succ_self _), k1] at f1
    simp only [List.drop_zero, List.drop_succ_cons, List.take_succ_cons, List.take_zero] at f0 f1
    obtain ⟨y0, rfl, _⟩ := cell_int Try.underlying3 g0
    obtain ⟨y1, rfl, _⟩ := cell_int Try.underlying3 f0
    obtain ⟨y2, rfl, _⟩ := cell_int Try.underlying3 f1
    exact ⟨⟨y0, y1, y2⟩, b, off, hA, hb, by simpa using e0, by simpa using e1, by simpa using e2⟩)
  exact ⟨A, len, cap, X, rfl, Nat.le_trans hl hm, hX⟩

set_option maxRecDepth 100000 in
theorem slabPlays_calls : LawCalls Try.prog 3 Try.f3 := by
  intro H enc W base args ds p hval hA hlt
  rw [Try.params3] at hA hval
  obtain ⟨v0, vs0, d0, ds0, p0, q0, hargs, rfl, rfl, h0, r0⟩ := trodAll_cons hA
  obtain ⟨v1, vs1, d1, ds1, p1, q1, rfl, rfl, rfl, h1, r1⟩ := trodAll_cons r0
  obtain ⟨rfl, rfl, rfl⟩ := trodAll_nil r1
  obtain rfl : args = #[v0, v1] := by cases args; simp_all
  obtain ⟨t, rfl, rfl, rfl, wt⟩ := open_int Try.underlying3 (hval 0 3 v0 rfl rfl) h0
  obtain ⟨A, len, cap, X, rfl, hm, hX⟩ := act_cells W base H enc v1 d1 p1 (hval 1 22 v1 rfl rfl) h1
  exact slabPlays_walk t A len cap X W hm hX

set_option maxRecDepth 100000 in
theorem slabPlays_lifted (os : Os) (started : os.Started) (H : Type) (enc : TypeId × Value → H) :
    ReturnsInHanded {} Try.checked os 3 .any (Rows.slabPlaysSpec.pre6 enc Try.prog Try.f3 Rows.slabPlaysRow.domain false) (Rows.slabPlaysSpec.post enc Try.prog Try.f3 false true false false) := by
  refine returnsInHanded_of_change (C := Try.checked) own started (by kernel_rfl) Try.func3
    (ChangeSpec.witness6 (enc := enc) (C := Try.checked) false ⟨#[], #[.int .i64 0, .slice none 0 0], []⟩ 8 (by kernel_rfl) (by kernel_rfl) (by kernel_rfl) (by kernel_rfl)) ?_
  intro W base args ds gs before hval hW _ _
  exact law_contract laidOut (by kernel_rfl) rfl rfl boolType (fun ds h => by match ds, h with | [_, _], _ => rfl) slabPlays_calls W base args ds gs before hval hW

theorem slabPlays_holds : Rows.SlabPlaysSaid :=
  OpenClaim.holds_of_wide 3 Try.f3 rfl rfl rfl rfl rfl rfl rfl ⟨rfl, rfl, rfl, rfl, rfl⟩ rfl rfl rfl rfl rfl (by kernel_rfl) Try.func3 (by kernel_rfl)
    (of_decide_eq_true (by kernel_rfl)) (by unfold Func.isWrapper; first | (rw [if_pos (by decide +kernel)]; kernel_rfl) | (rw [if_neg (by decide +kernel)]; exact ⟨rfl, rfl⟩))
    (fun os started H enc _ => slabPlays_lifted os started H enc)
#print axioms slabPlays_holds
end Go.Proofs.Ytjflbdoacekokaa
