/-
  A packet that came in: its cells.
-/
import Derived.Test.YtkbjkijcabmbpaaPoolHeld
import Derived.Lib.SmallJoins
namespace Go.Proofs.Ytkbjkijcabmbpaa
open Go.ChangeShapes Go.WideShapes Go.ChangeAt Go.RowKit Go.Deep Go.Joins
set_option linter.unusedVariables false

section
variable {H : Type} {enc : TypeId × Value → H} {w : World} {base : Nat} {sp : Nat → Bool}
theorem field_in {P : Program} {t : TypeId} {fs : Array Field} {n : Nat} {cs : List Value} {x : DataW H × List MemPlace} (he : P.underlying t = some (.struct fs)) (hx : DataW.trod enc P w base sp true n t cs = some x) (j : Nat) (f : Field) (hj : fs[j]? = some f) :
    ∃ m y, DataW.trod enc P w base sp true m f.type ((cs.drop f.offset).take (P.cellsOf f.type)) = some y := by
  obtain ⟨xs, m, _, _, _, hl, hf⟩ := DataW.trod_struct he hx
  have hlt : j < fs.size := (Array.getElem?_eq_some_iff.1 hj).1
  have := hf j f hj
  rw [List.getElem?_eq_getElem (by omega)] at this
  exact ⟨m, _, this⟩
theorem list10 {cs : List Value} (h : cs.length = 10) : ∃ a0 a1 a2 a3 a4 a5 a6 a7 a8 a9, cs = [a0, a1, a2, a3, a4, a5, a6, a7, a8, a9] := by
  match cs, h with
  | [a0, a1, a2, a3, a4, a5, a6, a7, a8, a9], _ => exact ⟨a0, a1, a2, a3, a4, a5, a6, a7, a8, a9, rfl⟩
set_option maxRecDepth 100000 in
/-- The cells of a packet that came in. -/
theorem pk_open {n : Nat} {cs : List Value} {x : DataW H × List MemPlace} (hl : cs.length = 10) (hf : DataW.trod enc Try.prog w base sp true n 66 cs = some x) : ∃ q : Pk, cs = q.cells.toList ∧ i64k q.size := by
  have c3 : Try.prog.cellsOf 3 = 1 := by kernel_rfl
  have c30 : Try.prog.cellsOf 60 = 1 := by kernel_rfl
  have c44 : Try.prog.cellsOf 62 = 2 := by kernel_rfl
  have c8 : Try.prog.cellsOf 64 = 8 := by kernel_rfl
  obtain ⟨a0, a1, a2, a3, a4, a5, a6, a7, a8, a9, rfl⟩ := list10 hl
  obtain ⟨m0, y0, p0⟩ := field_in Try.underlying66 hf 0 _ rfl
  obtain ⟨m1, y1, p1⟩ := field_in Try.underlying66 hf 1 _ rfl
  obtain ⟨m2, y2, p2⟩ := field_in Try.underlying66 hf 2 _ rfl
  simp [c3, c8] at p0 p1 p2
  obtain ⟨n0, z0, h0⟩ := field_in Try.underlying64 p2 0 _ rfl
  obtain ⟨n1, z1, h1⟩ := field_in Try.underlying64 p2 1 _ rfl
  obtain ⟨n2, z2, h2⟩ := field_in Try.underlying64 p2 2 _ rfl
  obtain ⟨n3, z3, h3⟩ := field_in Try.underlying64 p2 3 _ rfl
  obtain ⟨n4, z4, h4⟩ := field_in Try.underlying64 p2 4 _ rfl
  obtain ⟨n5, z5, h5⟩ := field_in Try.underlying64 p2 5 _ rfl
  simp [c3, c44] at h0 h1 h2 h3 h4 h5
  obtain ⟨n6, z6, k0⟩ := field_in Try.underlying62 h1 0 _ rfl
  obtain ⟨n7, z7, k1⟩ := field_in Try.underlying62 h1 1 _ rfl
  obtain ⟨n8, z8, k2⟩ := field_in Try.underlying62 h2 0 _ rfl
  obtain ⟨n9, z9, k3⟩ := field_in Try.underlying62 h2 1 _ rfl
  simp [c30] at k0 k1 k2 k3
  obtain ⟨b0, rfl, w0⟩ := cell_int Try.underlying3 p0
  obtain ⟨b1, rfl, w1⟩ := cell_int Try.underlying3 p1
  obtain ⟨b2, rfl, w2⟩ := cell_int Try.underlying3 h0
  obtain ⟨b3, rfl, w3⟩ := cell_int Try.underlying60 k0
  obtain ⟨b4, rfl, w4⟩ := cell_int Try.underlying60 k1
  obtain ⟨b5, rfl, w5⟩ := cell_int Try.underlying60 k2
  obtain ⟨b6, rfl, w6⟩ := cell_int Try.underlying60 k3
  obtain ⟨b7, rfl, w7⟩ := cell_int Try.underlying3 h3
  obtain ⟨b8, rfl, w8⟩ := cell_int Try.underlying3 h4
  obtain ⟨b9, rfl, w9⟩ := cell_int Try.underlying3 h5
  exact ⟨⟨b0, b1, b2, b3, b4, b5, b6, b7, b8, b9⟩, rfl, w1⟩
end
end Go.Proofs.Ytkbjkijcabmbpaa
