/-
  A reply that came in by value.
-/
import Derived.Test.YtfeeaokeomcafaaReplyRef
import Derived.Lib.SmallJoins
namespace Go.Proofs.Ytfeeaokeomcafaa
open Go.ChangeShapes Go.WideShapes Go.ChangeAt Go.RowKit Go.Deep Go.Joins
set_option linter.unusedVariables false

section
variable {H : Type} {enc : TypeId × Value → H} {w : World} {base : Nat} {sp : Nat → Bool}
theorem field_at {P : Program} {t : TypeId} {fs : Array Field} {n : Nat} {cs : List Value} {x : DataW H × List MemPlace} (he : P.underlying t = some (.struct fs)) (hx : DataW.trod enc P w base sp true n t cs = some x) (j : Nat) (f : Field) (hj : fs[j]? = some f) :
    ∃ m y, DataW.trod enc P w base sp true m f.type ((cs.drop f.offset).take (P.cellsOf f.type)) = some y := by
  obtain ⟨xs, m, _, _, _, hl, hf⟩ := DataW.trod_struct he hx
  have hlt : j < fs.size := (Array.getElem?_eq_some_iff.1 hj).1
  have := hf j f hj
  rw [List.getElem?_eq_getElem (by omega)] at this
  exact ⟨m, _, this⟩
theorem u32_in {n : Int} (h : (Lit.int .u32 n).wf = true) : 0 ≤ n ∧ n ≤ 4294967295 := by
  simpa [Lit.wf, IntKind.min, IntKind.max, IntKind.signed, IntKind.bits] using h
theorem array11 {cs : Array Value} (h : cs.size = 11) : ∃ a0 a1 a2 a3 a4 a5 a6 a7 a8 a9 a10, cs = #[a0, a1, a2, a3, a4, a5, a6, a7, a8, a9, a10] := by
  obtain ⟨l⟩ := cs
  match l, h with
  | [a0, a1, a2, a3, a4, a5, a6, a7, a8, a9, a10], _ => exact ⟨a0, a1, a2, a3, a4, a5, a6, a7, a8, a9, a10, rfl⟩
set_option maxRecDepth 100000 in
/-- A reply that came in by value. -/
theorem open_reply {v : Value} {d : DataW H} {p : List MemPlace} {r : Reach} {b0 : Nat} (hv : Value.okWide Try.prog w r b0 78 v) (h : DataW.Trod enc Try.prog w base sp true 78 v d p) :
    ∃ q : Rep, v = .agg q.cells ∧ q.Ok := by
  have hC : Try.prog.cellsOf 78 = 11 := by kernel_rfl
  have c3 : Try.prog.cellsOf 3 = 1 := by kernel_rfl
  have c26 : Try.prog.cellsOf 26 = 1 := by kernel_rfl
  have c74 : Try.prog.cellsOf 74 = 1 := by kernel_rfl
  have c76 : Try.prog.cellsOf 76 = 6 := by kernel_rfl
  obtain ⟨cs, rfl, hsz⟩ := okWide_struct Try.underlying78 hv
  obtain ⟨a0, a1, a2, a3, a4, a5, a6, a7, a8, a9, a10, rfl⟩ := array11 (hsz.trans hC)
  obtain ⟨fuel, hf⟩ := h
  have hcs : (Value.agg #[a0, a1, a2, a3, a4, a5, a6, a7, a8, a9, a10]).cells.toList = [a0, a1, a2, a3, a4, a5, a6, a7, a8, a9, a10] := rfl
  rw [hcs] at hf
  obtain ⟨m0, y0, h0⟩ := field_at Try.underlying78 hf 0 _ rfl
  obtain ⟨m1, y1, h1⟩ := field_at Try.underlying78 hf 1 _ rfl
  obtain ⟨m2, y2, h2⟩ := field_at Try.underlying78 hf 2 _ rfl
  obtain ⟨m3, y3, h3⟩ := field_at Try.underlying78 hf 3 _ rfl
  obtain ⟨m4, y4, h4⟩ := field_at Try.underlying78 hf 4 _ rfl
  obtain ⟨m5, y5, h5⟩ := field_at Try.underlying78 hf 5 _ rfl
  simp [c3, c26, c74, c76] at h0 h1 h2 h3 h4 h5
  obtain ⟨n5, z5, k5⟩ := field_at Try.underlying76 h5 0 _ rfl
  obtain ⟨n6, z6, k6⟩ := field_at Try.underlying76 h5 1 _ rfl
  obtain ⟨n7, z7, k7⟩ := field_at Try.underlying76 h5 2 _ rfl
  obtain ⟨n8, z8, k8⟩ := field_at Try.underlying76 h5 3 _ rfl
  obtain ⟨n9, z9, k9⟩ := field_at Try.underlying76 h5 4 _ rfl
  obtain ⟨n10, z10, k10⟩ := field_at Try.underlying76 h5 5 _ rfl
  simp [c3] at k5 k6 k7 k8 k9 k10
  obtain ⟨b0, rfl, w0⟩ := cell_int Try.underlying3 h0
  obtain ⟨b1, rfl, w1⟩ := cell_int Try.underlying26 h1
  obtain ⟨b2, rfl, w2⟩ := cell_int Try.underlying3 h2
  obtain ⟨b3, rfl, w3⟩ := cell_int Try.underlying3 h3
  obtain ⟨b4, rfl, w4⟩ := cell_int Try.underlying74 h4
  obtain ⟨b5, rfl, w5⟩ := cell_int Try.underlying3 k5
  obtain ⟨b6, rfl, w6⟩ := cell_int Try.underlying3 k6
  obtain ⟨b7, rfl, w7⟩ := cell_int Try.underlying3 k7
  obtain ⟨b8, rfl, w8⟩ := cell_int Try.underlying3 k8
  obtain ⟨b9, rfl, w9⟩ := cell_int Try.underlying3 k9
  obtain ⟨b10, rfl, w10⟩ := cell_int Try.underlying3 k10
  have q4 := u32_in w4
  refine ⟨⟨b0, b1, b2, b3, b4.toNat, fun k => if k = 0 then b5 else if k = 1 then b6 else if k = 2 then b7 else if k = 3 then b8 else if k = 4 then b9 else b10⟩, ?_, ⟨i64_in w0, i64_in w1, i64_in w2, i64_in w3, by simp only; omega, fun k => ?_⟩⟩
  · simp [Rep.cells, Int.toNat_of_nonneg q4.1]
  · simp only
    split
    · exact i64_in w5
    · split
      · exact i64_in w6
      · split
        · exact i64_in w7
        · split
          · exact i64_in w8
          · split
            · exact i64_in w9
            · exact i64_in w10
end

end Go.Proofs.Ytfeeaokeomcafaa
