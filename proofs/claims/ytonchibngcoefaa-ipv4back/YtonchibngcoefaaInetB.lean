/-
  inet (layer 10): spread and gather.
-/
import Derived.Test.YtonchibngcoefaaInet
namespace Go.Proofs.Ytonchibngcoefaa
open Go.ChangeShapes Go.WideShapes Go.ChangeAt Go.RowKit Go.Deep
set_option linter.unusedVariables false
set_option linter.unusedSimpArgs false

abbrev imgT : TypeId := 88
/-- copy of bytes into an image. -/
theorem copy_img {w : World} {g : Nat} {L m : List UInt8} {vx : Value} (hr : BoxV w g imgT (byt L).toArray) (hb : Bts w vx m) (off dLen dCap : Nat) (hfit : off + dLen ≤ L.length) :
    ∃ w', (∀ ty, (Builtin.copy_ #[63, 63] ty #[.slice (some ⟨g, off, none⟩) dLen dCap, vx]).run Try.prog w = .ok (goInt (m.take dLen).length) w') ∧ BoxV w' g imgT (byt (splice L off (m.take dLen))).toArray ∧ Touch [g] w w' := by
  obtain ⟨A, c, rfl, h1, h2, h3, h4⟩ := hb
  have hlen : (byt (m.take dLen)).length = Nat.min m.length dLen := by rw [byt_length, List.length_take, Nat.min_comm]
  by_cases h0 : (m.take dLen).length = 0
  · have e : m.take dLen = [] := List.eq_nil_of_length_eq_zero h0
    refine ⟨w, fun ty => ?_, ?_, Touch.refl _ _⟩
    · rw [e]
      exact run_copy_none (P := Try.prog) w _ _ ty 5 (some ⟨g, off, none⟩) A dLen dCap m.length c Try.underlying63 byte_size (by rw [← hlen, byt_length, h0])
    · rw [e]
      simpa [splice] using hr
  · cases A with
    | none =>
      obtain rfl := h3 rfl
      simp at h0
    | some ad =>
      refine ⟨w.setRow g (byt (splice L off (m.take dLen))).toArray, fun ty => ?_, setRow_heap w g _ _ imgT (0, 0) hr, touch_setRow w g _⟩
      have := run_copy_row (P := Try.prog) w 63 63 ty 5 g off dLen dCap ad m.length c (byt L).toArray imgT (byt (m.take dLen)) Try.underlying63 byte_size hr hlen
          (fun j v hv => h4 ad rfl j v (by
            rw [show byt (m.take dLen) = (byt m).take dLen by simp [byt], List.getElem?_take] at hv
            split at hv
            · exact hv
            · cases hv)) (by rw [byt_length, List.length_take]; simp [byt_length]; omega) (byt_one _)
      rw [this, ← splice_byt, byt_length]
      simp [splice, byt_length]
/-- copy of a string into an image. -/
theorem copy_img_str {w : World} {g : Nat} {L : List UInt8} (hr : BoxV w g imgT (byt L).toArray) (m : List UInt8) (off dLen dCap : Nat) (hm : m.length ≤ dLen) (hfit : off + m.length ≤ L.length) :
    ∃ w', (∀ ty, (Builtin.copy_ #[63, 9] ty #[.slice (some ⟨g, off, none⟩) dLen dCap, .string (S m)]).run Try.prog w = .ok (goInt m.length) w') ∧ BoxV w' g imgT (byt (splice L off m)).toArray ∧ Touch [g] w w' := by
  refine ⟨w.setRow g (byt (splice L off m)).toArray, fun ty => ?_, setRow_heap w g _ _ imgT (0, 0) hr, touch_setRow w g _⟩
  have := Lib.run_copy_row_string (P := Try.prog) w 63 9 ty 5 g off dLen dCap (S m) (byt L).toArray imgT Try.underlying63 byte_size hr (by rw [S_size]; exact hm) (by rw [S_size]; simpa [byt_length] using hfit)
  rw [this, ← splice_byt, S_size]
  simp [splice, byt, S, Lib.byteCells]
theorem img_bts {w : World} {g : Nat} {L : List UInt8} (h : BoxV w g imgT (byt L).toArray) (off n c : Nat) (hn : off + n ≤ L.length) (hc : n ≤ c) (hm : c ≤ 1000000) : Bts w (.slice (some ⟨g, off, none⟩) n c) ((L.drop off).take n) := by
  have hl : ((L.drop off).take n).length = n := by rw [List.length_take, List.length_drop]; omega
  refine ⟨_, c, by rw [hl], by rw [hl]; exact hc, by unfold maxLen; omega, fun e => by simp at e, fun ad ha j u hu => ?_⟩
  obtain rfl : ⟨g, off, none⟩ = ad := by simpa using ha
  have hj : j < n := by have := (List.getElem?_eq_some_iff.1 hu).1; rwa [byt_length, hl] at this
  rw [show (⟨g, off, none⟩ : Addr).add j = ⟨g, off + j, none⟩ by unfold Addr.add; split <;> simp_all, h.cell, ← hu]
  simp [byt, List.getElem?_take, hj, List.getElem?_drop]
theorem list16 {L : List UInt8} (h : L.length = 16) : ∃ a0 a1 a2 a3 a4 a5 a6 a7 a8 a9 a10 a11 a12 a13 a14 a15, L = [a0, a1, a2, a3, a4, a5, a6, a7, a8, a9, a10, a11, a12, a13, a14, a15] := by
  match L, h with
  | [a0, a1, a2, a3, a4, a5, a6, a7, a8, a9, a10, a11, a12, a13, a14, a15], _ => exact ⟨a0, a1, a2, a3, a4, a5, a6, a7, a8, a9, a10, a11, a12, a13, a14, a15, rfl⟩

theorem load_box {w : World} {b : Nat} {t : TypeId} {C : Array Value} {n : Nat} (h : BoxV w b t C) (hC : C.size = n) : (loadCellsFrom ⟨b, 0, none⟩ 0 n #[]).run Try.prog w = .ok C w := by
  have := run_loadCells_list (P := Try.prog) w ⟨b, 0, none⟩ C.toList (fun j v hv => by
    rw [show (⟨b, 0, none⟩ : Addr).add j = ⟨b, j, none⟩ by unfold Addr.add; split <;> simp_all, h.cell]
    simpa using hv)
  unfold loadCells at this
  rw [show C.toList.length = n by simpa using hC] at this
  simpa using this
end Go.Proofs.Ytonchibngcoefaa
