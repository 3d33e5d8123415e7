/-
  Rows of bytes that the call itself made: stores, copies of bytes and of strings into them, and what they are as strings.
-/
import Derived.Test.YtonchibngcoefaaRefPut
import Derived.Test.YtonchibngcoefaaReply
import Derived.Laws.CopyOwn
import Derived.Deep.RegionLaw
import Derived.Laws.OwnMore
import Derived.Lib.BufferWrite
namespace Go.Proofs.Ytonchibngcoefaa
open Go.ChangeShapes Go.WideShapes Go.ChangeAt Go.RowKit Go.Deep
set_option linter.unusedVariables false

/-- The block g is a row of the bytes L. -/
def Row8 (w : World) (g : Nat) (L : List UInt8) : Prop := w.heap[g]? = some (.cells (byt L).toArray 5 (0, 0))
section
variable {w w' : World} {g : Nat} {L : List UInt8}
theorem Row8.lt (h : Row8 w g L) : g < w.heap.size := (Array.getElem?_eq_some_iff.1 h).1
theorem Row8.carry {S : List Nat} (h : Row8 w g L) (t : Touch S w w') (hg : g ∉ S) : Row8 w' g L := (t.block g h.lt hg).trans h
theorem Row8.cell (h : Row8 w g L) {i : Nat} (hi : i < L.length) : w.cell? ⟨g, i, none⟩ = some (.int .u8 ((L[i]).toNat : Int)) := by
  rw [cell_of_row w g i _ _ _ h]
  simp [byt, hi]
theorem Row8.fr (h : Row8 w g L) (i : Nat) : w.frozen? ⟨g, i, none⟩ = false := frozen_of_row w g i _ _ h
theorem Row8.set (h : Row8 w g L) (i : Nat) (b : UInt8) (x : Int) (hx : x = (b.toNat : Int)) : Row8 (w.setCell ⟨g, i, none⟩ (.int .u8 x)) g (L.set i b) := by
  have := heap_setCell_same w g i _ _ (.int .u8 x) h
  unfold Row8
  rw [this, hx]
  simp [byt, List.map_set]
theorem Row8.made (w : World) (n : Nat) : Row8 (w.alloc (.cells (Array.replicate n (.int .u8 0)) 5)) w.heap.size (List.replicate n 0) := by
  have := heap_alloc_new w (.cells (Array.replicate n (.int .u8 0)) 5)
  unfold Row8
  rw [this]
  simp [byt]
theorem Row8.bts (h : Row8 w g L) (c : Nat) (hc : L.length ≤ c) (hm : c ≤ 1000000) : Bts w (.slice (some ⟨g, 0, none⟩) L.length c) L := by
  refine ⟨_, c, rfl, hc, by unfold maxLen; omega, fun e => by simp at e, fun ad ha j u hu => ?_⟩
  obtain rfl : ⟨g, 0, none⟩ = ad := by simpa using ha
  have hj : j < L.length := by have := (List.getElem?_eq_some_iff.1 hu).1; rwa [byt_length] at this
  rw [show (⟨g, 0, none⟩ : Addr).add j = ⟨g, j, none⟩ by unfold Addr.add; split <;> simp_all, h.cell hj]
  simpa [byt, hj] using hu
end
theorem splice_byt (L : List UInt8) (off : Nat) (m : List UInt8) : splice (byt L) off (byt m) = byt (splice L off m) := by
  simp [splice, byt]
theorem byte_size : (Try.prog.info? 5).map (·.size) = some 1 := by kernel_rfl

theorem touch_setRow (w : World) (g : Nat) (cs : Array Value) : Touch [g] w (w.setRow g cs) :=
  ⟨rfl, rfl, rfl, by simp [World.setRow], fun b _ hb => setRow_other w g b cs (by simpa using hb)⟩
/-- copy of bytes into a row. -/
theorem copy_run {w : World} {g : Nat} {L m : List UInt8} {vx : Value} (hr : Row8 w g L) (hb : Bts w vx m) (off dLen dCap : Nat) (hfit : off + dLen ≤ L.length) :
    ∃ w', (∀ ty, (Builtin.copy_ #[63, 63] ty #[.slice (some ⟨g, off, none⟩) dLen dCap, vx]).run Try.prog w = .ok (goInt (m.take dLen).length) w') ∧ Row8 w' g (splice L off (m.take dLen)) ∧ Touch [g] w w' := by
  obtain ⟨A, c, rfl, h1, h2, h3, h4⟩ := hb
  have hlen : (byt (m.take dLen)).length = Nat.min m.length dLen := by rw [byt_length, List.length_take, Nat.min_comm]
  by_cases h0 : (m.take dLen).length = 0
  · have e : m.take dLen = [] := List.eq_nil_of_length_eq_zero h0
    refine ⟨w, fun ty => ?_, ?_, Touch.refl _ _⟩
    · rw [e]
      exact run_copy_none (P := Try.prog) w _ _ ty 5 (some ⟨g, off, none⟩) A dLen dCap m.length c Try.underlying63 byte_size (by rw [← hlen, byt_length, h0])
    · rw [e]
      simpa [splice] using hr
  · cases A with
    | none =>
      obtain rfl := h3 rfl
      simp at h0
    | some ad =>
      refine ⟨w.setRow g (byt (splice L off (m.take dLen))).toArray, fun ty => ?_, setRow_heap w g _ _ 5 (0, 0) hr, touch_setRow w g _⟩
      · have := run_copy_row (P := Try.prog) w 63 63 ty 5 g off dLen dCap ad m.length c (byt L).toArray 5 (byt (m.take dLen)) Try.underlying63 byte_size hr hlen
          (fun j v hv => h4 ad rfl j v (by
            rw [show byt (m.take dLen) = (byt m).take dLen by simp [byt], List.getElem?_take] at hv
            split at hv
            · exact hv
            · cases hv)) (by rw [byt_length, List.length_take]; simp [byt_length]; omega) (byt_one _)
        rw [this, ← splice_byt, byt_length]
        simp [splice, byt_length]
/-- copy of a string into a row. -/
theorem copy_str {w : World} {g : Nat} {L : List UInt8} (hr : Row8 w g L) (m : List UInt8) (off dLen dCap : Nat) (hm : m.length ≤ dLen) (hfit : off + m.length ≤ L.length) :
    ∃ w', (∀ ty, (Builtin.copy_ #[63, 9] ty #[.slice (some ⟨g, off, none⟩) dLen dCap, .string (S m)]).run Try.prog w = .ok (goInt m.length) w') ∧ Row8 w' g (splice L off m) ∧ Touch [g] w w' := by
  refine ⟨w.setRow g (byt (splice L off m)).toArray, fun ty => ?_, setRow_heap w g _ _ 5 (0, 0) hr, touch_setRow w g _⟩
  · have := Lib.run_copy_row_string (P := Try.prog) w 63 9 ty 5 g off dLen dCap (S m) (byt L).toArray 5 Try.underlying63 byte_size hr (by rw [S_size]; exact hm) (by rw [S_size]; simpa [byt_length] using hfit)
    rw [this, ← splice_byt, S_size]
    simp [splice, byt, S, Lib.byteCells]
theorem make8 (n : Nat) (x : Int) (hx : x = (n : Int)) (hn : n ≤ 1000000) (w : World) : (Instr.makeSlice 63 (.int .i64 x) (.int .i64 x)).run Try.prog w = .ok (.slice (some ⟨w.heap.size, 0, none⟩) n n) (w.alloc (.cells (Array.replicate n (.int .u8 0)) 5)) := by
  subst hx
  have := run_make_row' (P := Try.prog) (w := w) 63 5 (.int .u8 0) 1 Try.underlying63 byte_info rfl .i64 .i64 n (by omega) (by omega)
  rw [this, show madeCells #[Value.int .u8 0] n = Array.replicate n (.int .u8 0) from Array.toList_inj.1 (by rw [toList_madeCells_one, Array.toList_replicate])]
theorem put2 (a : Int) (w : World) : Calls Try.prog 72 #[.slice none 0 0, .int .i64 a] w (Fresh w (be (u64n a) 2)) := by
  have := putU16_any (Bts.nil w) a (by simp)
  simpa using this
end Go.Proofs.Ytonchibngcoefaa
