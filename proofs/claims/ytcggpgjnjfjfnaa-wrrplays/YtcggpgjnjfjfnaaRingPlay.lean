/-
  What RingPlays holds between two calls.
-/
import Derived.Test.YtcggpgjnjfjfnaaRing4
import Derived.Test.YtcggpgjnjfjfnaaRingCopy
import Derived.Test.YtcggpgjnjfjfnaaRingAll
import Derived.Test.YtcggpgjnjfjfnaaRingTurn
namespace Go.Proofs.Ytcggpgjnjfjfnaa
open Go.ChangeShapes Go.WideShapes Go.ChangeAt Go.RowKit Go.Deep Go.Maps
set_option linter.unusedVariables false

/-- A slice of the integers L, none of its cells in a block of Z. -/
def RowZ (Z : List Nat) (w : World) (v : Value) (L : List Int) : Prop :=
  ∃ A c, v = .slice A L.length c ∧ L.length ≤ c ∧ c ≤ maxLen ∧ ∀ i, i < L.length → ∃ b off, A = some ⟨b, off, none⟩ ∧ b ∉ Z ∧ b < w.heap.size ∧ w.cell? ⟨b, off + i, none⟩ = some (.int .i64 (at0 L i))
namespace RowZ
variable {Z : List Nat} {w w' : World} {v : Value} {L : List Int}
theorem carry {S : List Nat} (h : RowZ Z w v L) (t : Touch S w w') (hS : ∀ b ∈ S, b ∈ Z ∨ w.heap.size ≤ b) : RowZ Z w' v L := by
  obtain ⟨A, c, hv, h1, h2, h3⟩ := h
  refine ⟨A, c, hv, h1, h2, fun i hi => ?_⟩
  obtain ⟨b, off, hA, hb, hlt, hc⟩ := h3 i hi
  exact ⟨b, off, hA, hb, Nat.lt_of_lt_of_le hlt t.size, (t.cell (a := ⟨b, off + i, none⟩) hlt (fun hm => by rcases hS b hm with h | h <;> first | exact hb h | omega)).trans hc⟩
theorem rez {Z' : List Nat} (h : RowZ Z w v L) (hZ : ∀ b ∈ Z', w.heap.size ≤ b) : RowZ Z' w v L := by
  obtain ⟨A, c, hv, h1, h2, h3⟩ := h
  refine ⟨A, c, hv, h1, h2, fun i hi => ?_⟩
  obtain ⟨b, off, hA, hb, hlt, hc⟩ := h3 i hi
  exact ⟨b, off, hA, fun hm => by have := hZ b hm; omega, hlt, hc⟩
theorem nil (Z : List Nat) (w : World) : RowZ Z w (.slice none 0 0) [] := ⟨none, 0, rfl, Nat.le_refl _, by unfold maxLen; omega, fun i hi => by simp at hi⟩
theorem own {base : Nat} (h : w.ownsRow base 3 1 v L.length (iv (at0 L) L.length)) (hZ : ∀ b ∈ Z, b < base) : RowZ Z w v L := by
  obtain ⟨A, c, hv, h1, h2, h3⟩ := own_far h
  refine ⟨A, c, hv, h1, h2, fun i hi => ?_⟩
  obtain ⟨b, off, hA, hlo, hlt, hc⟩ := h3 i hi
  exact ⟨b, off, hA, fun hm => by have := hZ b hm; omega, hlt, hc⟩
theorem cells (h : RowZ Z w v L) : ∃ A c, v = .slice A L.length c ∧ L.length ≤ c ∧ c ≤ maxLen ∧ IntCells w w.heap.size A L.length (at0 L) := by
  obtain ⟨A, c, hv, h1, h2, h3⟩ := h
  refine ⟨A, c, hv, h1, h2, fun i hi => ?_⟩
  obtain ⟨b, off, hA, _, hlt, hc⟩ := h3 i hi
  exact ⟨b, off, hA, hlt, hc⟩
end RowZ

/-- The ring in block p and the law's own list: the same members. -/
structure Play (W0 : World) (k p b1 b2 : Nat) (L : List Int) (y : Nat → Int) (v : Value) (w : World) : Prop where
  ring : Ringed w p b1 b2 L.length y
  same : ∀ i, i < L.length → y i = at0 L i
  row : RowZ [p, b1, b2] w v L
  len : L.length ≤ k
  low : W0.heap.size ≤ p ∧ W0.heap.size ≤ b1 ∧ W0.heap.size ≤ b2
  t : Touch [] W0 w
namespace Play
variable {W0 w w' w1 w2 : World} {k p b1 b2 : Nat} {L L' : List Int} {y y' : Nat → Int} {v v' : Value}
theorem carry (h : Play W0 k p b1 b2 L y v w) (t : Touch [] w w') : Play W0 k p b1 b2 L y v w' :=
  ⟨h.ring.carry t (by simp) (by simp) (by simp), h.same, h.row.carry t (by simp), h.len, h.low, h.t.trans t (by simp)⟩
theorem more (h : Play W0 k p b1 b2 L y v w) : Play W0 (k + 1) p b1 b2 L y v w := ⟨h.ring, h.same, h.row, Nat.le_succ_of_le h.len, h.low, h.t⟩
theorem zs (h : Play W0 k p b1 b2 L y v w) : ∀ b ∈ [p, b1, b2], b ∈ ([] : List Nat) ∨ W0.heap.size ≤ b := by
  have := h.low
  intro b hb
  simp at hb
  right
  omega
theorem mem (h : Play W0 k p b1 b2 L y v w) (id : Int) : (∃ j, j < L.length ∧ y j = id) ↔ id ∈ L := by
  constructor
  · rintro ⟨j, hj, rfl⟩
    rw [h.same j hj, at0, List.getElem?_eq_getElem hj]
    exact List.getElem_mem hj
  · intro hm
    obtain ⟨j, hj, e⟩ := List.getElem_of_mem hm
    exact ⟨j, hj, by rw [h.same j hj, at0, List.getElem?_eq_getElem hj]; exact e⟩
/-- The ring is written, then the list is made anew. -/
theorem step (h : Play W0 k p b1 b2 L y v w) (hr : Ringed w1 p b1 b2 L'.length y') (t : Touch [p, b1, b2] w w1) (hs : ∀ i, i < L'.length → y' i = at0 L' i) (ho : w2.ownsRow w1.heap.size 3 1 v' L'.length (iv (at0 L') L'.length)) (hb : Below w1.heap.size w1 w2) (hl : L'.length ≤ k) : Play W0 k p b1 b2 L' y' v' w2 := by
  have tb := Touch.ofBelow (S := []) hb
  have hlt := hr.lt
  refine ⟨hr.carry tb (by simp) (by simp) (by simp), hs, RowZ.own ho ?_, hl, h.low, (h.t.trans t h.zs).trans tb (by simp)⟩
  intro b hb
  simp at hb
  omega
theorem has (h : Play W0 k p b1 b2 L y v w) (id : Int) (hid : i64k id) :
    Calls Try.prog 39 #[.pointer (some ⟨p, 0, none⟩), .int .i64 id] w fun e w' => e = .returned (.bool (decide (id ∈ L))) ∧ w' = w :=
  h.ring.has id hid _ (by rw [decide_eq_true_iff]; exact (h.mem id).symm)
theorem refHas (h : Play W0 k p b1 b2 L y v w) (id : Int) (hk : k ≤ 1000) :
    Calls Try.prog 30 #[v, .int .i64 id] w fun e w' => e = .returned (.bool (decide (id ∈ L))) ∧ Touch [] w w' := by
  obtain ⟨A, c, rfl, _, _, hc⟩ := h.row.cells
  exact (refHas29 hc id (by have := h.len; omega)).mono fun e w' ⟨he, hb⟩ => ⟨he, Touch.ofBelow hb⟩
theorem refWithout (h : Play W0 k p b1 b2 L y v w) (id : Int) (hk : k ≤ 1000) :
    Calls Try.prog 32 #[v, .int .i64 id] w (IntsPost w (without29 id L)) := by
  obtain ⟨A, c, rfl, _, _, hc⟩ := h.row.cells
  exact refWithout29 hc id (by have := h.len; omega)
end Play

/-- Whatever a ring's Turn or Add answers. -/
theorem Ringed.turn_some {w : World} {p b1 b2 n : Nat} {x : Nat → Int} (h : Ringed w p b1 b2 n x) :
    Calls Try.prog 33 #[.pointer (some ⟨p, 0, none⟩)] w fun e w' => ∃ v x', e = .returned v ∧ Ringed w' p b1 b2 n x' ∧ Touch [p, b1, b2] w w' := by
  rcases Nat.eq_zero_or_pos n with rfl | h0
  · exact (turn_none _ _ (Lib.hid h.len)).mono fun e w' ⟨he, hw⟩ => ⟨_, x, he, by rw [hw]; exact h, by rw [hw]; exact Touch.refl _ _⟩
  · exact (h.turn h0).mono fun e w' ⟨he, hr, t⟩ => ⟨_, _, he, hr, t.mono (by simp)⟩
theorem Ringed.add_some {w : World} {p b1 b2 n : Nat} {x : Nat → Int} (h : Ringed w p b1 b2 n x) (id : Int) (hid : i64k id) (hn : n ≤ 100000) :
    Calls Try.prog 29 #[.pointer (some ⟨p, 0, none⟩), .int .i64 id] w fun e w' => ∃ v, e = .returned v ∧ Touch [p, b1, b2] w w' := by
  by_cases hin : ∃ j, j < n ∧ x j = id
  · exact (h.add_no id hid hin).mono fun e w' ⟨he, hw⟩ => ⟨_, he, by rw [hw]; exact Touch.refl _ _⟩
  · exact (h.add_yes id hid (fun j hj e => hin ⟨j, hj, e⟩) hn).mono fun e w' ⟨he, _, t⟩ => ⟨_, he, t⟩
end Go.Proofs.Ytcggpgjnjfjfnaa
