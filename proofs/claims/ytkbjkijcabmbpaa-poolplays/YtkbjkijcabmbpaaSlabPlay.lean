/-
  SlabPlays: a slab and the reference's slots side by side.
-/
import Derived.Test.YtkbjkijcabmbpaaSlabCopy
import Derived.Test.YtkbjkijcabmbpaaSlabLives
namespace Go.Proofs.Ytkbjkijcabmbpaa
open Go.ChangeShapes Go.WideShapes Go.ChangeAt Go.RowKit Go.Deep
set_option linter.unusedVariables false

structure Play (W wr : World) (bx p g k n ns m c : Nat) (S K : Nat → Int) (vf vt vb : Value) (j : Nat) : Prop where
  slab : SlabAt wr p g k n ns m c S K
  box : Box3 wr bx 55 vf vt vb
  ref : RefAt [p, g, k, bx] wr vf vt vb m n (fun i => K (m - 1 - i)) (fun a => S (a * 2 + 1)) (fun a => decide (S (a * 2) = 1))
  ptr : ∃ ad cf, vf = .slice (some ad) m cf
  off : bx ≠ p ∧ bx ≠ g ∧ bx ≠ k
  low : W.heap.size ≤ p ∧ W.heap.size ≤ g ∧ W.heap.size ≤ k ∧ W.heap.size ≤ bx
  free : ∀ i, i < m → ∃ a : Nat, K i = a ∧ a < n
  turns : ∀ a, a < n → 0 ≤ S (a * 2 + 1) ∧ S (a * 2 + 1) ≤ j
  few : m ≤ n + j
  below : Below W.heap.size W wr

section
variable {W wr w' : World} {bx p g k n ns m c j : Nat} {S K : Nat → Int} {vf vt vb : Value}
theorem RefAt.congr {Z : List Nat} {w : World} {F F' T T' : Nat → Int} {B B' : Nat → Bool} (h : RefAt Z w vf vt vb m n F T B) (hF : ∀ i, i < m → F i = F' i) (hT : ∀ i, i < n → T i = T' i) (hB : ∀ i, i < n → B i = B' i) : RefAt Z w vf vt vb m n F' T' B' :=
  ⟨h.free.congr fun i hi => by rw [hF i hi], h.turns.congr fun i hi => by rw [hT i hi], h.taken.congr fun i hi => by rw [hB i hi]⟩

theorem Play.carry (h : Play W wr bx p g k n ns m c S K vf vt vb j) (t : Touch [] wr w') : Play W w' bx p g k n ns m c S K vf vt vb j :=
  ⟨h.slab.carry t (by simp) (by simp) (by simp), h.box.carry t (by simp), h.ref.carry t (by simp), h.ptr, h.off, h.low, h.free, h.turns, h.few, h.below.trans (t.below (by simp) h.below.size)⟩
theorem Play.next (h : Play W wr bx p g k n ns m c S K vf vt vb j) : Play W wr bx p g k n ns m c S K vf vt vb (j + 1) :=
  ⟨h.slab, h.box, h.ref, h.ptr, h.off, h.low, h.free, fun a ha => by have := h.turns a ha; omega, by have := h.few; omega, h.below⟩

/-- The law stores the reference's new slots. -/
theorem Play.stored {w5 : World} {x y z : Value} (hs : SlabAt w5 p g k n ns m c S K) (hb : Box3 w5 bx 55 x y z)
    (hr : RefAt [p, g, k, bx] w5 vf vt vb m n (fun i => K (m - 1 - i)) (fun a => S (a * 2 + 1)) (fun a => decide (S (a * 2) = 1))) (hsome : ∃ ad cf, vf = .slice (some ad) m cf) (off : bx ≠ p ∧ bx ≠ g ∧ bx ≠ k)
    (low : W.heap.size ≤ p ∧ W.heap.size ≤ g ∧ W.heap.size ≤ k ∧ W.heap.size ≤ bx) (free : ∀ i, i < m → ∃ a : Nat, K i = a ∧ a < n) (turns : ∀ a, a < n → 0 ≤ S (a * 2 + 1) ∧ S (a * 2 + 1) ≤ j) (few : m ≤ n + j) (below : Below W.heap.size W w5) :
    Play W (((w5.setCell ⟨bx, 0, none⟩ vf).setCell ⟨bx, 1, none⟩ vt).setCell ⟨bx, 2, none⟩ vb) bx p g k n ns m c S K vf vt vb j := by
  have t := (((Touch.refl [bx] w5).setCell (a := ⟨bx, 0, none⟩) (by simp) vf).setCell (a := ⟨bx, 1, none⟩) (by simp) vt).setCell (a := ⟨bx, 2, none⟩) (by simp) vb
  obtain ⟨o1, o2, o3⟩ := off
  exact ⟨hs.carry t (by simpa using Ne.symm o1) (by simpa using Ne.symm o2) (by simpa using Ne.symm o3), ((hb.set0 vf).set1 vt).set2 vb, hr.carry t (by simp), hsome, ⟨o1, o2, o3⟩, low, free, turns, few, below.trans (t.below (by simp; omega) below.size)⟩

/-- What a copy has become: another slab in the same state. -/
theorem Play.copied {p' g' k' ns' c' : Nat} (h : Play W wr bx p g k n ns m c S K vf vt vb j) (hs : SlabAt w' p' g' k' n ns' m c' S K) (t : Touch [] wr w') (lp : wr.heap.size ≤ p') (lg : wr.heap.size ≤ g') (lk : wr.heap.size ≤ k') :
    Play W w' bx p' g' k' n ns' m c' S K vf vt vb j := by
  have hl := h.box.lt
  have hb := h.below.size
  have hlow := h.low
  refine ⟨hs, h.box.carry t (by simp), (h.ref.avoid (Z' := [p', g', k', bx]) ?_).carry t (by simp), h.ptr, by omega, by omega, h.free, h.turns, h.few, h.below.trans (t.below (by simp) hb)⟩
  intro b hb
  simp at hb
  rcases hb with rfl | rfl | rfl | rfl
  · exact .inr lp
  · exact .inr lg
  · exact .inr lk
  · exact .inl (by simp)

theorem rlive_alive (n : Nat) (S : Nat → Int) (a t : Int) : rlive n (fun a => S (a * 2 + 1)) (fun a => decide (S (a * 2) = 1)) a t = alive n S a t := by
  unfold rlive alive
  simp
end

def Played (W : World) (bx n : Nat) (j : Nat) (s : Value) (wr : World) : Prop := ∃ p g k ns m c S K vf vt vb, s = .pointer (some ⟨p, 0, none⟩) ∧ Play W wr bx p g k n ns m c S K vf vt vb j

/-- The acts of a slice: what to do, a slot and a turn. -/
structure Act3 where
  what : Int
  slot : Int
  turn : Int
def ACells (w : World) (B : Nat) (A : Option Addr) (n : Nat) (X : Nat → Act3) : Prop :=
  ∀ i, i < n → ∃ b off, A = some ⟨b, off, none⟩ ∧ b < B ∧ w.cell? ⟨b, off + i * 3, none⟩ = some (.int .i64 (X i).what) ∧ w.cell? ⟨b, off + i * 3 + 1, none⟩ = some (.int .i64 (X i).slot) ∧ w.cell? ⟨b, off + i * 3 + 2, none⟩ = some (.int .i64 (X i).turn)
end Go.Proofs.Ytkbjkijcabmbpaa
