/-
  Memory that the call itself made and that methods write: a frame by blocks, and rows of integers.
-/
import Derived.Test.YtcfogoepoghedaaBase
import Derived.Deep.OwnRows
import Derived.Maps.AppendAt
import Derived.Deep.AppendLies
namespace Go.Proofs.Ytcfogoepoghedaa
open Go.ChangeShapes Go.WideShapes Go.ChangeAt Go.RowKit Go.Deep
set_option linter.unusedVariables false

/-- Only the blocks of S, and new ones, may have turned. -/
structure Touch (S : List Nat) (w w' : World) : Prop where
  os : w'.os = w.os
  tape : w'.tape = w.tape
  output : w'.output = w.output
  size : w.heap.size ≤ w'.heap.size
  block : ∀ b, b < w.heap.size → b ∉ S → w'.heap[b]? = w.heap[b]?

namespace Touch
variable {S S' : List Nat} {w w' w'' : World}
theorem refl (S : List Nat) (w : World) : Touch S w w := ⟨rfl, rfl, rfl, Nat.le_refl _, fun _ _ _ => rfl⟩
theorem trans (h : Touch S w w') (k : Touch S' w' w'') (hS : ∀ b ∈ S', b ∈ S ∨ w.heap.size ≤ b) : Touch S w w'' :=
  ⟨k.os.trans h.os, k.tape.trans h.tape, k.output.trans h.output, Nat.le_trans h.size k.size, fun b hb hn =>
    (k.block b (Nat.lt_of_lt_of_le hb h.size) (fun hm => by rcases hS b hm with h1 | h1 <;> first | exact hn h1 | omega)).trans (h.block b hb hn)⟩
theorem mono (h : Touch S w w') (hS : ∀ b ∈ S, b ∈ S' ∨ w.heap.size ≤ b) : Touch S' w w' := (Touch.refl S' w).trans h hS
theorem drew (h : Touch S w w') : Touch S w w'.drew := ⟨h.os, h.tape, h.output, h.size, h.block⟩
theorem alloc (h : Touch S w w') (o : Obj) : Touch S w (w'.alloc o) :=
  h.trans (S' := []) ⟨rfl, rfl, rfl, by rw [nblk_alloc]; omega, fun b hb _ => blk_alloc_lt _ _ _ hb⟩ (by simp)
theorem setCell (h : Touch S w w') {a : Addr} (ha : a.block ∈ S ∨ w.heap.size ≤ a.block) (v : Value) : Touch S w (w'.setCell a v) :=
  h.trans (S' := [a.block]) ⟨rfl, rfl, rfl, by rw [nblk_setCell]; exact Nat.le_refl _, fun b _ hb => blk_setCell_other _ _ _ _ (by simpa using hb)⟩ (by simpa using ha)
theorem grown {row : Option Nat} (h : Touch S w w') (hg : w'.grownBy w'' row) (hr : ∀ k, row = some k → k ∈ S ∨ w.heap.size ≤ k) : Touch S w w'' :=
  h.trans (S' := row.toList) ⟨hg.os, hg.tape, hg.output, hg.size, fun b hb hn => hg.block b hb (fun e => hn (by rw [← e]; simp))⟩ (fun b hb => hr b (by simpa using hb))
theorem below {B : Nat} (h : Touch S w w') (hS : ∀ b ∈ S, B ≤ b) (hB : B ≤ w.heap.size) : Below B w w' :=
  ⟨h.os, h.tape, h.output, h.size, fun b hb => h.block b (by omega) (fun hm => by have := hS b hm; omega)⟩
theorem ofBelow (h : Below w.heap.size w w') : Touch S w w' := ⟨h.os, h.tape, h.output, h.size, fun b hb _ => h.block b hb⟩
theorem cell (h : Touch S w w') {a : Addr} (ha : a.block < w.heap.size) (hn : a.block ∉ S) : w'.cell? a = w.cell? a := World.cell?_of_block (w := w) (h.block _ ha hn)
theorem frozen (h : Touch S w w') {a : Addr} (ha : a.block < w.heap.size) (hn : a.block ∉ S) : w'.frozen? a = w.frozen? a := World.frozen?_of_block (w := w) (h.block _ ha hn)
end Touch

section
variable {w w' : World} {base : Nat} {e : TypeId} {size : Nat} {v : Value} {n : Nat} {xs : List Value}
theorem own_lt (h : w.ownsRow base e size v n xs) {g : Nat} (hg : v.ownBlock = some g) : g < w.heap.size := by
  rcases h.2 with ⟨rfl, _⟩ | ⟨g', cap, cur, rfl, _, hh, _⟩
  · simp [Value.ownBlock] at hg
  · simp [Value.ownBlock] at hg
    subst hg
    exact (Array.getElem?_eq_some_iff.1 hh).1
theorem own_of_block (h : w.ownsRow base e size v n xs) (hb : ∀ g, v.ownBlock = some g → w'.heap[g]? = w.heap[g]?) : w'.ownsRow base e size v n xs := by
  rcases h.2 with ⟨rfl, rfl⟩ | ⟨g', cap, cur, rfl, h1, hh, h2⟩
  · exact ⟨h.1, .inl ⟨rfl, rfl⟩⟩
  · exact ⟨h.1, .inr ⟨g', cap, cur, rfl, h1, (hb g' rfl).trans hh, h2⟩⟩
theorem Touch.row {S : List Nat} (t : Touch S w w') (h : w.ownsRow base e size v n xs) (hn : ∀ g, v.ownBlock = some g → g ∉ S) : w'.ownsRow base e size v n xs :=
  own_of_block h fun g hg => t.block g (own_lt h hg) (hn g hg)
theorem own_shrink {g cap m : Nat} (h : w.ownsRow base e size (.slice (some ⟨g, 0, none⟩) n cap) n xs) (hm : m ≤ n) : w.ownsRow base e size (.slice (some ⟨g, 0, none⟩) m cap) m (xs.take (m * size)) := by
  have hl := h.1
  have hms : m * size ≤ n * size := Nat.mul_le_mul_right _ hm
  rcases h.2 with ⟨h', _⟩ | ⟨g', cap', cur, h', h1, hh, h2, h3, h4, h5⟩
  · simp at h'
  · simp only [Value.slice.injEq, Option.some.injEq, Addr.mk.injEq, and_true, true_and] at h'
    obtain ⟨rfl, rfl⟩ := h'
    refine ⟨by rw [List.length_take]; omega, .inr ⟨g, cap, cur, rfl, h1, hh, by omega, h3, h4, ?_⟩⟩
    rw [← h5, List.take_take, Nat.min_eq_left hms]
theorem own_cap {g cap : Nat} (h : w.ownsRow base e size (.slice (some ⟨g, 0, none⟩) n cap) n xs) : n ≤ cap ∧ cap ≤ maxLen := by
  rcases h.2 with ⟨h', _⟩ | ⟨g', cap', cur, h', h1, hh, h2, h3, h4, h5⟩
  · simp at h'
  · simp only [Value.slice.injEq, Option.some.injEq, Addr.mk.injEq, and_true, true_and] at h'
    obtain ⟨rfl, rfl⟩ := h'
    exact ⟨h2, h3⟩
end

/-! ### Rows of integers -/
def upd (f : Nat → Int) (i : Nat) (x : Int) : Nat → Int := fun j => if j = i then x else f j
theorem upd_same (f : Nat → Int) (i : Nat) (x : Int) : upd f i x i = x := if_pos rfl
theorem upd_other (f : Nat → Int) {i j : Nat} (x : Int) (h : j ≠ i) : upd f i x j = f j := if_neg h
def iv (f : Nat → Int) (n : Nat) : List Value := (List.range n).map fun i => .int .i64 (f i)
theorem iv_length (f : Nat → Int) (n : Nat) : (iv f n).length = n := by simp [iv]
theorem iv_get (f : Nat → Int) {n i : Nat} (h : i < n) : (iv f n)[i]? = some (.int .i64 (f i)) := by simp [iv, h]
theorem iv_set (f : Nat → Int) (n i : Nat) (x : Int) : (iv f n).set i (.int .i64 x) = iv (upd f i x) n := by
  apply List.ext_getElem?
  intro j
  by_cases hj : j < n
  · rw [iv_get _ hj, List.getElem?_set]
    by_cases e : i = j
    · subst e
      simp [iv_length, hj, upd_same]
    · rw [if_neg e, iv_get _ hj, upd_other _ _ (Ne.symm e)]
  · rw [List.getElem?_eq_none (by simp [iv_length]; omega), List.getElem?_eq_none (by simp [iv_length]; omega)]
theorem iv_take (f : Nat → Int) {n m : Nat} (h : m ≤ n) : (iv f n).take m = iv f m := by
  unfold iv
  rw [← List.map_take, List.take_range, Nat.min_eq_left h]
theorem iv_congr {f f' : Nat → Int} {n : Nat} (h : ∀ i, i < n → f i = f' i) : iv f n = iv f' n := by
  unfold iv
  apply List.map_congr_left
  intro i hi
  rw [h i (List.mem_range.1 hi)]
theorem iv_succ (f : Nat → Int) (n : Nat) (x : Int) : iv f n ++ [.int .i64 x] = iv (upd f n x) (n + 1) := by
  have h : iv f n = iv (upd f n x) n := iv_congr fun i hi => (upd_other _ _ (by omega)).symm
  rw [h]
  unfold iv
  rw [List.range_succ, List.map_append]
  simp [upd_same]
theorem iv_next' (f : Nat → Int) (n : Nat) : iv f (n + 1) = iv f n ++ [.int .i64 (f n)] := by unfold iv; rw [List.range_succ, List.map_append]; rfl
theorem iv_one (f : Nat → Int) (n : Nat) : ∀ u ∈ iv f n, u.oneCell' = true := by
  intro u hu
  simp [iv] at hu
  obtain ⟨_, _, rfl⟩ := hu
  rfl
end Go.Proofs.Ytcfogoepoghedaa
