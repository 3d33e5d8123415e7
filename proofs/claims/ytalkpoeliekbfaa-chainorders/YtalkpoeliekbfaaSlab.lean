/-
  Contracts of the methods of layer 6 (slab).
-/
import Derived.Test.YtalkpoeliekbfaaMem
import Derived.Deep.QuietTactic
import Derived.BigQuiet
namespace Go.Proofs.Ytalkpoeliekbfaa
open Go.ChangeShapes Go.WideShapes Go.ChangeAt Go.RowKit Go.Deep
set_option linter.unusedVariables false

/-- A slab at block p: its slots lie in block g (state and turn of each), the stack of the free ones in block k. -/
structure SlabAt (w : World) (p g k n ns m c : Nat) (S K : Nat → Int) : Prop where
  box : w.rowIs p 122 2 fun i => if i = 0 then .slice (some ⟨g, 0, none⟩) n ns else .slice (some ⟨k, 0, none⟩) m c
  slots : w.ownsRow 0 124 2 (.slice (some ⟨g, 0, none⟩) n ns) n (iv S (n * 2))
  stack : w.ownsRow 0 3 1 (.slice (some ⟨k, 0, none⟩) m c) m (iv K m)
  pg : p ≠ g
  pk : p ≠ k
  gk : g ≠ k

namespace SlabAt
variable {w w' : World} {p g k n ns m c : Nat} {S K : Nat → Int}
theorem c0 (h : SlabAt w p g k n ns m c S K) : w.cell? ⟨p, 0, none⟩ = some (.slice (some ⟨g, 0, none⟩) n ns) := h.box.cell (by omega)
theorem c1 (h : SlabAt w p g k n ns m c S K) : w.cell? ⟨p, 1, none⟩ = some (.slice (some ⟨k, 0, none⟩) m c) := h.box.cell (by omega)
theorem cs (h : SlabAt w p g k n ns m c S K) {i : Nat} (hi : i < n * 2) : w.cell? ⟨g, i, none⟩ = some (.int .i64 (S i)) := by rw [h.slots.cellAt i hi, iv_get _ hi]
theorem ck (h : SlabAt w p g k n ns m c S K) {i : Nat} (hi : i < m) : w.cell? ⟨k, i, none⟩ = some (.int .i64 (K i)) := by rw [h.stack.cellAt i (by omega), iv_get _ hi]
theorem ltp (h : SlabAt w p g k n ns m c S K) : p < w.heap.size := h.box.lt
theorem ltg (h : SlabAt w p g k n ns m c S K) : g < w.heap.size := own_lt h.slots rfl
theorem ltk (h : SlabAt w p g k n ns m c S K) : k < w.heap.size := own_lt h.stack rfl
theorem carry {T : List Nat} (h : SlabAt w p g k n ns m c S K) (t : Touch T w w') (hp : p ∉ T) (hg : g ∉ T) (hk : k ∉ T) : SlabAt w' p g k n ns m c S K :=
  ⟨h.box.of_block (t.block _ h.ltp hp), t.row h.slots (by simpa [Value.ownBlock] using hg), t.row h.stack (by simpa [Value.ownBlock] using hk), h.pg, h.pk, h.gk⟩
theorem congr {S' K' : Nat → Int} (h : SlabAt w p g k n ns m c S K) (hS : ∀ i, i < n * 2 → S i = S' i) (hK : ∀ i, i < m → K i = K' i) : SlabAt w p g k n ns m c S' K' :=
  ⟨h.box, iv_congr hS ▸ h.slots, iv_congr hK ▸ h.stack, h.pg, h.pk, h.gk⟩
theorem setSlot (h : SlabAt w p g k n ns m c S K) (i : Nat) (x : Int) : SlabAt (w.setCell ⟨g, i, none⟩ (.int .i64 x)) p g k n ns m c (upd S i x) K := by
  have t : Touch [g] w (w.setCell ⟨g, i, none⟩ (.int .i64 x)) := (Touch.refl _ _).setCell (by simp) _
  refine ⟨h.box.of_block (t.block _ h.ltp (by simpa using h.pg)), ?_, t.row h.stack (by simpa [Value.ownBlock] using Ne.symm h.gk), h.pg, h.pk, h.gk⟩
  rw [← iv_set]
  exact (h.slots.stored i _).1
theorem setStack (h : SlabAt w p g k n ns m c S K) {m' : Nat} (hm : m' ≤ m) : SlabAt (w.setCell ⟨p, 1, none⟩ (.slice (some ⟨k, 0, none⟩) m' c)) p g k n ns m' c S K := by
  have t : Touch [p] w (w.setCell ⟨p, 1, none⟩ (.slice (some ⟨k, 0, none⟩) m' c)) := (Touch.refl _ _).setCell (by simp) _
  refine ⟨(h.box.set 1 _).congr fun i hi => ?_, t.row h.slots (by simpa [Value.ownBlock] using Ne.symm h.pg), ?_, h.pg, h.pk, h.gk⟩
  · by_cases e : i = 0
    · subst e; rfl
    · obtain rfl : i = 1 := by omega
      rfl
  · have := own_shrink h.stack hm
    rw [Nat.mul_one, iv_take _ hm] at this
    exact t.row this (by simpa [Value.ownBlock] using Ne.symm h.pk)
end SlabAt

section
variable {w : World} {p g k n ns m c : Nat} {S K : Nat → Int}

theorem left_any (h : SlabAt w p g k n ns m c S K) :
    Calls Try.prog 53 #[.pointer (some ⟨p, 0, none⟩)] w fun e w' => e = .returned (.int .i64 m) ∧ w = w' := by
  have c1 := h.c1
  clear h
  go_enter Try.func53, Try.ntmps53
  go_wp2
  go_ret
  exact ⟨rfl, rfl⟩
theorem left_nil (w : World) :
    Calls Try.prog 53 #[.pointer none] w fun e w' => e = .returned (.int .i64 0) ∧ w = w' := by
  go_enter Try.func53, Try.ntmps53
  go_wp2
  go_ret
  exact ⟨rfl, rfl⟩

/-- What Of, Take tell. -/
def told (a t : Int) (ok : Bool) : Ending := .returned (.tuple #[.agg #[.int .i64 a, .int .i64 t], .bool ok])

theorem of_nil (a : Int) (w : World) :
    Calls Try.prog 63 #[.pointer none, .int .i64 a] w fun e w' => e = told 0 0 false ∧ Touch [] w w' := by
  go_enter Try.func63, Try.ntmps63
  go_wp2
  exact bodyPost_ret (v := .tuple #[.agg #[.int .i64 0, .int .i64 0], .bool false]) (by simp [results, Try.results63, go_sem]) rfl ⟨rfl, (Touch.refl _ _).alloc _⟩

theorem of_yes (h : SlabAt w p g k n ns m c S K) (a : Nat) (ha : a < n) (hS : S (a * 2) = 1) :
    Calls Try.prog 63 #[.pointer (some ⟨p, 0, none⟩), .int .i64 a] w fun e w' => e = told a (S (a * 2 + 1)) true ∧ Touch [] w w' := by
  have c0 := h.c0
  have s0 := h.cs (i := a * 2) (by omega)
  have s1 := h.cs (i := a * 2 + 1) (by omega)
  have lp := h.ltp
  have lg := h.ltg
  rw [hS] at s0
  generalize S (a * 2 + 1) = t at *
  have hn := (own_cap h.slots)
  unfold maxLen at hn
  clear h hS
  go_enter Try.func63, Try.ntmps63
  go_wp2
  exact bodyPost_ret (v := .tuple #[.agg #[.int .i64 a, .int .i64 t], .bool true]) (by simp [results, Try.results63, go_sem]) rfl ⟨rfl, (((Touch.refl _ _).alloc _))⟩
end
end Go.Proofs.Ytalkpoeliekbfaa
