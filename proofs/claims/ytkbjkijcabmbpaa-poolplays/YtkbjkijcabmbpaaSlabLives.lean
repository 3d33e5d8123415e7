/-
  The example of layer 6's law.
-/
import Derived.Test.YtkbjkijcabmbpaaSlab4
namespace Go.Proofs.Ytkbjkijcabmbpaa
open Go.ChangeShapes Go.WideShapes Go.ChangeAt Go.RowKit Go.Deep
set_option linter.unusedVariables false

theorem Touch.cells2 {S : List Nat} {w w' : World} (h : Touch S w w') {b : Nat} {x y : Value} (hb : b < w.heap.size) (hn : b ∉ S) (h0 : w.cell? ⟨b, 0, none⟩ = some x) (h1 : w.cell? ⟨b, 1, none⟩ = some y) :
    w'.cell? ⟨b, 0, none⟩ = some x ∧ w'.cell? ⟨b, 1, none⟩ = some y :=
  ⟨(h.cell (a := ⟨b, 0, none⟩) hb hn).trans h0, (h.cell (a := ⟨b, 1, none⟩) hb hn).trans h1⟩

theorem box_cells (w : World) (x y : Value) (t : TypeId) : (w.alloc (.cells #[x, y] t)).cell? ⟨w.heap.size, 0, none⟩ = some x ∧ (w.alloc (.cells #[x, y] t)).cell? ⟨w.heap.size, 1, none⟩ = some y := by
  constructor <;> simp

theorem alloc_size (w : World) (o : Obj) : (w.alloc o).heap.size = w.heap.size + 1 := by simp

theorem take_lit {w : World} {p g k n ns m c : Nat} {S K : Nat → Int} (a : Nat) (x t : Int) (hx : x = a) (h : SlabAt w p g k n ns (m + 1) c S K) (ht : S (a * 2 + 1) = t) (hK : K m = a) (ha : a < n) :
    Calls Try.prog 54 #[.pointer (some ⟨p, 0, none⟩)] w fun e w' => e = .returned (.tuple #[.agg #[.int .i64 x, .int .i64 t], .bool true]) ∧ SlabAt w' p g k n ns m c (upd S (a * 2) 1) K ∧ Touch [p, g] w w' := by
  subst hx ht
  exact take_some h a hK ha
theorem SlabAt.more {w : World} {p g k n ns m c : Nat} {S K : Nat → Int} (h : SlabAt w p g k n ns m c S K) (o : Obj) : SlabAt (w.alloc o) p g k n ns m c S K :=
  h.carry ((Touch.refl [] _).alloc o) (by simp) (by simp) (by simp)

end Go.Proofs.Ytkbjkijcabmbpaa
