/-
  Structs of two cells in a block of their own.
-/
import Derived.Test.YtbppccmkmpgibaaMem
namespace Go.Proofs.Ytbppccmkmpgibaa
open Go.ChangeShapes Go.WideShapes Go.ChangeAt Go.RowKit Go.Deep
set_option linter.unusedVariables false


/-- A struct of one cell in a block of its own. -/
def Box1 (w : World) (b : Nat) (t : TypeId) (x : Value) : Prop := w.heap[b]? = some (.cells #[x] t (0, 0))
section
variable {w w' : World} {b : Nat} {t : TypeId} {x : Value}
theorem Box1.lt (h : Box1 w b t x) : b < w.heap.size := (Array.getElem?_eq_some_iff.1 h).1
theorem Box1.c0 (h : Box1 w b t x) : w.cell? ⟨b, 0, none⟩ = some x := cell_of_row w b 0 _ t (0, 0) h
theorem Box1.fr (h : Box1 w b t x) (i : Nat) : w.frozen? ⟨b, i, none⟩ = false := frozen_of_row w b i _ t h
theorem Box1.carry {S : List Nat} (h : Box1 w b t x) (k : Touch S w w') (hb : b ∉ S) : Box1 w' b t x := (k.block b h.lt hb).trans h
theorem Box1.set0 (h : Box1 w b t x) (v : Value) : Box1 (w.setCell ⟨b, 0, none⟩ v) b t v := heap_setCell_same w b 0 _ t v h
theorem Box1.new (w : World) (t : TypeId) (x : Value) : Box1 (w.alloc (.cells #[x] t)) w.heap.size t x := heap_alloc_new w _
end

/-- A struct of two cells in a block of its own. -/
def Box2 (w : World) (b : Nat) (t : TypeId) (x y : Value) : Prop := w.heap[b]? = some (.cells #[x, y] t (0, 0))
section
variable {w w' : World} {b : Nat} {t : TypeId} {x y : Value}
theorem Box2.lt (h : Box2 w b t x y) : b < w.heap.size := (Array.getElem?_eq_some_iff.1 h).1
theorem Box2.c0 (h : Box2 w b t x y) : w.cell? ⟨b, 0, none⟩ = some x := cell_of_row w b 0 _ t (0, 0) h
theorem Box2.c1 (h : Box2 w b t x y) : w.cell? ⟨b, 1, none⟩ = some y := cell_of_row w b 1 _ t (0, 0) h
theorem Box2.fr (h : Box2 w b t x y) (i : Nat) : w.frozen? ⟨b, i, none⟩ = false := frozen_of_row w b i _ t h
theorem Box2.carry {S : List Nat} (h : Box2 w b t x y) (k : Touch S w w') (hb : b ∉ S) : Box2 w' b t x y := (k.block b h.lt hb).trans h
theorem Box2.set0 (h : Box2 w b t x y) (v : Value) : Box2 (w.setCell ⟨b, 0, none⟩ v) b t v y := heap_setCell_same w b 0 _ t v h
theorem Box2.set1 (h : Box2 w b t x y) (v : Value) : Box2 (w.setCell ⟨b, 1, none⟩ v) b t x v := heap_setCell_same w b 1 _ t v h
theorem Box2.new (w : World) (t : TypeId) (x y : Value) : Box2 (w.alloc (.cells #[x, y] t)) w.heap.size t x y := heap_alloc_new w _
end

/-- A struct of three cells in a block of its own. -/
def Box3C (w : World) (b : Nat) (t : TypeId) (x y z : Value) : Prop := w.heap[b]? = some (.cells #[x, y, z] t (0, 0))
section
variable {w w' : World} {b : Nat} {t : TypeId} {x y z : Value}
theorem Box3C.lt (h : Box3C w b t x y z) : b < w.heap.size := (Array.getElem?_eq_some_iff.1 h).1
theorem Box3C.c0 (h : Box3C w b t x y z) : w.cell? ⟨b, 0, none⟩ = some x := cell_of_row w b 0 _ t (0, 0) h
theorem Box3C.c1 (h : Box3C w b t x y z) : w.cell? ⟨b, 1, none⟩ = some y := cell_of_row w b 1 _ t (0, 0) h
theorem Box3C.c2 (h : Box3C w b t x y z) : w.cell? ⟨b, 2, none⟩ = some z := cell_of_row w b 2 _ t (0, 0) h
theorem Box3C.carry {S : List Nat} (h : Box3C w b t x y z) (k : Touch S w w') (hb : b ∉ S) : Box3C w' b t x y z := (k.block b h.lt hb).trans h
end
end Go.Proofs.Ytbppccmkmpgibaa
