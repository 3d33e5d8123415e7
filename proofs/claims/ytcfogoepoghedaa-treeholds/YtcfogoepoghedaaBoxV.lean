/-
  A block of its own, by all its cells.
-/
import Derived.Test.YtcfogoepoghedaaMem
import Derived.Deep.MidRow
namespace Go.Proofs.Ytcfogoepoghedaa
open Go.ChangeShapes Go.WideShapes Go.ChangeAt Go.RowKit Go.Deep
set_option linter.unusedVariables false

/-- A block of its own with those cells. -/
def BoxV (w : World) (b : Nat) (t : TypeId) (cs : Array Value) : Prop := w.heap[b]? = some (.cells cs t (0, 0))
section
variable {w w' : World} {b : Nat} {t : TypeId} {cs : Array Value}
theorem BoxV.lt (h : BoxV w b t cs) : b < w.heap.size := (Array.getElem?_eq_some_iff.1 h).1
theorem BoxV.cell (h : BoxV w b t cs) (i : Nat) : w.cell? ⟨b, i, none⟩ = cs[i]? := cell_of_row w b i _ t (0, 0) h
theorem BoxV.fr (h : BoxV w b t cs) (i : Nat) : w.frozen? ⟨b, i, none⟩ = false := frozen_of_row w b i _ t h
theorem BoxV.carry {S : List Nat} (h : BoxV w b t cs) (k : Touch S w w') (hb : b ∉ S) : BoxV w' b t cs := (k.block b h.lt hb).trans h
theorem BoxV.set (h : BoxV w b t cs) (i : Nat) (v : Value) : BoxV (w.setCell ⟨b, i, none⟩ v) b t (cs.setIfInBounds i v) := heap_setCell_same w b i _ t v h
theorem BoxV.new (w : World) (t : TypeId) (cs : Array Value) : BoxV (w.alloc (.cells cs t)) w.heap.size t cs := heap_alloc_new w _
end

section
variable {w w2 : World} {cs : Array Value} {T : TypeId} {o o' : Obj}
theorem BoxV.of2 : BoxV ((w.alloc (.cells cs T)).alloc o) w.heap.size T cs := (BoxV.new w T cs).carry ((Touch.refl [] _).alloc o) (by simp)
theorem BoxV.of3 : BoxV (((w.alloc (.cells cs T)).alloc o).alloc o') w.heap.size T cs := BoxV.of2.carry ((Touch.refl [] _).alloc o') (by simp)
theorem BoxV.at1 : BoxV ((w.alloc o).alloc (.cells cs T)) (w.heap.size + 1) T cs := by
  have := BoxV.new (w.alloc o) T cs
  rwa [nblk_alloc] at this
theorem BoxV.at1of3 : BoxV (((w.alloc o).alloc (.cells cs T)).alloc o') (w.heap.size + 1) T cs := BoxV.at1.carry ((Touch.refl [] _).alloc o') (by simp)
theorem BoxV.at2 : BoxV (((w.alloc o).alloc o').alloc (.cells cs T)) (w.heap.size + 2) T cs := by
  have := BoxV.new ((w.alloc o).alloc o') T cs
  rwa [nblk_alloc, nblk_alloc] at this
end
theorem BoxV.range {w : World} {b : Nat} {T : TypeId} {cs : Array Value} (h : BoxV w b T cs) : w.rangeAt b 0 cs.toList := by
  intro j v hv
  rw [Nat.zero_add, h.cell]
  simpa using hv
/-- A result that lies in a block of its own: a struct, handed back by value. -/
theorem ret_box {P : Program} {fn : Func} {s : Tmp} {t : TypeId} {tmps : Array Value} {w : World} {b : Nat} {T : TypeId} {cs : Array Value} {d : TypeDesc} (h : fn.results = #[.cell s t]) (hx : tmps.getD s undef = .pointer (some ⟨b, 0, none⟩)) (hB : BoxV w b T cs)
    (hu : P.underlying t = some d) (hd : d.isRow = true) (hi : (P.info? t).map (·.size) = some cs.size) : (results fn tmps).run P w = .ok (.agg cs) w := by
  have L := run_loadVar_mid (P := P) w b 0 t cs.toList d hB.range hu hd (by simpa using hi)
  rw [Array.toArray_toList] at L
  have hx' : tmps[s]?.getD undef = .pointer (some ⟨b, 0, none⟩) := by simpa using hx
  simp [results, h, hx', asAddr, L]
end Go.Proofs.Ytcfogoepoghedaa
