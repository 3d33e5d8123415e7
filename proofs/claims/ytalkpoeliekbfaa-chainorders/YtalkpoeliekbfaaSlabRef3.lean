/-
  Contracts of the reference of layer 6 (slab): Give.
-/
import Derived.Test.YtalkpoeliekbfaaSlabRef2
namespace Go.Proofs.Ytalkpoeliekbfaa
open Go.ChangeShapes Go.WideShapes Go.ChangeAt Go.RowKit Go.Deep
set_option linter.unusedVariables false

/-- A struct of three cells in a block of its own. -/
def Box3 (w : World) (b : Nat) (t : TypeId) (x y z : Value) : Prop := w.heap[b]? = some (.cells #[x, y, z] t (0, 0))
section
variable {w w' : World} {b : Nat} {t : TypeId} {x y z : Value}
theorem Box3.lt (h : Box3 w b t x y z) : b < w.heap.size := (Array.getElem?_eq_some_iff.1 h).1
theorem Box3.c0 (h : Box3 w b t x y z) : w.cell? ⟨b, 0, none⟩ = some x := cell_of_row w b 0 _ t (0, 0) h
theorem Box3.c1 (h : Box3 w b t x y z) : w.cell? ⟨b, 1, none⟩ = some y := cell_of_row w b 1 _ t (0, 0) h
theorem Box3.c2 (h : Box3 w b t x y z) : w.cell? ⟨b, 2, none⟩ = some z := cell_of_row w b 2 _ t (0, 0) h
theorem Box3.fr (h : Box3 w b t x y z) (i : Nat) : w.frozen? ⟨b, i, none⟩ = false := frozen_of_row w b i _ t h
theorem Box3.carry {S : List Nat} (h : Box3 w b t x y z) (k : Touch S w w') (hb : b ∉ S) : Box3 w' b t x y z := (k.block b h.lt hb).trans h
theorem Box3.set0 (h : Box3 w b t x y z) (v : Value) : Box3 (w.setCell ⟨b, 0, none⟩ v) b t v y z := heap_setCell_same w b 0 _ t v h
theorem Box3.set1 (h : Box3 w b t x y z) (v : Value) : Box3 (w.setCell ⟨b, 1, none⟩ v) b t x v z := heap_setCell_same w b 1 _ t v h
theorem Box3.set2 (h : Box3 w b t x y z) (v : Value) : Box3 (w.setCell ⟨b, 2, none⟩ v) b t x y v := heap_setCell_same w b 2 _ t v h
theorem Box3.new (w : World) (t : TypeId) (x y z : Value) : Box3 (w.alloc (.cells #[x, y, z] t)) w.heap.size t x y z := heap_alloc_new w _
end

section
variable {Z : List Nat} {w : World} {vf vt vb : Value} {m n : Nat} {F T : Nat → Int} {B : Nat → Bool}

theorem refGive_no (h : RefAt Z w vf vt vb m n F T B) (a t : Int) (hno : rlive n T B a t = false) :
    Calls Try.prog 59 #[.agg #[vf, vt, vb], .int .i64 a, .int .i64 t] w fun e w' => e = .returned (.tuple #[.agg #[vf, vt, vb], .bool false]) ∧ Touch [] w w' := by
  have tW := ((Touch.refl [] w).alloc (.cells #[vf, vt, vb] 55)).alloc (.cells #[.slice none 0 0, .slice none 0 0, .slice none 0 0] 55)
  have q := refLive_any (h.carry tW (by simp)) a t
  rw [hno] at q
  have Q := Lib.hid q
  obtain ⟨A1, c1, rfl, _, _, _⟩ := h.free
  obtain ⟨A2, c2, rfl, _, _, _⟩ := h.turns
  obtain ⟨A3, c3, rfl, _, _, _⟩ := h.taken
  have b0 := (Box3.new w 55 (.slice A1 m c1) (.slice A2 n c2) (.slice A3 n c3)).carry ((Touch.refl [] _).alloc (.cells #[.slice none 0 0, .slice none 0 0, .slice none 0 0] 55)) (by simp)
  have b1 := Box3.new (w.alloc (.cells #[.slice A1 m c1, .slice A2 n c2, .slice A3 n c3] 55)) 55 (.slice none 0 0) (.slice none 0 0) (.slice none 0 0)
  have B0 := Lib.hid b0
  have B1 := Lib.hid b1
  have TW := Lib.hid tW
  clear h hno q tW b0 b1
  go_enter Try.func59, Try.ntmps59
  go_wp2_with fail
  refine (Q.out).mono ?_
  rintro e w2 ⟨rfl, t2⟩
  have b0 := B0.out.carry t2 (by simp)
  have b1 := B1.out.carry t2 (by simp)
  rw [show (w.alloc (.cells #[.slice A1 m c1, .slice A2 n c2, .slice A3 n c3] 55)).heap.size = w.heap.size + 1 by simp] at b1
  have e0 := b0.c0
  have e1 := b0.c1
  have e2 := b0.c2
  have r0 := b1.c0
  have r1 := b1.c1
  have r2 := b1.c2
  have g0 := b1.fr 0
  have g1 := b1.fr 1
  have g2 := b1.fr 2
  have T2 := Lib.hid (TW.out.trans t2 (by simp))
  clear b0 b1 t2 Q B0 B1 TW
  go_wp2_with fail
  refine bodyPost_ret (v := .tuple #[.agg #[.slice A1 m c1, .slice A2 n c2, .slice A3 n c3], .bool false]) (by simp [results, Try.results59, go_sem, r0, r1, r2]) rfl ⟨rfl, ?_⟩
  exact ((T2.out.setCell (.inr (Nat.le_succ _)) _).setCell (.inr (Nat.le_succ _)) _).setCell (.inr (Nat.le_succ _)) _
end
end Go.Proofs.Ytalkpoeliekbfaa
