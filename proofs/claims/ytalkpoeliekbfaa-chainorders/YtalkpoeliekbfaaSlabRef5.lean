/-
  Contracts of the reference of layer 6 (slab): New.
-/
import Derived.Test.YtalkpoeliekbfaaSlabRef4
namespace Go.Proofs.Ytalkpoeliekbfaa
open Go.ChangeShapes Go.WideShapes Go.ChangeAt Go.RowKit Go.Deep
set_option linter.unusedVariables false

/-- The three rows while they are built. -/
structure NewAt (w wr : World) (vf vt vb : Value) (kf kt kb : Nat) : Prop where
  box : Box3 wr (w.heap.size + 1) 55 vf vt vb
  res : Box3 wr w.heap.size 55 (.slice none 0 0) (.slice none 0 0) (.slice none 0 0)
  rf : wr.ownsRow (w.heap.size + 2) 3 1 vf kf (iv (fun i => i) kf)
  rt : wr.ownsRow (w.heap.size + 2) 3 1 vt kt (iv (fun _ => 0) kt)
  rb : wr.ownsRow (w.heap.size + 2) 4 1 vb kb (bv (fun _ => false) kb)
  ft : ∀ b, vf.ownBlock = some b → vt.ownBlock ≠ some b
  fb : ∀ b, vf.ownBlock = some b → vb.ownBlock ≠ some b
  tb : ∀ b, vt.ownBlock = some b → vb.ownBlock ≠ some b
  touch : Touch [] w wr

theorem push_touch {wr w1 : World} {o : Obj} {row : Option Nat} (hg : (wr.alloc o).grownBy w1 row) : Touch row.toList wr w1 := ((Touch.refl row.toList wr).alloc o).grown hg (by intro k hk; rw [hk]; simp)
theorem not_row {row : Option Nat} {b : Nat} (h : row ≠ some b) : b ∉ row.toList := fun hm => h (by simpa using hm)

section
variable {w wr w1 : World} {vf vt vb v : Value} {kf kt kb : Nat} {o : Obj}

/-- The box's cells behind the append, ahead of the store. -/
theorem NewAt.boxf (h : NewAt w wr vf vt vb kf kt kb) (hg : (wr.alloc o).grownBy w1 vf.ownBlock) :
    Box3 w1 (w.heap.size + 1) 55 vf vt vb ∧ Box3 w1 w.heap.size 55 (.slice none 0 0) (.slice none 0 0) (.slice none 0 0) :=
  ⟨h.box.carry (push_touch hg) (not_row fun e => by have := own_base h.rf e; omega), h.res.carry (push_touch hg) (not_row fun e => by have := own_base h.rf e; omega)⟩
theorem NewAt.pushf (h : NewAt w wr vf vt vb kf kt kb) (hg : (wr.alloc o).grownBy w1 vf.ownBlock) (ow : w1.ownsRow (w.heap.size + 2) 3 1 v (kf + 1) (iv (fun i => i) kf ++ [.int .i64 kf])) (hat : v.ownBlock = vf.ownBlock ∨ v.ownBlock = some (wr.heap.size + 1)) :
    NewAt w (w1.setCell ⟨w.heap.size + 1, 0, none⟩ v) v vt vb (kf + 1) kt kb := by
  have t1 := push_touch hg
  have t2 := (Touch.refl [w.heap.size + 1] w1).setCell (a := ⟨w.heap.size + 1, 0, none⟩) (by simp) v
  have far : ∀ {u : Value} {e : TypeId} {l : Nat} {xs : List Value} {x : World}, x.ownsRow (w.heap.size + 2) e 1 u l xs → ∀ b, u.ownBlock = some b → b ∉ [w.heap.size + 1] := fun hu b hb hm => by have := own_base hu hb; simp at hm; omega
  have new : ∀ {u : Value} {e : TypeId} {l : Nat} {xs : List Value}, wr.ownsRow (w.heap.size + 2) e 1 u l xs → (∀ b, vf.ownBlock = some b → u.ownBlock ≠ some b) → ∀ b, v.ownBlock = some b → u.ownBlock ≠ some b := fun hu hd b hb he => by
    rcases hat with e | e
    · exact hd b (e ▸ hb) he
    · have := own_lt hu he
      rw [e] at hb
      cases hb
      omega
  obtain ⟨x0, x1⟩ := h.boxf hg
  have tt : Touch [] w w1 := h.touch.trans t1 (fun b hb => by
    have := own_base h.rf (b := b) (by simpa using hb)
    right
    omega)
  exact ⟨x0.set0 v, x1.carry t2 (by simp), t2.row (by rw [iv_next]; exact ow) (far ow), t2.row (t1.row h.rt (fun b hb => not_row fun e => h.ft b e hb)) (far h.rt), t2.row (t1.row h.rb (fun b hb => not_row fun e => h.fb b e hb)) (far h.rb), new h.rt h.ft, new h.rb h.fb, h.tb, tt.setCell (.inr (Nat.le_succ _)) v⟩

/-- The box's cells behind the append, ahead of the store. -/
theorem NewAt.boxt (h : NewAt w wr vf vt vb kf kt kb) (hg : (wr.alloc o).grownBy w1 vt.ownBlock) :
    Box3 w1 (w.heap.size + 1) 55 vf vt vb ∧ Box3 w1 w.heap.size 55 (.slice none 0 0) (.slice none 0 0) (.slice none 0 0) :=
  ⟨h.box.carry (push_touch hg) (not_row fun e => by have := own_base h.rt e; omega), h.res.carry (push_touch hg) (not_row fun e => by have := own_base h.rt e; omega)⟩
theorem NewAt.pusht (h : NewAt w wr vf vt vb kf kt kb) (hg : (wr.alloc o).grownBy w1 vt.ownBlock) (ow : w1.ownsRow (w.heap.size + 2) 3 1 v (kt + 1) (iv (fun _ => 0) kt ++ [.int .i64 0])) (hat : v.ownBlock = vt.ownBlock ∨ v.ownBlock = some (wr.heap.size + 1)) :
    NewAt w (w1.setCell ⟨w.heap.size + 1, 1, none⟩ v) vf v vb kf (kt + 1) kb := by
  have t1 := push_touch hg
  have t2 := (Touch.refl [w.heap.size + 1] w1).setCell (a := ⟨w.heap.size + 1, 1, none⟩) (by simp) v
  have far : ∀ {u : Value} {e : TypeId} {l : Nat} {xs : List Value} {x : World}, x.ownsRow (w.heap.size + 2) e 1 u l xs → ∀ b, u.ownBlock = some b → b ∉ [w.heap.size + 1] := fun hu b hb hm => by have := own_base hu hb; simp at hm; omega
  have new : ∀ {u : Value} {e : TypeId} {l : Nat} {xs : List Value}, wr.ownsRow (w.heap.size + 2) e 1 u l xs → (∀ b, vt.ownBlock = some b → u.ownBlock ≠ some b) → ∀ b, v.ownBlock = some b → u.ownBlock ≠ some b := fun hu hd b hb he => by
    rcases hat with e | e
    · exact hd b (e ▸ hb) he
    · have := own_lt hu he
      rw [e] at hb
      cases hb
      omega
  obtain ⟨x0, x1⟩ := h.boxt hg
  have tt : Touch [] w w1 := h.touch.trans t1 (fun b hb => by
    have := own_base h.rt (b := b) (by simpa using hb)
    right
    omega)
  exact ⟨x0.set1 v, x1.carry t2 (by simp), t2.row (t1.row h.rf (fun b hb => not_row fun e => (fun b hb he => h.ft b he hb) b e hb)) (far h.rf), t2.row (by rw [iv_next]; exact ow) (far ow), t2.row (t1.row h.rb (fun b hb => not_row fun e => h.tb b e hb)) (far h.rb), fun b hb he => new h.rf (fun b hb he => h.ft b he hb) b he hb, h.fb, new h.rb h.tb, tt.setCell (.inr (Nat.le_succ _)) v⟩

/-- The box's cells behind the append, ahead of the store. -/
theorem NewAt.boxb (h : NewAt w wr vf vt vb kf kt kb) (hg : (wr.alloc o).grownBy w1 vb.ownBlock) :
    Box3 w1 (w.heap.size + 1) 55 vf vt vb ∧ Box3 w1 w.heap.size 55 (.slice none 0 0) (.slice none 0 0) (.slice none 0 0) :=
  ⟨h.box.carry (push_touch hg) (not_row fun e => by have := own_base h.rb e; omega), h.res.carry (push_touch hg) (not_row fun e => by have := own_base h.rb e; omega)⟩
theorem NewAt.pushb (h : NewAt w wr vf vt vb kf kt kb) (hg : (wr.alloc o).grownBy w1 vb.ownBlock) (ow : w1.ownsRow (w.heap.size + 2) 4 1 v (kb + 1) (bv (fun _ => false) kb ++ [.bool false])) (hat : v.ownBlock = vb.ownBlock ∨ v.ownBlock = some (wr.heap.size + 1)) :
    NewAt w (w1.setCell ⟨w.heap.size + 1, 2, none⟩ v) vf vt v kf kt (kb + 1) := by
  have t1 := push_touch hg
  have t2 := (Touch.refl [w.heap.size + 1] w1).setCell (a := ⟨w.heap.size + 1, 2, none⟩) (by simp) v
  have far : ∀ {u : Value} {e : TypeId} {l : Nat} {xs : List Value} {x : World}, x.ownsRow (w.heap.size + 2) e 1 u l xs → ∀ b, u.ownBlock = some b → b ∉ [w.heap.size + 1] := fun hu b hb hm => by have := own_base hu hb; simp at hm; omega
  have new : ∀ {u : Value} {e : TypeId} {l : Nat} {xs : List Value}, wr.ownsRow (w.heap.size + 2) e 1 u l xs → (∀ b, vb.ownBlock = some b → u.ownBlock ≠ some b) → ∀ b, v.ownBlock = some b → u.ownBlock ≠ some b := fun hu hd b hb he => by
    rcases hat with e | e
    · exact hd b (e ▸ hb) he
    · have := own_lt hu he
      rw [e] at hb
      cases hb
      omega
  obtain ⟨x0, x1⟩ := h.boxb hg
  have tt : Touch [] w w1 := h.touch.trans t1 (fun b hb => by
    have := own_base h.rb (b := b) (by simpa using hb)
    right
    omega)
  exact ⟨x0.set2 v, x1.carry t2 (by simp), t2.row (t1.row h.rf (fun b hb => not_row fun e => (fun b hb he => h.fb b he hb) b e hb)) (far h.rf), t2.row (t1.row h.rt (fun b hb => not_row fun e => (fun b hb he => h.tb b he hb) b e hb)) (far h.rt), t2.row (by rw [bv_succ]; exact ow) (far ow), h.ft, fun b hb he => new h.rf (fun b hb he => h.fb b he hb) b he hb, fun b hb he => new h.rt (fun b hb he => h.tb b he hb) b he hb, tt.setCell (.inr (Nat.le_succ _)) v⟩
end
end Go.Proofs.Ytalkpoeliekbfaa
