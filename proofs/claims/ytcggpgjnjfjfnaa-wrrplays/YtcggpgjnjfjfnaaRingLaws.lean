/-
  What the laws of layer 29 (ring) share: the laws' own example, rows told.
-/
import Derived.Test.YtcggpgjnjfjfnaaRing3
namespace Go.Proofs.Ytcggpgjnjfjfnaa
open Go.ChangeShapes Go.WideShapes Go.ChangeAt Go.RowKit Go.Deep Go.Maps
set_option linter.unusedVariables false

/-- A slice's integers lie in memory from block lo on. -/
def FarCells (w : World) (lo : Nat) (A : Option Addr) (n : Nat) (X : Nat → Int) : Prop :=
  ∀ i, i < n → ∃ b off, A = some ⟨b, off, none⟩ ∧ lo ≤ b ∧ b < w.heap.size ∧ w.cell? ⟨b, off + i, none⟩ = some (.int .i64 (X i))
theorem FarCells.ints {w : World} {lo : Nat} {A : Option Addr} {n : Nat} {X : Nat → Int} (h : FarCells w lo A n X) : IntCells w w.heap.size A n X := fun i hi => by
  obtain ⟨b, off, hA, _, hb, hc⟩ := h i hi
  exact ⟨b, off, hA, hb, hc⟩
theorem FarCells.touch {w w' : World} {lo : Nat} {S : List Nat} {A : Option Addr} {n : Nat} {X : Nat → Int} (h : FarCells w lo A n X) (t : Touch S w w') (hS : ∀ b ∈ S, b < lo) : FarCells w' lo A n X := fun i hi => by
  obtain ⟨b, off, hA, hl, hb, hc⟩ := h i hi
  exact ⟨b, off, hA, hl, Nat.lt_of_lt_of_le hb t.size, (t.cell (a := ⟨b, off + i, none⟩) hb (fun hm => by have := hS b hm; omega)).trans hc⟩
theorem own_far {w : World} {base : Nat} {v : Value} {n : Nat} {X : Nat → Int} (h : w.ownsRow base 3 1 v n (iv X n)) : ∃ A cap, v = .slice A n cap ∧ n ≤ cap ∧ cap ≤ maxLen ∧ FarCells w base A n X := by
  rcases h.2 with ⟨rfl, rfl⟩ | ⟨g, cap, cur, rfl, hg, hh, h2, h3, h4, h5⟩
  · exact ⟨none, 0, rfl, Nat.le_refl _, by unfold maxLen; omega, fun i hi => by omega⟩
  · refine ⟨some ⟨g, 0, none⟩, cap, rfl, h2, h3, fun i hi => ⟨g, 0, rfl, hg, (Array.getElem?_eq_some_iff.1 hh).1, ?_⟩⟩
    have hx := iv_get X hi
    rw [← h5] at hx
    rw [Nat.zero_add, World.cell?, hh]
    simpa [List.getElem?_take, hi] using hx

theorem Ringed.lt {w : World} {p b1 b2 n : Nat} {x : Nat → Int} (h : Ringed w p b1 b2 n x) : p < w.heap.size ∧ b1 < w.heap.size ∧ b2 < w.heap.size := by
  obtain ⟨hd, N, Q, a, c⟩ := h
  exact ⟨a.box.lt, a.m1.lt, a.m2.lt⟩
theorem Ringed.per {w : World} {p b1 b2 n : Nat} {x : Nat → Int} (h : Ringed w p b1 b2 n x) : ∀ i, x (i + n) = x i := by
  obtain ⟨hd, N, Q, a, c⟩ := h
  exact c.per
theorem lit3 (w : World) (x y z : Int) (t : TypeId) (f : Nat → Int) (h0 : f 0 = x) (h1 : f 1 = y) (h2 : f 2 = z) : IntCells (w.alloc (.cells #[.int .i64 x, .int .i64 y, .int .i64 z] t)) (w.alloc (.cells #[.int .i64 x, .int .i64 y, .int .i64 z] t)).heap.size (some ⟨w.heap.size, 0, none⟩) 3 f := fun i hi => by
  have hb := heap_alloc_new w (.cells #[.int .i64 x, .int .i64 y, .int .i64 z] t)
  refine ⟨w.heap.size, 0, rfl, by simp, ?_⟩
  rw [cell_of_row _ _ _ _ t (0, 0) hb]
  rcases (show i = 0 ∨ i = 1 ∨ i = 2 by omega) with rfl | rfl | rfl
  · rw [h0]; rfl
  · rw [h1]; rfl
  · rw [h2]; rfl

set_option maxHeartbeats 1000000 in
theorem ringLives_any (w : World) :
    Calls Try.prog 27 #[] w fun e w' => e = .returned (.bool true) ∧ Below w.heap.size w w' := by
  have hsz : w.heap.size ≤ w.heap.size + 2 := by omega
  go_enter Try.func27, Try.ntmps27
  go_wp2_with fail
  refine (ringNew_any w).mono ?_
  rintro e w1 ⟨rfl, a1, t1⟩
  have R1 : Ringed w1 (w.heap.size + 2) w.heap.size (w.heap.size + 1) 0 (fun _ => 0) := ⟨_, _, _, a1, Cyc.new⟩
  clear a1
  have B1 := Lib.hid t1
  have Y1 := Lib.hid (R1.add_yes 5 (by exact rfl) (by omega) (by omega))
  clear R1 t1
  generalize hp : w.heap.size + 2 = p at *
  generalize hb2 : w.heap.size + 1 = b2 at *
  generalize hb1 : w.heap.size = b1 at *
  have P1 := Lib.hid (show b1 ≤ w.heap.size ∧ b1 ≤ p ∧ b1 ≤ b2 by omega)
  have P0 := Lib.hid hb1
  clear hp hb2 hb1 hsz
  go_wp2_with fail
  refine (Y1.out).mono ?_
  rintro e w2 ⟨rfl, r2, t2⟩
  have Y2 := Lib.hid (r2.add_yes 6 (by exact rfl) (by intro j hj; rcases (show j = 0 by omega) with rfl; decide) (by omega))
  have T2 := Lib.hid t2
  clear r2 t2
  go_wp2_with fail
  refine (Y2.out).mono ?_
  rintro e w3 ⟨rfl, r3, t3⟩
  have Y3 := Lib.hid (r3.add_yes 7 (by exact rfl) (by intro j hj; rcases (show j = 0 ∨ j = 1 by omega) with rfl | rfl <;> decide) (by omega))
  have T3 := Lib.hid t3
  clear r3 t3
  go_wp2_with fail
  refine (Y3.out).mono ?_
  rintro e w4 ⟨rfl, r4, t4⟩
  have T4 := Lib.hid t4
  have Y4 := Lib.hid (r4.turn (by omega))
  clear r4 t4
  obtain ⟨f, hf⟩ : ∃ f, f = ext (0 + 1 + 1) (ext (0 + 1) (ext 0 (fun _ => 0) 5) 6) 7 := ⟨_, rfl⟩
  have f0 : f 0 = 5 := by rw [hf]; decide
  have f1 : f (0 + 1) = 6 := by rw [hf]; decide
  have f2 : f (1 + 1) = 7 := by rw [hf]; decide
  have f3 : f (2 + 1) = 5 := by rw [hf]; decide
  rw [← hf] at Y4
  unfold TurnPost at Y4
  rw [f0] at Y4
  have F1 := Lib.hid f1
  have F2 := Lib.hid f2
  have F3 := Lib.hid f3
  clear hf f0 f1 f2 f3
  go_wp2_with fail
  refine (Y4.out).mono ?_
  rintro e w5 ⟨rfl, r5, t5⟩
  have T5 := Lib.hid t5
  have Y5 := Lib.hid (r5.order (by omega))
  clear r5 t5
  go_wp2_with fail
  refine (Y5.out).mono ?_
  rintro e w6 ⟨v, rfl, ho, hb⟩
  obtain ⟨A, cap, rfl, c1, c2, hc⟩ := own_cells ho
  have HC := Lib.hid hc
  have HB := Lib.hid hb
  clear ho hc hb
  go_wp2_with fail
  refine (sameInts_yes (HC.out.touch ((Touch.refl [] _).alloc _)) (lit3 w6 6 7 5 _ _ F1.out F2.out F3.out) (fun _ _ => rfl) (by omega)).mono ?_
  rintro e w7 ⟨rfl, t7⟩
  have T7 := Lib.hid t7
  clear t7
  go_wp2_with fail
  go_ret
  have hS : ∀ b ∈ [p, b1, b2], b ∈ ([] : List Nat) ∨ w.heap.size ≤ b := by
    have h1 := P0.out
    have h2 := P1.out
    intro b hb
    simp at hb
    right
    omega
  have h5 : Touch [] w w5 := (((B1.out.trans T2.out hS).trans T3.out hS).trans T4.out hS).trans T5.out (fun b hb => hS b (by simp at hb; simp [hb]))
  refine ⟨rfl, ?_⟩
  have h6 := bnext (h5.below (by simp) (Nat.le_refl _)) HB.out
  exact bnext h6 ((((Touch.refl [] w6).alloc _).trans T7.out (by simp)).below (by simp) (Nat.le_refl _))
end Go.Proofs.Ytcggpgjnjfjfnaa
