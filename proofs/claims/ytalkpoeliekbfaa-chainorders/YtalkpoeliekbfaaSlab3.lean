/-
  Contracts of the methods of layer 6 (slab): Give.
-/
import Derived.Test.YtalkpoeliekbfaaSlab2
import Derived.Deep.RegionLaw
import Derived.WalkSpells
namespace Go.Proofs.Ytalkpoeliekbfaa
open Go.ChangeShapes Go.WideShapes Go.ChangeAt Go.RowKit Go.Deep
set_option linter.unusedVariables false

theorem int_info : (Try.prog.info? 3).map (fun i => (i.zero, i.size, i.bytes)) = some (some (.int .i64 0), 1, 8) := by kernel_rfl

section
variable {w : World} {p g k n ns m c : Nat} {S K : Nat → Int}

theorem give_nil (a t : Int) (w : World) :
    Calls Try.prog 58 #[.pointer none, .agg #[.int .i64 a, .int .i64 t]] w fun e w' => e = .returned (.bool false) ∧ Touch [] w w' := by
  have H := fun w => Lib.hid (live_nil a t w)
  go_enter Try.func58, Try.ntmps58
  go_wp2_with fail
  refine ((H _).out).mono ?_
  rintro e w1 ⟨rfl, ht⟩
  go_wp2
  go_ret
  exact ⟨rfl, ((Touch.refl _ _).alloc _).trans ht (by simp)⟩

theorem give_no (h : SlabAt w p g k n ns m c S K) (a t : Int) (hno : alive n S a t = false) :
    Calls Try.prog 58 #[.pointer (some ⟨p, 0, none⟩), .agg #[.int .i64 a, .int .i64 t]] w fun e w' => e = .returned (.bool false) ∧ Touch [] w w' := by
  have h' := h.carry ((Touch.refl [] _).alloc (.cells #[.int .i64 a, .int .i64 t] 68)) (by simp) (by simp) (by simp)
  have H := Lib.hid (live_any h' a t)
  rw [hno] at H
  clear h h' hno
  go_enter Try.func58, Try.ntmps58
  go_wp2_with fail
  refine (H.out).mono ?_
  rintro e w1 ⟨rfl, ht⟩
  go_wp2
  go_ret
  exact ⟨rfl, ((Touch.refl _ _).alloc _).trans ht (by simp)⟩

theorem grew_cell {w2 w3 : World} {o : Obj} {row : Option Nat} (hg : (w2.alloc o).drew.grownBy w3 row) {b : Nat} (hb : b < w2.heap.size) (hne : some b ≠ row) (i : Nat) :
    w3.cell? ⟨b, i, none⟩ = w2.cell? ⟨b, i, none⟩ ∧ w3.frozen? ⟨b, i, none⟩ = w2.frozen? ⟨b, i, none⟩ := by
  have t : Touch row.toList w2 w3 := ((Touch.refl row.toList w2).alloc o).drew.grown hg (by intro k hk; rw [hk]; simp)
  have hn : b ∉ row.toList := by cases row with
    | none => simp
    | some k => simpa using hne
  exact ⟨t.cell (a := ⟨b, i, none⟩) hb hn, t.frozen (a := ⟨b, i, none⟩) hb hn⟩

theorem SlabAt.pushed {w3 : World} {gg cap : Nat} {x : Int} (h : SlabAt w p g k n ns m c S K) (t : Touch [k] w w3) (hown : w3.ownsRow 0 3 1 (.slice (some ⟨gg, 0, none⟩) (m + 1) cap) (m + 1) (iv K m ++ [.int .i64 x])) (hat : gg = k ∨ w.heap.size ≤ gg) :
    SlabAt (w3.setCell ⟨p, 1, none⟩ (.slice (some ⟨gg, 0, none⟩) (m + 1) cap)) p g gg n ns (m + 1) cap S (upd K m x) := by
  have n1 := h.pg
  have n2 := h.pk
  have n3 := h.gk
  have lp := h.ltp
  have lg := h.ltg
  have t3 : Touch [p] w3 (w3.setCell ⟨p, 1, none⟩ (.slice (some ⟨gg, 0, none⟩) (m + 1) cap)) := (Touch.refl _ _).setCell (by simp) _
  refine ⟨((h.box.of_block (t.block _ lp (by simpa using n2))).set 1 _).congr fun i hi => ?_, t3.row (t.row h.slots (by simpa [Value.ownBlock] using n3)) (by simpa [Value.ownBlock] using Ne.symm n1), ?_, n1, by omega, by omega⟩
  · by_cases e : i = 0
    · subst e; rfl
    · obtain rfl : i = 1 := by omega
      rfl
  · rw [← iv_succ]
    exact t3.row hown (by simp [Value.ownBlock]; omega)

def Given (w : World) (p g k n ns m : Nat) (S K : Nat → Int) (a : Nat) (t : Int) (e : Ending) (w' : World) : Prop :=
  ∃ k' c', e = .returned (.bool true) ∧ SlabAt w' p g k' n ns (m + 1) c' (upd (upd S (a * 2) 0) (a * 2 + 1) (t + 1)) (upd K m a) ∧ Touch [p, g, k] w w' ∧ (k' = k ∨ w.heap.size ≤ k')

set_option maxHeartbeats 1600000 in
theorem give_yes (h : SlabAt w p g k n ns m c S K) (a : Nat) (t : Int) (hal : alive n S a t = true) (hm : m ≤ 5000) (h0 : 0 ≤ t) (h1 : t < 1000000) :
    Calls Try.prog 58 #[.pointer (some ⟨p, 0, none⟩), .agg #[.int .i64 a, .int .i64 t]] w (Given w p g k n ns m S K a t) := by
  obtain ⟨i0, hi0, hz0, hz1, hz2⟩ := info_parts int_info
  have h' := h.carry ((Touch.refl [] _).alloc (.cells #[.int .i64 a, .int .i64 t] 68)) (by simp) (by simp) (by simp)
  have H := Lib.hid (live_any h' a t)
  rw [hal] at H
  have ha : a < n := by
    simp only [alive, decide_eq_true_eq] at hal
    omega
  have HS := Lib.hid h'
  have lp := h.ltp
  have lg := h.ltg
  have lk := h.ltk
  have n1 := h.pg
  have n2 := h.pk
  have n3 := h.gk
  have hn := own_cap h.slots
  unfold maxLen at hn
  clear h h' hal
  go_enter Try.func58, Try.ntmps58
  go_wp2_with fail
  refine (H.out).mono ?_
  rintro e w1 ⟨rfl, ht⟩
  have h2 := HS.out.carry ht (by simp) (by simp) (by simp)
  have hsz : w.heap.size < w1.heap.size := by have := ht.size; simp at this; omega
  have d0 := ht.cell (a := ⟨w.heap.size, 0, none⟩) (by simp) (by simp)
  have d1 := ht.cell (a := ⟨w.heap.size, 1, none⟩) (by simp) (by simp)
  simp at d0 d1
  have c0 := h2.c0
  have c1 := h2.c1
  have f1 := h2.box.frozen 1
  have s0 := h2.cs (i := a * 2) (by omega)
  have s1 := h2.cs (i := a * 2 + 1) (by omega)
  have fs := h2.slots.frozenAt (a * 2)
  have fs1 := h2.slots.frozenAt (a * 2 + 1)
  have a0 : (0 : Int) ≤ (a : Int) := Int.natCast_nonneg _
  have a1 : (a : Int) < (n : Int) := by omega
  have HS2 := Lib.hid h2
  have T1 := Lib.hid (((Touch.refl [] w).alloc _).trans ht (by simp))
  clear h2 HS ht H
  go_wp2_with fail
  go_region
  go_wp2_with fail
  have h3 := ((HS2.out.setSlot (a * 2) 0).setSlot (a * 2 + 1) (t + 1)).carry ((Touch.refl [] _).drew) (by simp) (by simp) (by simp)
  have T2 := ((((T1.out.mono (S' := [p, g, k]) (by simp)).setCell (a := ⟨g, a * 2, none⟩) (by simp) (.int .i64 0)).setCell (a := ⟨g, a * 2 + 1, none⟩) (by simp) (.int .i64 (t + 1)))).drew
  have e0 : (((w1.setCell ⟨g, a * 2, none⟩ (.int .i64 0)).setCell ⟨g, a * 2 + 1, none⟩ (.int .i64 (t + 1))).drew).cell? ⟨w.heap.size, 0, none⟩ = some (.int .i64 a) := by
    rw [← d0]
    exact (((Touch.refl [g] w1).setCell (a := ⟨g, a * 2, none⟩) (by simp) (.int .i64 0)).setCell (a := ⟨g, a * 2 + 1, none⟩) (by simp) (.int .i64 (t + 1))).drew.cell (a := ⟨w.heap.size, 0, none⟩) hsz (by simp; omega)
  have hs2 : w1.heap.size = (((w1.setCell ⟨g, a * 2, none⟩ (.int .i64 0)).setCell ⟨g, a * 2 + 1, none⟩ (.int .i64 (t + 1))).drew).heap.size := by simp
  rw [hs2] at hsz
  clear HS2 T1 d0 d1 c0 c1 f1 s0 s1 fs fs1 hs2
  generalize ((w1.setCell ⟨g, a * 2, none⟩ (.int .i64 0)).setCell ⟨g, a * 2 + 1, none⟩ (.int .i64 (t + 1))).drew = w2 at *
  have c1 := h3.c1
  have f1 := h3.box.frozen 1
  have lp2 := h3.ltp
  have lk2 := h3.ltk
  have hown := h3.stack
  have HO := Lib.hid hown
  have HS := Lib.hid h3
  have HT := Lib.hid T2
  clear hown h3 T2
  go_region_law (first | (refine step_append_lies _ (by rfl) _ _ _ (by rfl) 0 3 i0 _ 1 8 Try.underlying40 hi0 hz0 hz1 hz2 rfl (by omega) (.slice (some ⟨k, 0, none⟩) m c) m (iv K m) (by rfl) ((HO.out.alloc _).drew) ⟨w2.heap.size, 0, none⟩ 1 1 [.int .i64 a] (by rfl) (by rfl) (World.news_of_block (cs := #[.int .i64 a]) (t := 3) (fr := (0, 0)) (heap_alloc_new w2 _)) (by simp [Value.oneCell']) (by omega) (by unfold maxLen; omega) (by omega) (by simp) (w2.heap.size + 1) (by simp) ?_; intro gg cap w3 hown3 hgrow hat hlt; have q1 := (grew_cell hgrow lp2 (by simp [Value.ownBlock]; omega) 1).1.trans c1; have q2 := (grew_cell hgrow lp2 (by simp [Value.ownBlock]; omega) 1).2.trans f1))
  all_goals
    go_wp2
    go_ret
    have T3 : Touch [k] w2 w3 := ((Touch.refl [k] w2).alloc _).drew.grown hgrow (by simp [Value.ownBlock])
    have hat' : gg = k ∨ w2.heap.size ≤ gg := by
      rcases hat with h | h
      · simp [Value.ownBlock] at h
        omega
      · omega
    have hww := HT.out.size
    exact ⟨gg, cap, rfl, HS.out.pushed T3 hown3 hat', (HT.out.trans T3 (by simp)).setCell (by simp) _, by omega⟩
end
end Go.Proofs.Ytalkpoeliekbfaa
