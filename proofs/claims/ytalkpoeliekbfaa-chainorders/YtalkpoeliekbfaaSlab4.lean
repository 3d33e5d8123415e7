/-
  Contracts of layer 6 (slab): New, Copy of nothing, and the law's example.
-/
import Derived.Test.YtalkpoeliekbfaaSlab3
namespace Go.Proofs.Ytalkpoeliekbfaa
open Go.ChangeShapes Go.WideShapes Go.ChangeAt Go.RowKit Go.Deep
set_option linter.unusedVariables false

theorem slot_info : (Try.prog.info? 124).map (fun i => (i.zero, i.size, i.bytes)) = some (some (.agg #[.int .i64 0, .int .i64 0]), 2, 16) := by kernel_rfl

theorem copy_nil (w : World) :
    Calls Try.prog 60 #[.pointer none] w fun e w' => e = .returned (.pointer none) ∧ w = w' := by
  go_enter Try.func60, Try.ntmps60
  go_wp2
  go_ret
  exact ⟨rfl, rfl⟩

theorem new_no (n : Int) (w : World) (h : n < 1 ∨ 4096 < n) :
    Calls Try.prog 51 #[.int .i64 n] w fun e w' => e = .returned (.pointer none) ∧ w = w' := by
  rcases h with h | h
  · go_enter Try.func51, Try.ntmps51
    go_wp2
    go_ret
    exact ⟨rfl, rfl⟩
  · have h1 : ¬ n < 1 := by omega
    go_enter Try.func51, Try.ntmps51
    go_wp2
    go_ret
    exact ⟨rfl, rfl⟩

theorem make_slots (n : Nat) (hn : n ≤ 4096) (w : World) : (Instr.makeSlice 120 (.int .i64 (n : Int)) (.int .i64 (n : Int))).run Try.prog w =
    .ok (.slice (some ⟨w.heap.size, 0, none⟩) n n) (w.alloc (.cells (madeCells #[.int .i64 0, .int .i64 0] (n * 2)) 124)) := by
  obtain ⟨i0, hi0, hz0, hz1, hz2⟩ := info_parts slot_info
  have := run_make (P := Try.prog) w 120 124 i0 _ Try.underlying120 hi0 hz0 .i64 .i64 n n (by omega) (by omega) (by rw [hz2]; omega) (by omega)
  rw [hz1] at this
  simpa [Value.cells] using this

theorem made_pairs (n : Nat) : (madeCells #[.int .i64 0, .int .i64 0] (n * 2)).toList = iv (fun _ => 0) (n * 2) := by
  apply List.ext_getElem?
  intro j
  by_cases hj : j < n * 2
  · rw [iv_get _ hj]
    have : j % 2 = 0 ∨ j % 2 = 1 := by omega
    simp [madeCells, hj]
    rcases this with h | h <;> simp [h]
  · simp [madeCells, iv, hj]
theorem made_ints (n : Nat) : (madeCells #[.int .i64 0] n).toList = iv (fun _ => 0) n := by
  rw [toList_madeCells_one]
  unfold iv
  rw [List.map_const', List.length_range]

def Fresh (w : World) (n : Nat) (K : Nat → Int) (v : Value) (w' : World) : Prop :=
  ∃ p g k, v = .pointer (some ⟨p, 0, none⟩) ∧ SlabAt w' p g k n n n n (fun _ => 0) K ∧ Touch [] w w' ∧ w.heap.size ≤ p ∧ w.heap.size ≤ g ∧ w.heap.size ≤ k

theorem fresh_of {w w' : World} {n p g k : Nat} (hn : n ≤ 4096) (hbox : w'.heap[p]? = some (.cells #[.slice (some ⟨g, 0, none⟩) n n, .slice (some ⟨k, 0, none⟩) n n] 122 (0, 0)))
    (hs : w'.heap[g]? = some (.cells (madeCells #[.int .i64 0, .int .i64 0] (n * 2)) 124 (0, 0))) (hk : w'.heap[k]? = some (.cells (madeCells #[.int .i64 0] n) 3 (0, 0)))
    (t : Touch [] w w') (lp : w.heap.size ≤ p) (lg : w.heap.size ≤ g) (lk : w.heap.size ≤ k) (n1 : p ≠ g) (n2 : p ≠ k) (n3 : g ≠ k) : Fresh w n (fun _ => 0) (.pointer (some ⟨p, 0, none⟩)) w' := by
  refine ⟨p, g, k, rfl, ⟨⟨_, hbox, rfl, fun i hi => ?_⟩, ⟨by rw [iv_length], .inr ⟨g, n, _, rfl, Nat.zero_le _, hs, Nat.le_refl _, by unfold maxLen; omega, size_madeCells _ _, ?_⟩⟩,
    ⟨by rw [iv_length]; omega, .inr ⟨k, n, _, rfl, Nat.zero_le _, hk, Nat.le_refl _, by unfold maxLen; omega, by rw [size_madeCells]; omega, ?_⟩⟩, n1, n2, n3⟩, t, lp, lg, lk⟩
  · by_cases e : i = 0
    · subst e; rfl
    · obtain rfl : i = 1 := by omega
      rfl
  · rw [made_pairs, List.take_of_length_le (by rw [iv_length]; omega)]
  · rw [made_ints, List.take_of_length_le (by rw [iv_length]; omega)]

theorem SlabAt.setK {w : World} {p g k n ns m c : Nat} {S K : Nat → Int} (h : SlabAt w p g k n ns m c S K) (i : Nat) (x : Int) : SlabAt (w.setCell ⟨k, i, none⟩ (.int .i64 x)) p g k n ns m c S (upd K i x) := by
  have t : Touch [k] w (w.setCell ⟨k, i, none⟩ (.int .i64 x)) := (Touch.refl _ _).setCell (by simp) _
  refine ⟨h.box.of_block (t.block _ h.ltp (by simpa using h.pk)), t.row h.slots (by simpa [Value.ownBlock] using h.gk), ?_, h.pg, h.pk, h.gk⟩
  rw [← iv_set]
  exact (h.stack.stored i _).1

theorem three_0 (w : World) (A B C : Obj) : ((((w.alloc A).alloc B).alloc C).drew).heap[w.heap.size]? = some A := by
  show (((w.heap.push A).push B).push C)[w.heap.size]? = some A
  rw [Array.getElem?_push, if_neg (by rw [Array.size_push, Array.size_push]; omega), Array.getElem?_push, if_neg (by rw [Array.size_push]; omega), Array.getElem?_push, if_pos rfl]
theorem three_1 (w : World) (A B C : Obj) : ((((w.alloc A).alloc B).alloc C).drew).heap[w.heap.size + 1]? = some B := by
  show (((w.heap.push A).push B).push C)[w.heap.size + 1]? = some B
  rw [Array.getElem?_push, if_neg (by rw [Array.size_push, Array.size_push]; omega), Array.getElem?_push, if_pos (by rw [Array.size_push])]
theorem three_2 (w : World) (A B C : Obj) : ((((w.alloc A).alloc B).alloc C).drew).heap[w.heap.size + 1 + 1]? = some C := by
  show (((w.heap.push A).push B).push C)[w.heap.size + 1 + 1]? = some C
  rw [Array.getElem?_push, if_pos (by rw [Array.size_push, Array.size_push])]

set_option maxHeartbeats 1600000 in
theorem new_yes (n : Nat) (w : World) (h1 : 1 ≤ n) (h2 : n ≤ 4096) :
    Calls Try.prog 51 #[.int .i64 n] w fun e w' => ∃ v, e = .returned v ∧ Fresh w n (fun i => (n : Int) - 1 - i) v w' := by
  have m1 := make_slots n h2
  have m2 := run_make_row' (P := Try.prog) 40 3 (.int .i64 0) 8 Try.underlying40 int_info rfl .i64 .i64 n (by omega) (by omega)
  go_enter Try.func51, Try.ntmps51
  go_upto_region 3 with fail
  go_cut [3] (fun v wx => Fresh w n (fun _ => 0) v wx)
  case first =>
    go_region
    all_goals go_wp2_with fail
    all_goals go_meet
    all_goals
      clear m1 m2
      first
      | exact fresh_of (g := w.heap.size) (k := w.heap.size + 1) h2 (three_2 _ _ _ _) (three_0 _ _ _ _) (three_1 _ _ _ _) ((((Touch.refl _ _).alloc _).alloc _).alloc _).drew (by omega) (by omega) (by omega) (by omega) (by omega) (by omega)
      | exact fresh_of (g := w.heap.size + 1) (k := w.heap.size) h2 (three_2 _ _ _ _) (three_1 _ _ _ _) (three_0 _ _ _ _) ((((Touch.refl _ _).alloc _).alloc _).alloc _).drew (by omega) (by omega) (by omega) (by omega) (by omega) (by omega)
  case rest =>
    obtain ⟨p, g, k, rfl, h0, t0, lp, lg, lk⟩ := hcut
    have c1 := h0.c1
    have HS := Lib.hid h0
    have HT := Lib.hid t0
    clear h0 t0 m1 m2
    go_wp2_with fail
    clear c1
    go_loopw [22] (fun i wr => ∃ j : Nat, j ≤ n ∧ i = .int .i64 j ∧ SlabAt wr p g k n n n n (fun _ => 0) (fun i => if i < j then (n : Int) - 1 - i else 0) ∧ Touch [] w wr) (fun i _ => n - (intOf i).toNat)
    case atStart => exact ⟨0, Nat.zero_le _, rfl, HS.out.congr (fun _ _ => rfl) (fun i _ => by simp), HT.out⟩
    case round =>
      obtain ⟨j, hj, rfl, h0, t0⟩ := hrel
      by_cases hlt : j < n
      · have c1 := h0.c1
        have k0 := h0.ck hlt
        have fk := h0.stack.frozenAt j
        have HS := Lib.hid h0
        have HT := Lib.hid t0
        clear h0 t0
        simp only [Nat.lt_irrefl, if_false] at k0
        go_wp2_with fail
        go_roundw
        case rel =>
          refine ⟨j + 1, by omega, by go_num, (HS.out.setK j ((n : Int) - 1 - j)).congr (fun _ _ => rfl) (fun i hi => ?_), HT.out.setCell (by simp; omega) _⟩
          by_cases e : i = j
          · subst e
            rw [upd_same, if_pos (by omega)]
          · rw [upd_other _ _ e]
            by_cases h : i < j
            · rw [if_pos h, if_pos (by omega)]
            · rw [if_neg h, if_neg (by omega)]
        case measure => simp [intOf]; omega
      · obtain rfl : j = n := by omega
        go_wp2
        go_ret
        exact ⟨_, rfl, p, g, k, rfl, h0.congr (fun _ _ => rfl) (fun i hi => by rw [if_pos hi]), t0, lp, lg, lk⟩
end Go.Proofs.Ytalkpoeliekbfaa
