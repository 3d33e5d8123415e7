/-
  The reference of layer 30 (credit): Without, put.
-/
import Derived.Test.YtcggpgjnjfjfnaaCreditRef
namespace Go.Proofs.Ytcggpgjnjfjfnaa
open Go.ChangeShapes Go.WideShapes Go.ChangeAt Go.RowKit Go.Deep Go.Maps
set_option linter.unusedVariables false

theorem row_info : (Try.prog.info? 86).map (fun i => (i.zero, i.size, i.bytes)) = some (some (.agg #[.int .i64 0, .int .i64 0, .int .i64 0]), 3, 24) := by kernel_rfl
theorem below_grown {B n size : Nat} {w wr w1 : World} {e : TypeId} {v : Value} {xs : List Value} (hbl : Below B w wr) (hown : wr.ownsRow B e size v n xs) (hgrow : wr.grownBy w1 v.ownBlock) (hB : B ≤ wr.heap.size) : Below B w w1 := by
  refine hbl.grown hgrow hB ?_
  intro j hj
  rcases hown.2 with ⟨rfl, _⟩ | ⟨g, cap, cur, rfl, hg, _⟩
  · simp [Value.ownBlock] at hj
  · simp [Value.ownBlock] at hj
    omega
/-- The block that a one-row slice lies in, behind another one. -/
theorem news3 (w : World) (o : Obj) (x y z : Value) : ∀ j u, [x, y, z][j]? = some u → ((w.alloc o).alloc (.cells #[x, y, z] 86)).cell? (Addr.add ⟨w.heap.size + 1, 0, none⟩ j) = some u :=
  World.news_of_block (cs := #[x, y, z]) (t := 86) (fr := (0, 0)) (by
    have := heap_alloc_new (w.alloc o) (.cells #[x, y, z] 86)
    rwa [show (w.alloc o).heap.size = w.heap.size + 1 by simp] at this)
def RowsPost (w : World) (L : List RowC) (e : Ending) (w' : World) : Prop := ∃ v, e = .returned v ∧ w'.ownsRow w.heap.size 86 3 v L.length (rv L) ∧ Below w.heap.size w w'

theorem without_snoc (i : Int) (L : List RowC) (r : RowC) : without i (L ++ [r]) = if r.id = i then without i L else without i L ++ [r] := by
  unfold without
  rw [List.filter_append]
  by_cases h : r.id = i
  · rw [if_pos h, List.filter_cons_of_neg (by simp [h])]
    simp
  · rw [if_neg h, List.filter_cons_of_pos (by simp [h])]
    simp
theorem take_snoc {L : List RowC} {k : Nat} {r : RowC} (h : L[k]? = some r) : L.take (k + 1) = L.take k ++ [r] := by
  rw [List.take_add_one, h]
  rfl

section
variable {Z : List Nat} {w : World} {v : Value} {L : List RowC}

set_option maxHeartbeats 2000000 in
theorem refWithout_any (h : RowsAt Z w v L) (i : Int) (hL : L.length ≤ 1000) :
    Calls Try.prog 49 #[v, .int .i64 i] w (RowsPost w (without i L)) := by
  obtain ⟨A, c, rfl, ⟨h1, _⟩, h2, h3⟩ := h
  obtain ⟨i0, hi0, hz0, hz1, hz2⟩ := info_parts row_info
  have H3 := Lib.hid h3
  have hN : Hid (∀ j, j < L.length → L[j]? = some (L[j]?.getD ⟨0, 0, 0⟩)) := Lib.hid fun j hj => by rw [List.getElem?_eq_getElem hj]; rfl
  have hT : Hid (L.take L.length = L) := Lib.hid (List.take_length)
  have hW : Hid (∀ k, k ≤ L.length → (without i (L.take k)).length ≤ k) := Lib.hid fun k hk => by unfold without; refine Nat.le_trans (List.length_filter_le _ _) ?_; rw [List.length_take]; omega
  generalize hn : L.length = n at *
  clear h3 hn
  go_enter Try.func49, Try.ntmps49
  go_wp2
  go_loopw [5, 6] (fun x y wr => ∃ k : Nat, k ≤ n ∧ y = .int .i64 k ∧ wr.ownsRow w.heap.size 86 3 x (without i (L.take k)).length (rv (without i (L.take k))) ∧ Below w.heap.size w wr) (fun _ y _ => n - (intOf y).toNat)
  case atStart => exact ⟨0, Nat.zero_le _, rfl, World.ownsRow_nil _ _ _ _, Below.refl _ _⟩
  case round =>
    obtain ⟨k, hk, rfl, hown, hbl⟩ := hrel
    by_cases hlt : k < n
    · obtain ⟨b, off, hA, hb, _, c0, c1, c2⟩ := H3.out k _ (hN.out k hlt)
      rw [← hbl.cell (p := ⟨b, _, none⟩) hb] at c0 c1 c2
      subst hA
      have hs := take_snoc (hN.out k hlt)
      have hw := without_snoc i (L.take k) (L[k]?.getD ⟨0, 0, 0⟩)
      rw [← hs] at hw
      have HW := Lib.hid hw
      have hlen := hW.out k hk
      generalize (L[k]?.getD ⟨0, 0, 0⟩) = r at *
      clear hs hw
      obtain ⟨ri, rq, rc⟩ := r
      simp only at c0 c1 c2
      by_cases hi : ri = i
      · have e : without i (L.take (k + 1)) = without i (L.take k) := by rw [HW.out, if_pos hi]
        have E := Lib.hid e
        have b1 : (ri != i) = false := by simpa using hi
        clear e hi HW
        go_wp2
        go_roundw
        case rel => exact ⟨k + 1, by omega, by go_num, by rw [E.out]; exact hown, hbl⟩
        case measure => simp [intOf]; omega
      · have e : without i (L.take (k + 1)) = without i (L.take k) ++ [⟨ri, rq, rc⟩] := by rw [HW.out, if_neg hi]
        have E := Lib.hid e
        have b1 : (ri != i) = true := by simpa using hi
        have lb : b < wr.heap.size := Nat.lt_of_lt_of_le hb hbl.size
        have hsz := hbl.size
        clear e hi HW
        generalize without i (L.take k) = M at *
        go_wp2_with (at_builtin; refine wpList_append_own _ rfl (.tmp 20) (.tmp 25) 27 rfl w.heap.size 86 i0 _ 3 24 Try.underlying27 hi0 hz0 hz1 hz2 rfl (by decide) u5 M.length (rv M) rfl (hown.alloc _) ⟨wr.heap.size, 0, none⟩ 1 1 [.int .i64 ri, .int .i64 rq, .int .i64 rc] rfl rfl (World.news_of_block (cs := #[.int .i64 ri, .int .i64 rq, .int .i64 rc]) (t := 86) (fr := (0, 0)) (heap_alloc_new wr _)) (by intro u hu; simp at hu; rcases hu with rfl | rfl | rfl <;> rfl) (by unfold maxLen; omega) (by omega) (by simp; omega) ?_; intro v' w1 hown' hgrow hnil)
        go_roundw
        case rel => exact ⟨k + 1, by omega, by go_num, by rw [E.out, rv_snoc, List.length_append]; exact hown', below_grown (hbl.alloc hsz _) (hown.alloc _) hgrow (by simp; omega)⟩
        case measure => simp [intOf]; omega
    · obtain rfl : k = n := by omega
      rw [hT.out] at hown
      go_wp2
      go_ret
      exact ⟨_, rfl, hown, hbl⟩

set_option maxHeartbeats 4000000 in
theorem refPut_any (h : RowsAt Z w v L) (i m : Int) (hL : L.length ≤ 1000) :
    Calls Try.prog 56 #[v, .int .i64 i, .int .i64 m] w (RowsPost w (L.map (putRow i m))) := by
  obtain ⟨A, c, rfl, ⟨h1, _⟩, h2, h3⟩ := h
  obtain ⟨i0, hi0, hz0, hz1, hz2⟩ := info_parts row_info
  have H3 := Lib.hid h3
  have hN : Hid (∀ j, j < L.length → L[j]? = some (L[j]?.getD ⟨0, 0, 0⟩)) := Lib.hid fun j hj => by rw [List.getElem?_eq_getElem hj]; rfl
  have hT : Hid (L.take L.length = L) := Lib.hid (List.take_length)
  have hW : Hid (∀ k, k ≤ L.length → ((L.take k).map (putRow i m)).length = k) := Lib.hid fun k hk => by rw [List.length_map, List.length_take]; omega
  unfold RowsPost
  rw [List.length_map]
  generalize hn : L.length = n at *
  clear h3 hn
  go_enter Try.func56, Try.ntmps56
  go_wp2
  go_loopw [7, 8] (fun x y wr => ∃ k : Nat, k ≤ n ∧ y = .int .i64 k ∧ wr.ownsRow w.heap.size 86 3 x k (rv ((L.take k).map (putRow i m))) ∧ Below w.heap.size w wr) (fun _ y _ => n - (intOf y).toNat)
  case atStart => exact ⟨0, Nat.zero_le _, rfl, World.ownsRow_nil _ _ _ _, Below.refl _ _⟩
  case round =>
    obtain ⟨k, hk, rfl, hown, hbl⟩ := hrel
    by_cases hlt : k < n
    · obtain ⟨b, off, hA, hb, _, c0, c1, c2⟩ := H3.out k _ (hN.out k hlt)
      rw [← hbl.cell (p := ⟨b, _, none⟩) hb] at c0 c1 c2
      subst hA
      have hs : (L.take (k + 1)).map (putRow i m) = (L.take k).map (putRow i m) ++ [putRow i m (L[k]?.getD ⟨0, 0, 0⟩)] := by rw [take_snoc (hN.out k hlt), List.map_append]; rfl
      have HS := Lib.hid hs
      generalize (L[k]?.getD ⟨0, 0, 0⟩) = r at *
      generalize (L.take k).map (putRow i m) = M at *
      have lb : b < wr.heap.size := Nat.lt_of_lt_of_le hb hbl.size
      have hsz := hbl.size
      clear hs
      obtain ⟨ri, rq, rc⟩ := r
      simp only at c0 c1 c2
      have HP := Lib.hid (show putRow i m ⟨ri, rq, rc⟩ = if ri = i then ⟨ri, rq, clampR rq m⟩ else ⟨ri, rq, rc⟩ from rfl)
      by_cases hi : ri = i
      · have b1 : (ri == i) = true := by simpa using hi
        have HQ := Lib.hid (show clampR rq m = if m < -65536 then -65536 else if rq < m then rq else m from rfl)
        have e : putRow i m ⟨ri, rq, rc⟩ = ⟨ri, rq, clampR rq m⟩ := by rw [HP.out, if_pos hi]
        rw [e] at HS
        generalize clampR rq m = y at *
        clear e HP hi
        by_cases g1 : m < -65536 <;> by_cases g2 : rq < m
        · have hy : y = (-65536) := by rw [HQ.out, if_pos g1]
          rw [hy] at HS
          clear HQ hy
          go_wp2_with (at_builtin; refine wpList_append_own _ rfl (.tmp 36) (.tmp 38) 27 rfl w.heap.size 86 i0 _ 3 24 Try.underlying27 hi0 hz0 hz1 hz2 rfl (by decide) u7 k (rv M) rfl ((hown.alloc _).alloc _) ⟨wr.heap.size + 1, 0, none⟩ 1 1 [.int .i64 ri, .int .i64 rq, .int .i64 (-65536)] rfl rfl (news3 wr _ _ _ _) (by intro u hu; simp at hu; rcases hu with rfl | rfl | rfl <;> rfl) (by unfold maxLen; omega) (by omega) (by simp; omega) ?_; intro v' w1 hown' hgrow hnil)
          go_roundw
          case rel => exact ⟨k + 1, by omega, by go_num, by rw [HS.out, rv_snoc]; exact hown', below_grown ((hbl.alloc hsz _).alloc (by simp; omega) _) ((hown.alloc _).alloc _) hgrow (by simp; omega)⟩
          case measure => simp [intOf]; omega
        · have hy : y = (-65536) := by rw [HQ.out, if_pos g1]
          rw [hy] at HS
          clear HQ hy
          go_wp2_with (at_builtin; refine wpList_append_own _ rfl (.tmp 36) (.tmp 38) 27 rfl w.heap.size 86 i0 _ 3 24 Try.underlying27 hi0 hz0 hz1 hz2 rfl (by decide) u7 k (rv M) rfl ((hown.alloc _).alloc _) ⟨wr.heap.size + 1, 0, none⟩ 1 1 [.int .i64 ri, .int .i64 rq, .int .i64 (-65536)] rfl rfl (news3 wr _ _ _ _) (by intro u hu; simp at hu; rcases hu with rfl | rfl | rfl <;> rfl) (by unfold maxLen; omega) (by omega) (by simp; omega) ?_; intro v' w1 hown' hgrow hnil)
          go_roundw
          case rel => exact ⟨k + 1, by omega, by go_num, by rw [HS.out, rv_snoc]; exact hown', below_grown ((hbl.alloc hsz _).alloc (by simp; omega) _) ((hown.alloc _).alloc _) hgrow (by simp; omega)⟩
          case measure => simp [intOf]; omega
        · have hy : y = rq := by rw [HQ.out, if_neg g1, if_pos g2]
          rw [hy] at HS
          clear HQ hy
          go_wp2_with (at_builtin; refine wpList_append_own _ rfl (.tmp 36) (.tmp 38) 27 rfl w.heap.size 86 i0 _ 3 24 Try.underlying27 hi0 hz0 hz1 hz2 rfl (by decide) u7 k (rv M) rfl ((hown.alloc _).alloc _) ⟨wr.heap.size + 1, 0, none⟩ 1 1 [.int .i64 ri, .int .i64 rq, .int .i64 rq] rfl rfl (news3 wr _ _ _ _) (by intro u hu; simp at hu; rcases hu with rfl | rfl | rfl <;> rfl) (by unfold maxLen; omega) (by omega) (by simp; omega) ?_; intro v' w1 hown' hgrow hnil)
          go_roundw
          case rel => exact ⟨k + 1, by omega, by go_num, by rw [HS.out, rv_snoc]; exact hown', below_grown ((hbl.alloc hsz _).alloc (by simp; omega) _) ((hown.alloc _).alloc _) hgrow (by simp; omega)⟩
          case measure => simp [intOf]; omega
        · have hy : y = m := by rw [HQ.out, if_neg g1, if_neg g2]
          rw [hy] at HS
          clear HQ hy
          go_wp2_with (at_builtin; refine wpList_append_own _ rfl (.tmp 36) (.tmp 38) 27 rfl w.heap.size 86 i0 _ 3 24 Try.underlying27 hi0 hz0 hz1 hz2 rfl (by decide) u7 k (rv M) rfl ((hown.alloc _).alloc _) ⟨wr.heap.size + 1, 0, none⟩ 1 1 [.int .i64 ri, .int .i64 rq, .int .i64 m] rfl rfl (news3 wr _ _ _ _) (by intro u hu; simp at hu; rcases hu with rfl | rfl | rfl <;> rfl) (by unfold maxLen; omega) (by omega) (by simp; omega) ?_; intro v' w1 hown' hgrow hnil)
          go_roundw
          case rel => exact ⟨k + 1, by omega, by go_num, by rw [HS.out, rv_snoc]; exact hown', below_grown ((hbl.alloc hsz _).alloc (by simp; omega) _) ((hown.alloc _).alloc _) hgrow (by simp; omega)⟩
          case measure => simp [intOf]; omega
      · have b1 : (ri == i) = false := by simpa using hi
        have e : putRow i m ⟨ri, rq, rc⟩ = ⟨ri, rq, rc⟩ := by rw [HP.out, if_neg hi]
        rw [e] at HS
        clear e HP hi
        go_wp2_with (at_builtin; refine wpList_append_own _ rfl (.tmp 36) (.tmp 38) 27 rfl w.heap.size 86 i0 _ 3 24 Try.underlying27 hi0 hz0 hz1 hz2 rfl (by decide) u7 k (rv M) rfl ((hown.alloc _).alloc _) ⟨wr.heap.size + 1, 0, none⟩ 1 1 [.int .i64 ri, .int .i64 rq, .int .i64 rc] rfl rfl (news3 wr _ _ _ _) (by intro u hu; simp at hu; rcases hu with rfl | rfl | rfl <;> rfl) (by unfold maxLen; omega) (by omega) (by simp; omega) ?_; intro v' w1 hown' hgrow hnil)
        go_roundw
        case rel => exact ⟨k + 1, by omega, by go_num, by rw [HS.out, rv_snoc]; exact hown', below_grown ((hbl.alloc hsz _).alloc (by simp; omega) _) ((hown.alloc _).alloc _) hgrow (by simp; omega)⟩
        case measure => simp [intOf]; omega
    · obtain rfl : k = n := by omega
      rw [hT.out] at hown
      go_wp2
      go_ret
      exact ⟨_, rfl, hown, hbl⟩
end
end Go.Proofs.Ytcggpgjnjfjfnaa
