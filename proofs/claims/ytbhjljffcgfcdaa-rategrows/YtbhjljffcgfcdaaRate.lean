/-
  Contracts of layer 4 (rate) and of its reference: Cells, Exact, exactTimes.
-/
import Derived.Test.YtbhjljffcgfcdaaRateMath
import Derived.Test.YtbhjljffcgfcdaaBox
import Derived.Test.YtbhjljffcgfcdaaCls
import Derived.OwnWalk
import Derived.Deep.DeepCutAuto
namespace Go.Proofs.Ytbhjljffcgfcdaa
open Go.ChangeShapes Go.WideShapes Go.ChangeAt Go.RowKit Go.Deep
set_option linter.unusedVariables false

theorem cells_any (n : Int) (w : World) : Calls Try.prog 22 #[.int .i64 n] w fun e w' => e = .returned (.int .i64 (cellsV n)) ∧ w = w' := by
  rcases (show n < 1 ∨ (1 ≤ n ∧ n ≤ 2048) ∨ 2048 < n by omega) with g | g | g
  all_goals
    go_enter Try.func22, Try.ntmps22
    go_wp2
    go_ret
    exact ⟨ret_int (by unfold cellsV; repeat' split; all_goals omega), rfl⟩

theorem refCells_any (n : Int) (w : World) (hn : -9223372036854775808 ≤ n ∧ n ≤ 9223372036854775807) : Calls Try.prog 23 #[.int .i64 n] w fun e w' => e = .returned (.int .i64 (cellsV n)) ∧ w = w' := by
  have hc := cellsV_in n
  have HC := Lib.hid (show cellsV n = if n < 1 then 0 else if 2048 < n then 256 else (n + 7) / 8 from rfl)
  have H1 := Lib.hid (fun k : Int => show 0 ≤ k → k < cellsV n → k < 256 ∧ 8 * k < n by unfold cellsV; intro _ _; split at * <;> (try split at *) <;> omega)
  have H2 := Lib.hid (show ¬ (cellsV n < 256 ∧ 8 * cellsV n < n) by unfold cellsV; split <;> (try split) <;> omega)
  generalize cellsV n = C at *
  go_enter Try.func23, Try.ntmps23
  go_wp2
  go_loop [3] (fun i => ∃ k : Int, 0 ≤ k ∧ k ≤ C ∧ i = .int .i64 k) (fun i => (C - intOf i).toNat)
  case atStart => exact ⟨0, by omega, by omega, rfl⟩
  case round =>
    obtain ⟨k, k0, kC, rfl⟩ := hrel
    by_cases hlt : k < C
    · obtain ⟨a, b⟩ := H1.out k k0 hlt
      have b1 : decide (k < 256) = true := by simp; omega
      have b2 : decide (8 * k < n) = true := by simp; omega
      go_wp2
      go_round
      case rel => exact ⟨k + 1, by omega, by omega, by go_num⟩
      case measure => simp [intOf]; omega
    · obtain rfl : k = C := by omega
      have h2 := H2.out
      by_cases h3 : k < 256
      · have b1 : decide (k < 256) = true := by simp; omega
        have b2 : decide (8 * k < n) = false := by simp; omega
        clear h2 HC H1 H2
        go_wp2
        go_ret
        exact ⟨rfl, rfl⟩
      · have b1 : decide (k < 256) = false := by simp; omega
        clear h2 HC H1 H2
        go_wp2
        go_ret
        exact ⟨rfl, rfl⟩

theorem defined_yes {tpb units : Int} (w : World) (h : okRate tpb units) : Calls Try.prog 47 #[.int .i64 tpb, .int .i64 units] w fun e w' => e = .returned (.bool true) ∧ w = w' := by
  unfold okRate at h
  go_enter Try.func47, Try.ntmps47
  go_wp2
  go_ret
  exact ⟨rfl, rfl⟩
theorem defined_no {tpb units : Int} (w : World) (h : ¬ okRate tpb units) : Calls Try.prog 47 #[.int .i64 tpb, .int .i64 units] w fun e w' => e = .returned (.bool false) ∧ w = w' := by
  unfold okRate at h
  rcases (show tpb < 1 ∨ (1 ≤ tpb ∧ 1048576 < tpb) ∨ (1 ≤ tpb ∧ tpb ≤ 1048576 ∧ units < 1) ∨ (1 ≤ tpb ∧ tpb ≤ 1048576 ∧ 1 ≤ units ∧ 1048576 < units) by omega) with g | g | g | g
  all_goals
    clear h
    have e1 : decide (units ≤ 1048576) = decide (units ≤ 1048576) := rfl
    go_enter Try.func47, Try.ntmps47
    go_wp2
    go_ret
    exact ⟨ret_bool (by first | rfl | (simp; omega)), rfl⟩
theorem right4_yes {tpb units : Int} (w : World) (h : okRate tpb units) : Calls Try.prog 26 #[.int .i64 tpb, .int .i64 units] w fun e w' => e = .returned (.bool true) ∧ w = w' := by
  unfold okRate at h
  go_enter Try.func26, Try.ntmps26
  go_wp2
  go_ret
  exact ⟨rfl, rfl⟩
theorem right4_no {tpb units : Int} (w : World) (h : ¬ okRate tpb units) : Calls Try.prog 26 #[.int .i64 tpb, .int .i64 units] w fun e w' => e = .returned (.bool false) ∧ w = w' := by
  unfold okRate at h
  rcases (show tpb < 1 ∨ (1 ≤ tpb ∧ 1048576 < tpb) ∨ (1 ≤ tpb ∧ tpb ≤ 1048576 ∧ units < 1) ∨ (1 ≤ tpb ∧ tpb ≤ 1048576 ∧ 1 ≤ units ∧ 1048576 < units) by omega) with g | g | g | g
  all_goals
    clear h
    go_enter Try.func26, Try.ntmps26
    go_wp2
    go_ret
    exact ⟨ret_bool (by first | rfl | (simp; omega)), rfl⟩

theorem exact_yes {tpb units : Int} (n : Int) (w : World) (h : okRate tpb units) :
    Calls Try.prog 24 #[.int .i64 tpb, .int .i64 units, .int .i64 n] w fun e w' => e = .returned (.int .i64 (timeV tpb units (cellsV n))) ∧ Below w.heap.size w w' := by
  have hc := cellsV_in n
  have ha := arg_in h hc
  have D1 := Lib.hid (fun w => defined_yes w h)
  have D2 := Lib.hid (fun w => up_any (8 * cellsV n * tpb) 1048576 units w)
  rw [show timeV tpb units (cellsV n) = upV (8 * cellsV n * tpb) 1048576 units from rfl]
  generalize upV (8 * cellsV n * tpb) 1048576 units = r at *
  have C := Lib.hid (fun w => cells_any n w)
  generalize cellsV n = c at *
  have e1 : wrap64 (8 * c * tpb) = 8 * c * tpb := by unfold wrap64; omega
  go_enter Try.func24, Try.ntmps24
  go_wp2_with fail
  refine (D1.out _).mono ?_
  rintro e w' ⟨rfl, rfl⟩
  go_wp2_with fail
  refine (C.out _).mono ?_
  rintro e w' ⟨rfl, rfl⟩
  go_wp2_with fail
  refine (D2.out _).mono ?_
  rintro e w1 ⟨rfl, hb⟩
  go_wp2_with fail
  go_ret
  exact ⟨rfl, hb⟩
theorem exact_no {tpb units : Int} (n : Int) (w : World) (h : ¬ okRate tpb units) :
    Calls Try.prog 24 #[.int .i64 tpb, .int .i64 units, .int .i64 n] w fun e w' => e = .returned (.int .i64 0) ∧ Below w.heap.size w w' := by
  have D1 := Lib.hid (fun w => defined_no w h)
  clear h
  go_enter Try.func24, Try.ntmps24
  go_wp2_with fail
  refine (D1.out _).mono ?_
  rintro e w' ⟨rfl, rfl⟩
  go_wp2_with fail
  go_ret
  exact ⟨rfl, Below.refl _ _⟩
theorem refExact_yes {tpb units : Int} (n : Int) (w : World) (h : okRate tpb units) (hn : -9223372036854775808 ≤ n ∧ n ≤ 9223372036854775807) :
    Calls Try.prog 25 #[.int .i64 tpb, .int .i64 units, .int .i64 n] w fun e w' => e = .returned (.int .i64 (timeV tpb units (cellsV n))) ∧ w = w' := by
  have hc := cellsV_in n
  have ha := arg_in h hc
  have D1 := Lib.hid (fun w => right4_yes w h)
  have D2 := Lib.hid (fun w => refUp_any (8 * cellsV n * tpb) 1048576 units w)
  rw [show timeV tpb units (cellsV n) = upV (8 * cellsV n * tpb) 1048576 units from rfl]
  generalize upV (8 * cellsV n * tpb) 1048576 units = r at *
  have C := Lib.hid (fun w => refCells_any n w hn)
  generalize cellsV n = c at *
  have e1 : wrap64 (8 * c * tpb) = 8 * c * tpb := by unfold wrap64; omega
  go_enter Try.func25, Try.ntmps25
  go_wp2_with fail
  refine (D1.out _).mono ?_
  rintro e w' ⟨rfl, rfl⟩
  go_wp2_with fail
  refine (C.out _).mono ?_
  rintro e w' ⟨rfl, rfl⟩
  go_wp2_with fail
  refine (D2.out _).mono ?_
  rintro e w1 ⟨rfl, rfl⟩
  go_wp2_with fail
  go_ret
  exact ⟨rfl, rfl⟩
theorem refExact_no {tpb units : Int} (n : Int) (w : World) (h : ¬ okRate tpb units) :
    Calls Try.prog 25 #[.int .i64 tpb, .int .i64 units, .int .i64 n] w fun e w' => e = .returned (.int .i64 0) ∧ w = w' := by
  have D1 := Lib.hid (fun w => right4_no w h)
  clear h
  go_enter Try.func25, Try.ntmps25
  go_wp2_with fail
  refine (D1.out _).mono ?_
  rintro e w' ⟨rfl, rfl⟩
  go_wp2_with fail
  go_ret
  exact ⟨rfl, rfl⟩

theorem int_info : (Try.prog.info? 3).map (fun i => (i.zero, i.size, i.bytes)) = some (some (.int .i64 0), 1, 8) := by kernel_rfl
theorem cells8 (k : Nat) (h : k ≤ 256) : cellsV ((k : Int) * 8) = k := by
  unfold cellsV
  repeat' split
  all_goals omega
/-- Behind an append of one element to what the call owns, old memory is as it was. -/
theorem below_push' {B n size : Nat} {w wr w1 : World} {e : TypeId} {v : Value} {xs : List Value} {o : Obj} (hbl : Below B w wr) (hown : wr.ownsRow B e size v n xs) (hgrow : (wr.alloc o).grownBy w1 v.ownBlock) (hB : B ≤ wr.heap.size) : Below B w w1 := by
  refine (hbl.alloc hB _).grown hgrow (by simp; omega) ?_
  intro j hj
  rcases hown.2 with ⟨rfl, _⟩ | ⟨g, cap, cur, rfl, hg, _⟩
  · simp [Value.ownBlock] at hj
  · simp [Value.ownBlock] at hj
    omega
def TimesPost (tpb units : Int) (w : World) (e : Ending) (w' : World) : Prop := ∃ v, e = .returned v ∧ w'.ownsRow w.heap.size 3 1 v 257 (iv (fun j => timeV tpb units j) 257) ∧ Below w.heap.size w w'

set_option maxHeartbeats 1000000 in
theorem exactTimes_any {tpb units : Int} (w : World) (h : okRate tpb units) :
    Calls Try.prog 48 #[.int .i64 tpb, .int .i64 units] w (TimesPost tpb units w) := by
  obtain ⟨i0, hi0, hz0, hz1, hz2⟩ := info_parts int_info
  have E := Lib.hid (fun n w => exact_yes n w h)
  obtain ⟨N, hN⟩ : ∃ N : Nat, N = 257 := ⟨_, rfl⟩
  have n1 : (N : Int) ≤ 257 := by omega
  have n2 : 257 ≤ (N : Int) := by omega
  have HN := Lib.hid hN
  unfold TimesPost
  rw [← hN]
  clear hN
  go_enter Try.func48, Try.ntmps48
  go_wp2
  go_loopw [5, 7] (fun v i wr => ∃ k : Nat, k ≤ N ∧ i = .int .i64 k ∧ wr.ownsRow w.heap.size 3 1 v k (iv (fun j => timeV tpb units j) k) ∧ Below w.heap.size w wr) (fun _ i _ => N - (intOf i).toNat)
  case atStart => exact ⟨0, Nat.zero_le _, rfl, World.ownsRow_nil _ _ _ _, Below.refl _ _⟩
  case round =>
    obtain ⟨k, hk, rfl, hown, hbl⟩ := hrel
    by_cases hlt : k < N
    · have hk2 : (k : Int) ≤ 256 := by omega
      have HF := Lib.hid (iv_next' (fun j => timeV tpb units j) k)
      have C8 := Lib.hid (cells8 k (by omega))
      have b1 : decide ((k : Int) < 257) = true := by simp; omega
      generalize iv (fun j => timeV tpb units j) k = L at *
      clear n1 n2
      go_wp2_with fail
      refine (E.out _ _).mono ?_
      rw [C8.out]
      rintro e w1 ⟨rfl, hb1⟩
      have hsz := hbl.size
      have hbl1 := hbl.trans (hb1.mono hsz)
      have hown1 := own_of_block (w' := w1) hown (fun g hg => hb1.block g (own_lt hown hg))
      have hsz1 := hbl1.size
      clear hbl hown hb1 hsz
      go_wp2_with (at_builtin; refine wpList_append_own _ rfl (.tmp 10) (.tmp 16) 23 rfl w.heap.size 3 i0 (.int .i64 0) 1 8 Try.underlying23 hi0 hz0 hz1 hz2 rfl (by decide) u5 k L rfl (hown1.alloc _) ⟨w1.heap.size, 0, none⟩ 1 1 [.int .i64 (timeV tpb units k)] rfl rfl (cell_one_new _ _ _) (by intro u hu; simp at hu; subst hu; rfl) (by unfold maxLen; omega) (by omega) (by simp; omega) ?_; intro v' w2 hown' hgrow hnil)
      go_roundw
      case rel => exact ⟨k + 1, by omega, by go_num, by rw [HF.out]; exact hown', below_push' hbl1 hown1 hgrow hsz1⟩
      case measure => simp [intOf]; omega
    · obtain rfl : k = N := by omega
      have b1 : decide ((k : Int) < 257) = false := by simp; omega
      clear n1 n2
      go_wp2
      go_ret
      exact ⟨_, rfl, hown, hbl⟩
end Go.Proofs.Ytbhjljffcgfcdaa
