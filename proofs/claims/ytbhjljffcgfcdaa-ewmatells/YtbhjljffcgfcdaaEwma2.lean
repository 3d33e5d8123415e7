/-
  Contracts of layer 2 (ewma) and of its reference: steps again and again, Away, and the law's own example.
-/
import Derived.Test.YtbhjljffcgfcdaaEwma
namespace Go.Proofs.Ytbhjljffcgfcdaa
open Go.ChangeShapes Go.WideShapes Go.ChangeAt Go.RowKit
set_option linter.unusedVariables false

theorem refStep_any (avg x w : Int) (wd : World) :
    Calls Try.prog 14 #[.int .i64 avg, .int .i64 x, .int .i64 w] wd fun e w' => e = .returned (.int .i64 (stepV avg x w)) ∧ wd = w' := by
  have hb : -1152921504606846976 ≤ satSub x avg ∧ satSub x avg ≤ 1152921504606846976 := hold_bd _
  by_cases h : 0 ≤ w ∧ w ≤ 16
  · rw [stepV_yes h]
    go_enter Try.func14, Try.ntmps14
    go_wp2_with fail
    refine (refSub_any _ _ _).mono ?_
    rintro e w' ⟨rfl, rfl⟩
    go_wp2_with fail
    refine (refFloor_any _ _ _ (by omega)).mono ?_
    rintro e w' ⟨rfl, rfl⟩
    go_wp2_with fail
    refine (refAdd_any _ _ _).mono ?_
    rintro e w' ⟨rfl, rfl⟩
    go_wp2_with fail
    go_ret
    exact ⟨rfl, rfl⟩
  · rw [stepV_no h]
    by_cases h1 : w < 0
    all_goals
      go_enter Try.func14, Try.ntmps14
      go_wp2_with fail
      refine (refHold_any _ _).mono ?_
      rintro e w' ⟨rfl, rfl⟩
      go_wp2_with fail
      go_ret
      exact ⟨rfl, rfl⟩

/-- How often Rest steps. -/
def times (n : Int) : Nat := (min n 1000).toNat
theorem times_up {n : Int} (h : 1000 < n) : times n = 1000 := by unfold times; omega
theorem times_in {n : Int} (h : 0 ≤ n) (h' : n ≤ 1000) : (times n : Int) = n := by unfold times; omega
theorem times_down {n : Int} (h : n ≤ 0) : times n = 0 := by unfold times; omega

theorem rest_any (avg x w n : Int) (wd : World) :
    Calls Try.prog 15 #[.int .i64 avg, .int .i64 x, .int .i64 w, .int .i64 n] wd fun e w' => e = .returned (.int .i64 (restV avg x w (times n))) ∧ wd = w' := by
  by_cases h1 : 1000 < n
  · rw [times_up h1]
    obtain ⟨T, hT⟩ : ∃ T : Nat, T = 1000 := ⟨_, rfl⟩
    rw [← hT]
    have t1 : (T : Int) ≤ 1000 := by omega
    have t2 : 1000 ≤ (T : Int) := by omega
    clear hT
    go_enter Try.func15, Try.ntmps15
    go_wp2
    go_loop [0, 11] (fun v i => ∃ k : Nat, k ≤ T ∧ i = .int .i64 k ∧ v = .int .i64 (restV avg x w k)) (fun _ i => T - (intOf i).toNat)
    case atStart => exact ⟨0, Nat.zero_le _, rfl, rfl⟩
    case round =>
      obtain ⟨k, hk, rfl, rfl⟩ := hrel
      by_cases hlt : k < T
      · have HS := Lib.hid (show restV avg x w (k + 1) = stepV (restV avg x w k) x w from rfl)
        generalize restV avg x w k = v at *
        have b' : decide ((k : Int) < 1000) = true := by simp; omega
        go_wp2_with (go_at_call 13; refine (step_any _ _ _ _).mono ?_; rintro e w' ⟨rfl, rfl⟩)
        go_round
        case rel => exact ⟨k + 1, by omega, by go_num, by rw [HS.out]⟩
        case measure => simp [intOf]; omega
      · obtain rfl : k = T := by omega
        have b0 : decide ((k : Int) < n) = true := by simp; omega
        have b : decide ((k : Int) < 1000) = false := by simp; omega
        clear t1 t2 h1
        go_wp2
        all_goals
          go_ret
          exact ⟨rfl, rfl⟩
  · by_cases h2 : n ≤ 0
    · rw [times_down h2]
      go_enter Try.func15, Try.ntmps15
      go_wp2
      go_loop [0, 11] (fun v i => i = .int .i64 0 ∧ v = .int .i64 avg) (fun _ i => 0)
      case atStart => exact ⟨rfl, rfl⟩
      case round =>
        obtain ⟨rfl, rfl⟩ := hrel
        have b : decide (0 < n) = false := by simp; omega
        go_wp2
        go_ret
        exact ⟨rfl, rfl⟩
    · have hn := times_in (n := n) (by omega) (by omega)
      generalize times n = T at *
      subst hn
      go_enter Try.func15, Try.ntmps15
      go_wp2
      go_loop [0, 11] (fun v i => ∃ k : Nat, k ≤ T ∧ i = .int .i64 k ∧ v = .int .i64 (restV avg x w k)) (fun _ i => T - (intOf i).toNat)
      case atStart => exact ⟨0, Nat.zero_le _, rfl, rfl⟩
      case round =>
        obtain ⟨k, hk, rfl, rfl⟩ := hrel
        by_cases hlt : k < T
        · have HS := Lib.hid (show restV avg x w (k + 1) = stepV (restV avg x w k) x w from rfl)
          generalize restV avg x w k = v at *
          go_wp2_with (go_at_call 13; refine (step_any _ _ _ _).mono ?_; rintro e w' ⟨rfl, rfl⟩)
          go_round
          case rel => exact ⟨k + 1, by omega, by go_num, by rw [HS.out]⟩
          case measure => simp [intOf]; omega
        · obtain rfl : k = T := by omega
          go_wp2
          go_ret
          exact ⟨rfl, rfl⟩

theorem refRest_any (avg x w n : Int) (wd : World) :
    Calls Try.prog 16 #[.int .i64 avg, .int .i64 x, .int .i64 w, .int .i64 n] wd fun e w' => e = .returned (.int .i64 (restV avg x w (times n))) ∧ wd = w' := by
  by_cases h1 : 1000 < n
  · rw [times_up h1]
    obtain ⟨T, hT⟩ : ∃ T : Nat, T = 1000 := ⟨_, rfl⟩
    rw [← hT]
    have t1 : (T : Int) ≤ 1000 := by omega
    have t2 : 1000 ≤ (T : Int) := by omega
    clear hT
    go_enter Try.func16, Try.ntmps16
    go_wp2
    go_loop [0, 9] (fun v i => ∃ k : Nat, k ≤ T ∧ i = .int .i64 k ∧ v = .int .i64 (restV avg x w k)) (fun _ i => T - (intOf i).toNat)
    case atStart => exact ⟨0, Nat.zero_le _, rfl, rfl⟩
    case round =>
      obtain ⟨k, hk, rfl, rfl⟩ := hrel
      by_cases hlt : k < T
      · have HS := Lib.hid (show restV avg x w (k + 1) = stepV (restV avg x w k) x w from rfl)
        generalize restV avg x w k = v at *
        have b : decide ((k : Int) < n) = true := by simp; omega
        have b' : decide ((k : Int) < 1000) = true := by simp; omega
        go_wp2_with (go_at_call 14; refine (refStep_any _ _ _ _).mono ?_; rintro e w' ⟨rfl, rfl⟩)
        go_round
        case rel => exact ⟨k + 1, by omega, by go_num, by rw [HS.out]⟩
        case measure => simp [intOf]; omega
      · obtain rfl : k = T := by omega
        have b0 : decide ((k : Int) < n) = true := by simp; omega
        have b : decide ((k : Int) < 1000) = false := by simp; omega
        clear t1 t2 h1
        go_wp2
        all_goals
          go_ret
          exact ⟨rfl, rfl⟩
  · by_cases h2 : n ≤ 0
    · rw [times_down h2]
      go_enter Try.func16, Try.ntmps16
      go_wp2
      go_loop [0, 9] (fun v i => i = .int .i64 0 ∧ v = .int .i64 avg) (fun _ i => 0)
      case atStart => exact ⟨rfl, rfl⟩
      case round =>
        obtain ⟨rfl, rfl⟩ := hrel
        have b : decide (0 < n) = false := by simp; omega
        go_wp2
        go_ret
        exact ⟨rfl, rfl⟩
    · have hn := times_in (n := n) (by omega) (by omega)
      generalize times n = T at *
      subst hn
      go_enter Try.func16, Try.ntmps16
      go_wp2
      go_loop [0, 9] (fun v i => ∃ k : Nat, k ≤ T ∧ i = .int .i64 k ∧ v = .int .i64 (restV avg x w k)) (fun _ i => T - (intOf i).toNat)
      case atStart => exact ⟨0, Nat.zero_le _, rfl, rfl⟩
      case round =>
        obtain ⟨k, hk, rfl, rfl⟩ := hrel
        by_cases hlt : k < T
        · have HS := Lib.hid (show restV avg x w (k + 1) = stepV (restV avg x w k) x w from rfl)
          generalize restV avg x w k = v at *
          have b : decide ((k : Int) < 1000) = true := by simp; omega
          go_wp2_with (go_at_call 14; refine (refStep_any _ _ _ _).mono ?_; rintro e w' ⟨rfl, rfl⟩)
          go_round
          case rel => exact ⟨k + 1, by omega, by go_num, by rw [HS.out]⟩
          case measure => simp [intOf]; omega
        · obtain rfl : k = T := by omega
          go_wp2
          go_ret
          exact ⟨rfl, rfl⟩

theorem run_any (avg w : Int) (A : Option Addr) (n c : Nat) (X : Nat → Int) (wd : World) (hn : n ≤ 1000) (hX : IntCells wd wd.heap.size A n X) :
    Calls Try.prog 17 #[.int .i64 avg, .int .i64 w, .slice A n c] wd fun e w' => e = .returned (.int .i64 (runV avg w X n)) ∧ wd = w' := by
  go_enter Try.func17, Try.ntmps17
  go_wp2
  go_loop [0, 11] (fun v i => ∃ k : Nat, k ≤ n ∧ i = .int .i64 k ∧ v = .int .i64 (runV avg w X k)) (fun _ i => n - (intOf i).toNat)
  case atStart => exact ⟨0, Nat.zero_le _, rfl, rfl⟩
  case round =>
    obtain ⟨k, hk, rfl, rfl⟩ := hrel
    by_cases hlt : k < n
    · obtain ⟨b, off, hA, hbB, hc⟩ := hX k hlt
      subst hA
      have HS := Lib.hid (show runV avg w X (k + 1) = stepV (runV avg w X k) (X k) w from rfl)
      generalize runV avg w X k = v at *
      clear hX
      go_wp2_with (go_at_call 13; refine (step_any _ _ _ _).mono ?_; rintro e w' ⟨rfl, rfl⟩)
      go_round
      case rel => exact ⟨k + 1, by omega, by go_num, by rw [HS.out]⟩
      case measure => simp [intOf]; omega
    · obtain rfl : k = n := by omega
      go_wp2
      go_ret
      exact ⟨rfl, rfl⟩

theorem refRun_any (avg w : Int) (A : Option Addr) (n c : Nat) (X : Nat → Int) (wd : World) (hn : n ≤ 1000) (hX : IntCells wd wd.heap.size A n X) :
    Calls Try.prog 18 #[.int .i64 avg, .int .i64 w, .slice A n c] wd fun e w' => e = .returned (.int .i64 (runV avg w X n)) ∧ wd = w' := by
  go_enter Try.func18, Try.ntmps18
  go_wp2
  go_loop [0, 7] (fun v i => ∃ k : Nat, k ≤ n ∧ i = .int .i64 k ∧ v = .int .i64 (runV avg w X k)) (fun _ i => n - (intOf i).toNat)
  case atStart => exact ⟨0, Nat.zero_le _, rfl, rfl⟩
  case round =>
    obtain ⟨k, hk, rfl, rfl⟩ := hrel
    by_cases hlt : k < n
    · obtain ⟨b, off, hA, hbB, hc⟩ := hX k hlt
      subst hA
      have HS := Lib.hid (show runV avg w X (k + 1) = stepV (runV avg w X k) (X k) w from rfl)
      generalize runV avg w X k = v at *
      clear hX
      go_wp2_with (go_at_call 14; refine (refStep_any _ _ _ _).mono ?_; rintro e w' ⟨rfl, rfl⟩)
      go_round
      case rel => exact ⟨k + 1, by omega, by go_num, by rw [HS.out]⟩
      case measure => simp [intOf]; omega
    · obtain rfl : k = n := by omega
      go_wp2
      go_ret
      exact ⟨rfl, rfl⟩
end Go.Proofs.Ytbhjljffcgfcdaa
