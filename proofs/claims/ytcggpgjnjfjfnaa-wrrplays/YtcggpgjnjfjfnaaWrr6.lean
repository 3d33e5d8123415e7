/-
  WrrNone: for every id, number and slice the law of the rings that aren't there returns true. No conditions.
-/
import Derived.Test.YtcggpgjnjfjfnaaWrr5
namespace Go.Proofs.Ytcggpgjnjfjfnaa
open Go.ChangeShapes Go.WideShapes Go.ChangeAt Go.RowKit Go.Deep Go.Joins Go.Maps
set_option linter.unusedVariables false
set_option linter.unusedSimpArgs false

set_option maxHeartbeats 4000000 in
set_option maxRecDepth 100000 in
theorem pickW_nil {w : World} {A : Option Addr} {n cap : Nat} {X : Nat → Int} (hX : IntCells w w.heap.size A n X) (hn : n ≤ maxLen) (hF : ∀ i, i < n → fit64 (X i)) :
    Calls Try.prog 16 #[.pointer none, .slice A n cap] w fun e w' => e = .returned (.tuple #[.int .i64 0, .bool false]) ∧ Touch [] w w' := by
  have hmm := @run_makeMap Try.prog
  have hn9 : n ≤ 9223372036854775807 := by unfold maxLen at hn; omega
  have M0 := Lib.hid (IMap.made (P := Try.prog) (k := 3) w)
  have HX := Lib.hid hX
  have HF := Lib.hid hF
  have T0 := Lib.hid ((Touch.refl [] w).alloc (.map #[] 0))
  clear hX hF
  go_enter Try.func16, Try.ntmps16
  go_wp2
  go_step3
  go_wp2
  go_loopw [8, 22] (fun y x wr => ∃ (k s1 : Nat), k ≤ n ∧ s1 ≤ k ∧ x = .int .i64 (k : Int) ∧ IMap Try.prog 3 wr w.heap.size s1 (wantM X k) ∧ Touch [] w wr) (fun _ x _ => n - (intOf x).toNat)
  case atStart => exact ⟨0, 0, Nat.zero_le _, Nat.le_refl _, rfl, M0.out.congr (fun i hi => rfl), T0.out⟩
  case round =>
    clear M0 T0
    obtain ⟨k, s1, hk, hs1, rfl, hM, hT⟩ := hrel
    have HMp := Lib.hid hM
    have HT := Lib.hid hT
    clear hM hT
    by_cases hlt : k < n
    · obtain ⟨b, off, hA, hb, hc⟩ := HX.out k hlt
      have hcell := (HT.out.cell (a := ⟨b, off + k, none⟩) hb (by simp)).trans hc
      have hlw : b < wr.heap.size := Nat.lt_of_lt_of_le hb HT.out.size
      subst hA
      have hi : i64k (X k) := i64k_of (HF.out k hlt)
      clear hc hb
      have hlt' : (k : Int) < (n : Int) := by omega
      obtain ⟨w3, hrun, hM3, t3⟩ := HMp.out.store Try.underlying3 Try.underlying81 (by omega) hi (.agg #[])
      rw [wantM_succ] at hM3
      have HM3 := Lib.hid hM3
      have HT3 := Lib.hid (HT.out.trans t3 (fun b hb => by simp at hb; subst hb; exact .inr (Nat.le_refl _)))
      clear hM3 t3
      go_wp2
      go_roundw
      case rel => exact ⟨k + 1, (if (wantM X k (X k)).isSome = true then s1 else s1 + 1), by omega, by (split <;> omega), by go_num, HM3.out, HT3.out⟩
      case measure => simp [intOf]; omega
    · obtain rfl : k = n := by omega
      go_wp2
      go_step3
      go_wp2
      go_loopw [30] (fun x wr => ∃ j : Nat, j ≤ 8 ∧ x = .int .i64 (j : Int) ∧ Touch [] w wr) (fun x _ => 8 - (intOf x).toNat)
      case atStart => exact ⟨0, Nat.zero_le _, rfl, HT.out⟩
      case round =>
        clear HMp HT
        obtain ⟨j, hj, rfl, hT⟩ := hrel
        have HT := Lib.hid hT
        clear hT
        by_cases hlt : j < 8
        · have hj8 : (j : Int) < 8 := by omega
          have RW := Lib.hid (ringW_nil (j : Int) wr)
          have LN := Lib.hid (ringLen_nil wr)
          go_wp2_with fail
          go_step3
          go_wp2_with fail
          refine (RW.out).mono ?_
          rintro e w4 ⟨rfl, hw⟩
          subst hw
          go_wp2_with fail
          go_step3
          go_wp2_with fail
          go_loopw [11, 12] (fun v x wr => x = .int .i64 0 ∧ v = .bool false ∧ wr = w4) (fun _ _ _ => 0)
          case atStart => exact ⟨rfl, rfl, rfl⟩
          case round =>
            obtain ⟨rfl, rfl, hw⟩ := hrel
            subst hw
            go_wp2_with fail
            refine (LN.out).mono ?_
            rintro e w5 ⟨rfl, hw⟩
            subst hw
            go_wp2_with fail
            rw [Exit.noGoto_exit]
            go_wp2_with fail
            go_roundw
            case rel => exact ⟨j + 1, by omega, by go_num, HT.out⟩
            case measure => simp [intOf]; go_num
        · obtain rfl : j = 8 := by omega
          go_wp2_with fail
          try rw [Exit.noGoto_ret]
          show bodyPost _ _ _ Exit.ret _ _
          refine bodyPost_ret (v := .tuple #[.int .i64 0, .bool false]) (by simp [results, Try.results16, go_sem]) rfl ?_
          exact ⟨rfl, HT.out⟩
theorem copyW_nil (w : World) : Calls Try.prog 21 #[.pointer none] w fun e w' => e = .returned (.pointer none) ∧ w' = w := by
  go_enter Try.func21, Try.ntmps21
  go_wp2
  go_ret
  exact ⟨rfl, rfl⟩
end Go.Proofs.Ytcggpgjnjfjfnaa
