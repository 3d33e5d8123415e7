/-
  The reference of layer 34 (ledger): Reason.
-/
import Derived.Test.YtbppccmkmpgibaaLedger12
namespace Go.Proofs.Ytbppccmkmpgibaa
open Go.ChangeShapes Go.WideShapes Go.ChangeAt Go.RowKit Go.Deep Go.Maps
set_option linter.unusedVariables false
set_option linter.unusedSimpArgs false
/-- What was lost for the reason r. -/
def rsn (B : Bk) (r : Int) : Int := if 1 ≤ r ∧ r ≤ 5 then B (4 + r.toNat) else 0
theorem rsn_step (M : Int → Option Bk) (x : Nt) (id r : Int) : rsn (bookOf (stepM M x) id) r = if x.k = 2 ∧ x.i = id ∧ x.n = r ∧ cntd x then rsn (bookOf M id) r + 1 else rsn (bookOf M id) r := by
  rw [bookOf_step]
  by_cases hi : id = x.i
  · by_cases hc : cntd x
    · rw [if_pos ⟨hi, hc⟩]
      subst hi
      unfold noteB
      by_cases h0 : x.k = 0
      · rw [if_pos h0, if_neg (by omega)]
        unfold rsn tally
        split
        · rw [if_neg (by omega), if_neg (by omega)]
        · rfl
      · rw [if_neg h0]
        by_cases h1 : x.k = 1
        · rw [if_pos h1, if_neg (by omega)]
          unfold rsn tally
          split
          · rw [if_neg (by omega), if_neg (by omega)]
          · rfl
        · rw [if_neg h1]
          have h2 : x.k = 2 ∧ 1 ≤ x.n ∧ x.n ≤ 5 := by unfold cntd at hc; omega
          by_cases hn : x.n = r
          · rw [if_pos ⟨h2.1, rfl, hn, hc⟩]
            unfold rsn lostB
            rw [if_pos (by omega), if_pos (by omega), if_pos (by omega)]
            subst hn
            rfl
          · rw [if_neg (by omega)]
            unfold rsn lostB
            split
            · rw [if_neg (by omega)]
            · rfl
    · rw [if_neg (fun h => hc h.2), if_neg (fun h => hc h.2.2.2)]
  · rw [if_neg (fun h => hi h.1), if_neg (fun h => hi h.2.1.symm)]
section
variable {w w' : World}
set_option maxRecDepth 100000 in
set_option maxHeartbeats 6400000 in
theorem refReason_any {A : Option Addr} {m c : Nat} {X : Nat → Nt} (hX : NtCells w A m X) (hm : m ≤ 80) (id r : Int) :
    Calls Try.prog 10 #[.slice A m c, .int .i64 id, .int .i64 r] w fun e w' => e = .returned (.int .i64 (rsn (bookOf (playM X m) id) r)) ∧ Touch [] w w' := by
  have HX := Lib.hid hX
  clear hX
  go_enter Try.func10, Try.ntmps10
  go_wp2_with fail
  go_loopw [7, 8] (fun n v wr => ∃ k : Nat, k ≤ m ∧ v = .int .i64 (k : Int) ∧ n = .int .i64 (rsn (bookOf (playM X k) id) r) ∧ Touch [] w wr) (fun _ v _ => m - (intOf v).toNat)
  case atStart => exact ⟨0, by omega, rfl, by simp [rsn, playM, bookOf], Touch.refl _ _⟩
  case round =>
    obtain ⟨k, hk, rfl, rfl, ht⟩ := hrel
    have TR := Lib.hid ht
    have fB := few_play X k id
    by_cases hlt : k < m
    · obtain ⟨bA, off, rfl, hbA, c0, c1, c2⟩ := HX.out.new ht k hlt
      have lA : bA < wr.heap.size := hbA
      have hlt' : (k : Int) < (m : Int) := by omega
      have RC := Lib.hid (refCounts (X k))
      have es : rsn (bookOf (playM X (k + 1)) id) r = _ := rsn_step (playM X k) (X k) id r
      have ES := Lib.hid es
      have hb : 0 ≤ rsn (bookOf (playM X k) id) r ∧ rsn (bookOf (playM X k) id) r ≤ 200000 := by
        unfold rsn
        split
        · have := fB (4 + r.toNat) (by omega)
          omega
        · omega
      clear es ht fB
      generalize X k = x at *
      generalize rsn (bookOf (playM X k) id) r = R at *
      obtain ⟨a, i, n⟩ := x
      simp only at c0 c1 c2 RC
      by_cases h2 : a = 2
      · subst h2
        by_cases hi : i = id
        · subst hi
          by_cases hn : n = r
          · subst hn
            by_cases hc : cntd ⟨2, i, n⟩
            · have EN := Lib.hid (ES.out.trans (if_pos ⟨rfl, rfl, rfl, hc⟩))
              rw [show decide (cntd ⟨2, i, n⟩) = true by simpa using hc] at RC
              clear ES
              go_wp2_with fail
              refine (RC.out _).mono ?_
              rintro e w2 ⟨rfl, t2⟩
              have TW := Lib.hid (TR.out.trans t2 (by simp))
              clear t2 c0 c1 c2 TR
              go_wp2_with fail
              go_roundw
              case rel => exact ⟨k + 1, by omega, by go_num, by rw [EN.out], TW.out⟩
              case measure => simp [intOf]; omega
            · have EN := Lib.hid (ES.out.trans (if_neg (fun h => hc h.2.2.2)))
              rw [show decide (cntd ⟨2, i, n⟩) = false by simpa using hc] at RC
              clear ES
              go_wp2_with fail
              refine (RC.out _).mono ?_
              rintro e w2 ⟨rfl, t2⟩
              have TW := Lib.hid (TR.out.trans t2 (by simp))
              clear t2 c0 c1 c2 TR
              go_wp2_with fail
              go_roundw
              case rel => exact ⟨k + 1, by omega, by go_num, by rw [EN.out], TW.out⟩
              case measure => simp [intOf]; omega
          · have EN := Lib.hid (ES.out.trans (if_neg (fun h => hn h.2.2.1)))
            have b3 : (n == r) = false := by simpa using hn
            clear ES
            go_wp2_with fail
            go_roundw
            case rel => exact ⟨k + 1, by omega, by go_num, by rw [EN.out], TR.out⟩
            case measure => simp [intOf]; omega
        · have EN := Lib.hid (ES.out.trans (if_neg (fun h => hi h.2.1)))
          have b3 : (i == id) = false := by simpa using hi
          clear ES
          go_wp2_with fail
          go_roundw
          case rel => exact ⟨k + 1, by omega, by go_num, by rw [EN.out], TR.out⟩
          case measure => simp [intOf]; omega
      · have EN := Lib.hid (ES.out.trans (if_neg (fun h => h2 h.1)))
        have b3 : (a == 2) = false := by simpa using h2
        clear ES
        go_wp2_with fail
        go_roundw
        case rel => exact ⟨k + 1, by omega, by go_num, by rw [EN.out], TR.out⟩
        case measure => simp [intOf]; omega
    · obtain rfl : k = m := by omega
      have hlt' : ¬ (k : Int) < (k : Int) := by omega
      clear HX ht
      go_wp2_with fail
      go_ret
      exact ⟨rfl, TR.out⟩
end
end Go.Proofs.Ytbppccmkmpgibaa
