/-
  The reference's PutVar (layer 9).
-/
import Derived.Test.YtfeeaokeomcafaaRefPut
namespace Go.Proofs.Ytfeeaokeomcafaa
open Go.ChangeShapes Go.WideShapes Go.ChangeAt Go.RowKit Go.Deep
set_option linter.unusedVariables false

set_option maxHeartbeats 1000000 in
set_option maxRecDepth 100000 in
theorem refPutVar (n : Int) (hn : -9223372036854775808 ≤ n ∧ n ≤ 9223372036854775807) (w : World) :
    Calls Try.prog 27 #[.int .i64 n] w fun e w' => e = .returned (.string (S (varB (zz n)))) ∧ Touch [] w w' := by
  have hu := zz_lt n hn
  have e1 : Hid (n < 0 → (zz n : Int) = 2 * -(n + 1) + 1) := Lib.hid (fun h => by unfold zz; rw [if_neg (by omega)]; omega)
  have e2 : Hid (¬ n < 0 → (zz n : Int) = 2 * n) := Lib.hid (fun h => by unfold zz; rw [if_pos (by omega)]; omega)
  by_cases h : n < 0
  all_goals
    have HH := Lib.hid h
    generalize zz n = u at *
    go_enter Try.func27, Try.ntmps27
    go_wp2_with fail
    go_loopw [3, 4] (fun y x wr => ∃ (k : Nat) (m : List UInt8), m.length = k ∧ k ≤ 10 ∧ y = .int .u64 ((u / 128 ^ k : Nat) : Int) ∧ m ++ varB (u / 128 ^ k) = varB u ∧ x = .string (S m) ∧ Touch [] w wr) (fun y _ _ => (intOf y).toNat)
    case atStart => exact ⟨0, [], rfl, by omega, by first | (rw [← e1.out HH.out]; simp) | (rw [← e2.out HH.out]; simp), by simp, rfl, Touch.refl _ _⟩
    case round =>
      obtain ⟨k, m, hm, hk, rfl, hcat, rfl, ht⟩ := hrel
      have HT := Lib.hid ht
      by_cases hlt : u / 128 ^ k < 128
      · rw [varB_small hlt] at hcat
        have HC := Lib.hid hcat
        have hq : (((u / 128 ^ k : Nat) : Int)) = ((UInt8.ofNat (u / 128 ^ k)).toNat : Int) := by rw [u8_nat, Nat.mod_eq_of_lt (by omega)]
        have hcv : ∀ w : World, (convert 43 9 (.slice (some ⟨w.heap.size, 0, none⟩) 1 1)).run Try.prog (w.alloc (.cells #[.int .u8 ((u / 128 ^ k : Nat) : Int)] 5)) = .ok (.string (S [UInt8.ofNat (u / 128 ^ k)])) (w.alloc (.cells #[.int .u8 ((u / 128 ^ k : Nat) : Int)] 5)) := fun w => str_of (litStr _ _ hq w)
        have hadd : ∀ w, (Op.stringOp .add (S m) (S [UInt8.ofNat (u / 128 ^ k)])).run Try.prog w = .ok (.string (S (m ++ [UInt8.ofNat (u / 128 ^ k)]))) w := fun w => add_str _ _ (by simp; omega) w
        clear hcat hq ht
        generalize UInt8.ofNat (u / 128 ^ k) = x8 at *
        generalize u / 128 ^ k = q at *
        have q0 : (q : Int) < 128 := by omega
        go_wp2_with fail
        go_ret
        rw [← HC.out]
        exact ⟨rfl, HT.out.alloc _⟩
      · have hk8 := pow128 hu (Nat.le_of_not_lt hlt)
        rw [varB_large hlt] at hcat
        have hnx : u / 128 ^ (k + 1) = u / 128 ^ k / 128 := by rw [Nat.pow_succ, Nat.div_div_eq_div_mul]
        have HC := Lib.hid hcat
        have HN := Lib.hid hnx
        have hqu : u / 128 ^ k ≤ u := Nat.div_le_self _ _
        clear hcat hnx ht
        generalize u / 128 ^ k = q at *
        have hq : (q : Int) % 128 + 128 = ((UInt8.ofNat (q % 128 + 128)).toNat : Int) := by rw [u8_nat]; omega
        have f1 : IntKind.u64.wrap ((q : Int) / 128) = (q : Int) / 128 := by rw [IntKind.wrap_u64]; omega
        have hcv : ∀ w : World, (convert 43 9 (.slice (some ⟨w.heap.size, 0, none⟩) 1 1)).run Try.prog (w.alloc (.cells #[.int .u8 ((q : Int) % 128 + 128)] 5)) = .ok (.string (S [UInt8.ofNat (q % 128 + 128)])) (w.alloc (.cells #[.int .u8 ((q : Int) % 128 + 128)] 5)) := fun w => str_of (litStr _ _ hq w)
        have hadd : ∀ w, (Op.stringOp .add (S m) (S [UInt8.ofNat (q % 128 + 128)])).run Try.prog w = .ok (.string (S (m ++ [UInt8.ofNat (q % 128 + 128)]))) w := fun w => add_str _ _ (by simp; omega) w
        clear hq
        generalize UInt8.ofNat (q % 128 + 128) = x8 at *
        have q0 : ¬ ((q : Int) < 128) := by omega
        go_wp2_with fail
        go_roundw
        case rel => exact ⟨k + 1, m ++ [x8], by simp [hm], by omega, by rw [HN.out]; simp, by rw [HN.out, List.append_assoc]; exact HC.out, rfl, HT.out.alloc _⟩
        case measure => simp [intOf]; omega
end Go.Proofs.Ytfeeaokeomcafaa
