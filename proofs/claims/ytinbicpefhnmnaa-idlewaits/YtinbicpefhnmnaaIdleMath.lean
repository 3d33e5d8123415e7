/-
  IdleWaits: for every class and all times the law on waiting returns true. No conditions.
-/
import Derived.Test.YtinbicpefhnmnaaIdleLaws
import Derived.Test.YtinbicpefhnmnaaInts
namespace Go.Proofs.Ytinbicpefhnmnaa
open Go.ChangeShapes Go.WideShapes Go.ChangeAt Go.RowKit Go.Joins Go.Deep
set_option linter.unusedVariables false

/-- Behind the first packet. -/
theorem first_sent {c : Cl} (hr : rightV c = 0) {x0 x1 x2 : Int} (h0 : 0 ≤ x0 ∧ x0 ≤ 1099511627776) (h1 : 0 ≤ x1 ∧ x1 ≤ 1099511627776) (h2 : 0 ≤ x2 ∧ x2 ≤ 1099511627776) :
    ∃ s : St, sentV c (newV c x0) x1 (x0 + x2) = s ∧ s.last = x0 + x2 ∧ c.minIdle ≤ s.avg ∧ s.avg ≤ c.maxIdle ∧ (0 ≤ s.avg → s.till = 0) ∧ (s.avg < 0 → 1 ≤ x1 ∧ s.till = x0 + x2 + x1 + awayV s.avg c.weight.toNat) := by
  have hz := right_zero hr
  refine ⟨_, rfl, ?_⟩
  unfold sentV newV
  rw [if_pos hr, if_pos hr]
  have e0 : hold x0 = x0 := hold_in (by omega) (by omega)
  have en : hold (x0 + x2) = x0 + x2 := hold_in (by omega) (by omega)
  have ei : idleV ⟨hold x0, c.maxIdle, 0⟩ x1 (x0 + x2) = x2 - x1 := by
    unfold idleV satSub
    simp only [e0, en]
    rw [hold_in (x := x0 + x2 - x0) (by omega) (by omega), hold_in (x := x0 + x2 - x0) (by omega) (by omega), hold_in (x := x1) (by omega) (by omega), hold_in (by omega) (by omega)]
    omega
  have ea : avgV c ⟨hold x0, c.maxIdle, 0⟩ x1 (x0 + x2) = clampV c (stepV c.maxIdle (x2 - x1) c.weight) := by
    unfold avgV
    rw [ei]
  rw [ea]
  have hb := clampV_in hr (stepV c.maxIdle (x2 - x1) c.weight)
  have hs := stepV_between c.maxIdle (x2 - x1) c.weight
  rw [hold_in (x := c.maxIdle) (by omega) (by omega), hold_in (x := x2 - x1) (by omega) (by omega)] at hs
  have hc : clampV c (stepV c.maxIdle (x2 - x1) c.weight) < 0 → stepV c.maxIdle (x2 - x1) c.weight < 0 := by
    unfold clampV
    omega
  generalize stepV c.maxIdle (x2 - x1) c.weight = B at *
  generalize clampV c B = A at *
  refine ⟨en, hb.1, hb.2, fun h => ?_, fun h => ⟨by have := hc h; omega, ?_⟩⟩
  · simp only at h ⊢
    unfold untilV
    rw [if_pos h]
  · simp only at h ⊢
    have hw := awayV_bd (avg := A) (k := c.weight.toNat) (by omega) (by omega) (by omega)
    unfold untilV
    rw [if_neg (by omega)]
    generalize awayV A c.weight.toNat = W at *
    unfold satAdd
    rw [hold_in (x := x1) (by omega) (by omega), hold_in (x := W) (by omega) (by omega), hold_in (x := x1 + W) (by omega) (by omega), hold_in (x := x1 + W) (by omega) (by omega), en, hold_in (by omega) (by omega)]
    omega

/-- Behind a packet that is sent d after a class may send again (or, d = -1, ahead of that). -/
theorem next_sent {c : Cl} (hr : rightV c = 0) {s : St} {x1 d : Int} (hl : 0 ≤ s.last ∧ s.last ≤ 2199023255552) (h1 : 1 ≤ x1 ∧ x1 ≤ 1099511627776) (hm : c.minIdle ≤ s.avg) (hn : s.avg < 0) (ht : s.till = s.last + x1 + awayV s.avg c.weight.toNat) (hd : -1 ≤ d ∧ d ≤ 1099511627776) :
    ∃ t : St, sentV c s x1 (s.till + d) = t ∧ t.last = s.till + d ∧ 0 ≤ t.last ∧ (0 ≤ d → 0 ≤ t.avg ∧ t.till = 0) ∧ (d = -1 → t.avg < 0 ∧ 0 < t.till) := by
  have hz := right_zero hr
  have hw := awayV_bd (avg := s.avg) (k := c.weight.toNat) (by omega) (by omega) (by omega)
  have hi := away_iff (avg := s.avg) (x := awayV s.avg c.weight.toNat + d) (k := c.weight.toNat) (by omega) (by omega) (by omega) (by omega) (by omega)
  rw [show ((c.weight.toNat : Nat) : Int) = c.weight by omega] at hi
  refine ⟨_, rfl, ?_⟩
  unfold sentV
  rw [if_pos hr]
  have en : hold (s.till + d) = s.till + d := hold_in (by omega) (by omega)
  have ei : idleV s x1 (s.till + d) = awayV s.avg c.weight.toNat + d := by
    unfold idleV satSub
    rw [en, hold_in (x := s.last) (by omega) (by omega), hold_in (x := s.till + d - s.last) (by omega) (by omega), hold_in (x := s.till + d - s.last) (by omega) (by omega), hold_in (x := x1) (by omega) (by omega), hold_in (by omega) (by omega)]
    omega
  have ea : avgV c s x1 (s.till + d) = clampV c (stepV s.avg (awayV s.avg c.weight.toNat + d) c.weight) := by
    unfold avgV
    rw [ei]
  rw [ea]
  have hb := clampV_in hr (stepV s.avg (awayV s.avg c.weight.toNat + d) c.weight)
  have hc : clampV c (stepV s.avg (awayV s.avg c.weight.toNat + d) c.weight) < 0 ↔ stepV s.avg (awayV s.avg c.weight.toNat + d) c.weight < 0 := by
    unfold clampV
    omega
  generalize stepV s.avg (awayV s.avg c.weight.toNat + d) c.weight = B at *
  generalize clampV c B = A at *
  refine ⟨en, by simp only [en]; omega, fun h => ⟨by simp only; omega, ?_⟩, fun h => ⟨by simp only; omega, ?_⟩⟩
  · simp only
    unfold untilV
    rw [if_pos (by omega)]
  · simp only
    have hA : A < 0 := by omega
    have hw' := awayV_bd (avg := A) (k := c.weight.toNat) (by omega) (by omega) (by omega)
    unfold untilV
    rw [if_neg (by omega)]
    generalize awayV A c.weight.toNat = W at *
    unfold satAdd
    rw [hold_in (x := x1) (by omega) (by omega), hold_in (x := W) (by omega) (by omega), hold_in (x := x1 + W) (by omega) (by omega), hold_in (x := x1 + W) (by omega) (by omega), en, hold_in (by omega) (by omega)]
    omega
end Go.Proofs.Ytinbicpefhnmnaa
