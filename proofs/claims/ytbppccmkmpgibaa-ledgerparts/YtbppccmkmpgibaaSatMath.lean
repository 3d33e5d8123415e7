/-
  Plain arithmetic of layer 1 (sat): clamping, and products and quotients that are clamped. No program.
-/
import Derived.Test.YtbppccmkmpgibaaBase
namespace Go.Proofs.Ytbppccmkmpgibaa

def hold (x : Int) : Int := if 1152921504606846976 < x then 1152921504606846976 else if x < -1152921504606846976 then -1152921504606846976 else x

theorem hold_bd (x : Int) : -1152921504606846976 ≤ hold x ∧ hold x ≤ 1152921504606846976 := by
  unfold hold
  repeat' split
  all_goals omega
theorem hold_in {x : Int} (h1 : -1152921504606846976 ≤ x) (h2 : x ≤ 1152921504606846976) : hold x = x := by
  unfold hold
  rw [if_neg (by omega), if_neg (by omega)]
theorem hold_up {x : Int} (h : 1152921504606846976 ≤ x) : hold x = 1152921504606846976 := by
  unfold hold
  repeat' split
  all_goals omega
theorem hold_down {x : Int} (h : x ≤ -1152921504606846976) : hold x = -1152921504606846976 := by
  unfold hold
  repeat' split
  all_goals omega
theorem hold_neg (x : Int) : hold (-x) = -hold x := by
  unfold hold
  repeat' split
  all_goals omega
theorem hold_mono {x y : Int} (h : x ≤ y) : hold x ≤ hold y := by
  unfold hold
  repeat' split
  all_goals omega

def satAdd (a b : Int) : Int := hold (hold a + hold b)
def satSub (a b : Int) : Int := hold (hold a - hold b)
def satMul (a b : Int) : Int := hold (hold a * hold b)
end Go.Proofs.Ytbppccmkmpgibaa
