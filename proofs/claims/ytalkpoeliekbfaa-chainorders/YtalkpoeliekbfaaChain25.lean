/-
  Layer 7 (chain): ChainOrders' two lists, by what it is given (mathematics only).
-/
import Derived.Test.YtalkpoeliekbfaaChain24
namespace Go.Proofs.Ytalkpoeliekbfaa
set_option linter.unusedVariables false
set_option linter.unusedSimpArgs false
/-- The indices below k that are told so. -/
def pick (f : Nat → Bool) (k : Nat) : List Nat := (List.range k).filter f
theorem pick_succ (f : Nat → Bool) (k : Nat) : pick f (k + 1) = if f k = true then pick f k ++ [k] else pick f k := by
  unfold pick
  rw [List.range_succ, List.filter_append]
  by_cases h : f k = true
  · simp [h]
  · simp [h]
theorem pick_lt {f : Nat → Bool} {k x : Nat} (h : x ∈ pick f k) : x < k := by
  unfold pick at h
  simp at h
  exact h.1
theorem pick_len (f : Nat → Bool) (k : Nat) : (pick f k).length ≤ k := by
  unfold pick
  have := List.length_filter_le f (List.range k)
  simpa using this
/-- What the two lists hold after k pushes. -/
def twoX (f : Nat → Bool) (k : Nat) : Nat → List Nat := fun i => if i = 0 then pick f k else if i = 1 then pick (fun j => ! f j) k else []
theorem twoX_yes {f : Nat → Bool} {k : Nat} (h : f k = true) : setL (twoX f k) 0 (twoX f k 0 ++ [k]) = twoX f (k + 1) := by
  funext i
  unfold setL twoX
  rcases (show i = 0 ∨ i = 1 ∨ (i ≠ 0 ∧ i ≠ 1) by omega) with rfl | rfl | ⟨h0, h1⟩
  · simp [pick_succ, h]
  · simp [pick_succ, h]
  · simp [h0, h1]
theorem twoX_no {f : Nat → Bool} {k : Nat} (h : f k = false) : setL (twoX f k) 1 (twoX f k 1 ++ [k]) = twoX f (k + 1) := by
  funext i
  unfold setL twoX
  rcases (show i = 0 ∨ i = 1 ∨ (i ≠ 0 ∧ i ≠ 1) by omega) with rfl | rfl | ⟨h0, h1⟩
  · simp [pick_succ, h]
  · simp [pick_succ, h]
  · simp [h0, h1]
theorem twoX_zero (f : Nat → Bool) : twoX f 0 = fun _ => [] := by
  funext i
  unfold twoX pick
  simp
/-- The next one is in neither. -/
theorem twoX_free (f : Nat → Bool) (k i : Nat) : k ∉ twoX f k i := by
  unfold twoX
  intro h
  split at h
  · have := pick_lt h
    omega
  · split at h
    · have := pick_lt h
      omega
    · simp at h
end Go.Proofs.Ytalkpoeliekbfaa
