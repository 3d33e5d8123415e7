/-
  Ranges over functions: what a round keeps; a sequence by its first elements.
-/
import Derived.Test.YtalkpoeliekbfaaMem
import Derived.RangeFuncNested
import Derived.RangeFuncWrites
import Derived.RangeFuncBound
import Derived.RangeFuncCalls
import Derived.RangeFuncLeaves
import Derived.Shelf.Abstract
import Derived.Shelf.RegionOpen
import Derived.WalkKit
import Derived.OwnWalkIn
import Derived.TacticsInMore
import Derived.LoopNIn
import Derived.LoopIn
namespace Go.Proofs.Ytalkpoeliekbfaa
open Go.ChangeShapes Go.WideShapes Go.ChangeAt Go.RowKit Go.Deep Go.Maps Go.Shelf
set_option linter.unusedVariables false

def upto {α : Type} (f : Nat → α) (k : Nat) : List α := (List.range k).map f
theorem upto_succ {α : Type} (f : Nat → α) (k : Nat) : upto f (k + 1) = upto f k ++ [f k] := by simp [upto, List.range_succ]
theorem upto_length {α : Type} (f : Nat → α) (k : Nat) : (upto f k).length = k := by simp [upto]
/-- What a round keeps: blocks but those of S, if they lay ahead of B or are cells. -/
def KpR (S : List Nat) (B : Nat) (W W' : World) : Prop := W.heap.size ≤ W'.heap.size ∧ ∀ b o, W.heap[b]? = some o → b ∉ S → (b < B ∨ o.isCells = true) → W'.heap[b]? = some o
theorem KpR.trans {S : List Nat} {B : Nat} {X Y Z : World} (h : KpR S B X Y) (k : KpR S B Y Z) : KpR S B X Z := ⟨Nat.le_trans h.1 k.1, fun b o hb hS ho => k.2 b o (h.2 b o hb hS ho) hS ho⟩
theorem KpR.put {S : List Nat} {B : Nat} (W : World) (l : Nat) (o o' : Obj) (hl : B ≤ l) (ho : W.heap[l]? = some o) (hc : o.isCells = false) : KpR S B W (W.putObj l o') := by
  refine ⟨by simp, fun b q hb _ hq => ?_⟩
  by_cases e : b = l
  · subst e
    rw [ho] at hb
    cases hb
    rcases hq with h | h
    · omega
    · rw [hc] at h; cases h
  · rw [World.putObj_heap_other e]
    exact hb
theorem KpR.of_touch {S : List Nat} {B : Nat} {W W' : World} (t : Touch S W W') : KpR S B W W' := ⟨t.size, fun b o hb hS _ => (t.block b (Array.getElem?_eq_some_iff.1 hb).1 hS).trans hb⟩
theorem KpR.own {S : List Nat} {B : Nat} {W W' : World} {base n : Nat} {e : TypeId} {v : Value} {xs : List Value} (k : KpR S B W W') (hS : ∀ b ∈ S, b < base) (h : W.ownsRow base e 1 v n xs) : W'.ownsRow base e 1 v n xs := by
  refine own_of_block h fun g hg => ?_
  rcases h.2 with ⟨rfl, _⟩ | ⟨g', cap, cur, rfl, hb, hh, _⟩
  · simp [Value.ownBlock] at hg
  · simp [Value.ownBlock] at hg
    subst hg
    rw [hh]
    exact k.2 _ _ hh (fun hm => by have := hS _ hm; omega) (.inr rfl)
theorem mem_upto {α : Type} {f : Nat → α} {n : Nat} {a : α} : a ∈ upto f n ↔ ∃ j, j < n ∧ f j = a := by simp [upto]
theorem upto_congr {α : Type} {f g : Nat → α} {n : Nat} (h : ∀ i, i < n → f i = g i) : upto f n = upto g n := by
  unfold upto
  exact List.map_congr_left fun i hi => h i (List.mem_range.1 hi)
theorem upto_get {α : Type} {f g : Nat → α} {n m : Nat} (h : upto f n = upto g m) : n = m ∧ ∀ i, i < n → f i = g i := by
  have e := congrArg List.length h
  simp only [upto_length] at e
  subst e
  refine ⟨rfl, fun i hi => ?_⟩
  have := congrArg (fun l => l[i]?) h
  simpa [upto, hi] using this
theorem grown_touch {W W' : World} {row : Option Nat} (hg : W.grownBy W' row) : Touch row.toList W W' := (Touch.refl row.toList W).grown hg (fun k e => by subst e; simp)
end Go.Proofs.Ytalkpoeliekbfaa
