/-
  Contracts of the law's list of floats, and of share.Top and the reference's.
-/
import Derived.Test.YtcegpapfcfpblaaShareTotal
import Derived.WalkSpells
import Derived.OwnWalk
import Derived.Deep.QuietTactic
import Derived.BigQuiet
namespace Go.Proofs.Ytcegpapfcfpblaa
open Go.ChangeShapes Go.WideShapes Go.ChangeAt Go.RowKit Go.Joins
set_option linter.unusedVariables false

theorem float_info : (Try.prog.info? 31).map (fun i => (i.zero, i.size, i.bytes)) = some (some (.float .f64 0), 1, 8) := by kernel_rfl

/-- The first n words of a slice. -/
def WCells (w : World) (B : Nat) (A : Option Addr) (n : Nat) (X : Nat → Nat) : Prop :=
  ∀ i, i < n → ∃ b off, A = some ⟨b, off, none⟩ ∧ b < B ∧ w.cell? ⟨b, off + i, none⟩ = some (.int .u64 (X i))

def fl (X : Nat → Nat) (n : Nat) : List Value := (List.range n).map fun i => .float .f64 (X i)
theorem fl_succ (X : Nat → Nat) (n : Nat) : fl X (n + 1) = fl X n ++ [.float .f64 (X n)] := by unfold fl; rw [List.range_succ, List.map_append]; rfl
theorem fl_length (X : Nat → Nat) (n : Nat) : (fl X n).length = n := by unfold fl; simp

/-- Behind an append to what the call owns, old memory is as it was. -/
theorem below_append {B n size : Nat} {w wr w1 : World} {e : TypeId} {v : Value} {xs : List Value} {o : Obj} (hbl : Below B w wr) (hown : wr.ownsRow B e size v n xs) (hgrow : (wr.alloc o).grownBy w1 v.ownBlock) (hB : B ≤ wr.heap.size := by omega) : Below B w w1 := by
  refine (hbl.alloc hB _).grown hgrow (by simp; omega) ?_
  intro j hj
  rcases hown.2 with ⟨rfl, _⟩ | ⟨g, cap, cur, rfl, hg, _⟩
  · simp [Value.ownBlock] at hj
  · simp [Value.ownBlock] at hj
    omega

def FloatsPost (X : Nat → Nat) (n : Nat) (w : World) (e : Ending) (w' : World) : Prop := ∃ v, e = .returned v ∧ w'.ownsRow w.heap.size 31 1 v n (fl X n) ∧ Below w.heap.size w w'

set_option maxHeartbeats 1000000 in
theorem floats_any (A : Option Addr) (n c : Nat) (X : Nat → Nat) (w : World) (hn : n ≤ 1000) (hE : WCells w w.heap.size A n X) :
    Calls Try.prog 40 #[.slice A n c] w (FloatsPost X n w) := by
  obtain ⟨i0, hi0, hz0, hz1, hz2⟩ := info_parts float_info
  have hb := float_of_bits
  go_enter Try.func40, Try.ntmps40
  go_wp2
  go_loopw [3, 8] (fun v i wr => ∃ k : Nat, k ≤ n ∧ i = .int .i64 k ∧ wr.ownsRow w.heap.size 31 1 v k (fl X k) ∧ Below w.heap.size w wr) (fun _ i _ => n - (intOf i).toNat)
  case atStart => exact ⟨0, Nat.zero_le _, rfl, World.ownsRow_nil _ _ _ _, Below.refl _ _⟩
  case round =>
    obtain ⟨k, hk, rfl, hown, hbl⟩ := hrel
    by_cases hlt : k < n
    · obtain ⟨b, off, hA, hbB, hc⟩ := hE k hlt
      rw [← hbl.cell (p := ⟨b, _, none⟩) hbB] at hc
      subst hA
      have HF := Lib.hid (fl_succ X k)
      generalize X k = x at *
      generalize fl X k = L at *
      have hsz := hbl.size
      go_wp2_with (at_builtin; refine wpList_append_own _ rfl (.tmp 12) (.tmp 15) 44 rfl w.heap.size 31 i0 (.float .f64 0) 1 8 Try.underlying44 hi0 hz0 hz1 hz2 rfl (by decide) u3 k L rfl (hown.alloc _) ⟨wr.heap.size, 0, none⟩ 1 1 [.float .f64 x] rfl rfl (cell_one_new _ _ _) (by intro u hu; simp at hu; subst hu; rfl) (by unfold maxLen; omega) (by omega) (by simp; omega) ?_; intro v' w1 hown' hgrow hnil)
      go_roundw
      case rel =>
        exact ⟨k + 1, by omega, by go_num, by rw [HF.out]; exact hown', below_append hbl hown hgrow⟩
      case measure => simp [intOf]; omega
    · obtain rfl : k = n := by omega
      go_wp2
      go_ret
      exact ⟨_, rfl, hown, hbl⟩

theorem own_cells {w : World} {base n : Nat} {v : Value} {X : Nat → Nat} (h : w.ownsRow base 31 1 v n (fl X n)) : ∃ A c, v = .slice A n c ∧ FCells w w.heap.size A n X := by
  rcases h.2 with ⟨rfl, rfl⟩ | ⟨g, cap, cur, rfl, hg, hh, _⟩
  · exact ⟨none, 0, rfl, fun i hi => absurd hi (Nat.not_lt_zero _)⟩
  · refine ⟨_, _, rfl, fun i hi => ⟨g, 0, rfl, ?_, ?_⟩⟩
    · rcases Nat.lt_or_ge g w.heap.size with hl | hl
      · exact hl
      · rw [Array.getElem?_eq_none hl] at hh; cases hh
    · rw [Nat.zero_add, h.cellAt i (by omega)]
      unfold fl
      simp [hi]

/-! ### The first greatest -/
/-- The index of the first greatest of the first k + 1. -/
def topOf (X : Nat → Nat) : Nat → Nat
  | 0 => 0
  | k + 1 => if lessOf (X (topOf X k)) (X (k + 1)) = true then k + 1 else topOf X k
theorem topOf_le (X : Nat → Nat) : ∀ k, topOf X k ≤ k
  | 0 => Nat.le_refl _
  | k + 1 => by
    have := topOf_le X k
    unfold topOf
    split <;> omega
theorem less_neg_trans {x y z : Nat} (h1 : lessOf x y = false) (h2 : lessOf y z = false) : lessOf x z = false := by
  unfold lessOf at *
  rw [decide_eq_false_iff_not] at *
  omega
theorem less_irr (x : Nat) : lessOf x x = false := by
  unfold lessOf
  rw [decide_eq_false_iff_not]
  omega
theorem less_mix {x y z : Nat} (h1 : lessOf x y = true) (h2 : lessOf z y = false) : lessOf x z = true := by
  unfold lessOf at *
  rw [decide_eq_false_iff_not] at h2
  rw [decide_eq_true_iff] at *
  omega
/-- Nothing stands behind it; and whatever stands ahead of it in the list is less. -/
theorem topOf_best (X : Nat → Nat) : ∀ k, (∀ j, j ≤ k → lessOf (X (topOf X k)) (X j) = false) ∧ ∀ j, j < topOf X k → lessOf (X j) (X (topOf X k)) = true
  | 0 => ⟨fun j hj => by obtain rfl : j = 0 := by omega
                         exact less_irr _, fun j hj => absurd hj (Nat.not_lt_zero _)⟩
  | k + 1 => by
    obtain ⟨h1, h2⟩ := topOf_best X k
    have hle := topOf_le X k
    unfold topOf
    by_cases h : lessOf (X (topOf X k)) (X (k + 1)) = true
    · rw [if_pos h]
      have hlt : ∀ j, j ≤ k → lessOf (X j) (X (k + 1)) = true := fun j hj => by
        by_cases hj' : lessOf (X j) (X (k + 1)) = true
        · exact hj'
        · have hj'' : lessOf (X j) (X (k + 1)) = false := by simpa using hj'
          have := less_mix h hj''
          rw [h1 j hj] at this
          cases this
      refine ⟨fun j hj => ?_, fun j hj => hlt j (by omega)⟩
      rcases Nat.lt_or_eq_of_le hj with hj | rfl
      · have hb := hlt j (by omega)
        by_cases hc : lessOf (X (k + 1)) (X j) = true
        · exfalso
          unfold lessOf at hb hc
          rw [decide_eq_true_iff] at hb hc
          omega
        · simpa using hc
      · exact less_irr _
    · rw [if_neg h]
      refine ⟨fun j hj => ?_, h2⟩
      rcases Nat.lt_or_eq_of_le hj with hj | rfl
      · exact h1 j (by omega)
      · simpa using h
end Go.Proofs.Ytcegpapfcfpblaa
