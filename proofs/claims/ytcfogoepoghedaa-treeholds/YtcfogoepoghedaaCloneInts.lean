/-
  The contract of slices.Clone at a slice of integers that came in.
-/
import Derived.Test.YtcfogoepoghedaaInts
import Derived.Test.YtcfogoepoghedaaMem
import Derived.OwnWalk
namespace Go.Proofs.Ytcfogoepoghedaa
open Go.ChangeShapes Go.WideShapes Go.ChangeAt Go.RowKit Go.Deep
set_option linter.unusedVariables false

theorem ci_info : (Try.prog.info? 3).map (fun i => (i.zero, i.size, i.bytes)) = some (some (.int .i64 0), 1, 8) := by kernel_rfl
theorem ci_cloned {w w1 : World} {e : TypeId} {size n : Nat} {xs : List Value} {v : Value} {o : Obj} (hown : w1.ownsRow w.heap.size e size v (0 + n) ([] ++ xs)) (hg : (w.alloc o).grownBy w1 (Value.slice (some ⟨w.heap.size, 0, none⟩) 0 0).ownBlock)
    (hnil : v = .slice none 0 0 ↔ (Value.slice (some ⟨w.heap.size, 0, none⟩) 0 0) = .slice none 0 0 ∧ n = 0) : ∃ g c, v = .slice (some ⟨g, 0, none⟩) n c ∧ w1.ownsRow w.heap.size e size (.slice (some ⟨g, 0, none⟩) n c) n xs ∧ Touch [] w w1 ∧ w.heap.size ≤ g ∧ g < w1.heap.size := by
  rw [Nat.zero_add, List.nil_append] at hown
  have ht : Touch [] w w1 := ((Touch.refl [] w).alloc o).grown hg (by simp [Value.ownBlock])
  rcases hown.2 with ⟨h1, h2⟩ | ⟨g, cap, cur, h1, h2, h3, _⟩
  · have := hnil.1 h1
    simp at this
  · subst h1
    exact ⟨g, cap, rfl, hown, ht, h2, own_lt hown rfl⟩

def ClonedArg (n : Nat) (X : Nat → Int) (w : World) (e : Ending) (w' : World) : Prop := ∃ A' c', e = .returned (.slice A' n c') ∧ IntCells w' w'.heap.size A' n X ∧ Touch [] w w' ∧ ∀ b off, A' = some ⟨b, off, none⟩ → w.heap.size ≤ b
set_option maxRecDepth 100000 in
theorem clone_arg {w : World} {A : Option Addr} {n c : Nat} {X : Nat → Int} (h : IntCells w w.heap.size A n X) (hn : n ≤ 5000) :
    Calls Try.prog 34 #[.slice A n c] w (ClonedArg n X w) := by
  cases A with
  | none =>
    obtain rfl : n = 0 := by
      rcases Nat.eq_zero_or_pos n with h0 | h0
      · exact h0
      · obtain ⟨_, _, hh, _⟩ := h 0 h0
        cases hh
    have he : ∀ w : World, (binOp .eql 31 (.slice none 0 c) (.slice none 0 0)).run Try.prog w = .ok (.bool true) w := fun _ => rfl
    go_enter Try.func34, Try.ntmps34
    go_wp2_with fail
    go_ret
    exact ⟨none, 0, rfl, fun i hi => absurd hi (Nat.not_lt_zero _), Touch.refl _ _, fun b off h => by cases h⟩
  | some a =>
    obtain ⟨i0, hi0, hz0, hz1, hz2⟩ := info_parts ci_info
    have R1 := Lib.hid (World.ownsRow_lit (base := w.heap.size) (e := 3) (size := 1) w #[] 0 (Nat.le_refl _) (by unfold maxLen; omega) rfl)
    have R2 := Lib.hid (show ∀ j u, (iv X n)[j]? = some u → (w.alloc (.cells #[] 3)).cell? (a.add j) = some u by
      intro j u hj
      have hlt : j < n := by
        have := (List.getElem?_eq_some_iff.1 hj).1
        rwa [iv_length] at this
      rw [iv_get _ hlt] at hj
      obtain ⟨b, off, ha, hb, hc⟩ := h j hlt
      simp only [Option.some.injEq] at ha
      subst ha
      rw [show (⟨b, off, none⟩ : Addr).add j = ⟨b, off + j, none⟩ by unfold Addr.add; split <;> simp_all, ((Touch.refl [] w).alloc _).cell (a := ⟨b, off + j, none⟩) hb (by simp), hc]
      exact hj)
    have R3 := Lib.hid (show (iv X n).length = n * 1 by rw [iv_length, Nat.mul_one])
    have HX := Lib.hid (iv_one X n)
    clear h
    have he : ∀ w : World, (binOp .eql 31 (.slice (some a) n c) (.slice none 0 0)).run Try.prog w = .ok (.bool false) w := fun _ => rfl
    go_enter Try.func34, Try.ntmps34
    go_wp2_with (at_builtin; refine wpList_append_own _ rfl (.tmp 5) (.tmp 6) 31 rfl w.heap.size 3 i0 _ 1 8 Try.underlying31 hi0 hz0 hz1 hz2 rfl (by decide) (.slice (some ⟨w.heap.size, 0, none⟩) 0 0) 0 [] rfl R1.out a n c (iv X n) rfl R3.out R2.out HX.out (by unfold maxLen; omega) (by omega) (by simp) ?_; intro v' w1 hown hgrow hnil; obtain ⟨g', c', rfl, q1, q2, q3, q4⟩ := ci_cloned hown hgrow hnil; clear hown hgrow hnil)
    go_ret
    refine ⟨some ⟨g', 0, none⟩, c', rfl, fun i hi => ⟨g', 0, rfl, q4, ?_⟩, q2, fun b off h => by simp at h; omega⟩
    rw [Nat.zero_add, q1.cellAt _ (by omega), iv_get _ hi]
end Go.Proofs.Ytcfogoepoghedaa
