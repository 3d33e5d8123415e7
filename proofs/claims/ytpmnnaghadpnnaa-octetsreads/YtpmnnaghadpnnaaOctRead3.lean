/-
  OctetsReads: what is read, told of and compared.
-/
import Derived.Test.YtpmnnaghadpnnaaOctRead2
import Derived.Test.YtpmnnaghadpnnaaOctSame
import Derived.Test.YtpmnnaghadpnnaaShareLess
namespace Go.Proofs.Ytpmnnaghadpnnaa
open Go.ChangeShapes Go.WideShapes Go.ChangeAt Go.RowKit Go.Deep
set_option linter.unusedVariables false
set_option linter.unusedSimpArgs false
theorem try_nil (s : ByteArray) (w : World) : Calls Try.prog 5 #[.string s, .nilFunc] w fun e w' => e = .returned (.int .i64 1) ∧ Touch [] w w' := by
  have hnf : ∀ w, (binOp .eql 36 .nilFunc .nilFunc).run Try.prog w = .ok (.bool true) w := fun w => rfl
  have q := Box1.new w 26 (.int .i64 0)
  have t0 : Touch [] w (w.alloc (.cells #[.int .i64 0] 26)) := (Touch.refl [] w).alloc _
  have c4 := q.c0
  have f4 := q.fr 0
  have l4 := q.lt
  have p5 := q.set0 (.int .i64 1)
  have c5 := p5.c0
  have T1 := Lib.hid (t0.setCell (a := ⟨w.heap.size, 0, none⟩) (.inr (Nat.le_refl _)) (.int .i64 1))
  go_enter_defers Try.func5, Try.ntmps5
  go_wp2_with fail
  have c := (Box1.new w 26 (.int .i64 1)).c0
  simp [bodyPostD, Leaves, settle, results, Try.results5, go_sem, c]
  exact (Touch.refl [] w).alloc _
theorem stepQ_x {op n : Int} {l m : List UInt8} {t : Tld} (h : stepQ op n l = .ok (t, m)) : t.x < 18446744073709551616 := by
  have nq : ∀ k, numQ k l = .ok (t, m) → t.x < 18446744073709551616 := fun k h => by
    unfold numQ at h
    split at h
    · cases h; simp
    · cases h
  unfold stepQ at h
  split at h
  · exact nq _ h
  split at h
  · exact nq _ h
  split at h
  · exact nq _ h
  split at h
  · exact nq _ h
  split at h
  · unfold varQ at h
    split at h
    · cases h; simp
    · cases h
  split at h
  · unfold floatQ at h
    split at h
    · split at h
      · cases h
      · cases h
        exact Nat.lt_of_lt_of_le (num_lt _) (Nat.le_trans (Nat.pow_le_pow_right (by omega) (List.length_take_le 8 l)) (by decide))
    · cases h
  split at h
  · cases l with
    | nil => cases h
    | cons b l =>
      simp only [boolQ] at h
      split at h
      · cases h; simp
      · cases h
  split at h
  · unfold takeQ at h
    split at h
    · cases h
    split at h
    · cases h; simp
    · cases h
  split at h
  · unfold endQ at h
    split at h
    · cases h; simp [Tld.zero]
    · cases h
  split at h
  · unfold needQ at h
    split at h
    · cases h; simp [Tld.zero]
    · cases h
  · cases h; simp [Tld.zero]
theorem sameOf_self (x : Nat) : sameOf x x = true := by
  unfold sameOf
  simp
section
variable {B p bg bl jg jl : Nat} {f : Nat → Tld} {g : Nat → Int} {vg vl : Value} {w w' : World} {S : List Nat}
theorem Kp.apart (h : Kp B p bg bl f g jg jl vg vl w) (t : Touch S w w') (hS : ∀ b ∈ S, b ≠ bg ∧ b ≠ bl ∧ vg.ownBlock ≠ some b ∧ vl.ownBlock ≠ some b) : Kp B p bg bl f g jg jl vg vl w' :=
  ⟨h.xg.carry t (fun hm => (hS _ hm).1 rfl), h.xl.carry t (fun hm => (hS _ hm).2.1 rfl), t.row h.rg (fun b hb hm => (hS _ hm).2.2.1 hb), t.row h.rl (fun b hb hm => (hS _ hm).2.2.2 hb), h.ap, h.lo, Nat.le_trans h.sz t.size⟩
theorem Kp.aside (h : Kp B p bg bl f g jg jl vg vl w) (t : Touch S w w') (hS : ∀ b ∈ S, (b < B ∧ b ≠ bg ∧ b ≠ bl) ∨ (w.heap.size ≤ b)) : Kp B p bg bl f g jg jl vg vl w' :=
  ⟨h.xg.carry t (fun hm => by have := hS _ hm; have := h.xg.lt; omega), h.xl.carry t (fun hm => by have := hS _ hm; have := h.xl.lt; omega), t.row h.rg (fun b hb hm => by have := h.rg.lt b hb; have := hS _ hm; omega), t.row h.rl (fun b hb hm => by have := h.rl.lt b hb; have := hS _ hm; omega), h.ap, h.lo, Nat.le_trans h.sz t.size⟩
end
end Go.Proofs.Ytpmnnaghadpnnaa
