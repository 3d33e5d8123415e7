/-
  Contracts of layer 5 (vclock) and of its reference.
-/
import Derived.Test.YtbhjljffcgfcdaaBox
import Derived.Test.YtbhjljffcgfcdaaSatMath
import Derived.Test.YtbhjljffcgfcdaaVSat
import Derived.Test.YtbhjljffcgfcdaaInts
namespace Go.Proofs.Ytbhjljffcgfcdaa
open Go.ChangeShapes Go.WideShapes Go.ChangeAt Go.RowKit Go.Deep
set_option linter.unusedVariables false

/-- A clock in block p. -/
def ClockAt (w : World) (p : Nat) (a n : Int) : Prop := Box2 w p 58 (.int .i64 a) (.int .i64 n)

def leftV (a u : Int) : Int := if satSub u a < 0 then 0 else satSub u a
theorem leftV_neg {a u : Int} (h : satSub u a < 0) : leftV a u = 0 := if_pos h
theorem leftV_pos {a u : Int} (h : ¬ satSub u a < 0) : leftV a u = satSub u a := if_neg h

theorem clockNew_yes (a : Int) (w : World) (h : 0 ≤ a ∧ a ≤ 1152921504606846976) :
    Calls Try.prog 31 #[.int .i64 a] w fun e w' => e = .returned (.pointer (some ⟨w.heap.size, 0, none⟩)) ∧ w' = w.alloc (.cells #[.int .i64 a, .int .i64 0] 58) := by
  go_enter Try.func31, Try.ntmps31
  go_wp2
  go_ret
  exact ⟨rfl, rfl⟩
theorem clockNew_no (a : Int) (w : World) (h : ¬ (0 ≤ a ∧ a ≤ 1152921504606846976)) :
    Calls Try.prog 31 #[.int .i64 a] w fun e w' => e = .returned (.pointer none) ∧ w = w' := by
  by_cases h1 : a < 0
  all_goals
    go_enter Try.func31, Try.ntmps31
    go_wp2
    go_ret
    exact ⟨rfl, rfl⟩

section
variable {w : World} {p : Nat} {a n : Int}
theorem clockNow_any (h : ClockAt w p a n) :
    Calls Try.prog 33 #[.pointer (some ⟨p, 0, none⟩)] w fun e w' => e = .returned (.int .i64 a) ∧ w = w' := by
  have c0 := h.c0
  clear h
  go_enter Try.func33, Try.ntmps33
  go_wp2
  go_ret
  exact ⟨rfl, rfl⟩
theorem clockTicks_any (h : ClockAt w p a n) :
    Calls Try.prog 39 #[.pointer (some ⟨p, 0, none⟩)] w fun e w' => e = .returned (.int .i64 n) ∧ w = w' := by
  have c1 := h.c1
  clear h
  go_enter Try.func39, Try.ntmps39
  go_wp2
  go_ret
  exact ⟨rfl, rfl⟩
theorem clockCopy_any (h : ClockAt w p a n) :
    Calls Try.prog 34 #[.pointer (some ⟨p, 0, none⟩)] w fun e w' => e = .returned (.pointer (some ⟨w.heap.size, 0, none⟩)) ∧ w' = w.alloc (.cells #[.int .i64 a, .int .i64 n] 58) := by
  have c0 := h.c0
  have c1 := h.c1
  clear h
  go_enter Try.func34, Try.ntmps34
  go_wp2
  go_ret
  exact ⟨rfl, rfl⟩
theorem handLeft_any (h : ClockAt w p a n) (u : Int) :
    Calls Try.prog 55 #[.pointer (some ⟨p, 0, none⟩), .int .i64 u] w fun e w' => e = .returned (.int .i64 (leftV a u)) ∧ w = w' := by
  have c0 := h.c0
  clear h
  by_cases hs : satSub u a < 0
  · rw [leftV_neg hs]
    go_enter Try.func55, Try.ntmps55
    go_wp2_with fail
    refine (sub_any' _ _ _).mono ?_
    rintro e w' ⟨rfl, rfl⟩
    go_wp2_with fail
    go_ret
    exact ⟨rfl, rfl⟩
  · rw [leftV_pos hs]
    go_enter Try.func55, Try.ntmps55
    go_wp2_with fail
    refine (sub_any' _ _ _).mono ?_
    rintro e w' ⟨rfl, rfl⟩
    go_wp2_with fail
    all_goals
      go_ret
      exact ⟨ret_int (by omega), rfl⟩
theorem clockLeft_any (h : ClockAt w p a n) (u : Int) :
    Calls Try.prog 37 #[.pointer (some ⟨p, 0, none⟩), .int .i64 u] w fun e w' => e = .returned (.int .i64 (leftV a u)) ∧ w = w' := by
  have D := Lib.hid (handLeft_any h u)
  clear h
  go_enter Try.func37, Try.ntmps37
  go_wp2_with fail
  refine (D.out).mono ?_
  rintro e w' ⟨rfl, rfl⟩
  go_wp2_with fail
  go_ret
  exact ⟨rfl, rfl⟩

theorem advance_any (h : ClockAt w p a n) (x : Int) :
    Calls Try.prog 54 #[.pointer (some ⟨p, 0, none⟩), .int .i64 x] w fun e w' => e = .returned (.tuple #[]) ∧ w' = w.setCell ⟨p, 0, none⟩ (.int .i64 (satAdd a x)) := by
  have c0 := h.c0
  have f0 := h.fr 0
  clear h
  go_enter Try.func54, Try.ntmps54
  go_wp2_with fail
  refine (add_any' _ _ _).mono ?_
  rintro e w' ⟨rfl, rfl⟩
  go_wp2_with fail
  go_end0
  exact ⟨rfl, rfl⟩

def TickPost (p : Nat) (a n : Int) (w : World) (e : Ending) (w' : World) : Prop := e = .returned (.int .i64 0) ∧ ClockAt w' p a n ∧ Touch [p] w w'
theorem clockTick_yes (h : ClockAt w p a n) (x : Int) (hx : 0 ≤ x ∧ x ≤ 1099511627776) (hn : 0 ≤ n ∧ n ≤ 1000) :
    Calls Try.prog 36 #[.pointer (some ⟨p, 0, none⟩), .int .i64 x] w (TickPost p (satAdd a x) (n + 1) w) := by
  have D := Lib.hid (advance_any h x)
  have c1 := h.c1
  have f1 := h.fr 1
  have H := Lib.hid ((h.set0 (.int .i64 (satAdd a x))).set1 (.int .i64 (n + 1)))
  clear h
  go_enter Try.func36, Try.ntmps36
  go_wp2_with fail
  refine (D.out).mono ?_
  rintro e w' ⟨rfl, rfl⟩
  go_wp2_with fail
  go_ret
  exact ⟨rfl, H.out, ((Touch.refl _ _).setCell (by simp) _).setCell (by simp) _⟩
theorem clockTick_no (h : ClockAt w p a n) (x : Int) (hx : ¬ (0 ≤ x ∧ x ≤ 1099511627776)) :
    Calls Try.prog 36 #[.pointer (some ⟨p, 0, none⟩), .int .i64 x] w fun e w' => e = .returned (.int .i64 2) ∧ w = w' := by
  clear h
  by_cases h1 : x < 0
  all_goals
    go_enter Try.func36, Try.ntmps36
    go_wp2
    go_ret
    exact ⟨rfl, rfl⟩
end

theorem refTick_yes (a x : Int) (w : World) (hx : 0 ≤ x ∧ x ≤ 1099511627776) :
    Calls Try.prog 35 #[.int .i64 a, .int .i64 x] w fun e w' => e = .returned (.tuple #[.int .i64 (satAdd a x), .int .i64 0]) ∧ w = w' := by
  go_enter Try.func35, Try.ntmps35
  go_wp2_with fail
  refine (refAdd_any' _ _ _).mono ?_
  rintro e w' ⟨rfl, rfl⟩
  go_wp2_with fail
  go_ret2
  exact ⟨rfl, rfl⟩
theorem refTick_no (a x : Int) (w : World) (hx : ¬ (0 ≤ x ∧ x ≤ 1099511627776)) :
    Calls Try.prog 35 #[.int .i64 a, .int .i64 x] w fun e w' => e = .returned (.tuple #[.int .i64 a, .int .i64 2]) ∧ w = w' := by
  by_cases h1 : x < 0
  all_goals
    go_enter Try.func35, Try.ntmps35
    go_wp2
    go_ret2
    exact ⟨rfl, rfl⟩
theorem refLeft_any (a u : Int) (w : World) :
    Calls Try.prog 38 #[.int .i64 a, .int .i64 u] w fun e w' => e = .returned (.int .i64 (leftV a u)) ∧ w = w' := by
  by_cases hs : satSub u a < 0
  · rw [leftV_neg hs]
    go_enter Try.func38, Try.ntmps38
    go_wp2_with fail
    refine (refSub_any' _ _ _).mono ?_
    rintro e w' ⟨rfl, rfl⟩
    go_wp2_with fail
    go_ret
    exact ⟨rfl, rfl⟩
  · rw [leftV_pos hs]
    go_enter Try.func38, Try.ntmps38
    go_wp2_with fail
    refine (refSub_any' _ _ _).mono ?_
    rintro e w' ⟨rfl, rfl⟩
    go_wp2_with fail
    go_ret
    exact ⟨rfl, rfl⟩
end Go.Proofs.Ytbhjljffcgfcdaa
