/-
  The contract of the reference's Right (layer 17).
-/
import Derived.Test.YtinbicpefhnmnaaClass
namespace Go.Proofs.Ytinbicpefhnmnaa
open Go.ChangeShapes Go.WideShapes Go.ChangeAt Go.RowKit Go.Joins Go.Deep
set_option linter.unusedVariables false

set_option maxHeartbeats 4000000 in
theorem refRight_any (c : Cl) (h64 : c.share < 18446744073709551616) (w : World) : Calls Try.prog 10 #[.agg c.cells] w fun e w' => e = .returned (.int .i64 (rightV c)) ∧ Touch [] w w' := by
  have K := Lib.hid (fun w => refShareUnits c.share h64 w)
  have hb := unit_bd c.share h64
  have R := Lib.hid (Eq.refl (rightV c))
  unfold Cl.cells
  obtain ⟨id, parent, share, prio, quantum, limit, weight, minIdle, maxIdle, bounded, isolated⟩ := c
  simp only [rightV] at *
  generalize unitU share = u at *
  generalize unitE share = e at *
  clear h64 R
  by_cases h0 : id < 1
  · refine Calls.mono (R := fun e w' => e = .returned (.int .i64 2) ∧ Touch [] w w') ?_ (fun e w' h => by rw [h.1]; exact ⟨ret_int (by (repeat' split) <;> omega), h.2⟩)
    go_enter Try.func10, Try.ntmps10
    go_wp2_with fail
    go_ret
    exact ⟨rfl, (Touch.refl _ _).alloc _⟩
  by_cases h1 : 65535 < id
  · refine Calls.mono (R := fun e w' => e = .returned (.int .i64 2) ∧ Touch [] w w') ?_ (fun e w' h => by rw [h.1]; exact ⟨ret_int (by (repeat' split) <;> omega), h.2⟩)
    go_enter Try.func10, Try.ntmps10
    go_wp2_with fail
    go_ret
    exact ⟨rfl, (Touch.refl _ _).alloc _⟩
  by_cases h2 : parent < 0
  · refine Calls.mono (R := fun e w' => e = .returned (.int .i64 2) ∧ Touch [] w w') ?_ (fun e w' h => by rw [h.1]; exact ⟨ret_int (by (repeat' split) <;> omega), h.2⟩)
    go_enter Try.func10, Try.ntmps10
    go_wp2_with fail
    go_ret
    exact ⟨rfl, (Touch.refl _ _).alloc _⟩
  by_cases h3 : 65535 < parent
  · refine Calls.mono (R := fun e w' => e = .returned (.int .i64 2) ∧ Touch [] w w') ?_ (fun e w' h => by rw [h.1]; exact ⟨ret_int (by (repeat' split) <;> omega), h.2⟩)
    go_enter Try.func10, Try.ntmps10
    go_wp2_with fail
    go_ret
    exact ⟨rfl, (Touch.refl _ _).alloc _⟩
  by_cases h4 : id = parent
  · refine Calls.mono (R := fun e w' => e = .returned (.int .i64 11) ∧ Touch [] w w') ?_ (fun e w' h => by rw [h.1]; exact ⟨ret_int (by (repeat' split) <;> omega), h.2⟩)
    subst h4
    go_enter Try.func10, Try.ntmps10
    go_wp2_with fail
    go_ret
    exact ⟨rfl, (Touch.refl _ _).alloc _⟩
  by_cases h5 : e = 21
  · refine Calls.mono (R := fun e w' => e = .returned (.int .i64 21) ∧ Touch [] w w') ?_ (fun e w' h => by rw [h.1]; exact ⟨ret_int (by (repeat' split) <;> omega), h.2⟩)
    have h4' : (id == parent) = false := by simpa using h4
    subst h5
    go_enter Try.func10, Try.ntmps10
    go_wp2_with fail
    refine (K.out _).mono ?_
    rintro e' w ⟨rfl, rfl⟩
    unfold tup2
    go_wp2_with fail
    go_ret
    exact ⟨rfl, (Touch.refl _ _).alloc _⟩
  by_cases h6 : e ≠ 0
  · refine Calls.mono (R := fun e w' => e = .returned (.int .i64 13) ∧ Touch [] w w') ?_ (fun e w' h => by rw [h.1]; exact ⟨ret_int (by (repeat' split) <;> omega), h.2⟩)
    have h4' : (id == parent) = false := by simpa using h4
    have h5' : (e == 21) = false := by simpa using h5
    have h6' : (e != 0) = true := by simpa using h6
    go_enter Try.func10, Try.ntmps10
    go_wp2_with fail
    refine (K.out _).mono ?_
    rintro e' w ⟨rfl, rfl⟩
    unfold tup2
    go_wp2_with fail
    go_ret
    exact ⟨rfl, (Touch.refl _ _).alloc _⟩
  by_cases h7 : u < 1
  · refine Calls.mono (R := fun e w' => e = .returned (.int .i64 13) ∧ Touch [] w w') ?_ (fun e w' h => by rw [h.1]; exact ⟨ret_int (by (repeat' split) <;> omega), h.2⟩)
    have h4' : (id == parent) = false := by simpa using h4
    have h5' : (e == 21) = false := by simpa using h5
    obtain rfl : e = 0 := by omega
    go_enter Try.func10, Try.ntmps10
    go_wp2_with fail
    refine (K.out _).mono ?_
    rintro e' w ⟨rfl, rfl⟩
    unfold tup2
    go_wp2_with fail
    go_ret
    exact ⟨rfl, (Touch.refl _ _).alloc _⟩
  by_cases h8 : prio < 0
  · refine Calls.mono (R := fun e w' => e = .returned (.int .i64 14) ∧ Touch [] w w') ?_ (fun e w' h => by rw [h.1]; exact ⟨ret_int (by (repeat' split) <;> omega), h.2⟩)
    have h4' : (id == parent) = false := by simpa using h4
    have h5' : (e == 21) = false := by simpa using h5
    obtain rfl : e = 0 := by omega
    go_enter Try.func10, Try.ntmps10
    go_wp2_with fail
    refine (K.out _).mono ?_
    rintro e' w ⟨rfl, rfl⟩
    unfold tup2
    go_wp2_with fail
    go_ret
    exact ⟨rfl, (Touch.refl _ _).alloc _⟩
  by_cases h9 : 7 < prio
  · refine Calls.mono (R := fun e w' => e = .returned (.int .i64 14) ∧ Touch [] w w') ?_ (fun e w' h => by rw [h.1]; exact ⟨ret_int (by (repeat' split) <;> omega), h.2⟩)
    have h4' : (id == parent) = false := by simpa using h4
    have h5' : (e == 21) = false := by simpa using h5
    obtain rfl : e = 0 := by omega
    go_enter Try.func10, Try.ntmps10
    go_wp2_with fail
    refine (K.out _).mono ?_
    rintro e' w ⟨rfl, rfl⟩
    unfold tup2
    go_wp2_with fail
    go_ret
    exact ⟨rfl, (Touch.refl _ _).alloc _⟩
  by_cases h10 : quantum < 1
  · refine Calls.mono (R := fun e w' => e = .returned (.int .i64 16) ∧ Touch [] w w') ?_ (fun e w' h => by rw [h.1]; exact ⟨ret_int (by (repeat' split) <;> omega), h.2⟩)
    have h4' : (id == parent) = false := by simpa using h4
    have h5' : (e == 21) = false := by simpa using h5
    obtain rfl : e = 0 := by omega
    go_enter Try.func10, Try.ntmps10
    go_wp2_with fail
    refine (K.out _).mono ?_
    rintro e' w ⟨rfl, rfl⟩
    unfold tup2
    go_wp2_with fail
    go_ret
    exact ⟨rfl, (Touch.refl _ _).alloc _⟩
  by_cases h11 : 65536 < quantum
  · refine Calls.mono (R := fun e w' => e = .returned (.int .i64 16) ∧ Touch [] w w') ?_ (fun e w' h => by rw [h.1]; exact ⟨ret_int (by (repeat' split) <;> omega), h.2⟩)
    have h4' : (id == parent) = false := by simpa using h4
    have h5' : (e == 21) = false := by simpa using h5
    obtain rfl : e = 0 := by omega
    go_enter Try.func10, Try.ntmps10
    go_wp2_with fail
    refine (K.out _).mono ?_
    rintro e' w ⟨rfl, rfl⟩
    unfold tup2
    go_wp2_with fail
    go_ret
    exact ⟨rfl, (Touch.refl _ _).alloc _⟩
  by_cases h12 : limit < 1
  · refine Calls.mono (R := fun e w' => e = .returned (.int .i64 16) ∧ Touch [] w w') ?_ (fun e w' h => by rw [h.1]; exact ⟨ret_int (by (repeat' split) <;> omega), h.2⟩)
    have h4' : (id == parent) = false := by simpa using h4
    have h5' : (e == 21) = false := by simpa using h5
    obtain rfl : e = 0 := by omega
    go_enter Try.func10, Try.ntmps10
    go_wp2_with fail
    refine (K.out _).mono ?_
    rintro e' w ⟨rfl, rfl⟩
    unfold tup2
    go_wp2_with fail
    go_ret
    exact ⟨rfl, (Touch.refl _ _).alloc _⟩
  by_cases h13 : 1024 < limit
  · refine Calls.mono (R := fun e w' => e = .returned (.int .i64 16) ∧ Touch [] w w') ?_ (fun e w' h => by rw [h.1]; exact ⟨ret_int (by (repeat' split) <;> omega), h.2⟩)
    have h4' : (id == parent) = false := by simpa using h4
    have h5' : (e == 21) = false := by simpa using h5
    obtain rfl : e = 0 := by omega
    go_enter Try.func10, Try.ntmps10
    go_wp2_with fail
    refine (K.out _).mono ?_
    rintro e' w ⟨rfl, rfl⟩
    unfold tup2
    go_wp2_with fail
    go_ret
    exact ⟨rfl, (Touch.refl _ _).alloc _⟩
  by_cases h14 : weight < 0
  · refine Calls.mono (R := fun e w' => e = .returned (.int .i64 2) ∧ Touch [] w w') ?_ (fun e w' h => by rw [h.1]; exact ⟨ret_int (by (repeat' split) <;> omega), h.2⟩)
    have h4' : (id == parent) = false := by simpa using h4
    have h5' : (e == 21) = false := by simpa using h5
    obtain rfl : e = 0 := by omega
    go_enter Try.func10, Try.ntmps10
    go_wp2_with fail
    refine (K.out _).mono ?_
    rintro e' w ⟨rfl, rfl⟩
    unfold tup2
    go_wp2_with fail
    go_ret
    exact ⟨rfl, (Touch.refl _ _).alloc _⟩
  by_cases h15 : 16 < weight
  · refine Calls.mono (R := fun e w' => e = .returned (.int .i64 2) ∧ Touch [] w w') ?_ (fun e w' h => by rw [h.1]; exact ⟨ret_int (by (repeat' split) <;> omega), h.2⟩)
    have h4' : (id == parent) = false := by simpa using h4
    have h5' : (e == 21) = false := by simpa using h5
    obtain rfl : e = 0 := by omega
    go_enter Try.func10, Try.ntmps10
    go_wp2_with fail
    refine (K.out _).mono ?_
    rintro e' w ⟨rfl, rfl⟩
    unfold tup2
    go_wp2_with fail
    go_ret
    exact ⟨rfl, (Touch.refl _ _).alloc _⟩
  by_cases h16 : minIdle < -1099511627776
  · refine Calls.mono (R := fun e w' => e = .returned (.int .i64 2) ∧ Touch [] w w') ?_ (fun e w' h => by rw [h.1]; exact ⟨ret_int (by (repeat' split) <;> omega), h.2⟩)
    have h4' : (id == parent) = false := by simpa using h4
    have h5' : (e == 21) = false := by simpa using h5
    obtain rfl : e = 0 := by omega
    go_enter Try.func10, Try.ntmps10
    go_wp2_with fail
    refine (K.out _).mono ?_
    rintro e' w ⟨rfl, rfl⟩
    unfold tup2
    go_wp2_with fail
    go_ret
    exact ⟨rfl, (Touch.refl _ _).alloc _⟩
  by_cases h17 : 0 < minIdle
  · refine Calls.mono (R := fun e w' => e = .returned (.int .i64 2) ∧ Touch [] w w') ?_ (fun e w' h => by rw [h.1]; exact ⟨ret_int (by (repeat' split) <;> omega), h.2⟩)
    have h4' : (id == parent) = false := by simpa using h4
    have h5' : (e == 21) = false := by simpa using h5
    obtain rfl : e = 0 := by omega
    go_enter Try.func10, Try.ntmps10
    go_wp2_with fail
    refine (K.out _).mono ?_
    rintro e' w ⟨rfl, rfl⟩
    unfold tup2
    go_wp2_with fail
    go_ret
    exact ⟨rfl, (Touch.refl _ _).alloc _⟩
  by_cases h18 : maxIdle < 0
  · refine Calls.mono (R := fun e w' => e = .returned (.int .i64 2) ∧ Touch [] w w') ?_ (fun e w' h => by rw [h.1]; exact ⟨ret_int (by (repeat' split) <;> omega), h.2⟩)
    have h4' : (id == parent) = false := by simpa using h4
    have h5' : (e == 21) = false := by simpa using h5
    obtain rfl : e = 0 := by omega
    go_enter Try.func10, Try.ntmps10
    go_wp2_with fail
    refine (K.out _).mono ?_
    rintro e' w ⟨rfl, rfl⟩
    unfold tup2
    go_wp2_with fail
    go_ret
    exact ⟨rfl, (Touch.refl _ _).alloc _⟩
  by_cases h19 : 1099511627776 < maxIdle
  · refine Calls.mono (R := fun e w' => e = .returned (.int .i64 2) ∧ Touch [] w w') ?_ (fun e w' h => by rw [h.1]; exact ⟨ret_int (by (repeat' split) <;> omega), h.2⟩)
    have h4' : (id == parent) = false := by simpa using h4
    have h5' : (e == 21) = false := by simpa using h5
    obtain rfl : e = 0 := by omega
    go_enter Try.func10, Try.ntmps10
    go_wp2_with fail
    refine (K.out _).mono ?_
    rintro e' w ⟨rfl, rfl⟩
    unfold tup2
    go_wp2_with fail
    go_ret
    exact ⟨rfl, (Touch.refl _ _).alloc _⟩
  refine Calls.mono (R := fun e w' => e = .returned (.int .i64 0) ∧ Touch [] w w') ?_ (fun e w' h => by rw [h.1]; exact ⟨ret_int (by (repeat' split) <;> omega), h.2⟩)
  have h4' : (id == parent) = false := by simpa using h4
  obtain rfl : e = 0 := by omega
  go_enter Try.func10, Try.ntmps10
  go_wp2_with fail
  refine (K.out _).mono ?_
  rintro e' w ⟨rfl, rfl⟩
  unfold tup2
  go_wp2_with fail
  go_ret
  exact ⟨rfl, (Touch.refl _ _).alloc _⟩
end Go.Proofs.Ytinbicpefhnmnaa
