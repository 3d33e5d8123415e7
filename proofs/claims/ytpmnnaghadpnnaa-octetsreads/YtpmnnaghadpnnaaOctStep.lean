/-
  OctetsReads' steps: what is read next, and what is told of it; one.
-/
import Derived.Test.YtpmnnaghadpnnaaRefNum
namespace Go.Proofs.Ytpmnnaghadpnnaa
open Go.ChangeShapes Go.WideShapes Go.ChangeAt Go.RowKit Go.Deep
set_option linter.unusedVariables false
set_option linter.unusedSimpArgs false
/-- What a call told. -/
structure Tld where
  n : Nat
  x : Nat
  s : List UInt8
  b : Bool
def Tld.zero : Tld := ⟨0, 0, [], false⟩
def Tld.cells (t : Tld) : Array Value := #[.int .u64 (t.n : Int), .float .f64 t.x, .string (S t.s), .bool t.b]
def Tld.val (t : Tld) : Value := .agg t.cells
abbrev Made := Except Int (Tld × List UInt8)
def numQ (k : Nat) (l : List UInt8) : Made := if k ≤ l.length then .ok (⟨num (l.take k), 0, [], false⟩, l.drop k) else .error 5
def varQ (l : List UInt8) : Made := if varE l = 0 then .ok (⟨u64n (varV l), 0, [], false⟩, l.drop (lead l + 1)) else .error (varE l)
def floatQ (l : List UInt8) : Made :=
  if 8 ≤ l.length then (if 9218868437227405312 < rung (num (l.take 8)) ∧ num (l.take 8) ≠ 9221120237041090560 then .error 21 else .ok (⟨0, num (l.take 8), [], false⟩, l.drop 8)) else .error 5
def boolQ : List UInt8 → Made
  | [] => .error 5
  | b :: m => if b.toNat ≤ 1 then .ok (⟨0, 0, [], b.toNat == 1⟩, m) else .error 6
def takeQ (n : Int) (l : List UInt8) : Made := if n < 0 then .error 2 else if n.toNat ≤ l.length then .ok (⟨0, 0, l.take n.toNat, false⟩, l.drop n.toNat) else .error 5
def endQ (l : List UInt8) : Made := if l = [] then .ok (Tld.zero, []) else .error 4
def needQ (n : Int) (l : List UInt8) : Made := if n = 0 then .ok (Tld.zero, l) else .error n
def stepQ (op n : Int) (l : List UInt8) : Made :=
  if op = 0 then numQ 1 l else if op = 1 then numQ 2 l else if op = 2 then numQ 4 l else if op = 3 then numQ 8 l else if op = 4 then varQ l else if op = 5 then floatQ l else
  if op = 6 then boolQ l else if op = 7 then takeQ n l else if op = 8 then endQ l else if op = 9 then needQ n l else .ok (Tld.zero, l)
theorem stepQ_len {op n : Int} {l m : List UInt8} {t : Tld} (h : stepQ op n l = .ok (t, m)) : m.length ≤ l.length := by
  have nq : ∀ k, numQ k l = .ok (t, m) → m.length ≤ l.length := fun k h => by
    unfold numQ at h
    split at h
    · cases h; simp
    · cases h
  unfold stepQ at h
  split at h
  · exact nq _ h
  split at h
  · exact nq _ h
  split at h
  · exact nq _ h
  split at h
  · exact nq _ h
  split at h
  · unfold varQ at h
    split at h
    · cases h; simp
    · cases h
  split at h
  · unfold floatQ at h
    split at h
    · split at h
      · cases h
      · cases h; simp
    · cases h
  split at h
  · cases l with
    | nil => cases h
    | cons b l =>
      simp only [boolQ] at h
      split at h
      · cases h; simp
      · cases h
  split at h
  · unfold takeQ at h
    split at h
    · cases h
    split at h
    · cases h; simp
    · cases h
  split at h
  · unfold endQ at h
    split at h
    · cases h; simp
    · cases h
  split at h
  · unfold needQ at h
    split at h
    · cases h; exact Nat.le_refl _
    · cases h
  · cases h; exact Nat.le_refl _
theorem stepQ_err {op n : Int} {l : List UInt8} {k : Int} (h : stepQ op n l = .error k) : k ≠ 0 := by
  have nq : ∀ j, numQ j l = .error k → k ≠ 0 := fun j h => by
    unfold numQ at h
    split at h
    · cases h
    · cases h; decide
  unfold stepQ at h
  split at h
  · exact nq _ h
  split at h
  · exact nq _ h
  split at h
  · exact nq _ h
  split at h
  · exact nq _ h
  split at h
  · unfold varQ at h
    split at h
    · cases h
    · rename_i hv; cases h; exact hv
  split at h
  · unfold floatQ at h
    split at h
    · split at h
      · cases h; decide
      · cases h
    · cases h; decide
  split at h
  · cases l with
    | nil => cases h; decide
    | cons b l =>
      simp only [boolQ] at h
      split at h
      · cases h
      · cases h; decide
  split at h
  · unfold takeQ at h
    split at h
    · cases h; decide
    split at h
    · cases h
    · cases h; decide
  split at h
  · unfold endQ at h
    split at h
    · cases h
    · cases h; decide
  split at h
  · unfold needQ at h
    split at h
    · cases h
    · rename_i hv; cases h; exact hv
  · cases h
/-- What a reader does. -/
def Did (p : Nat) (w : World) (r : Made) (e : Ending) (w' : World) : Prop :=
  match r with
  | .ok (t, m) => Reads p w t.val m e w'
  | .error k => Fails p w k e w'
section
variable {w : World} {p : Nat} {l : List UInt8}
theorem store_f64 {w : World} {a : Addr} {u v : Value} (hc : w.cell? a = some u) (hf : w.frozen? a = false) (h1 : v.oneCell' = true) : (store a v).run Try.prog w = .ok () (w.setCell a v) := by
  rw [run_store Try.prog w a v _ h1, hc]
  simp [hf]
theorem Did.er {w w' : World} {p : Nat} {k : Int} {e : Ending} (h : e = .panicked [{ v := failV p k, recovered := false }]) (t : Touch [p] w w') : Did p w (.error k) e w' := ⟨h, t⟩
theorem told_wrap (N : Nat) (h : N < 18446744073709551616) : IntKind.u64.wrap (N : Int) = (N : Int) := by rw [IntKind.wrap_u64]; omega
theorem wrap_u64n (n : Int) : IntKind.u64.wrap n = ((u64n n : Nat) : Int) := by rw [IntKind.wrap_u64, u64n_cast]
set_option maxHeartbeats 1600000 in
set_option maxRecDepth 100000 in
theorem one_0 (h : At w p l) (hl : l.length ≤ 1000000000) (n : Int) : Calls Try.prog 7 #[.pointer (some ⟨p, 0, none⟩), .int .i64 0, .int .i64 n] w (Did p w (numQ 1 l)) := by
  have t0 : Touch [] w (w.alloc (.cells #[.int .u64 0, .float .f64 0, .string ⟨#[]⟩, .bool false] 33)) := (Touch.refl [] w).alloc _
  have HB := Lib.hid (show BoxV (w.alloc (.cells #[.int .u64 0, .float .f64 0, .string ⟨#[]⟩, .bool false] 33)) w.heap.size 33 #[.int .u64 0, .float .f64 0, .string ⟨#[]⟩, .bool false] from BoxV.new w 33 _)
  have lp := h.lt
  have HA := Lib.hid (h.carry t0 (by simp))
  have T0 := Lib.hid t0
  clear h t0
  cases l with
  | nil =>
    rw [show numQ 1 [] = .error 5 from rfl]
    have U := Lib.hid (u8_short HA.out)
    unfold Fails at U
    go_enter Try.func7, Try.ntmps7
    go_wp2_with fail
    refine (U.out).mono ?_
    rintro e w1 ⟨rfl, t1⟩
    go_wp2_with fail
    exact ⟨rfl, Did.er rfl ((T0.out.mono (S' := [p]) (by simp)).trans t1 (fun b hb => .inl hb))⟩
  | cons b m =>
    rw [show numQ 1 (b :: m) = .ok (⟨b.toNat, 0, [], false⟩, m) by unfold numQ; rw [if_pos (by simp)]; simp [num]]
    have U := Lib.hid (u8_ok HA.out (by simp at hl; omega))
    unfold Reads at U
    have hb := b.toNat_lt
    have hw := told_wrap b.toNat (by omega)
    generalize b.toNat = N at *
    go_enter Try.func7, Try.ntmps7
    go_wp2_with fail
    refine (U.out).mono ?_
    rintro e w1 ⟨rfl, a1, t1⟩
    have hb1 := HB.out.carry t1 (by simp; omega)
    have x0 := hb1.cell 0
    have x1 := hb1.cell 1
    have x2 := hb1.cell 2
    have x3 := hb1.cell 3
    simp only [List.getElem?_toArray, List.getElem?_cons_zero, List.getElem?_cons_succ] at x0 x1 x2 x3
    have lx := hb1.lt
    have fz := hb1.fr
    have hs0 := hb1.set 0 (.int .u64 (N : Int))
    have y1 := hs0.cell 1
    have q1 := hs0.fr 1
    simp only [List.setIfInBounds_toArray, List.set_cons_succ, List.set_cons_zero, List.getElem?_toArray, List.getElem?_cons_zero, List.getElem?_cons_succ] at y1
    have sf := store_f64 (v := .float .f64 0) y1 q1 rfl
    clear y1 q1 hs0
    have G := Lib.hid ((((hb1.set 0 (.int .u64 (N : Int))).set 1 (.float .f64 0)).set 2 (.string (S []))).set 3 (.bool false))
    have ts := (((((Touch.refl [w.heap.size] w1).setCell (a := ⟨w.heap.size, 0, none⟩) (.inl (by simp)) (.int .u64 (N : Int))).setCell (a := ⟨w.heap.size, 1, none⟩) (.inl (by simp)) (.float .f64 0)).setCell (a := ⟨w.heap.size, 2, none⟩) (.inl (by simp)) (.string (S []))).setCell (a := ⟨w.heap.size, 3, none⟩) (.inl (by simp)) (.bool false))
    have F := Lib.hid (And.intro (a1.carry ts (by simp; omega)) (((T0.out.mono (S' := [p]) (by simp)).trans t1 (fun b hb => .inl hb)).trans ts (fun b hb => .inr (by simp at hb; omega))))
    clear a1 hb1 ts HB t1
    go_wp2_with fail
    exact bodyPost_ret (ret_box (t := 33) Try.results7 rfl G.out Try.underlying33 rfl (by kernel_rfl)) rfl ⟨rfl, F.out.1, F.out.2⟩
set_option maxHeartbeats 1600000 in
set_option maxRecDepth 100000 in
theorem one_1 (h : At w p l) (hl : l.length ≤ 1000000000) (n : Int) : Calls Try.prog 7 #[.pointer (some ⟨p, 0, none⟩), .int .i64 1, .int .i64 n] w (Did p w (numQ 2 l)) := by
  have t0 : Touch [] w (w.alloc (.cells #[.int .u64 0, .float .f64 0, .string ⟨#[]⟩, .bool false] 33)) := (Touch.refl [] w).alloc _
  have HB := Lib.hid (show BoxV (w.alloc (.cells #[.int .u64 0, .float .f64 0, .string ⟨#[]⟩, .bool false] 33)) w.heap.size 33 #[.int .u64 0, .float .f64 0, .string ⟨#[]⟩, .bool false] from BoxV.new w 33 _)
  have lp := h.lt
  have HA := Lib.hid (h.carry t0 (by simp))
  have T0 := Lib.hid t0
  clear h t0
  have U := Lib.hid (u16_any HA.out hl)
  unfold Reads Fails at U
  by_cases h8 : 2 ≤ l.length
  · rw [show numQ 2 l = .ok (⟨num (l.take 2), 0, [], false⟩, l.drop 2) by unfold numQ; rw [if_pos h8]]
    have hlt : num (l.take 2) < 18446744073709551616 := Nat.lt_of_lt_of_le (num_lt _) (Nat.le_trans (Nat.pow_le_pow_right (by omega) (List.length_take_le 2 l)) (by decide))
    have hw := told_wrap _ hlt
    generalize num (l.take 2) = N at *
    clear HA
    go_enter Try.func7, Try.ntmps7
    go_wp2_with fail
    refine (U.out).mono ?_
    intro e w1 hj
    obtain ⟨rfl, a1, t1⟩ := hj.1 h8
    clear hj U
    have hb1 := HB.out.carry t1 (by simp; omega)
    have x0 := hb1.cell 0
    have x1 := hb1.cell 1
    have x2 := hb1.cell 2
    have x3 := hb1.cell 3
    simp only [List.getElem?_toArray, List.getElem?_cons_zero, List.getElem?_cons_succ] at x0 x1 x2 x3
    have lx := hb1.lt
    have fz := hb1.fr
    have hs0 := hb1.set 0 (.int .u64 (N : Int))
    have y1 := hs0.cell 1
    have q1 := hs0.fr 1
    simp only [List.setIfInBounds_toArray, List.set_cons_succ, List.set_cons_zero, List.getElem?_toArray, List.getElem?_cons_zero, List.getElem?_cons_succ] at y1
    have sf := store_f64 (v := .float .f64 0) y1 q1 rfl
    clear y1 q1 hs0
    have G := Lib.hid ((((hb1.set 0 (.int .u64 (N : Int))).set 1 (.float .f64 0)).set 2 (.string (S []))).set 3 (.bool false))
    have ts := (((((Touch.refl [w.heap.size] w1).setCell (a := ⟨w.heap.size, 0, none⟩) (.inl (by simp)) (.int .u64 (N : Int))).setCell (a := ⟨w.heap.size, 1, none⟩) (.inl (by simp)) (.float .f64 0)).setCell (a := ⟨w.heap.size, 2, none⟩) (.inl (by simp)) (.string (S []))).setCell (a := ⟨w.heap.size, 3, none⟩) (.inl (by simp)) (.bool false))
    have F := Lib.hid (And.intro (a1.carry ts (by simp; omega)) (((T0.out.mono (S' := [p]) (by simp)).trans t1 (fun b hb => .inl hb)).trans ts (fun b hb => .inr (by simp at hb; omega))))
    clear a1 hb1 ts HB t1
    go_wp2_with fail
    exact bodyPost_ret (ret_box (t := 33) Try.results7 rfl G.out Try.underlying33 rfl (by kernel_rfl)) rfl ⟨rfl, F.out.1, F.out.2⟩
  · rw [show numQ 2 l = .error 5 by unfold numQ; rw [if_neg h8]]
    go_enter Try.func7, Try.ntmps7
    go_wp2_with fail
    refine (U.out).mono ?_
    intro e w1 hj
    obtain ⟨rfl, t1⟩ := hj.2 (by omega)
    clear hj U
    go_wp2_with fail
    exact ⟨rfl, Did.er rfl ((T0.out.mono (S' := [p]) (by simp)).trans t1 (fun b hb => .inl hb))⟩
set_option maxHeartbeats 1600000 in
set_option maxRecDepth 100000 in
theorem one_2 (h : At w p l) (hl : l.length ≤ 1000000000) (n : Int) : Calls Try.prog 7 #[.pointer (some ⟨p, 0, none⟩), .int .i64 2, .int .i64 n] w (Did p w (numQ 4 l)) := by
  have t0 : Touch [] w (w.alloc (.cells #[.int .u64 0, .float .f64 0, .string ⟨#[]⟩, .bool false] 33)) := (Touch.refl [] w).alloc _
  have HB := Lib.hid (show BoxV (w.alloc (.cells #[.int .u64 0, .float .f64 0, .string ⟨#[]⟩, .bool false] 33)) w.heap.size 33 #[.int .u64 0, .float .f64 0, .string ⟨#[]⟩, .bool false] from BoxV.new w 33 _)
  have lp := h.lt
  have HA := Lib.hid (h.carry t0 (by simp))
  have T0 := Lib.hid t0
  clear h t0
  have U := Lib.hid (u32_any HA.out hl)
  unfold Reads Fails at U
  by_cases h8 : 4 ≤ l.length
  · rw [show numQ 4 l = .ok (⟨num (l.take 4), 0, [], false⟩, l.drop 4) by unfold numQ; rw [if_pos h8]]
    have hlt : num (l.take 4) < 18446744073709551616 := Nat.lt_of_lt_of_le (num_lt _) (Nat.le_trans (Nat.pow_le_pow_right (by omega) (List.length_take_le 4 l)) (by decide))
    have hw := told_wrap _ hlt
    generalize num (l.take 4) = N at *
    clear HA
    go_enter Try.func7, Try.ntmps7
    go_wp2_with fail
    refine (U.out).mono ?_
    intro e w1 hj
    obtain ⟨rfl, a1, t1⟩ := hj.1 h8
    clear hj U
    have hb1 := HB.out.carry t1 (by simp; omega)
    have x0 := hb1.cell 0
    have x1 := hb1.cell 1
    have x2 := hb1.cell 2
    have x3 := hb1.cell 3
    simp only [List.getElem?_toArray, List.getElem?_cons_zero, List.getElem?_cons_succ] at x0 x1 x2 x3
    have lx := hb1.lt
    have fz := hb1.fr
    have hs0 := hb1.set 0 (.int .u64 (N : Int))
    have y1 := hs0.cell 1
    have q1 := hs0.fr 1
    simp only [List.setIfInBounds_toArray, List.set_cons_succ, List.set_cons_zero, List.getElem?_toArray, List.getElem?_cons_zero, List.getElem?_cons_succ] at y1
    have sf := store_f64 (v := .float .f64 0) y1 q1 rfl
    clear y1 q1 hs0
    have G := Lib.hid ((((hb1.set 0 (.int .u64 (N : Int))).set 1 (.float .f64 0)).set 2 (.string (S []))).set 3 (.bool false))
    have ts := (((((Touch.refl [w.heap.size] w1).setCell (a := ⟨w.heap.size, 0, none⟩) (.inl (by simp)) (.int .u64 (N : Int))).setCell (a := ⟨w.heap.size, 1, none⟩) (.inl (by simp)) (.float .f64 0)).setCell (a := ⟨w.heap.size, 2, none⟩) (.inl (by simp)) (.string (S []))).setCell (a := ⟨w.heap.size, 3, none⟩) (.inl (by simp)) (.bool false))
    have F := Lib.hid (And.intro (a1.carry ts (by simp; omega)) (((T0.out.mono (S' := [p]) (by simp)).trans t1 (fun b hb => .inl hb)).trans ts (fun b hb => .inr (by simp at hb; omega))))
    clear a1 hb1 ts HB t1
    go_wp2_with fail
    exact bodyPost_ret (ret_box (t := 33) Try.results7 rfl G.out Try.underlying33 rfl (by kernel_rfl)) rfl ⟨rfl, F.out.1, F.out.2⟩
  · rw [show numQ 4 l = .error 5 by unfold numQ; rw [if_neg h8]]
    go_enter Try.func7, Try.ntmps7
    go_wp2_with fail
    refine (U.out).mono ?_
    intro e w1 hj
    obtain ⟨rfl, t1⟩ := hj.2 (by omega)
    clear hj U
    go_wp2_with fail
    exact ⟨rfl, Did.er rfl ((T0.out.mono (S' := [p]) (by simp)).trans t1 (fun b hb => .inl hb))⟩
set_option maxHeartbeats 1600000 in
set_option maxRecDepth 100000 in
theorem one_3 (h : At w p l) (hl : l.length ≤ 1000000000) (n : Int) : Calls Try.prog 7 #[.pointer (some ⟨p, 0, none⟩), .int .i64 3, .int .i64 n] w (Did p w (numQ 8 l)) := by
  have t0 : Touch [] w (w.alloc (.cells #[.int .u64 0, .float .f64 0, .string ⟨#[]⟩, .bool false] 33)) := (Touch.refl [] w).alloc _
  have HB := Lib.hid (show BoxV (w.alloc (.cells #[.int .u64 0, .float .f64 0, .string ⟨#[]⟩, .bool false] 33)) w.heap.size 33 #[.int .u64 0, .float .f64 0, .string ⟨#[]⟩, .bool false] from BoxV.new w 33 _)
  have lp := h.lt
  have HA := Lib.hid (h.carry t0 (by simp))
  have T0 := Lib.hid t0
  clear h t0
  have U := Lib.hid (u64_any HA.out hl)
  unfold Reads Fails at U
  by_cases h8 : 8 ≤ l.length
  · rw [show numQ 8 l = .ok (⟨num (l.take 8), 0, [], false⟩, l.drop 8) by unfold numQ; rw [if_pos h8]]
    have hlt : num (l.take 8) < 18446744073709551616 := Nat.lt_of_lt_of_le (num_lt _) (Nat.le_trans (Nat.pow_le_pow_right (by omega) (List.length_take_le 8 l)) (by decide))
    have hw := told_wrap _ hlt
    generalize num (l.take 8) = N at *
    clear HA
    go_enter Try.func7, Try.ntmps7
    go_wp2_with fail
    refine (U.out).mono ?_
    intro e w1 hj
    obtain ⟨rfl, a1, t1⟩ := hj.1 h8
    clear hj U
    have hb1 := HB.out.carry t1 (by simp; omega)
    have x0 := hb1.cell 0
    have x1 := hb1.cell 1
    have x2 := hb1.cell 2
    have x3 := hb1.cell 3
    simp only [List.getElem?_toArray, List.getElem?_cons_zero, List.getElem?_cons_succ] at x0 x1 x2 x3
    have lx := hb1.lt
    have fz := hb1.fr
    have hs0 := hb1.set 0 (.int .u64 (N : Int))
    have y1 := hs0.cell 1
    have q1 := hs0.fr 1
    simp only [List.setIfInBounds_toArray, List.set_cons_succ, List.set_cons_zero, List.getElem?_toArray, List.getElem?_cons_zero, List.getElem?_cons_succ] at y1
    have sf := store_f64 (v := .float .f64 0) y1 q1 rfl
    clear y1 q1 hs0
    have G := Lib.hid ((((hb1.set 0 (.int .u64 (N : Int))).set 1 (.float .f64 0)).set 2 (.string (S []))).set 3 (.bool false))
    have ts := (((((Touch.refl [w.heap.size] w1).setCell (a := ⟨w.heap.size, 0, none⟩) (.inl (by simp)) (.int .u64 (N : Int))).setCell (a := ⟨w.heap.size, 1, none⟩) (.inl (by simp)) (.float .f64 0)).setCell (a := ⟨w.heap.size, 2, none⟩) (.inl (by simp)) (.string (S []))).setCell (a := ⟨w.heap.size, 3, none⟩) (.inl (by simp)) (.bool false))
    have F := Lib.hid (And.intro (a1.carry ts (by simp; omega)) (((T0.out.mono (S' := [p]) (by simp)).trans t1 (fun b hb => .inl hb)).trans ts (fun b hb => .inr (by simp at hb; omega))))
    clear a1 hb1 ts HB t1
    go_wp2_with fail
    exact bodyPost_ret (ret_box (t := 33) Try.results7 rfl G.out Try.underlying33 rfl (by kernel_rfl)) rfl ⟨rfl, F.out.1, F.out.2⟩
  · rw [show numQ 8 l = .error 5 by unfold numQ; rw [if_neg h8]]
    go_enter Try.func7, Try.ntmps7
    go_wp2_with fail
    refine (U.out).mono ?_
    intro e w1 hj
    obtain ⟨rfl, t1⟩ := hj.2 (by omega)
    clear hj U
    go_wp2_with fail
    exact ⟨rfl, Did.er rfl ((T0.out.mono (S' := [p]) (by simp)).trans t1 (fun b hb => .inl hb))⟩
set_option maxHeartbeats 1600000 in
set_option maxRecDepth 100000 in
theorem one_4 (h : At w p l) (hl : l.length ≤ 1000000000) (n : Int) : Calls Try.prog 7 #[.pointer (some ⟨p, 0, none⟩), .int .i64 4, .int .i64 n] w (Did p w (varQ l)) := by
  have t0 : Touch [] w (w.alloc (.cells #[.int .u64 0, .float .f64 0, .string ⟨#[]⟩, .bool false] 33)) := (Touch.refl [] w).alloc _
  have HB := Lib.hid (show BoxV (w.alloc (.cells #[.int .u64 0, .float .f64 0, .string ⟨#[]⟩, .bool false] 33)) w.heap.size 33 #[.int .u64 0, .float .f64 0, .string ⟨#[]⟩, .bool false] from BoxV.new w 33 _)
  have lp := h.lt
  have HA := Lib.hid (h.carry t0 (by simp))
  have T0 := Lib.hid t0
  clear h t0
  have U := Lib.hid (var_any HA.out hl)
  unfold Reads Fails at U
  have hw := wrap_u64n (varV l)
  by_cases h8 : varE l = 0
  · rw [show varQ l = .ok (⟨u64n (varV l), 0, [], false⟩, l.drop (lead l + 1)) by unfold varQ; rw [if_pos h8]]
    generalize u64n (varV l) = N at *
    generalize varV l = V at *
    clear HA
    go_enter Try.func7, Try.ntmps7
    go_wp2_with fail
    refine (U.out).mono ?_
    intro e w1 hj
    obtain ⟨rfl, a1, t1⟩ := hj.1 h8
    clear hj U
    have hb1 := HB.out.carry t1 (by simp; omega)
    have x0 := hb1.cell 0
    have x1 := hb1.cell 1
    have x2 := hb1.cell 2
    have x3 := hb1.cell 3
    simp only [List.getElem?_toArray, List.getElem?_cons_zero, List.getElem?_cons_succ] at x0 x1 x2 x3
    have lx := hb1.lt
    have fz := hb1.fr
    have hs0 := hb1.set 0 (.int .u64 (N : Int))
    have y1 := hs0.cell 1
    have q1 := hs0.fr 1
    simp only [List.setIfInBounds_toArray, List.set_cons_succ, List.set_cons_zero, List.getElem?_toArray, List.getElem?_cons_zero, List.getElem?_cons_succ] at y1
    have sf := store_f64 (v := .float .f64 0) y1 q1 rfl
    clear y1 q1 hs0
    have G := Lib.hid ((((hb1.set 0 (.int .u64 (N : Int))).set 1 (.float .f64 0)).set 2 (.string (S []))).set 3 (.bool false))
    have ts := (((((Touch.refl [w.heap.size] w1).setCell (a := ⟨w.heap.size, 0, none⟩) (.inl (by simp)) (.int .u64 (N : Int))).setCell (a := ⟨w.heap.size, 1, none⟩) (.inl (by simp)) (.float .f64 0)).setCell (a := ⟨w.heap.size, 2, none⟩) (.inl (by simp)) (.string (S []))).setCell (a := ⟨w.heap.size, 3, none⟩) (.inl (by simp)) (.bool false))
    have F := Lib.hid (And.intro (a1.carry ts (by simp; omega)) (((T0.out.mono (S' := [p]) (by simp)).trans t1 (fun b hb => .inl hb)).trans ts (fun b hb => .inr (by simp at hb; omega))))
    clear a1 hb1 ts HB t1
    go_wp2_with fail
    exact bodyPost_ret (ret_box (t := 33) Try.results7 rfl G.out Try.underlying33 rfl (by kernel_rfl)) rfl ⟨rfl, F.out.1, F.out.2⟩
  · rw [show varQ l = .error (varE l) by unfold varQ; rw [if_neg h8]]
    go_enter Try.func7, Try.ntmps7
    go_wp2_with fail
    refine (U.out).mono ?_
    intro e w1 hj
    obtain ⟨rfl, t1⟩ := hj.2 h8
    clear hj U
    go_wp2_with fail
    exact ⟨rfl, Did.er rfl ((T0.out.mono (S' := [p]) (by simp)).trans t1 (fun b hb => .inl hb))⟩
set_option maxHeartbeats 1600000 in
set_option maxRecDepth 100000 in
theorem one_5 (h : At w p l) (hl : l.length ≤ 1000000000) (n : Int) : Calls Try.prog 7 #[.pointer (some ⟨p, 0, none⟩), .int .i64 5, .int .i64 n] w (Did p w (floatQ l)) := by
  have t0 : Touch [] w (w.alloc (.cells #[.int .u64 0, .float .f64 0, .string ⟨#[]⟩, .bool false] 33)) := (Touch.refl [] w).alloc _
  have HB := Lib.hid (show BoxV (w.alloc (.cells #[.int .u64 0, .float .f64 0, .string ⟨#[]⟩, .bool false] 33)) w.heap.size 33 #[.int .u64 0, .float .f64 0, .string ⟨#[]⟩, .bool false] from BoxV.new w 33 _)
  have lp := h.lt
  have HA := Lib.hid (h.carry t0 (by simp))
  have T0 := Lib.hid t0
  clear h t0
  have U := Lib.hid (float_any HA.out hl)
  unfold Reads Fails isN at U
  by_cases h8 : 8 ≤ l.length
  · by_cases hn : 9218868437227405312 < rung (num (l.take 8)) ∧ num (l.take 8) ≠ 9221120237041090560
    · rw [show floatQ l = .error 21 by unfold floatQ; rw [if_pos h8, if_pos hn]]
      go_enter Try.func7, Try.ntmps7
      go_wp2_with fail
      refine (U.out).mono ?_
      intro e w1 hj
      obtain ⟨rfl, t1⟩ := hj.2.1 h8 (by rintro (h | h); (· exact h hn.1); exact hn.2 h)
      clear hj U
      go_wp2_with fail
      exact ⟨rfl, Did.er rfl ((T0.out.mono (S' := [p]) (by simp)).trans t1 (fun b hb => .inl hb))⟩
    · rw [show floatQ l = .ok (⟨0, num (l.take 8), [], false⟩, l.drop 8) by unfold floatQ; rw [if_pos h8, if_neg hn]]
      have hn2 : ¬ 9218868437227405312 < rung (num (l.take 8)) ∨ num (l.take 8) = 9221120237041090560 := by
        by_cases h : 9218868437227405312 < rung (num (l.take 8))
        · right
          by_cases h2 : num (l.take 8) = 9221120237041090560
          · exact h2
          · exact absurd ⟨h, h2⟩ hn
        · exact .inl h
      generalize num (l.take 8) = N at *
      clear HA
      go_enter Try.func7, Try.ntmps7
      go_wp2_with fail
      refine (U.out).mono ?_
      intro e w1 hj
      obtain ⟨rfl, a1, t1⟩ := hj.1 h8 hn2
      clear hj U hn hn2
      have hb1 := HB.out.carry t1 (by simp; omega)
      have x0 := hb1.cell 0
      have x1 := hb1.cell 1
      have x2 := hb1.cell 2
      have x3 := hb1.cell 3
      simp only [List.getElem?_toArray, List.getElem?_cons_zero, List.getElem?_cons_succ] at x0 x1 x2 x3
      have lx := hb1.lt
      have fz := hb1.fr
      have hs0 := hb1.set 0 (.int .u64 0)
      have y1 := hs0.cell 1
      have q1 := hs0.fr 1
      simp only [List.setIfInBounds_toArray, List.set_cons_succ, List.set_cons_zero, List.getElem?_toArray, List.getElem?_cons_zero, List.getElem?_cons_succ] at y1
      have sf := store_f64 (v := .float .f64 N) y1 q1 rfl
      clear y1 q1 hs0
      have G := Lib.hid ((((hb1.set 0 (.int .u64 0)).set 1 (.float .f64 N)).set 2 (.string (S []))).set 3 (.bool false))
      have ts := (((((Touch.refl [w.heap.size] w1).setCell (a := ⟨w.heap.size, 0, none⟩) (.inl (by simp)) (.int .u64 0)).setCell (a := ⟨w.heap.size, 1, none⟩) (.inl (by simp)) (.float .f64 N)).setCell (a := ⟨w.heap.size, 2, none⟩) (.inl (by simp)) (.string (S []))).setCell (a := ⟨w.heap.size, 3, none⟩) (.inl (by simp)) (.bool false))
      have F := Lib.hid (And.intro (a1.carry ts (by simp; omega)) (((T0.out.mono (S' := [p]) (by simp)).trans t1 (fun b hb => .inl hb)).trans ts (fun b hb => .inr (by simp at hb; omega))))
      clear a1 hb1 ts HB t1
      go_wp2_with fail
      exact bodyPost_ret (ret_box (t := 33) Try.results7 rfl G.out Try.underlying33 rfl (by kernel_rfl)) rfl ⟨rfl, F.out.1, F.out.2⟩
  · rw [show floatQ l = .error 5 by unfold floatQ; rw [if_neg h8]]
    go_enter Try.func7, Try.ntmps7
    go_wp2_with fail
    refine (U.out).mono ?_
    intro e w1 hj
    obtain ⟨rfl, t1⟩ := hj.2.2 (by omega)
    clear hj U
    go_wp2_with fail
    exact ⟨rfl, Did.er rfl ((T0.out.mono (S' := [p]) (by simp)).trans t1 (fun b hb => .inl hb))⟩
set_option maxHeartbeats 1600000 in
set_option maxRecDepth 100000 in
theorem one_6 (h : At w p l) (hl : l.length ≤ 1000000000) (n : Int) : Calls Try.prog 7 #[.pointer (some ⟨p, 0, none⟩), .int .i64 6, .int .i64 n] w (Did p w (boolQ l)) := by
  have t0 : Touch [] w (w.alloc (.cells #[.int .u64 0, .float .f64 0, .string ⟨#[]⟩, .bool false] 33)) := (Touch.refl [] w).alloc _
  have HB := Lib.hid (show BoxV (w.alloc (.cells #[.int .u64 0, .float .f64 0, .string ⟨#[]⟩, .bool false] 33)) w.heap.size 33 #[.int .u64 0, .float .f64 0, .string ⟨#[]⟩, .bool false] from BoxV.new w 33 _)
  have lp := h.lt
  have HA := Lib.hid (h.carry t0 (by simp))
  have T0 := Lib.hid t0
  clear h t0
  have U := Lib.hid (bool_any HA.out hl)
  unfold Reads Fails at U
  cases l with
  | nil =>
    rw [show boolQ [] = .error 5 from rfl]
    go_enter Try.func7, Try.ntmps7
    go_wp2_with fail
    refine (U.out).mono ?_
    intro e w1 hj
    obtain ⟨rfl, t1⟩ := hj.2.2 (by trivial)
    clear hj U
    go_wp2_with fail
    exact ⟨rfl, Did.er rfl ((T0.out.mono (S' := [p]) (by simp)).trans t1 (fun b hb => .inl hb))⟩
  | cons b m =>
    by_cases hb : b.toNat ≤ 1
    · rw [show boolQ (b :: m) = .ok (⟨0, 0, [], b.toNat == 1⟩, m) by simp only [boolQ]; rw [if_pos hb]]
      clear HA
      go_enter Try.func7, Try.ntmps7
      go_wp2_with fail
      refine (U.out).mono ?_
      intro e w1 hj
      obtain ⟨rfl, a1, t1⟩ := hj.1 b m rfl hb
      clear hj U
      generalize (b.toNat == 1) = q at *
      have hb1 := HB.out.carry t1 (by simp; omega)
      have x0 := hb1.cell 0
      have x1 := hb1.cell 1
      have x2 := hb1.cell 2
      have x3 := hb1.cell 3
      simp only [List.getElem?_toArray, List.getElem?_cons_zero, List.getElem?_cons_succ] at x0 x1 x2 x3
      have lx := hb1.lt
      have fz := hb1.fr
      have hs0 := hb1.set 0 (.int .u64 0)
      have y1 := hs0.cell 1
      have q1 := hs0.fr 1
      simp only [List.setIfInBounds_toArray, List.set_cons_succ, List.set_cons_zero, List.getElem?_toArray, List.getElem?_cons_zero, List.getElem?_cons_succ] at y1
      have sf := store_f64 (v := .float .f64 0) y1 q1 rfl
      clear y1 q1 hs0
      have G := Lib.hid ((((hb1.set 0 (.int .u64 0)).set 1 (.float .f64 0)).set 2 (.string (S []))).set 3 (.bool q))
      have ts := (((((Touch.refl [w.heap.size] w1).setCell (a := ⟨w.heap.size, 0, none⟩) (.inl (by simp)) (.int .u64 0)).setCell (a := ⟨w.heap.size, 1, none⟩) (.inl (by simp)) (.float .f64 0)).setCell (a := ⟨w.heap.size, 2, none⟩) (.inl (by simp)) (.string (S []))).setCell (a := ⟨w.heap.size, 3, none⟩) (.inl (by simp)) (.bool q))
      have F := Lib.hid (And.intro (a1.carry ts (by simp; omega)) (((T0.out.mono (S' := [p]) (by simp)).trans t1 (fun b hb => .inl hb)).trans ts (fun b hb => .inr (by simp at hb; omega))))
      clear a1 hb1 ts HB t1
      go_wp2_with fail
      exact bodyPost_ret (ret_box (t := 33) Try.results7 rfl G.out Try.underlying33 rfl (by kernel_rfl)) rfl ⟨rfl, F.out.1, F.out.2⟩
    · rw [show boolQ (b :: m) = .error 6 by simp only [boolQ]; rw [if_neg hb]]
      go_enter Try.func7, Try.ntmps7
      go_wp2_with fail
      refine (U.out).mono ?_
      intro e w1 hj
      obtain ⟨rfl, t1⟩ := hj.2.1 b m rfl (by omega)
      clear hj U
      go_wp2_with fail
      exact ⟨rfl, Did.er rfl ((T0.out.mono (S' := [p]) (by simp)).trans t1 (fun b hb => .inl hb))⟩
set_option maxHeartbeats 1600000 in
set_option maxRecDepth 100000 in
theorem one_7 (h : At w p l) (hl : l.length ≤ 1000000000) (n : Int) : Calls Try.prog 7 #[.pointer (some ⟨p, 0, none⟩), .int .i64 7, .int .i64 n] w (Did p w (takeQ n l)) := by
  have t0 : Touch [] w (w.alloc (.cells #[.int .u64 0, .float .f64 0, .string ⟨#[]⟩, .bool false] 33)) := (Touch.refl [] w).alloc _
  have HB := Lib.hid (show BoxV (w.alloc (.cells #[.int .u64 0, .float .f64 0, .string ⟨#[]⟩, .bool false] 33)) w.heap.size 33 #[.int .u64 0, .float .f64 0, .string ⟨#[]⟩, .bool false] from BoxV.new w 33 _)
  have lp := h.lt
  have HA := Lib.hid (h.carry t0 (by simp))
  have T0 := Lib.hid t0
  clear h t0
  by_cases hn : n < 0
  · rw [show takeQ n l = .error 2 by unfold takeQ; rw [if_pos hn]]
    have U := Lib.hid (take_neg (w := w.alloc (.cells #[.int .u64 0, .float .f64 0, .string ⟨#[]⟩, .bool false] 33)) p n hn)
    unfold Fails at U
    clear HA
    go_enter Try.func7, Try.ntmps7
    go_wp2_with fail
    refine (U.out).mono ?_
    rintro e w1 ⟨rfl, t1⟩
    go_wp2_with fail
    exact ⟨rfl, Did.er rfl ((T0.out.mono (S' := [p]) (by simp)).trans t1 (fun b hb => .inl hb))⟩
  · obtain ⟨k, rfl⟩ := Int.eq_ofNat_of_zero_le (show 0 ≤ n by omega)
    by_cases hk : k ≤ l.length
    · rw [show takeQ (k : Int) l = .ok (⟨0, 0, l.take k, false⟩, l.drop k) by unfold takeQ; rw [if_neg hn, Int.toNat_natCast, if_pos hk]]
      have U := Lib.hid (take_ok HA.out k hk hl)
      unfold Reads at U
      clear HA
      go_enter Try.func7, Try.ntmps7
      go_wp2_with fail
      refine (U.out).mono ?_
      rintro e w1 ⟨rfl, a1, t1⟩
      have hb1 := HB.out.carry t1 (by simp; omega)
      have x0 := hb1.cell 0
      have x1 := hb1.cell 1
      have x2 := hb1.cell 2
      have x3 := hb1.cell 3
      simp only [List.getElem?_toArray, List.getElem?_cons_zero, List.getElem?_cons_succ] at x0 x1 x2 x3
      have lx := hb1.lt
      have fz := hb1.fr
      have hs0 := hb1.set 0 (.int .u64 0)
      have y1 := hs0.cell 1
      have q1 := hs0.fr 1
      simp only [List.setIfInBounds_toArray, List.set_cons_succ, List.set_cons_zero, List.getElem?_toArray, List.getElem?_cons_zero, List.getElem?_cons_succ] at y1
      have sf := store_f64 (v := .float .f64 0) y1 q1 rfl
      clear y1 q1 hs0
      have G := Lib.hid ((((hb1.set 0 (.int .u64 0)).set 1 (.float .f64 0)).set 2 (.string (S (l.take k)))).set 3 (.bool false))
      have ts := (((((Touch.refl [w.heap.size] w1).setCell (a := ⟨w.heap.size, 0, none⟩) (.inl (by simp)) (.int .u64 0)).setCell (a := ⟨w.heap.size, 1, none⟩) (.inl (by simp)) (.float .f64 0)).setCell (a := ⟨w.heap.size, 2, none⟩) (.inl (by simp)) (.string (S (l.take k)))).setCell (a := ⟨w.heap.size, 3, none⟩) (.inl (by simp)) (.bool false))
      have F := Lib.hid (And.intro (a1.carry ts (by simp; omega)) (((T0.out.mono (S' := [p]) (by simp)).trans t1 (fun b hb => .inl hb)).trans ts (fun b hb => .inr (by simp at hb; omega))))
      clear a1 hb1 ts HB t1
      go_wp2_with fail
      exact bodyPost_ret (ret_box (t := 33) Try.results7 rfl G.out Try.underlying33 rfl (by kernel_rfl)) rfl ⟨rfl, F.out.1, F.out.2⟩
    · rw [show takeQ (k : Int) l = .error 5 by unfold takeQ; rw [if_neg hn, Int.toNat_natCast, if_neg hk]]
      have U := Lib.hid (take_short HA.out k (by omega) hl)
      unfold Fails at U
      clear HA
      go_enter Try.func7, Try.ntmps7
      go_wp2_with fail
      refine (U.out).mono ?_
      rintro e w1 ⟨rfl, t1⟩
      go_wp2_with fail
      exact ⟨rfl, Did.er rfl ((T0.out.mono (S' := [p]) (by simp)).trans t1 (fun b hb => .inl hb))⟩
set_option maxHeartbeats 1600000 in
set_option maxRecDepth 100000 in
theorem one_8 (h : At w p l) (hl : l.length ≤ 1000000000) (n : Int) : Calls Try.prog 7 #[.pointer (some ⟨p, 0, none⟩), .int .i64 8, .int .i64 n] w (Did p w (endQ l)) := by
  have t0 : Touch [] w (w.alloc (.cells #[.int .u64 0, .float .f64 0, .string ⟨#[]⟩, .bool false] 33)) := (Touch.refl [] w).alloc _
  have HB := Lib.hid (show BoxV (w.alloc (.cells #[.int .u64 0, .float .f64 0, .string ⟨#[]⟩, .bool false] 33)) w.heap.size 33 #[.int .u64 0, .float .f64 0, .string ⟨#[]⟩, .bool false] from BoxV.new w 33 _)
  have lp := h.lt
  have HA := Lib.hid (h.carry t0 (by simp))
  have T0 := Lib.hid t0
  clear h t0
  cases l with
  | nil =>
    rw [show endQ [] = .ok (Tld.zero, []) from rfl]
    have U := Lib.hid (end_yes HA.out)
    go_enter Try.func7, Try.ntmps7
    go_wp2_with fail
    refine (U.out).mono ?_
    rintro e w1 ⟨rfl, hw⟩
    have a1 := HA.out
    rw [← hw] at a1
    have t1 : Touch [p] (w.alloc (.cells #[.int .u64 0, .float .f64 0, .string ⟨#[]⟩, .bool false] 33)) w1 := by rw [hw]; exact Touch.refl _ _
    clear hw U
    have hb1 := HB.out.carry t1 (by simp; omega)
    have x0 := hb1.cell 0
    have x1 := hb1.cell 1
    have x2 := hb1.cell 2
    have x3 := hb1.cell 3
    simp only [List.getElem?_toArray, List.getElem?_cons_zero, List.getElem?_cons_succ] at x0 x1 x2 x3
    have lx := hb1.lt
    have fz := hb1.fr
    have hs0 := hb1.set 0 (.int .u64 0)
    have y1 := hs0.cell 1
    have q1 := hs0.fr 1
    simp only [List.setIfInBounds_toArray, List.set_cons_succ, List.set_cons_zero, List.getElem?_toArray, List.getElem?_cons_zero, List.getElem?_cons_succ] at y1
    have sf := store_f64 (v := .float .f64 0) y1 q1 rfl
    clear y1 q1 hs0
    have G := Lib.hid ((((hb1.set 0 (.int .u64 0)).set 1 (.float .f64 0)).set 2 (.string (S []))).set 3 (.bool false))
    have ts := (((((Touch.refl [w.heap.size] w1).setCell (a := ⟨w.heap.size, 0, none⟩) (.inl (by simp)) (.int .u64 0)).setCell (a := ⟨w.heap.size, 1, none⟩) (.inl (by simp)) (.float .f64 0)).setCell (a := ⟨w.heap.size, 2, none⟩) (.inl (by simp)) (.string (S []))).setCell (a := ⟨w.heap.size, 3, none⟩) (.inl (by simp)) (.bool false))
    have F := Lib.hid (And.intro (a1.carry ts (by simp; omega)) (((T0.out.mono (S' := [p]) (by simp)).trans t1 (fun b hb => .inl hb)).trans ts (fun b hb => .inr (by simp at hb; omega))))
    clear a1 hb1 ts HB t1
    go_wp2_with fail
    exact bodyPost_ret (ret_box (t := 33) Try.results7 rfl G.out Try.underlying33 rfl (by kernel_rfl)) rfl ⟨rfl, F.out.1, F.out.2⟩
  | cons b m =>
    rw [show endQ (b :: m) = .error 4 from rfl]
    have U := Lib.hid (end_no HA.out (by simp))
    unfold Fails at U
    clear HA
    go_enter Try.func7, Try.ntmps7
    go_wp2_with fail
    refine (U.out).mono ?_
    rintro e w1 ⟨rfl, t1⟩
    go_wp2_with fail
    exact ⟨rfl, Did.er rfl ((T0.out.mono (S' := [p]) (by simp)).trans t1 (fun b hb => .inl hb))⟩
set_option maxHeartbeats 1600000 in
set_option maxRecDepth 100000 in
theorem one_9 (h : At w p l) (hl : l.length ≤ 1000000000) (n : Int) : Calls Try.prog 7 #[.pointer (some ⟨p, 0, none⟩), .int .i64 9, .int .i64 n] w (Did p w (needQ n l)) := by
  have t0 : Touch [] w (w.alloc (.cells #[.int .u64 0, .float .f64 0, .string ⟨#[]⟩, .bool false] 33)) := (Touch.refl [] w).alloc _
  have HB := Lib.hid (show BoxV (w.alloc (.cells #[.int .u64 0, .float .f64 0, .string ⟨#[]⟩, .bool false] 33)) w.heap.size 33 #[.int .u64 0, .float .f64 0, .string ⟨#[]⟩, .bool false] from BoxV.new w 33 _)
  have lp := h.lt
  have HA := Lib.hid (h.carry t0 (by simp))
  have T0 := Lib.hid t0
  clear h t0
  by_cases hn : n = 0
  · subst hn
    rw [show needQ 0 l = .ok (Tld.zero, l) from rfl]
    have y0 : ((0 : Int) == 0) = true := rfl
    have U := Lib.hid (need_yes (.pointer (some ⟨p, 0, none⟩)) 0 (w.alloc (.cells #[.int .u64 0, .float .f64 0, .string ⟨#[]⟩, .bool false] 33)))
    go_enter Try.func7, Try.ntmps7
    go_wp2_with fail
    refine (U.out).mono ?_
    rintro e w1 ⟨rfl, hw⟩
    have a1 := HA.out
    rw [← hw] at a1
    have t1 : Touch [p] (w.alloc (.cells #[.int .u64 0, .float .f64 0, .string ⟨#[]⟩, .bool false] 33)) w1 := by rw [hw]; exact Touch.refl _ _
    clear hw U
    have hb1 := HB.out.carry t1 (by simp; omega)
    have x0 := hb1.cell 0
    have x1 := hb1.cell 1
    have x2 := hb1.cell 2
    have x3 := hb1.cell 3
    simp only [List.getElem?_toArray, List.getElem?_cons_zero, List.getElem?_cons_succ] at x0 x1 x2 x3
    have lx := hb1.lt
    have fz := hb1.fr
    have hs0 := hb1.set 0 (.int .u64 0)
    have y1 := hs0.cell 1
    have q1 := hs0.fr 1
    simp only [List.setIfInBounds_toArray, List.set_cons_succ, List.set_cons_zero, List.getElem?_toArray, List.getElem?_cons_zero, List.getElem?_cons_succ] at y1
    have sf := store_f64 (v := .float .f64 0) y1 q1 rfl
    clear y1 q1 hs0
    have G := Lib.hid ((((hb1.set 0 (.int .u64 0)).set 1 (.float .f64 0)).set 2 (.string (S []))).set 3 (.bool false))
    have ts := (((((Touch.refl [w.heap.size] w1).setCell (a := ⟨w.heap.size, 0, none⟩) (.inl (by simp)) (.int .u64 0)).setCell (a := ⟨w.heap.size, 1, none⟩) (.inl (by simp)) (.float .f64 0)).setCell (a := ⟨w.heap.size, 2, none⟩) (.inl (by simp)) (.string (S []))).setCell (a := ⟨w.heap.size, 3, none⟩) (.inl (by simp)) (.bool false))
    have F := Lib.hid (And.intro (a1.carry ts (by simp; omega)) (((T0.out.mono (S' := [p]) (by simp)).trans t1 (fun b hb => .inl hb)).trans ts (fun b hb => .inr (by simp at hb; omega))))
    clear a1 hb1 ts HB t1
    go_wp2_with fail
    exact bodyPost_ret (ret_box (t := 33) Try.results7 rfl G.out Try.underlying33 rfl (by kernel_rfl)) rfl ⟨rfl, F.out.1, F.out.2⟩
  · rw [show needQ n l = .error n by unfold needQ; rw [if_neg hn]]
    have y0 : (n == 0) = false := by simpa using hn
    have U := Lib.hid (need_no p n hn (w.alloc (.cells #[.int .u64 0, .float .f64 0, .string ⟨#[]⟩, .bool false] 33)))
    clear HA
    go_enter Try.func7, Try.ntmps7
    go_wp2_with fail
    refine (U.out).mono ?_
    rintro e w1 ⟨rfl, hw⟩
    rw [hw]
    clear hw w1 U
    go_wp2_with fail
    exact ⟨rfl, Did.er rfl (T0.out.mono (by simp))⟩
set_option maxHeartbeats 1600000 in
set_option maxRecDepth 100000 in
theorem one_x (h : At w p l) (hl : l.length ≤ 1000000000) (n : Int) (op : Int) (hop : op < 0 ∨ 9 < op) : Calls Try.prog 7 #[.pointer (some ⟨p, 0, none⟩), .int .i64 op, .int .i64 n] w (Did p w (.ok (Tld.zero, l))) := by
  have t0 : Touch [] w (w.alloc (.cells #[.int .u64 0, .float .f64 0, .string ⟨#[]⟩, .bool false] 33)) := (Touch.refl [] w).alloc _
  have HB := Lib.hid (show BoxV (w.alloc (.cells #[.int .u64 0, .float .f64 0, .string ⟨#[]⟩, .bool false] 33)) w.heap.size 33 #[.int .u64 0, .float .f64 0, .string ⟨#[]⟩, .bool false] from BoxV.new w 33 _)
  have lp := h.lt
  have HA := Lib.hid (h.carry t0 (by simp))
  have T0 := Lib.hid t0
  clear h t0
  have z0 : (op == 0) = false := by simp; omega
  have z1 : (op == 1) = false := by simp; omega
  have z2 : (op == 2) = false := by simp; omega
  have z3 : (op == 3) = false := by simp; omega
  have z4 : (op == 4) = false := by simp; omega
  have z5 : (op == 5) = false := by simp; omega
  have z6 : (op == 6) = false := by simp; omega
  have z7 : (op == 7) = false := by simp; omega
  have z8 : (op == 8) = false := by simp; omega
  have z9 : (op == 9) = false := by simp; omega
  go_enter Try.func7, Try.ntmps7
  go_upto_region 22 with fail
  generalize w.alloc (.cells #[.int .u64 0, .float .f64 0, .string ⟨#[]⟩, .bool false] 33) = w1 at *
  have a1 := HA.out
  have t1 : Touch [p] w1 w1 := Touch.refl _ _
  have hb1 := HB.out.carry t1 (by simp; omega)
  have x0 := hb1.cell 0
  have x1 := hb1.cell 1
  have x2 := hb1.cell 2
  have x3 := hb1.cell 3
  simp only [List.getElem?_toArray, List.getElem?_cons_zero, List.getElem?_cons_succ] at x0 x1 x2 x3
  have lx := hb1.lt
  have fz := hb1.fr
  have hs0 := hb1.set 0 (.int .u64 0)
  have y1 := hs0.cell 1
  have q1 := hs0.fr 1
  simp only [List.setIfInBounds_toArray, List.set_cons_succ, List.set_cons_zero, List.getElem?_toArray, List.getElem?_cons_zero, List.getElem?_cons_succ] at y1
  have sf := store_f64 (v := .float .f64 0) y1 q1 rfl
  clear y1 q1 hs0
  have G := Lib.hid ((((hb1.set 0 (.int .u64 0)).set 1 (.float .f64 0)).set 2 (.string (S []))).set 3 (.bool false))
  have ts := (((((Touch.refl [w.heap.size] w1).setCell (a := ⟨w.heap.size, 0, none⟩) (.inl (by simp)) (.int .u64 0)).setCell (a := ⟨w.heap.size, 1, none⟩) (.inl (by simp)) (.float .f64 0)).setCell (a := ⟨w.heap.size, 2, none⟩) (.inl (by simp)) (.string (S []))).setCell (a := ⟨w.heap.size, 3, none⟩) (.inl (by simp)) (.bool false))
  have F := Lib.hid (And.intro (a1.carry ts (by simp; omega)) (((T0.out.mono (S' := [p]) (by simp)).trans t1 (fun b hb => .inl hb)).trans ts (fun b hb => .inr (by simp at hb; omega))))
  clear a1 hb1 ts HB t1
  go_wp2_with fail
  exact bodyPost_ret (ret_box (t := 33) Try.results7 rfl G.out Try.underlying33 rfl (by kernel_rfl)) rfl ⟨rfl, F.out.1, F.out.2⟩
theorem one_any (h : At w p l) (hl : l.length ≤ 1000000000) (op n : Int) : Calls Try.prog 7 #[.pointer (some ⟨p, 0, none⟩), .int .i64 op, .int .i64 n] w (Did p w (stepQ op n l)) := by
  by_cases h9 : op < 0 ∨ 9 < op
  · have e : stepQ op n l = .ok (Tld.zero, l) := by
      unfold stepQ
      rw [if_neg (by omega), if_neg (by omega), if_neg (by omega), if_neg (by omega), if_neg (by omega), if_neg (by omega), if_neg (by omega), if_neg (by omega), if_neg (by omega), if_neg (by omega)]
    rw [e]
    exact one_x h hl n op h9
  · rcases (show op = 0 ∨ op = 1 ∨ op = 2 ∨ op = 3 ∨ op = 4 ∨ op = 5 ∨ op = 6 ∨ op = 7 ∨ op = 8 ∨ op = 9 by omega) with rfl | rfl | rfl | rfl | rfl | rfl | rfl | rfl | rfl | rfl
    · exact one_0 h hl n
    · exact one_1 h hl n
    · exact one_2 h hl n
    · exact one_3 h hl n
    · exact one_4 h hl n
    · exact one_5 h hl n
    · exact one_6 h hl n
    · exact one_7 h hl n
    · exact one_8 h hl n
    · exact one_9 h hl n
end
end Go.Proofs.Ytpmnnaghadpnnaa
