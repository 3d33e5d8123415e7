/-
  ports (layer 13): header and Make; the reference's Make; the laws' example.
-/
import Derived.Test.YtfeeaokeomcafaaPortsRef
import Derived.Test.YtfeeaokeomcafaaRow8
import Derived.Deep.RegionLaw
namespace Go.Proofs.Ytfeeaokeomcafaa
open Go.ChangeShapes Go.WideShapes Go.ChangeAt Go.RowKit Go.Deep
set_option linter.unusedVariables false
set_option linter.unusedSimpArgs false

def headB (x a b n : Int) : List UInt8 :=
  if x = 6 then be (u64n a) 2 ++ be (u64n b) 2 ++ [0, 0, 0, 0, 0, 0, 0, 0, 80, 0, 0, 0, 0, 0, 0, 0]
  else if x = 17 then be (u64n a) 2 ++ be (u64n b) 2 ++ be (u64n (8 + n)) 2 ++ [0, 0] else []
theorem be_two (u : Nat) : be u 2 = [UInt8.ofNat (u / 256 ^ 1), UInt8.ofNat (u / 256 ^ 0)] := rfl

set_option maxHeartbeats 1000000 in
set_option maxRecDepth 100000 in
theorem header_tcp (a b n : Int) (w : World) : Calls Try.prog 95 #[.int .i64 6, .int .i64 a, .int .i64 b, .int .i64 n] w fun e w' => e = .returned (.string (S (headB 6 a b n))) ∧ Touch [] w w' := by
  have hmk := fun w => make8 20 20 rfl (by omega) w
  have L0 := Lib.hid (fun w => least_any 6 w)
  have P1 := Lib.hid (fun w => put2 a w)
  have R0 := Lib.hid (Row8.made w 20)
  have T0 := Lib.hid ((Touch.refl [] w).alloc (.cells (Array.replicate 20 (.int .u8 0)) 5))
  have e20 : leastV 6 = 20 := rfl
  rw [e20] at L0
  go_enter Try.func95, Try.ntmps95
  go_wp2_with fail
  refine (L0.out _).mono ?_
  rintro e w ⟨rfl, rfl⟩
  go_wp2_with fail
  refine (P1.out _).mono ?_
  intro e w1 hf
  obtain ⟨A1, n1, c1, rfl, b1, t1⟩ := fresh_bts hf
  have P2 := Lib.hid (putU16_any b1 b (by rw [be_length]; omega))
  have T1 := Lib.hid t1
  clear hf b1 t1
  go_wp2_with fail
  refine (P2.out).mono ?_
  intro e w2 hf
  obtain ⟨A2, n2, c2, rfl, b2, t2⟩ := fresh_bts hf
  have T2 := (T0.out.trans T1.out (by simp)).trans t2 (by simp)
  have R2 := (R0.out.carry T1.out (by simp)).carry t2 (by simp)
  obtain ⟨w3, hcp, R3, T3⟩ := copy_run R2 b2 0 20 20 (by simp)
  have f3 := R3.fr 12
  have l3 := R3.lt
  have c3 := R3.cell (i := 12) (by simp [splice, be_length])
  have R4 := R3.set 12 80 80 rfl
  have T4 := Lib.hid ((T2.trans (S := []) T3 (by simp)).setCell (a := ⟨w.heap.size, 12, none⟩) (Or.inr (Nat.le_refl _)) (.int .u8 80))
  have hE : (splice (List.replicate 20 (0 : UInt8)) 0 ((be (u64n a) 2 ++ be (u64n b) 2).take 20)).set 12 80 = headB 6 a b n := by
    unfold headB
    rw [if_pos rfl, be_two, be_two]
    rfl
  rw [hE] at R4
  have h20 : (headB 6 a b n).length = 20 := by unfold headB; rw [if_pos rfl]; simp [be_length]
  have hcv := str_of (R4.bts 20 (by omega) (by omega))
  rw [h20] at hcv
  clear hf b2 t2 P1 P2 R0 T0 T1 hmk R2 T2 T3 R3 R4
  go_wp2_with fail
  go_ret
  exact ⟨rfl, T4.out⟩

set_option maxHeartbeats 1000000 in
set_option maxRecDepth 100000 in
theorem header_udp (a b n : Int) (hn : 0 ≤ n ∧ n ≤ 100000) (w : World) : Calls Try.prog 95 #[.int .i64 17, .int .i64 a, .int .i64 b, .int .i64 n] w fun e w' => e = .returned (.string (S (headB 17 a b n))) ∧ Touch [] w w' := by
  have hmk := fun w => make8 8 8 rfl (by omega) w
  have L0 := Lib.hid (fun w => least_any 17 w)
  have P1 := Lib.hid (fun w => put2 a w)
  have P3 := Lib.hid (fun w => put2 (8 + n) w)
  have R0 := Lib.hid (Row8.made w 8)
  have T0 := Lib.hid ((Touch.refl [] w).alloc (.cells (Array.replicate 8 (.int .u8 0)) 5))
  have e20 : leastV 17 = 8 := rfl
  have fw : IntKind.i64.wrap (8 + n) = 8 + n := by rw [IntKind.wrap_i64]; omega
  have hE : splice (splice (List.replicate 8 (0 : UInt8)) 0 ((be (u64n a) 2 ++ be (u64n b) 2).take 8)) 4 ((be (u64n (8 + n)) 2).take 4) = headB 17 a b n := by
    unfold headB
    rw [if_neg (by decide), if_pos rfl, be_two, be_two, be_two]
    rfl
  have h8' : (headB 17 a b n).length = 8 := by unfold headB; rw [if_neg (by decide), if_pos rfl]; simp [be_length]
  generalize headB 17 a b n = HB at *
  have H8' := Lib.hid h8'
  have HE0 := Lib.hid hE
  clear hE h8'
  rw [e20] at L0
  go_enter Try.func95, Try.ntmps95
  go_wp2_with fail
  refine (L0.out _).mono ?_
  rintro e w ⟨rfl, rfl⟩
  go_wp2_with fail
  refine (P1.out _).mono ?_
  intro e w1 hf
  obtain ⟨A1, n1, c1, rfl, b1, t1⟩ := fresh_bts hf
  have P2 := Lib.hid (putU16_any b1 b (by rw [be_length]; omega))
  have T1 := Lib.hid t1
  clear hf b1 t1
  go_wp2_with fail
  refine (P2.out).mono ?_
  intro e w2 hf
  obtain ⟨A2, n2, c2, rfl, b2, t2⟩ := fresh_bts hf
  have T2 := (T0.out.trans T1.out (by simp)).trans t2 (by simp)
  have R2 := (R0.out.carry T1.out (by simp)).carry t2 (by simp)
  obtain ⟨w3, hcp, R3, T3⟩ := copy_run R2 b2 0 8 8 (by simp)
  have HR3 := Lib.hid R3
  have HT3 := Lib.hid (T2.trans (S := []) T3 (by simp))
  have h8 : (splice (List.replicate 8 (0 : UInt8)) 0 ((be (u64n a) 2 ++ be (u64n b) 2).take 8)).length = 8 := by simp [splice, be_length]
  have hE := HE0.out
  clear HE0
  generalize (splice (List.replicate 8 (0 : UInt8)) 0 ((be (u64n a) 2 ++ be (u64n b) 2).take 8)) = L3 at *
  generalize be (u64n (8 + n)) 2 = M3 at *
  have HE := Lib.hid hE
  have H8 := Lib.hid h8
  clear hf b2 t2 P1 P2 R0 T0 T1 hmk R2 T2 T3 R3 hE h8
  go_upto_region 7 with fail
  clear hcp
  go_region_with (go_at_call 22; refine (P3.out _).mono ?_; intro e w5 hf; obtain ⟨A5, n5, c5, rfl, b5, t5⟩ := fresh_bts hf; obtain ⟨w6, hcp2, R6, T6⟩ := copy_run ((show Row8 w3.drew w.heap.size L3 from HR3.out).carry t5 (by simp)) b5 4 4 4 (by have := H8.out; omega); rw [HE.out] at R6; have HR6 := Lib.hid R6; have T7 := Lib.hid ((HT3.out.drew.trans t5 (by simp)).trans (S := []) T6 (by simp)); have hcv := str_of (R6.bts 8 (by have := H8'.out; omega) (by omega)); rw [H8'.out] at hcv; clear R6 T6 t5 b5 hf)
  all_goals go_wp2_with fail
  all_goals go_ret
  all_goals exact ⟨rfl, T7.out⟩

set_option maxHeartbeats 1000000 in
set_option maxRecDepth 100000 in
theorem header_other (x a b n : Int) (h6 : x ≠ 6) (h17 : x ≠ 17) (w : World) : Calls Try.prog 95 #[.int .i64 x, .int .i64 a, .int .i64 b, .int .i64 n] w fun e w' => e = .returned (.string (S (headB x a b n))) ∧ Touch [] w w' := by
  have hmk := fun w => make8 0 0 rfl (by omega) w
  have L0 := Lib.hid (fun w => least_any x w)
  have P1 := Lib.hid (fun w => put2 a w)
  have R0 := Lib.hid (Row8.made w 0)
  have T0 := Lib.hid ((Touch.refl [] w).alloc (.cells (Array.replicate 0 (.int .u8 0)) 5))
  have e20 : leastV x = 0 := by unfold leastV; rw [if_neg h6, if_neg h17]
  have hE : headB x a b n = [] := by unfold headB; rw [if_neg h6, if_neg h17]
  rw [hE]
  have b6 : (x == 6) = false := by simpa using h6
  have b17 : (x == 17) = false := by simpa using h17
  rw [e20] at L0
  go_enter Try.func95, Try.ntmps95
  go_wp2_with fail
  refine (L0.out _).mono ?_
  rintro e w ⟨rfl, rfl⟩
  go_wp2_with fail
  refine (P1.out _).mono ?_
  intro e w1 hf
  obtain ⟨A1, n1, c1, rfl, b1, t1⟩ := fresh_bts hf
  have P2 := Lib.hid (putU16_any b1 b (by rw [be_length]; omega))
  have T1 := Lib.hid t1
  clear hf b1 t1
  go_wp2_with fail
  refine (P2.out).mono ?_
  intro e w2 hf
  obtain ⟨A2, n2, c2, rfl, b2, t2⟩ := fresh_bts hf
  have T2 := (T0.out.trans T1.out (by simp)).trans t2 (by simp)
  have R2 := (R0.out.carry T1.out (by simp)).carry t2 (by simp)
  obtain ⟨w3, hcp, R3, T3⟩ := copy_run R2 b2 0 0 0 (by simp)
  have T4 := Lib.hid (T2.trans (S := []) T3 (by simp))
  have hcv := str_of ((show Row8 w3 w.heap.size [] by simpa [splice] using R3).bts 0 (by simp) (by omega))
  simp only [List.length_nil] at hcv
  clear hf b2 t2 P1 P2 R0 T0 T1 hmk R2 T2 T3 R3
  go_wp2_with fail
  go_ret
  exact ⟨rfl, T4.out⟩
theorem header_any (x a b n : Int) (hn : 0 ≤ n ∧ n ≤ 100000) (w : World) : Calls Try.prog 95 #[.int .i64 x, .int .i64 a, .int .i64 b, .int .i64 n] w fun e w' => e = .returned (.string (S (headB x a b n))) ∧ Touch [] w w' := by
  by_cases h6 : x = 6
  · subst h6; exact header_tcp a b n w
  · by_cases h17 : x = 17
    · subst h17; exact header_udp a b n hn w
    · exact header_other x a b n h6 h17 w
theorem headB_length (x a b n : Int) : (headB x a b n).length ≤ 20 := by
  unfold headB
  split
  · simp [be_length]
  · split
    · simp [be_length]
    · simp

def makeB (x a b : Int) (l : List UInt8) : List UInt8 := if 65515 < l.length then [] else headB x a b l.length ++ l
theorem portsMake (x a b : Int) (l : List UInt8) (hl : l.length ≤ 1000000000) (w : World) : Calls Try.prog 50 #[.int .i64 x, .int .i64 a, .int .i64 b, .string (S l)] w fun e w' => e = .returned (.string (S (makeB x a b l))) ∧ Touch [] w w' := by
  have hz := S_size l
  by_cases h : 65515 < l.length
  · have g : (65515 : Int) < (l.length : Int) := by omega
    unfold makeB
    rw [if_pos h]
    go_enter Try.func50, Try.ntmps50
    go_wp2_with fail
    go_ret
    exact ⟨rfl, Touch.refl _ _⟩
  · have g : ¬ ((65515 : Int) < (l.length : Int)) := by omega
    have H := Lib.hid (fun w => header_any x a b (l.length : Int) (by omega) w)
    have hh := headB_length x a b l.length
    have hadd : ∀ w, (Op.stringOp .add (S (headB x a b l.length)) (S l)).run Try.prog w = .ok (.string (S (headB x a b l.length ++ l))) w := fun w => add_str _ _ (by omega) w
    unfold makeB
    rw [if_neg h]
    generalize headB x a b (l.length : Int) = B at *
    go_enter Try.func50, Try.ntmps50
    go_wp2_with fail
    refine (H.out _).mono ?_
    rintro e w1 ⟨rfl, t1⟩
    go_wp2_with fail
    go_ret
    exact ⟨rfl, t1⟩

set_option maxHeartbeats 1000000 in
set_option maxRecDepth 100000 in
theorem refMake13 (x a b : Int) (l : List UInt8) (hl : l.length ≤ 1000000000) (w : World) : Calls Try.prog 51 #[.int .i64 x, .int .i64 a, .int .i64 b, .string (S l)] w fun e w' => e = .returned (.string (S (makeB x a b l))) ∧ Touch [] w w' := by
  have hz := S_size l
  by_cases h : 65515 < l.length
  · have g : (65515 : Int) < (l.length : Int) := by omega
    unfold makeB
    rw [if_pos h]
    go_enter Try.func51, Try.ntmps51
    go_wp2_with fail
    go_ret
    exact ⟨rfl, Touch.refl _ _⟩
  · have g : ¬ ((65515 : Int) < (l.length : Int)) := by omega
    have A := Lib.hid (fun w => refPutNum 2 (by omega) (u64n a) (u64n_lt a) w)
    have B := Lib.hid (fun w => refPutNum 2 (by omega) (u64n b) (u64n_lt b) w)
    have C := Lib.hid (fun w => refPutNum 2 (by omega) (u64n (8 + (l.length : Int))) (u64n_lt _) w)
    rw [show ((2 : Nat) : Int) = 2 from rfl, ← u64n_cast] at A B C
    rw [show (8 + (l.length : Int)) % 18446744073709551616 = 8 + (l.length : Int) by omega] at C
    have la := be_length (u64n a) 2
    have lb := be_length (u64n b) 2
    have lc := be_length (u64n (8 + (l.length : Int))) 2
    have hadd : ∀ w, (Op.stringOp .add (S (be (u64n a) 2)) (S (be (u64n b) 2))).run Try.prog w = .ok (.string (S (be (u64n a) 2 ++ be (u64n b) 2))) w := fun w => add_str _ _ (by omega) w
    have fw : IntKind.i64.wrap (8 + (l.length : Int)) = 8 + (l.length : Int) := by rw [IntKind.wrap_i64]; omega
    by_cases h6 : x = 6
    · subst h6
      have hm : makeB 6 a b l = be (u64n a) 2 ++ be (u64n b) 2 ++ [0, 0, 0, 0, 0, 0, 0, 0, 80, 0, 0, 0, 0, 0, 0, 0] ++ l := by unfold makeB headB; rw [if_neg h, if_pos rfl]
      rw [hm]
      generalize be (u64n a) 2 = X at *
      generalize be (u64n b) 2 = Y at *
      have had2 : ∀ w, (Op.stringOp .add (S (X ++ Y)) ⟨#[0, 0, 0, 0, 0, 0, 0, 0, 80, 0, 0, 0, 0, 0, 0, 0]⟩).run Try.prog w = .ok (.string (S (X ++ Y ++ [0, 0, 0, 0, 0, 0, 0, 0, 80, 0, 0, 0, 0, 0, 0, 0]))) w := fun w => add_str _ [0, 0, 0, 0, 0, 0, 0, 0, 80, 0, 0, 0, 0, 0, 0, 0] (by rw [List.length_append, la, lb]; decide) w
      have had3 : ∀ w, (Op.stringOp .add (S (X ++ Y ++ [0, 0, 0, 0, 0, 0, 0, 0, 80, 0, 0, 0, 0, 0, 0, 0])) (S l)).run Try.prog w = .ok (.string (S (X ++ Y ++ [0, 0, 0, 0, 0, 0, 0, 0, 80, 0, 0, 0, 0, 0, 0, 0] ++ l))) w := fun w => add_str _ _ (by simp [la, lb]; omega) w
      generalize X ++ Y ++ [0, 0, 0, 0, 0, 0, 0, 0, 80, 0, 0, 0, 0, 0, 0, 0] ++ l = Z3 at *
      generalize X ++ Y ++ [0, 0, 0, 0, 0, 0, 0, 0, 80, 0, 0, 0, 0, 0, 0, 0] = Z2 at *
      generalize X ++ Y = Z1 at *
      clear la lb lc hm C
      go_enter Try.func51, Try.ntmps51
      go_wp2_with fail
      refine (A.out _).mono ?_
      rintro e w1 ⟨rfl, t1⟩
      go_wp2_with fail
      refine (B.out _).mono ?_
      rintro e w2 ⟨rfl, t2⟩
      go_wp2_with fail
      go_ret
      exact ⟨rfl, t1.trans t2 (by simp)⟩
    · have b6 : (x == 6) = false := by simpa using h6
      by_cases h17 : x = 17
      · subst h17
        have hm : makeB 17 a b l = be (u64n a) 2 ++ be (u64n b) 2 ++ be (u64n (8 + (l.length : Int))) 2 ++ [0, 0] ++ l := by unfold makeB headB; rw [if_neg h, if_neg h6, if_pos rfl]
        rw [hm]
        generalize be (u64n a) 2 = X at *
        generalize be (u64n b) 2 = Y at *
        generalize be (u64n (8 + (l.length : Int))) 2 = Y2 at *
        have had1 : ∀ w, (Op.stringOp .add (S (X ++ Y)) (S Y2)).run Try.prog w = .ok (.string (S (X ++ Y ++ Y2))) w := fun w => add_str _ _ (by rw [List.length_append, la, lb, lc]; decide) w
        have had2 : ∀ w, (Op.stringOp .add (S (X ++ Y ++ Y2)) ⟨#[0, 0]⟩).run Try.prog w = .ok (.string (S (X ++ Y ++ Y2 ++ [0, 0]))) w := fun w => add_str _ [0, 0] (by simp [la, lb, lc]) w
        have had3 : ∀ w, (Op.stringOp .add (S (X ++ Y ++ Y2 ++ [0, 0])) (S l)).run Try.prog w = .ok (.string (S (X ++ Y ++ Y2 ++ [0, 0] ++ l))) w := fun w => add_str _ _ (by simp [la, lb, lc]; omega) w
        generalize X ++ Y ++ Y2 ++ [0, 0] ++ l = Z3 at *
        generalize X ++ Y ++ Y2 ++ [0, 0] = Z2 at *
        generalize X ++ Y ++ Y2 = Z0 at *
        generalize X ++ Y = Z1 at *
        clear la lb lc hm
        go_enter Try.func51, Try.ntmps51
        go_wp2_with fail
        refine (A.out _).mono ?_
        rintro e w1 ⟨rfl, t1⟩
        go_wp2_with fail
        refine (B.out _).mono ?_
        rintro e w2 ⟨rfl, t2⟩
        go_wp2_with fail
        refine (C.out _).mono ?_
        rintro e w3 ⟨rfl, t3⟩
        go_wp2_with fail
        go_ret
        exact ⟨rfl, (t1.trans t2 (by simp)).trans t3 (by simp)⟩
      · have b17 : (x == 17) = false := by simpa using h17
        have hm : makeB x a b l = l := by unfold makeB headB; rw [if_neg h, if_neg h6, if_neg h17]; rfl
        rw [hm]
        clear la lb lc hm C
        generalize be (u64n a) 2 = X at *
        generalize be (u64n b) 2 = Y at *
        generalize X ++ Y = Z1 at *
        go_enter Try.func51, Try.ntmps51
        go_wp2_with fail
        refine (A.out _).mono ?_
        rintro e w1 ⟨rfl, t1⟩
        go_wp2_with fail
        refine (B.out _).mono ?_
        rintro e w2 ⟨rfl, t2⟩
        go_wp2_with fail
        go_ret
        exact ⟨rfl, t1.trans t2 (by simp)⟩

theorem lives13 (w : World) : Calls Try.prog 45 #[] w fun e w' => e = .returned (.bool true) ∧ Touch [] w w' := by
  have M := Lib.hid (fun w => portsMake 17 53 5000 [97, 98, 99] (by decide) w)
  have O := Lib.hid (fun w => portsOf 17 (makeB 17 53 5000 [97, 98, 99]) (by decide) w)
  rw [show portsA 17 (makeB 17 53 5000 [97, 98, 99]) = 53 from by decide, show portsB 17 (makeB 17 53 5000 [97, 98, 99]) = 5000 from by decide, show portsE 17 (makeB 17 53 5000 [97, 98, 99]) = 0 from by decide] at O
  have hz : (S (makeB 17 53 5000 [97, 98, 99])).size = 11 := by rw [S_size]; decide
  have hS : S [97, 98, 99] = ⟨#[97, 98, 99]⟩ := rfl
  rw [hS] at M
  generalize makeB 17 53 5000 [97, 98, 99] = B at *
  go_enter Try.func45, Try.ntmps45
  go_wp2_with fail
  refine (M.out _).mono ?_
  rintro e w1 ⟨rfl, t1⟩
  go_wp2_with fail
  refine (O.out _).mono ?_
  rintro e w2 ⟨rfl, t2⟩
  go_wp2_with fail
  go_ret
  exact ⟨rfl, t1.trans t2 (by simp)⟩
end Go.Proofs.Ytfeeaokeomcafaa
