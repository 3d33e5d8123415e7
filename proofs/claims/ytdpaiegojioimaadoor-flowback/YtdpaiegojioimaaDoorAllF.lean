/-
  The contracts on which the law's proof rests, bound together in build order: PortsMake, FlowShelf, Flow4, Flow5, Flow6, Flow7, Flow8, Flow9, Flow10, FlowKeysLaw, Ipv6Math.
-/
import Derived.Test.YtdpaiegojioimaaDoorAllE
import Derived.Test.YtdpaiegojioimaaDoorAllB
import Derived.Deep.RegionLaw
import Derived.Shelf.Strings.Repeat
import Derived.Test.YtdpaiegojioimaaDoorProg
import Derived.Test.YtdpaiegojioimaaDoorAllD
/-
  ports (layer 13): header and Make; the reference's Make; the laws' example.
-/
namespace Go.Proofs.YtdpaiegojioimaaDoor
open Go.ChangeShapes Go.WideShapes Go.ChangeAt Go.RowKit Go.Deep
set_option linter.unusedVariables false
set_option linter.unusedSimpArgs false

def headB (x a b n : Int) : List UInt8 :=
  if x = 6 then be (u64n a) 2 ++ be (u64n b) 2 ++ [0, 0, 0, 0, 0, 0, 0, 0, 80, 0, 0, 0, 0, 0, 0, 0]
  else if x = 17 then be (u64n a) 2 ++ be (u64n b) 2 ++ be (u64n (8 + n)) 2 ++ [0, 0] else []
theorem be_two (u : Nat) : be u 2 = [UInt8.ofNat (u / 256 ^ 1), UInt8.ofNat (u / 256 ^ 0)] := rfl

set_option maxHeartbeats 1000000 in
set_option maxRecDepth 100000 in
theorem header_tcp (a b n : Int) (w : World) : Calls Tryd.prog 77 #[.int .i64 6, .int .i64 a, .int .i64 b, .int .i64 n] w fun e w' => e = .returned (.string (S (headB 6 a b n))) ∧ Touch [] w w' := by
  have hmk := fun w => make8 20 20 rfl (by omega) w
  have L0 := Lib.hid (fun w => least_any 6 w)
  have P1 := Lib.hid (fun w => put2 a w)
  have R0 := Lib.hid (Row8.made w 20)
  have T0 := Lib.hid ((Touch.refl [] w).alloc (.cells (Array.replicate 20 (.int .u8 0)) 5))
  have e20 : leastV 6 = 20 := rfl
  rw [e20] at L0
  go_enter Tryd.func77, Tryd.ntmps77
  go_wp2_with fail
  refine (L0.out _).mono ?_
  rintro e w ⟨rfl, rfl⟩
  go_wp2_with fail
  refine (P1.out _).mono ?_
  intro e w1 hf
  obtain ⟨A1, n1, c1, rfl, b1, t1⟩ := fresh_bts hf
  have P2 := Lib.hid (putU16_any b1 b (by rw [be_length]; omega))
  have T1 := Lib.hid t1
  clear hf b1 t1
  go_wp2_with fail
  refine (P2.out).mono ?_
  intro e w2 hf
  obtain ⟨A2, n2, c2, rfl, b2, t2⟩ := fresh_bts hf
  have T2 := (T0.out.trans T1.out (by simp)).trans t2 (by simp)
  have R2 := (R0.out.carry T1.out (by simp)).carry t2 (by simp)
  obtain ⟨w3, hcp, R3, T3⟩ := copy_run R2 b2 0 20 20 (by simp)
  have f3 := R3.fr 12
  have l3 := R3.lt
  have c3 := R3.cell (i := 12) (by simp [splice, be_length])
  have R4 := R3.set 12 80 80 rfl
  have T4 := Lib.hid ((T2.trans (S := []) T3 (by simp)).setCell (a := ⟨w.heap.size, 12, none⟩) (Or.inr (Nat.le_refl _)) (.int .u8 80))
  have hE : (splice (List.replicate 20 (0 : UInt8)) 0 ((be (u64n a) 2 ++ be (u64n b) 2).take 20)).set 12 80 = headB 6 a b n := by
    unfold headB
    rw [if_pos rfl, be_two, be_two]
    rfl
  rw [hE] at R4
  have h20 : (headB 6 a b n).length = 20 := by unfold headB; rw [if_pos rfl]; simp [be_length]
  have hcv := str_of (R4.bts 20 (by omega) (by omega))
  rw [h20] at hcv
  clear hf b2 t2 P1 P2 R0 T0 T1 hmk R2 T2 T3 R3 R4
  go_wp2_with fail
  go_ret
  exact ⟨rfl, T4.out⟩

set_option maxHeartbeats 1000000 in
set_option maxRecDepth 100000 in
theorem header_udp (a b n : Int) (hn : 0 ≤ n ∧ n ≤ 100000) (w : World) : Calls Tryd.prog 77 #[.int .i64 17, .int .i64 a, .int .i64 b, .int .i64 n] w fun e w' => e = .returned (.string (S (headB 17 a b n))) ∧ Touch [] w w' := by
  have hmk := fun w => make8 8 8 rfl (by omega) w
  have L0 := Lib.hid (fun w => least_any 17 w)
  have P1 := Lib.hid (fun w => put2 a w)
  have P3 := Lib.hid (fun w => put2 (8 + n) w)
  have R0 := Lib.hid (Row8.made w 8)
  have T0 := Lib.hid ((Touch.refl [] w).alloc (.cells (Array.replicate 8 (.int .u8 0)) 5))
  have e20 : leastV 17 = 8 := rfl
  have fw : IntKind.i64.wrap (8 + n) = 8 + n := by rw [IntKind.wrap_i64]; omega
  have hE : splice (splice (List.replicate 8 (0 : UInt8)) 0 ((be (u64n a) 2 ++ be (u64n b) 2).take 8)) 4 ((be (u64n (8 + n)) 2).take 4) = headB 17 a b n := by
    unfold headB
    rw [if_neg (by decide), if_pos rfl, be_two, be_two, be_two]
    rfl
  have h8' : (headB 17 a b n).length = 8 := by unfold headB; rw [if_neg (by decide), if_pos rfl]; simp [be_length]
  generalize headB 17 a b n = HB at *
  have H8' := Lib.hid h8'
  have HE0 := Lib.hid hE
  clear hE h8'
  rw [e20] at L0
  go_enter Tryd.func77, Tryd.ntmps77
  go_wp2_with fail
  refine (L0.out _).mono ?_
  rintro e w ⟨rfl, rfl⟩
  go_wp2_with fail
  refine (P1.out _).mono ?_
  intro e w1 hf
  obtain ⟨A1, n1, c1, rfl, b1, t1⟩ := fresh_bts hf
  have P2 := Lib.hid (putU16_any b1 b (by rw [be_length]; omega))
  have T1 := Lib.hid t1
  clear hf b1 t1
  go_wp2_with fail
  refine (P2.out).mono ?_
  intro e w2 hf
  obtain ⟨A2, n2, c2, rfl, b2, t2⟩ := fresh_bts hf
  have T2 := (T0.out.trans T1.out (by simp)).trans t2 (by simp)
  have R2 := (R0.out.carry T1.out (by simp)).carry t2 (by simp)
  obtain ⟨w3, hcp, R3, T3⟩ := copy_run R2 b2 0 8 8 (by simp)
  have HR3 := Lib.hid R3
  have HT3 := Lib.hid (T2.trans (S := []) T3 (by simp))
  have h8 : (splice (List.replicate 8 (0 : UInt8)) 0 ((be (u64n a) 2 ++ be (u64n b) 2).take 8)).length = 8 := by simp [splice, be_length]
  have hE := HE0.out
  clear HE0
  generalize (splice (List.replicate 8 (0 : UInt8)) 0 ((be (u64n a) 2 ++ be (u64n b) 2).take 8)) = L3 at *
  generalize be (u64n (8 + n)) 2 = M3 at *
  have HE := Lib.hid hE
  have H8 := Lib.hid h8
  clear hf b2 t2 P1 P2 R0 T0 T1 hmk R2 T2 T3 R3 hE h8
  go_upto_region 7 with fail
  clear hcp
  go_region_with (go_at_call 66; refine (P3.out _).mono ?_; intro e w5 hf; obtain ⟨A5, n5, c5, rfl, b5, t5⟩ := fresh_bts hf; obtain ⟨w6, hcp2, R6, T6⟩ := copy_run ((show Row8 w3.drew w.heap.size L3 from HR3.out).carry t5 (by simp)) b5 4 4 4 (by have := H8.out; omega); rw [HE.out] at R6; have HR6 := Lib.hid R6; have T7 := Lib.hid ((HT3.out.drew.trans t5 (by simp)).trans (S := []) T6 (by simp)); have hcv := str_of (R6.bts 8 (by have := H8'.out; omega) (by omega)); rw [H8'.out] at hcv; clear R6 T6 t5 b5 hf)
  all_goals go_wp2_with fail
  all_goals go_ret
  all_goals exact ⟨rfl, T7.out⟩

set_option maxHeartbeats 1000000 in
set_option maxRecDepth 100000 in
theorem header_other (x a b n : Int) (h6 : x ≠ 6) (h17 : x ≠ 17) (w : World) : Calls Tryd.prog 77 #[.int .i64 x, .int .i64 a, .int .i64 b, .int .i64 n] w fun e w' => e = .returned (.string (S (headB x a b n))) ∧ Touch [] w w' := by
  have hmk := fun w => make8 0 0 rfl (by omega) w
  have L0 := Lib.hid (fun w => least_any x w)
  have P1 := Lib.hid (fun w => put2 a w)
  have R0 := Lib.hid (Row8.made w 0)
  have T0 := Lib.hid ((Touch.refl [] w).alloc (.cells (Array.replicate 0 (.int .u8 0)) 5))
  have e20 : leastV x = 0 := by unfold leastV; rw [if_neg h6, if_neg h17]
  have hE : headB x a b n = [] := by unfold headB; rw [if_neg h6, if_neg h17]
  rw [hE]
  have b6 : (x == 6) = false := by simpa using h6
  have b17 : (x == 17) = false := by simpa using h17
  rw [e20] at L0
  go_enter Tryd.func77, Tryd.ntmps77
  go_wp2_with fail
  refine (L0.out _).mono ?_
  rintro e w ⟨rfl, rfl⟩
  go_wp2_with fail
  refine (P1.out _).mono ?_
  intro e w1 hf
  obtain ⟨A1, n1, c1, rfl, b1, t1⟩ := fresh_bts hf
  have P2 := Lib.hid (putU16_any b1 b (by rw [be_length]; omega))
  have T1 := Lib.hid t1
  clear hf b1 t1
  go_wp2_with fail
  refine (P2.out).mono ?_
  intro e w2 hf
  obtain ⟨A2, n2, c2, rfl, b2, t2⟩ := fresh_bts hf
  have T2 := (T0.out.trans T1.out (by simp)).trans t2 (by simp)
  have R2 := (R0.out.carry T1.out (by simp)).carry t2 (by simp)
  obtain ⟨w3, hcp, R3, T3⟩ := copy_run R2 b2 0 0 0 (by simp)
  have T4 := Lib.hid (T2.trans (S := []) T3 (by simp))
  have hcv := str_of ((show Row8 w3 w.heap.size [] by simpa [splice] using R3).bts 0 (by simp) (by omega))
  simp only [List.length_nil] at hcv
  clear hf b2 t2 P1 P2 R0 T0 T1 hmk R2 T2 T3 R3
  go_wp2_with fail
  go_ret
  exact ⟨rfl, T4.out⟩
theorem header_any (x a b n : Int) (hn : 0 ≤ n ∧ n ≤ 100000) (w : World) : Calls Tryd.prog 77 #[.int .i64 x, .int .i64 a, .int .i64 b, .int .i64 n] w fun e w' => e = .returned (.string (S (headB x a b n))) ∧ Touch [] w w' := by
  by_cases h6 : x = 6
  · subst h6; exact header_tcp a b n w
  · by_cases h17 : x = 17
    · subst h17; exact header_udp a b n hn w
    · exact header_other x a b n h6 h17 w
theorem headB_length (x a b n : Int) : (headB x a b n).length ≤ 20 := by
  unfold headB
  split
  · simp [be_length]
  · split
    · simp [be_length]
    · simp

def makeB (x a b : Int) (l : List UInt8) : List UInt8 := if 65515 < l.length then [] else headB x a b l.length ++ l
theorem portsMake (x a b : Int) (l : List UInt8) (hl : l.length ≤ 1000000000) (w : World) : Calls Tryd.prog 47 #[.int .i64 x, .int .i64 a, .int .i64 b, .string (S l)] w fun e w' => e = .returned (.string (S (makeB x a b l))) ∧ Touch [] w w' := by
  have hz := S_size l
  by_cases h : 65515 < l.length
  · have g : (65515 : Int) < (l.length : Int) := by omega
    unfold makeB
    rw [if_pos h]
    go_enter Tryd.func47, Tryd.ntmps47
    go_wp2_with fail
    go_ret
    exact ⟨rfl, Touch.refl _ _⟩
  · have g : ¬ ((65515 : Int) < (l.length : Int)) := by omega
    have H := Lib.hid (fun w => header_any x a b (l.length : Int) (by omega) w)
    have hh := headB_length x a b l.length
    have hadd : ∀ w, (Op.stringOp .add (S (headB x a b l.length)) (S l)).run Tryd.prog w = .ok (.string (S (headB x a b l.length ++ l))) w := fun w => add_str _ _ (by omega) w
    unfold makeB
    rw [if_neg h]
    generalize headB x a b (l.length : Int) = B at *
    go_enter Tryd.func47, Tryd.ntmps47
    go_wp2_with fail
    refine (H.out _).mono ?_
    rintro e w1 ⟨rfl, t1⟩
    go_wp2_with fail
    go_ret
    exact ⟨rfl, t1⟩

set_option maxHeartbeats 1000000 in
set_option maxRecDepth 100000 in
theorem refMake13 (x a b : Int) (l : List UInt8) (hl : l.length ≤ 1000000000) (w : World) : Calls Tryd.prog 50 #[.int .i64 x, .int .i64 a, .int .i64 b, .string (S l)] w fun e w' => e = .returned (.string (S (makeB x a b l))) ∧ Touch [] w w' := by
  have hz := S_size l
  by_cases h : 65515 < l.length
  · have g : (65515 : Int) < (l.length : Int) := by omega
    unfold makeB
    rw [if_pos h]
    go_enter Tryd.func50, Tryd.ntmps50
    go_wp2_with fail
    go_ret
    exact ⟨rfl, Touch.refl _ _⟩
  · have g : ¬ ((65515 : Int) < (l.length : Int)) := by omega
    have A := Lib.hid (fun w => refPutNum 2 (by omega) (u64n a) (u64n_lt a) w)
    have B := Lib.hid (fun w => refPutNum 2 (by omega) (u64n b) (u64n_lt b) w)
    have C := Lib.hid (fun w => refPutNum 2 (by omega) (u64n (8 + (l.length : Int))) (u64n_lt _) w)
    rw [show ((2 : Nat) : Int) = 2 from rfl, ← u64n_cast] at A B C
    rw [show (8 + (l.length : Int)) % 18446744073709551616 = 8 + (l.length : Int) by omega] at C
    have la := be_length (u64n a) 2
    have lb := be_length (u64n b) 2
    have lc := be_length (u64n (8 + (l.length : Int))) 2
    have hadd : ∀ w, (Op.stringOp .add (S (be (u64n a) 2)) (S (be (u64n b) 2))).run Tryd.prog w = .ok (.string (S (be (u64n a) 2 ++ be (u64n b) 2))) w := fun w => add_str _ _ (by omega) w
    have fw : IntKind.i64.wrap (8 + (l.length : Int)) = 8 + (l.length : Int) := by rw [IntKind.wrap_i64]; omega
    by_cases h6 : x = 6
    · subst h6
      have hm : makeB 6 a b l = be (u64n a) 2 ++ be (u64n b) 2 ++ [0, 0, 0, 0, 0, 0, 0, 0, 80, 0, 0, 0, 0, 0, 0, 0] ++ l := by unfold makeB headB; rw [if_neg h, if_pos rfl]
      rw [hm]
      generalize be (u64n a) 2 = X at *
      generalize be (u64n b) 2 = Y at *
      have had2 : ∀ w, (Op.stringOp .add (S (X ++ Y)) ⟨#[0, 0, 0, 0, 0, 0, 0, 0, 80, 0, 0, 0, 0, 0, 0, 0]⟩).run Tryd.prog w = .ok (.string (S (X ++ Y ++ [0, 0, 0, 0, 0, 0, 0, 0, 80, 0, 0, 0, 0, 0, 0, 0]))) w := fun w => add_str _ [0, 0, 0, 0, 0, 0, 0, 0, 80, 0, 0, 0, 0, 0, 0, 0] (by rw [List.length_append, la, lb]; decide) w
      have had3 : ∀ w, (Op.stringOp .add (S (X ++ Y ++ [0, 0, 0, 0, 0, 0, 0, 0, 80, 0, 0, 0, 0, 0, 0, 0])) (S l)).run Tryd.prog w = .ok (.string (S (X ++ Y ++ [0, 0, 0, 0, 0, 0, 0, 0, 80, 0, 0, 0, 0, 0, 0, 0] ++ l))) w := fun w => add_str _ _ (by simp [la, lb]; omega) w
      generalize X ++ Y ++ [0, 0, 0, 0, 0, 0, 0, 0, 80, 0, 0, 0, 0, 0, 0, 0] ++ l = Z3 at *
      generalize X ++ Y ++ [0, 0, 0, 0, 0, 0, 0, 0, 80, 0, 0, 0, 0, 0, 0, 0] = Z2 at *
      generalize X ++ Y = Z1 at *
      clear la lb lc hm C
      go_enter Tryd.func50, Tryd.ntmps50
      go_wp2_with fail
      refine (A.out _).mono ?_
      rintro e w1 ⟨rfl, t1⟩
      go_wp2_with fail
      refine (B.out _).mono ?_
      rintro e w2 ⟨rfl, t2⟩
      go_wp2_with fail
      go_ret
      exact ⟨rfl, t1.trans t2 (by simp)⟩
    · have b6 : (x == 6) = false := by simpa using h6
      by_cases h17 : x = 17
      · subst h17
        have hm : makeB 17 a b l = be (u64n a) 2 ++ be (u64n b) 2 ++ be (u64n (8 + (l.length : Int))) 2 ++ [0, 0] ++ l := by unfold makeB headB; rw [if_neg h, if_neg h6, if_pos rfl]
        rw [hm]
        generalize be (u64n a) 2 = X at *
        generalize be (u64n b) 2 = Y at *
        generalize be (u64n (8 + (l.length : Int))) 2 = Y2 at *
        have had1 : ∀ w, (Op.stringOp .add (S (X ++ Y)) (S Y2)).run Tryd.prog w = .ok (.string (S (X ++ Y ++ Y2))) w := fun w => add_str _ _ (by rw [List.length_append, la, lb, lc]; decide) w
        have had2 : ∀ w, (Op.stringOp .add (S (X ++ Y ++ Y2)) ⟨#[0, 0]⟩).run Tryd.prog w = .ok (.string (S (X ++ Y ++ Y2 ++ [0, 0]))) w := fun w => add_str _ [0, 0] (by simp [la, lb, lc]) w
        have had3 : ∀ w, (Op.stringOp .add (S (X ++ Y ++ Y2 ++ [0, 0])) (S l)).run Tryd.prog w = .ok (.string (S (X ++ Y ++ Y2 ++ [0, 0] ++ l))) w := fun w => add_str _ _ (by simp [la, lb, lc]; omega) w
        generalize X ++ Y ++ Y2 ++ [0, 0] ++ l = Z3 at *
        generalize X ++ Y ++ Y2 ++ [0, 0] = Z2 at *
        generalize X ++ Y ++ Y2 = Z0 at *
        generalize X ++ Y = Z1 at *
        clear la lb lc hm
        go_enter Tryd.func50, Tryd.ntmps50
        go_wp2_with fail
        refine (A.out _).mono ?_
        rintro e w1 ⟨rfl, t1⟩
        go_wp2_with fail
        refine (B.out _).mono ?_
        rintro e w2 ⟨rfl, t2⟩
        go_wp2_with fail
        refine (C.out _).mono ?_
        rintro e w3 ⟨rfl, t3⟩
        go_wp2_with fail
        go_ret
        exact ⟨rfl, (t1.trans t2 (by simp)).trans t3 (by simp)⟩
      · have b17 : (x == 17) = false := by simpa using h17
        have hm : makeB x a b l = l := by unfold makeB headB; rw [if_neg h, if_neg h6, if_neg h17]; rfl
        rw [hm]
        clear la lb lc hm C
        generalize be (u64n a) 2 = X at *
        generalize be (u64n b) 2 = Y at *
        generalize X ++ Y = Z1 at *
        go_enter Tryd.func50, Tryd.ntmps50
        go_wp2_with fail
        refine (A.out _).mono ?_
        rintro e w1 ⟨rfl, t1⟩
        go_wp2_with fail
        refine (B.out _).mono ?_
        rintro e w2 ⟨rfl, t2⟩
        go_wp2_with fail
        go_ret
        exact ⟨rfl, t1.trans t2 (by simp)⟩

end Go.Proofs.YtdpaiegojioimaaDoor

/-
  strings.Repeat's contract at this dump: laid by the shelf, in plain words.
-/
namespace Go.Proofs
open Go.Shelf
def Tryd.lays105_ren : Go.Shelf.Ren := ⟨fun | 105 => 48 | 212 => 78 | 99 => 79 | 165 => 80 | 166 => 81 | 170 => 82 | 169 => 83 | 263 => 96 | 264 => 97 | 206 => 98 | 240 => 99 | 241 => 100 | 276 => 108 | 277 => 109 | n => n, fun | 9 => 9 | 3 => 3 | 4 => 4 | 20 => 20 | 0 => 0 | 46 => 65 | 109 => 102 | 5 => 5 | 72 => 107 | 76 => 111 | 51 => 128 | 146 => 129 | 53 => 23 | 148 => 131 | 70 => 105 | 37 => 89 | 75 => 110 | 127 => 133 | 164 => 143 | 80 => 113 | n => n, fun | n => n⟩
theorem Tryd.lays105 : Go.Proofs.Lays.n105 Tryd.prog Tryd.lays105_ren := {
  mixed := by kernel_rfl
  f99 := Tryd.func79.trans (congrArg some (by kernel_rfl))
  f105 := Tryd.func48.trans (congrArg some (by kernel_rfl))
  f165 := Tryd.func80.trans (congrArg some (by kernel_rfl))
  f166 := Tryd.func81.trans (congrArg some (by kernel_rfl))
  f169 := Tryd.func83.trans (congrArg some (by kernel_rfl))
  f170 := Tryd.func82.trans (congrArg some (by kernel_rfl))
  f206 := Tryd.func98.trans (congrArg some (by kernel_rfl))
  f212 := Tryd.func78.trans (congrArg some (by kernel_rfl))
  f240 := Tryd.func99.trans (congrArg some (by kernel_rfl))
  f241 := Tryd.func100.trans (congrArg some (by kernel_rfl))
  f263 := Tryd.func96.trans (congrArg some (by kernel_rfl))
  f264 := Tryd.func97.trans (congrArg some (by kernel_rfl))
  f276 := Tryd.func108.trans (congrArg some (by kernel_rfl))
  f277 := Tryd.func109.trans (congrArg some (by kernel_rfl))
  t0 := Tryd.underlying0
  a0 := Tryd.isAgg0
  z0 := Tryd.sizeOf0
  v0 := Tryd.zeroValue0
  t3 := Tryd.underlying3
  a3 := Tryd.isAgg3
  z3 := Tryd.sizeOf3
  v3 := Tryd.zeroValue3
  t4 := Tryd.underlying4
  a4 := Tryd.isAgg4
  z4 := Tryd.sizeOf4
  v4 := Tryd.zeroValue4
  t5 := Tryd.underlying5
  a5 := Tryd.isAgg5
  z5 := Tryd.sizeOf5
  v5 := Tryd.zeroValue5
  t9 := Tryd.underlying9
  a9 := Tryd.isAgg9
  z9 := Tryd.sizeOf9
  v9 := Tryd.zeroValue9
  t20 := Tryd.underlying20
  a20 := Tryd.isAgg20
  z20 := Tryd.sizeOf20
  v20 := Tryd.zeroValue20
  t37 := Tryd.underlying89
  a37 := Tryd.isAgg89
  z37 := Tryd.sizeOf89
  v37 := Tryd.zeroValue89
  t46 := Tryd.underlying65
  a46 := Tryd.isAgg65
  z46 := Tryd.sizeOf65
  v46 := Tryd.zeroValue65
  t51 := Tryd.underlying128
  a51 := Tryd.isAgg128
  z51 := Tryd.sizeOf128
  v51 := Tryd.zeroValue128
  t53 := Tryd.underlying23
  a53 := Tryd.isAgg23
  z53 := Tryd.sizeOf23
  v53 := Tryd.zeroValue23
  t70 := Tryd.underlying105
  a70 := Tryd.isAgg105
  z70 := Tryd.sizeOf105
  v70 := Tryd.zeroValue105
  t72 := Tryd.underlying107
  a72 := Tryd.isAgg107
  z72 := Tryd.sizeOf107
  v72 := Tryd.zeroValue107
  t75 := Tryd.underlying110
  a75 := Tryd.isAgg110
  z75 := Tryd.sizeOf110
  v75 := Tryd.zeroValue110
  t76 := Tryd.underlying111
  a76 := Tryd.isAgg111
  z76 := Tryd.sizeOf111
  v76 := Tryd.zeroValue111
  t109 := Tryd.underlying102
  a109 := Tryd.isAgg102
  z109 := Tryd.sizeOf102
  v109 := Tryd.zeroValue102
  t127 := Tryd.underlying133
  a127 := Tryd.isAgg133
  z127 := Tryd.sizeOf133
  v127 := Tryd.zeroValue133
  t146 := Tryd.underlying129
  a146 := Tryd.isAgg129
  z146 := Tryd.sizeOf129
  v146 := Tryd.zeroValue129
  t148 := Tryd.underlying131
  a148 := Tryd.isAgg131
  z148 := Tryd.sizeOf131
  v148 := Tryd.zeroValue131
  t164 := Tryd.underlying143
  a164 := Tryd.isAgg143
  z164 := Tryd.sizeOf143
  v164 := Tryd.zeroValue143 }
theorem Tryd.Builder_Extra_105 : Builder.Extra Tryd.prog Tryd.lays105_ren := {
  sizeBuilder := by kernel_rfl
  liesBuilder := by kernel_rfl
  t5 := Tryd.underlying5
  a5 := Tryd.isAgg5
  z5 := Tryd.sizeOf5
  v5 := Tryd.zeroValue5
  infoByte := by kernel_rfl
  cellsByte := by kernel_rfl
  sizeByte := by kernel_rfl
  neB5 := by decide }
open Go.RowKit Go.Lib in
theorem Tryd.strings_Repeat (s : ByteArray) (c : Nat) (w : World) (hc : c ≤ 9223372036854775807) (hlen : s.size * c ≤ 140737488355328) :
    Calls Tryd.prog 48 #[.string s, .int .i64 c] w fun e w' => e = .returned (.string ⟨(Lib.repeatL s.data.toList c).toArray⟩) ∧ Below w.heap.size w w' := Any.strings_Repeat Tryd.lays105 Tryd.Builder_Extra_105 s c w hc hlen
end Go.Proofs

/-
  Layer 14 (flow): Right and Least of any key, and the reference's.
-/
namespace Go.Proofs.YtdpaiegojioimaaDoor
open Go.ChangeShapes Go.WideShapes Go.ChangeAt Go.RowKit Go.Deep
set_option linter.unusedVariables false
set_option linter.unusedSimpArgs false

theorem BoxV.key {w : World} {b : Nat} {T : TypeId} {k : Ky} (h : BoxV w b T #[.int .i64 k.ver, .int .u64 (k.sh : Int), .int .u64 (k.sl : Int), .int .u64 (k.dh : Int), .int .u64 (k.dl : Int), .int .i64 k.proto, .int .i64 k.sp, .int .i64 k.dp]) :
    w.cell? ⟨b, 0, none⟩ = some (.int .i64 k.ver) ∧ w.cell? ⟨b, 1, none⟩ = some (.int .u64 (k.sh : Int)) ∧ w.cell? ⟨b, 2, none⟩ = some (.int .u64 (k.sl : Int)) ∧ w.cell? ⟨b, 3, none⟩ = some (.int .u64 (k.dh : Int)) ∧ w.cell? ⟨b, 4, none⟩ = some (.int .u64 (k.dl : Int)) ∧
    w.cell? ⟨b, 5, none⟩ = some (.int .i64 k.proto) ∧ w.cell? ⟨b, 6, none⟩ = some (.int .i64 k.sp) ∧ w.cell? ⟨b, 7, none⟩ = some (.int .i64 k.dp) :=
  ⟨h.cell 0, h.cell 1, h.cell 2, h.cell 3, h.cell 4, h.cell 5, h.cell 6, h.cell 7⟩

def within14 (n h : Int) : Bool := decide (0 ≤ n) && decide (n ≤ h)
theorem within14_any (n h : Int) (w : World) : Calls Tryd.prog 42 #[.int .i64 n, .int .i64 h] w fun e w' => e = .returned (.bool (within14 n h)) ∧ w' = w := by
  unfold within14
  generalize hd : decide (0 ≤ n) = a
  cases a
  all_goals
    go_enter Tryd.func42, Tryd.ntmps42
    go_wp2_with fail
    go_ret
    exact ⟨rfl, rfl⟩

def fill2w (w : World) (b : Nat) : World := (w.setCell ⟨b, 6, none⟩ (.int .i64 0)).setCell ⟨b, 7, none⟩ (.int .i64 0)
set_option maxRecDepth 100000 in
set_option maxHeartbeats 2000000 in
theorem portless14 (k : Ky) (w : World) : Calls Tryd.prog 76 #[.agg k.cells] w fun e w' => e = .returned (.agg #[.int .i64 k.ver, .int .u64 (k.sh : Int), .int .u64 (k.sl : Int), .int .u64 (k.dh : Int), .int .u64 (k.dl : Int), .int .i64 k.proto, .int .i64 0, .int .i64 0]) ∧ Touch [] w w' := by
  unfold Ky.cells
  have B0 : BoxV ((w.alloc (.cells #[.int .i64 k.ver, .int .u64 (k.sh : Int), .int .u64 (k.sl : Int), .int .u64 (k.dh : Int), .int .u64 (k.dl : Int), .int .i64 k.proto, .int .i64 k.sp, .int .i64 k.dp] 41)).alloc (.cells #[.int .i64 0, .int .u64 0, .int .u64 0, .int .u64 0, .int .u64 0, .int .i64 0, .int .i64 0, .int .i64 0] 41)) w.heap.size 41 #[.int .i64 k.ver, .int .u64 (k.sh : Int), .int .u64 (k.sl : Int), .int .u64 (k.dh : Int), .int .u64 (k.dl : Int), .int .i64 k.proto, .int .i64 k.sp, .int .i64 k.dp] := BoxV.of2
  have B1 : BoxV ((w.alloc (.cells #[.int .i64 k.ver, .int .u64 (k.sh : Int), .int .u64 (k.sl : Int), .int .u64 (k.dh : Int), .int .u64 (k.dl : Int), .int .i64 k.proto, .int .i64 k.sp, .int .i64 k.dp] 41)).alloc (.cells #[.int .i64 0, .int .u64 0, .int .u64 0, .int .u64 0, .int .u64 0, .int .i64 0, .int .i64 0, .int .i64 0] 41)) (w.heap.size + 1) 41 #[.int .i64 0, .int .u64 0, .int .u64 0, .int .u64 0, .int .u64 0, .int .i64 0, .int .i64 0, .int .i64 0] := BoxV.at1
  have T0 : Touch [] w ((w.alloc (.cells #[.int .i64 k.ver, .int .u64 (k.sh : Int), .int .u64 (k.sl : Int), .int .u64 (k.dh : Int), .int .u64 (k.dl : Int), .int .i64 k.proto, .int .i64 k.sp, .int .i64 k.dp] 41)).alloc (.cells #[.int .i64 0, .int .u64 0, .int .u64 0, .int .u64 0, .int .u64 0, .int .i64 0, .int .i64 0, .int .i64 0] 41)) := ((Touch.refl [] w).alloc _).alloc _
  go_enter Tryd.func76, Tryd.ntmps76
  go_upto_region 1 with fail
  generalize (w.alloc (.cells #[.int .i64 k.ver, .int .u64 (k.sh : Int), .int .u64 (k.sl : Int), .int .u64 (k.dh : Int), .int .u64 (k.dl : Int), .int .i64 k.proto, .int .i64 k.sp, .int .i64 k.dp] 41)).alloc (.cells #[.int .i64 0, .int .u64 0, .int .u64 0, .int .u64 0, .int .u64 0, .int .i64 0, .int .i64 0, .int .i64 0] 41) = w2 at *
  have f0 := B0.fr
  have l0 := B0.lt
  obtain ⟨c0, c1, c2, c3, c4, c5, c6, c7⟩ := B0.key
  go_upto_region 2 with fail
  have C0 : BoxV ((w2.setCell ⟨w.heap.size, 6, none⟩ (.int .i64 0)).setCell ⟨w.heap.size, 7, none⟩ (.int .i64 0)) w.heap.size 41 #[.int .i64 k.ver, .int .u64 (k.sh : Int), .int .u64 (k.sl : Int), .int .u64 (k.dh : Int), .int .u64 (k.dl : Int), .int .i64 k.proto, .int .i64 0, .int .i64 0] := (B0.set 6 (.int .i64 0)).set 7 (.int .i64 0)
  have tw : Touch [w.heap.size] w2 ((w2.setCell ⟨w.heap.size, 6, none⟩ (.int .i64 0)).setCell ⟨w.heap.size, 7, none⟩ (.int .i64 0)) := ((Touch.refl _ _).setCell (a := ⟨w.heap.size, 6, none⟩) (by simp) _).setCell (a := ⟨w.heap.size, 7, none⟩) (by simp) _
  have C1 := B1.carry tw (by simp)
  have T1 := Lib.hid (T0.trans tw (by simp))
  generalize (w2.setCell ⟨w.heap.size, 6, none⟩ (.int .i64 0)).setCell ⟨w.heap.size, 7, none⟩ (.int .i64 0) = w3 at *
  clear B0 B1 T0 tw f0 l0 c0 c1 c2 c3 c4 c5 c6 c7
  have c0 := C0.cell 0
  have c1 := C0.cell 1
  have c2 := C0.cell 2
  have c3 := C0.cell 3
  have c4 := C0.cell 4
  have c5 := C0.cell 5
  have c6 := C0.cell 6
  have c7 := C0.cell 7
  have l0 := C0.lt
  have r0 := C1.cell 0
  have r1 := C1.cell 1
  have r2 := C1.cell 2
  have r3 := C1.cell 3
  have r4 := C1.cell 4
  have r5 := C1.cell 5
  have r6 := C1.cell 6
  have r7 := C1.cell 7
  have fz := C1.fr
  have ltq := C1.lt
  have HB := Lib.hid C1
  clear C0 C1
  go_wp2_with fail
  refine bodyPost_ret (ret_box rfl rfl (HB.out.fill8 (.int .i64 k.ver) (.int .u64 (k.sh : Int)) (.int .u64 (k.sl : Int)) (.int .u64 (k.dh : Int)) (.int .u64 (k.dl : Int)) (.int .i64 k.proto) (.int .i64 0) (.int .i64 0)) Tryd.underlying41 rfl (by kernel_rfl)) rfl ⟨rfl, T1.out.trans (touch_fill8 w3 (w.heap.size + 1) (.int .i64 k.ver) (.int .u64 (k.sh : Int)) (.int .u64 (k.sl : Int)) (.int .u64 (k.dh : Int)) (.int .u64 (k.dl : Int)) (.int .i64 k.proto) (.int .i64 0) (.int .i64 0)) (by simp)⟩

def portsK (k : Ky) : Bool := if 0 < leastV k.proto then within14 k.sp 65535 && within14 k.dp 65535 else (k.sp == 0 && k.dp == 0)
set_option maxRecDepth 100000 in
set_option maxHeartbeats 2000000 in
theorem rightPorts14 (k : Ky) (w : World) : Calls Tryd.prog 43 #[.agg k.cells] w fun e w' => e = .returned (.bool (portsK k)) ∧ Touch [] w w' := by
  have HH := Lib.hid (fun w => has_any k.proto w)
  have W1 := Lib.hid (fun w => within14_any k.sp 65535 w)
  have W2 := Lib.hid (fun w => within14_any k.dp 65535 w)
  have PL := Lib.hid (fun w => portless14 k w)
  have B0 := Lib.hid (BoxV.new w 41 k.cells)
  have T0 := Lib.hid ((Touch.refl [] w).alloc (.cells k.cells 41))
  unfold portsK
  unfold Ky.cells at *
  by_cases hh : 0 < leastV k.proto
  · rw [if_pos hh]
    have dh : decide (0 < leastV k.proto) = true := by simpa using hh
    rw [dh] at HH
    clear hh dh
    generalize within14 k.sp 65535 = a at *
    generalize within14 k.dp 65535 = b at *
    cases a
    all_goals
      go_enter Tryd.func43, Tryd.ntmps43
      go_wp2_with fail
      refine (HH.out _).mono ?_
      rintro e w1 ⟨rfl, hq⟩
      subst hq
      go_wp2_with fail
      refine (W1.out _).mono ?_
      rintro e w1 ⟨rfl, hq⟩
      subst hq
      go_wp2_with fail
    · go_ret
      exact ⟨rfl, T0.out⟩
    · refine (W2.out _).mono ?_
      rintro e w1 ⟨rfl, hq⟩
      subst hq
      go_wp2_with fail
      go_ret
      exact ⟨rfl, T0.out⟩
  · rw [if_neg hh]
    have dh : decide (0 < leastV k.proto) = false := by simpa using hh
    rw [dh] at HH
    clear hh dh W1 W2
    obtain ⟨ver, sh, sl, dh, dl, proto, sp, dp⟩ := k
    simp only at *
    have ways : (sp = 0 ∧ dp = 0) ∨ (sp = 0 ∧ (dp == 0) = false) ∨ (sp == 0) = false := by
      by_cases h1 : sp = 0
      · by_cases h2 : dp = 0
        · exact .inl ⟨h1, h2⟩
        · exact .inr (.inl ⟨h1, by simpa using h2⟩)
      · exact .inr (.inr (by simpa using h1))
    rcases ways with ⟨rfl, rfl⟩ | ⟨rfl, d2⟩ | d1
    all_goals
      go_enter Tryd.func43, Tryd.ntmps43
      go_wp2_with fail
      refine (HH.out _).mono ?_
      rintro e w1 ⟨rfl, hq⟩
      subst hq
      go_upto_region 2 with fail
      generalize hw2 : w.alloc _ = w2 at *
      clear hw2
      have kk := fun x : Cls w2 => B0.out.carry x.property (by simp)
      have k0 := fun x : Cls w2 => (kk x).cell 0
      have k1 := fun x : Cls w2 => (kk x).cell 1
      have k2 := fun x : Cls w2 => (kk x).cell 2
      have k3 := fun x : Cls w2 => (kk x).cell 3
      have k4 := fun x : Cls w2 => (kk x).cell 4
      have k5 := fun x : Cls w2 => (kk x).cell 5
      have k6 := fun x : Cls w2 => (kk x).cell 6
      have k7 := fun x : Cls w2 => (kk x).cell 7
      simp only [List.getElem?_toArray, List.getElem?_cons_zero, List.getElem?_cons_succ] at k0 k1 k2 k3 k4 k5 k6 k7
      clear kk
      refine wp_region_cls (wd := w2) (by kernel_rfl) (by kernel_rfl) ((Touch.refl _ _).drew) ?_
      repeat (first | go_big_quiet_step ((go_at_call 76; with_reducible exact Calls.cls_at (PL.out _))) | quiet_step ((go_at_call 76; with_reducible exact Calls.cls_at (PL.out _))))
      refine wpQuiet_nil ?_
      rintro _ ⟨y, rfl⟩
      go_wp2_with fail
      go_ret
      exact ⟨by first | rfl | (rw [d2]; rfl) | (rw [d1]; rfl), T0.out.trans y.property (by simp)⟩
end Go.Proofs.YtdpaiegojioimaaDoor

/-
  Layer 14 (flow): Right and Least of any key, and the reference's.
-/
namespace Go.Proofs.YtdpaiegojioimaaDoor
open Go.ChangeShapes Go.WideShapes Go.ChangeAt Go.RowKit Go.Deep
set_option linter.unusedVariables false
set_option linter.unusedSimpArgs false

def restK (k : Ky) : Bool := rightA k.ver k.sh k.sl && (rightA k.ver k.dh k.dl && (within14 k.proto 255 && portsK k))
def rightK (k : Ky) : Bool := if (k.ver == 6) = true then !fol k.proto && restK k else if (k.ver == 4) = true then restK k else false
theorem rightK_ver {k : Ky} (h : rightK k = true) : k.ver = 6 ∨ k.ver = 4 := by
  unfold rightK at h
  by_cases h6 : (k.ver == 6) = true
  · exact .inl (by simpa using h6)
  · rw [if_neg h6] at h
    by_cases h4 : (k.ver == 4) = true
    · exact .inr (by simpa using h4)
    · rw [if_neg h4] at h; cases h

set_option maxRecDepth 100000 in
set_option maxHeartbeats 4000000 in
theorem right14 (k : Ky) {w : World} (K : Tab6 w) : Calls Tryd.prog 19 #[.agg k.cells] w fun e w' => e = .returned (.bool (rightK k)) ∧ Touch [] w w' := by
  have R1 := Lib.hid (fun w => right10 k.ver k.sh k.sl w)
  have R2 := Lib.hid (fun w => right10 k.ver k.dh k.dl w)
  have WI := Lib.hid (fun w => within14_any k.proto 255 w)
  have RP := Lib.hid (fun w => rightPorts14 k w)
  have B0 := Lib.hid (BoxV.new w 41 k.cells)
  have T0 := Lib.hid ((Touch.refl [] w).alloc (.cells k.cells 41))
  have FO := Lib.hid (follows12 k.proto (K.carry T0.out (by simp)))
  unfold rightK restK
  unfold Ky.cells at *
  unfold av at *
  generalize rightA k.ver k.sh k.sl = a at *
  generalize rightA k.ver k.dh k.dl = b at *
  generalize within14 k.proto 255 = c at *
  generalize portsK k = d at *
  generalize fol k.proto = f at *
  clear K
  by_cases h6 : (k.ver == 6) = true
  · rw [if_pos h6]
    cases f
    · go_enter Tryd.func19, Tryd.ntmps19
      go_wp2_with fail
      refine (FO.out).mono ?_
      rintro e w1 ⟨rfl, hq⟩
      subst hq
      go_wp2_with fail
      refine (R1.out _).mono ?_
      rintro e w1 ⟨rfl, t1⟩
      have H1 := Lib.hid (B0.out.carry t1 (by simp))
      have T1 := Lib.hid (T0.out.trans t1 (by simp))
      obtain ⟨c0, c1, c2, c3, c4, c5, c6, c7⟩ := H1.out.key
      have l1 := H1.out.lt
      clear t1
      cases a
      · go_wp2_with fail
        go_ret
        exact ⟨rfl, T1.out⟩
      go_wp2_with fail
      refine (R2.out _).mono ?_
      rintro e w2 ⟨rfl, t2⟩
      have H2 := Lib.hid (H1.out.carry t2 (by simp))
      have T2 := Lib.hid (T1.out.trans t2 (by simp))
      clear c0 c1 c2 c3 c4 c5 c6 c7 l1 t2
      obtain ⟨c0, c1, c2, c3, c4, c5, c6, c7⟩ := H2.out.key
      have l2 := H2.out.lt
      cases b
      · go_wp2_with fail
        go_ret
        exact ⟨rfl, T2.out⟩
      go_wp2_with fail
      refine (WI.out _).mono ?_
      rintro e w2 ⟨rfl, hq⟩
      subst hq
      cases c
      · go_wp2_with fail
        go_ret
        exact ⟨rfl, T2.out⟩
      go_wp2_with fail
      refine (RP.out _).mono ?_
      rintro e w3 ⟨rfl, t3⟩
      have T3 := Lib.hid (T2.out.trans t3 (by simp))
      clear t3
      go_wp2_with fail
      go_ret
      exact ⟨rfl, T3.out⟩
    · go_enter Tryd.func19, Tryd.ntmps19
      go_wp2_with fail
      refine (FO.out).mono ?_
      rintro e w1 ⟨rfl, hq⟩
      subst hq
      go_wp2_with fail
      go_ret
      exact ⟨rfl, T0.out⟩
  · rw [if_neg h6]
    have d6 : (k.ver == 6) = false := by simpa using h6
    clear FO
    by_cases h4 : (k.ver == 4) = true
    · rw [if_pos h4]
      go_enter Tryd.func19, Tryd.ntmps19
      go_wp2_with fail
      refine (R1.out _).mono ?_
      rintro e w1 ⟨rfl, t1⟩
      have H1 := Lib.hid (B0.out.carry t1 (by simp))
      have T1 := Lib.hid (T0.out.trans t1 (by simp))
      obtain ⟨c0, c1, c2, c3, c4, c5, c6, c7⟩ := H1.out.key
      have l1 := H1.out.lt
      clear t1
      cases a
      · go_wp2_with fail
        go_ret
        exact ⟨rfl, T1.out⟩
      go_wp2_with fail
      refine (R2.out _).mono ?_
      rintro e w2 ⟨rfl, t2⟩
      have H2 := Lib.hid (H1.out.carry t2 (by simp))
      have T2 := Lib.hid (T1.out.trans t2 (by simp))
      clear c0 c1 c2 c3 c4 c5 c6 c7 l1 t2
      obtain ⟨c0, c1, c2, c3, c4, c5, c6, c7⟩ := H2.out.key
      have l2 := H2.out.lt
      cases b
      · go_wp2_with fail
        go_ret
        exact ⟨rfl, T2.out⟩
      go_wp2_with fail
      refine (WI.out _).mono ?_
      rintro e w2 ⟨rfl, hq⟩
      subst hq
      cases c
      · go_wp2_with fail
        go_ret
        exact ⟨rfl, T2.out⟩
      go_wp2_with fail
      refine (RP.out _).mono ?_
      rintro e w3 ⟨rfl, t3⟩
      have T3 := Lib.hid (T2.out.trans t3 (by simp))
      clear t3
      go_wp2_with fail
      go_ret
      exact ⟨rfl, T3.out⟩
    · rw [if_neg h4]
      have d4 : (k.ver == 4) = false := by simpa using h4
      clear h4 h6
      go_enter Tryd.func19, Tryd.ntmps19
      go_wp2_with fail
      go_ret
      exact ⟨rfl, T0.out⟩

def headL (v : Int) : Int := if v = 4 then 20 else 40
theorem headLen14 (v : Int) (w : World) : Calls Tryd.prog 45 #[.int .i64 v] w fun e w' => e = .returned (.int .i64 (headL v)) ∧ Touch [] w w' := by
  unfold headL
  by_cases h : v = 4
  · subst h
    rw [if_pos rfl]
    go_enter Tryd.func45, Tryd.ntmps45
    go_wp2_with fail
    go_ret
    exact ⟨rfl, Touch.refl _ _⟩
  · rw [if_neg h]
    have d : (v == 4) = false := by simpa using h
    go_enter Tryd.func45, Tryd.ntmps45
    go_wp2_with fail
    go_ret
    exact ⟨rfl, Touch.refl _ _⟩
theorem leastT (x : Int) (w : World) : Calls Tryd.prog 46 #[.int .i64 x] w fun e w' => e = .returned (.int .i64 (leastV x)) ∧ Touch [] w w' :=
  (least_any x w).mono fun e w' ⟨h1, h2⟩ => ⟨h1, by rw [h2]; exact Touch.refl _ _⟩
def leastK (k : Ky) : Int := if rightK k = true then headL k.ver + leastV k.proto else 0
theorem leastV_in (x : Int) : 0 ≤ leastV x ∧ leastV x ≤ 20 := by unfold leastV; split <;> (try split) <;> omega
theorem headL_in (x : Int) : 20 ≤ headL x ∧ headL x ≤ 40 := by unfold headL; split <;> omega
set_option maxRecDepth 100000 in
set_option maxHeartbeats 2000000 in
theorem leastAny14 (k : Ky) {w : World} (K : Tab6 w) : Calls Tryd.prog 21 #[.agg k.cells] w fun e w' => e = .returned (.int .i64 (leastK k)) ∧ Touch [] w w' := by
  have B0 := Lib.hid (BoxV.new w 41 k.cells)
  have T0 := Lib.hid ((Touch.refl [] w).alloc (.cells k.cells 41))
  have R := Lib.hid (right14 k (K.carry T0.out (by simp)))
  have HL := Lib.hid (fun w => headLen14 k.ver w)
  have LE := Lib.hid (fun w => leastT k.proto w)
  have hl := leastV_in k.proto
  have hh := headL_in k.ver
  have fw : IntKind.i64.wrap (headL k.ver + leastV k.proto) = headL k.ver + leastV k.proto := by rw [IntKind.wrap_i64]; omega
  unfold leastK
  unfold Ky.cells at *
  generalize rightK k = a at *
  generalize headL k.ver = x at *
  generalize leastV k.proto = y at *
  clear K hl hh
  cases a
  · rw [if_neg (by decide)]
    go_enter Tryd.func21, Tryd.ntmps21
    go_wp2_with fail
    refine (R.out).mono ?_
    rintro e w1 ⟨rfl, t1⟩
    have T1 := Lib.hid (T0.out.trans t1 (by simp))
    clear t1
    go_wp2_with fail
    go_ret
    exact ⟨rfl, T1.out⟩
  · rw [if_pos rfl]
    go_enter Tryd.func21, Tryd.ntmps21
    go_wp2_with fail
    refine (R.out).mono ?_
    rintro e w1 ⟨rfl, t1⟩
    have H1 := Lib.hid (B0.out.carry t1 (by simp))
    have T1 := Lib.hid (T0.out.trans t1 (by simp))
    clear t1
    go_upto_region 3 with fail
    have k0 : ∀ x : Cls w1, x.val.cell? ⟨w.heap.size, 0, none⟩ = some (.int .i64 k.ver) := fun x => (H1.out.carry x.property (by simp)).cell 0
    have k5 : ∀ x : Cls w1, x.val.cell? ⟨w.heap.size, 5, none⟩ = some (.int .i64 k.proto) := fun x => (H1.out.carry x.property (by simp)).cell 5
    refine wp_region_cls (wd := w1) (by kernel_rfl) (by kernel_rfl) ((Touch.refl _ _).drew) ?_
    repeat (first | go_big_quiet_step ((first | (go_at_call 45; with_reducible exact Calls.cls_at (HL.out _)) | (go_at_call 46; with_reducible exact Calls.cls_at (LE.out _)))) | quiet_step ((first | (go_at_call 45; with_reducible exact Calls.cls_at (HL.out _)) | (go_at_call 46; with_reducible exact Calls.cls_at (LE.out _)))))
    refine wpQuiet_nil ?_
    rintro _ ⟨y, rfl⟩
    go_wp2_with fail
    go_ret
    exact ⟨rfl, T1.out.trans y.property (by simp)⟩
end Go.Proofs.YtdpaiegojioimaaDoor

/-
  Layer 14 (flow): the reference's Right, Least, noughts; strings.Repeat.
-/
namespace Go.Proofs.YtdpaiegojioimaaDoor
open Go.ChangeShapes Go.WideShapes Go.ChangeAt Go.RowKit Go.Deep
set_option linter.unusedVariables false
set_option linter.unusedSimpArgs false

theorem hasV (x : Int) : (0 < leastV x) ↔ x = 6 ∨ x = 17 := by unfold leastV; split <;> (try split) <;> omega

set_option maxRecDepth 100000 in
set_option maxHeartbeats 8000000 in
theorem refRight14 (k : Ky) (w : World) : Calls Tryd.prog 20 #[.agg k.cells] w fun e w' => e = .returned (.bool (rightK k)) ∧ Touch [] w w' := by
  have R1 := Lib.hid (fun w => refRight10 k.ver k.sh k.sl w)
  have R2 := Lib.hid (fun w => refRight10 k.ver k.dh k.dl w)
  have FO := Lib.hid (fun w => refFollows12 k.proto w)
  have B0 := Lib.hid (BoxV.new w 41 k.cells)
  have T0 := Lib.hid ((Touch.refl [] w).alloc (.cells k.cells 41))
  have hv : (k.ver == 6) = true ∧ (k.ver != 4) = true ∧ (k.ver != 6) = false ∨ (k.ver == 6) = false ∧ (k.ver == 4) = true ∧ (k.ver != 4) = false ∨ (k.ver == 6) = false ∧ (k.ver == 4) = false ∧ (k.ver != 4) = true ∧ (k.ver != 6) = true := by
    by_cases h6 : k.ver = 6
    · left; simp [h6]
    · by_cases h4 : k.ver = 4
      · right; left; simp [h4]
      · right; right; simp [h4, h6]
  have hp : (k.proto != 6) = true ∧ (k.proto != 17) = true ∧ portsK k = (k.sp == 0 && k.dp == 0) ∨ ((k.proto != 6) = false ∨ (k.proto != 6) = true ∧ (k.proto != 17) = false) ∧ portsK k = (within14 k.sp 65535 && within14 k.dp 65535) := by
    unfold portsK
    by_cases h6 : k.proto = 6
    · right; rw [if_pos ((hasV _).2 (.inl h6))]; simp [h6]
    · by_cases h17 : k.proto = 17
      · right; rw [if_pos ((hasV _).2 (.inr h17))]; simp [h17]
      · left; rw [if_neg (fun h => by rcases (hasV _).1 h with h | h <;> contradiction)]; simp [h6, h17]
  have hw : within14 k.proto 255 = (!decide (k.proto < 0) && !decide (255 < k.proto)) := by
    unfold within14
    rw [← decide_not, ← decide_not]
    congr 1 <;> rw [decide_eq_decide] <;> omega
  unfold rightK restK
  rw [hw]
  unfold Ky.cells at *
  unfold av at *
  generalize rightA k.ver k.sh k.sl = a at *
  generalize rightA k.ver k.dh k.dl = b at *
  generalize portsK k = d at *
  generalize fol k.proto = f at *
  clear hw
  generalize hq0 : decide (k.proto < 0) = q0 at *
  generalize hq1 : decide (255 < k.proto) = q1 at *
  rcases hp with ⟨n6, n17, rfl⟩ | ⟨hh, rfl⟩
  · generalize hs : (k.sp == 0) = s at *
    generalize hs' : (k.dp == 0) = s' at *
    rcases hv with ⟨d6, d4n, d6n⟩ | ⟨d6, d4, d4n⟩ | ⟨d6, d4, d4n, d6n⟩
    · rw [if_pos d6]
      go_enter Tryd.func20, Tryd.ntmps20
      go_wp2_with fail
      refine (R1.out _).mono ?_
      rintro e w1 ⟨rfl, t1⟩
      have H1 := Lib.hid (B0.out.carry t1 (by simp))
      have T1 := Lib.hid (T0.out.trans t1 (by simp))
      obtain ⟨c0, c1, c2, c3, c4, c5, c6, c7⟩ := H1.out.key
      have l1 := H1.out.lt
      clear t1
      cases a
      case false =>
        go_wp2_with fail
        go_ret
        exact ⟨by first | rfl | (cases f <;> rfl), T1.out⟩
      go_wp2_with fail
      refine (R2.out _).mono ?_
      rintro e w2 ⟨rfl, t2⟩
      have H2 := Lib.hid (H1.out.carry t2 (by simp))
      have T2 := Lib.hid (T1.out.trans t2 (by simp))
      clear c0 c1 c2 c3 c4 c5 c6 c7 l1 t2
      obtain ⟨c0, c1, c2, c3, c4, c5, c6, c7⟩ := H2.out.key
      have l2 := H2.out.lt
      cases b
      case false =>
        go_wp2_with fail
        go_ret
        exact ⟨by first | rfl | (cases f <;> rfl), T2.out⟩
      cases q0
      case true =>
        go_wp2_with fail
        go_ret
        exact ⟨by first | rfl | (cases f <;> rfl), T2.out⟩
      cases q1
      case true =>
        go_wp2_with fail
        go_ret
        exact ⟨by first | rfl | (cases f <;> rfl), T2.out⟩
      go_wp2_with fail
      refine (FO.out _).mono ?_
      rintro e w3 ⟨rfl, hq⟩
      subst hq
      cases f
      case true =>
        go_wp2_with fail
        go_ret
        exact ⟨by first | rfl | (cases f <;> rfl), T2.out⟩
      cases s
      all_goals
        go_wp2_with fail
        go_ret
        exact ⟨rfl, T2.out⟩
    · rw [if_neg (by rw [d6]; decide), if_pos d4]
      clear FO
      go_enter Tryd.func20, Tryd.ntmps20
      go_wp2_with fail
      refine (R1.out _).mono ?_
      rintro e w1 ⟨rfl, t1⟩
      have H1 := Lib.hid (B0.out.carry t1 (by simp))
      have T1 := Lib.hid (T0.out.trans t1 (by simp))
      obtain ⟨c0, c1, c2, c3, c4, c5, c6, c7⟩ := H1.out.key
      have l1 := H1.out.lt
      clear t1
      cases a
      case false =>
        go_wp2_with fail
        go_ret
        exact ⟨rfl, T1.out⟩
      go_wp2_with fail
      refine (R2.out _).mono ?_
      rintro e w2 ⟨rfl, t2⟩
      have H2 := Lib.hid (H1.out.carry t2 (by simp))
      have T2 := Lib.hid (T1.out.trans t2 (by simp))
      clear c0 c1 c2 c3 c4 c5 c6 c7 l1 t2
      obtain ⟨c0, c1, c2, c3, c4, c5, c6, c7⟩ := H2.out.key
      have l2 := H2.out.lt
      cases b
      case false =>
        go_wp2_with fail
        go_ret
        exact ⟨rfl, T2.out⟩
      cases q0
      case true =>
        go_wp2_with fail
        go_ret
        exact ⟨rfl, T2.out⟩
      cases q1
      case true =>
        go_wp2_with fail
        go_ret
        exact ⟨rfl, T2.out⟩
      cases s
      all_goals
        go_wp2_with fail
        go_ret
        exact ⟨rfl, T2.out⟩
    · rw [if_neg (by rw [d6]; decide), if_neg (by rw [d4]; decide)]
      clear FO
      go_enter Tryd.func20, Tryd.ntmps20
      go_wp2_with fail
      go_ret
      exact ⟨rfl, T0.out⟩
  · unfold within14
    generalize hs0 : decide (0 ≤ k.sp) = s0 at *
    generalize hs1 : decide (k.sp ≤ 65535) = s1 at *
    generalize hd0 : decide (0 ≤ k.dp) = s2 at *
    generalize hd1 : decide (k.dp ≤ 65535) = s3 at *
    rcases hv with ⟨d6, d4n, d6n⟩ | ⟨d6, d4, d4n⟩ | ⟨d6, d4, d4n, d6n⟩
    · rw [if_pos d6]
      go_enter Tryd.func20, Tryd.ntmps20
      go_wp2_with fail
      refine (R1.out _).mono ?_
      rintro e w1 ⟨rfl, t1⟩
      have H1 := Lib.hid (B0.out.carry t1 (by simp))
      have T1 := Lib.hid (T0.out.trans t1 (by simp))
      obtain ⟨c0, c1, c2, c3, c4, c5, c6, c7⟩ := H1.out.key
      have l1 := H1.out.lt
      clear t1
      cases a
      case false =>
        go_wp2_with fail
        go_ret
        exact ⟨by first | rfl | (cases f <;> rfl), T1.out⟩
      go_wp2_with fail
      refine (R2.out _).mono ?_
      rintro e w2 ⟨rfl, t2⟩
      have H2 := Lib.hid (H1.out.carry t2 (by simp))
      have T2 := Lib.hid (T1.out.trans t2 (by simp))
      clear c0 c1 c2 c3 c4 c5 c6 c7 l1 t2
      obtain ⟨c0, c1, c2, c3, c4, c5, c6, c7⟩ := H2.out.key
      have l2 := H2.out.lt
      cases b
      case false =>
        go_wp2_with fail
        go_ret
        exact ⟨by first | rfl | (cases f <;> rfl), T2.out⟩
      cases q0
      case true =>
        go_wp2_with fail
        go_ret
        exact ⟨by first | rfl | (cases f <;> rfl), T2.out⟩
      cases q1
      case true =>
        go_wp2_with fail
        go_ret
        exact ⟨by first | rfl | (cases f <;> rfl), T2.out⟩
      go_wp2_with fail
      refine (FO.out _).mono ?_
      rintro e w3 ⟨rfl, hq⟩
      subst hq
      cases f
      case true =>
        go_wp2_with fail
        go_ret
        exact ⟨by first | rfl | (cases f <;> rfl), T2.out⟩
      rcases hh with n6 | ⟨n6, n17⟩
      all_goals
        cases s0
        case false =>
          go_wp2_with fail
          go_ret
          exact ⟨rfl, T2.out⟩
        cases s1
        case false =>
          go_wp2_with fail
          go_ret
          exact ⟨rfl, T2.out⟩
        cases s2
        case false =>
          go_wp2_with fail
          go_ret
          exact ⟨rfl, T2.out⟩
        go_wp2_with fail
        go_ret
        exact ⟨rfl, T2.out⟩
    · rw [if_neg (by rw [d6]; decide), if_pos d4]
      clear FO
      go_enter Tryd.func20, Tryd.ntmps20
      go_wp2_with fail
      refine (R1.out _).mono ?_
      rintro e w1 ⟨rfl, t1⟩
      have H1 := Lib.hid (B0.out.carry t1 (by simp))
      have T1 := Lib.hid (T0.out.trans t1 (by simp))
      obtain ⟨c0, c1, c2, c3, c4, c5, c6, c7⟩ := H1.out.key
      have l1 := H1.out.lt
      clear t1
      cases a
      case false =>
        go_wp2_with fail
        go_ret
        exact ⟨rfl, T1.out⟩
      go_wp2_with fail
      refine (R2.out _).mono ?_
      rintro e w2 ⟨rfl, t2⟩
      have H2 := Lib.hid (H1.out.carry t2 (by simp))
      have T2 := Lib.hid (T1.out.trans t2 (by simp))
      clear c0 c1 c2 c3 c4 c5 c6 c7 l1 t2
      obtain ⟨c0, c1, c2, c3, c4, c5, c6, c7⟩ := H2.out.key
      have l2 := H2.out.lt
      cases b
      case false =>
        go_wp2_with fail
        go_ret
        exact ⟨rfl, T2.out⟩
      cases q0
      case true =>
        go_wp2_with fail
        go_ret
        exact ⟨rfl, T2.out⟩
      cases q1
      case true =>
        go_wp2_with fail
        go_ret
        exact ⟨rfl, T2.out⟩
      rcases hh with n6 | ⟨n6, n17⟩
      all_goals
        cases s0
        case false =>
          go_wp2_with fail
          go_ret
          exact ⟨rfl, T2.out⟩
        cases s1
        case false =>
          go_wp2_with fail
          go_ret
          exact ⟨rfl, T2.out⟩
        cases s2
        case false =>
          go_wp2_with fail
          go_ret
          exact ⟨rfl, T2.out⟩
        go_wp2_with fail
        go_ret
        exact ⟨rfl, T2.out⟩
    · rw [if_neg (by rw [d6]; decide), if_neg (by rw [d4]; decide)]
      clear FO
      go_enter Tryd.func20, Tryd.ntmps20
      go_wp2_with fail
      go_ret
      exact ⟨rfl, T0.out⟩
end Go.Proofs.YtdpaiegojioimaaDoor

/-
  Layer 14 (flow): strings.Repeat; the reference's noughts and Least.
-/
namespace Go.Proofs.YtdpaiegojioimaaDoor
open Go.ChangeShapes Go.WideShapes Go.ChangeAt Go.RowKit Go.Deep
set_option linter.unusedVariables false
set_option linter.unusedSimpArgs false

theorem repeat0 (n : Nat) (hn : n ≤ 100000) (w : World) : Calls Tryd.prog 48 #[.string ⟨#[0]⟩, .int .i64 (n : Int)] w fun e w' => e = .returned (.string (S (List.replicate n 0))) ∧ Touch [] w w' := by
  refine (Go.Proofs.Tryd.strings_Repeat ⟨#[0]⟩ n w (by omega) (by have : (⟨#[0]⟩ : ByteArray).size = 1 := rfl; rw [this]; omega)).mono ?_
  rintro e w' ⟨he, hb⟩
  refine ⟨?_, Touch.ofBelow hb⟩
  rw [he]
  have := Go.Lib.repeatL_replicate (0 : UInt8) 1 n
  rw [Nat.mul_one] at this
  have e1 : (⟨#[0]⟩ : ByteArray).data.toList = List.replicate 1 (0 : UInt8) := rfl
  rw [e1, this]
  rfl

set_option maxRecDepth 100000 in
theorem noughts14 (n : Nat) : n ≤ 100000 → ∀ w : World, Calls Tryd.prog 51 #[.int .i64 (n : Int)] w fun e w' => e = .returned (.string (S (List.replicate n 0))) ∧ Touch [] w w' := by
  induction n using Nat.strongRecOn with
  | _ n ih =>
    intro hn w
    by_cases h0 : n = 0
    · subst h0
      go_enter Tryd.func51, Tryd.ntmps51
      go_wp2_with fail
      go_ret
      exact ⟨rfl, Touch.refl _ _⟩
    have d0 : ((n : Int) == 0) = false := by simp; omega
    have d0' : (n == 0) = false := by simp; omega
    by_cases ho : n % 2 = 1
    · obtain ⟨m, rfl⟩ : ∃ m, n = m + 1 := ⟨n - 1, by omega⟩
      have d1' : (((m : Int) + 1) % 2 == 1) = true := by simp; omega
      have d1'' : ((m + 1) % 2 == 1) = true := by simp; omega
      have IH := Lib.hid (fun w => ih m (by omega) (by omega) w)
      have fw : IntKind.i64.wrap ((m : Int) + 1 - 1) = (m : Int) := by rw [IntKind.wrap_i64]; omega
      have AD : ∀ w, (Op.stringOp .add ⟨#[0]⟩ (S (List.replicate m 0))).run Tryd.prog w = .ok (.string (S (List.replicate (m + 1) 0))) w := fun w => add_str [0] (List.replicate m 0) (by simp; omega) w
      clear ih h0 ho
      generalize S (List.replicate (m + 1) 0) = X at *
      generalize S (List.replicate m 0) = Y at *
      go_enter Tryd.func51, Tryd.ntmps51
      go_wp2_with fail
      refine (IH.out _).mono ?_
      rintro e w1 ⟨rfl, t1⟩
      have T1 := Lib.hid t1
      clear t1
      go_wp2_with fail
      go_ret
      exact ⟨rfl, T1.out⟩
    · obtain ⟨m, rfl⟩ : ∃ m, n = m + m := ⟨n / 2, by omega⟩
      have d1' : (((m : Int) + (m : Int)) % 2 == 1) = false := by simp; omega
      have d1'' : ((m + m) % 2 == 1) = false := by simp; omega
      have q1 : ((m : Int) + (m : Int)) / 2 = (m : Int) := by omega
      have q2 : (m + m) / 2 = m := by omega
      have IH := Lib.hid (fun w => ih m (by omega) (by omega) w)
      have AD : ∀ w, (Op.stringOp .add (S (List.replicate m 0)) (S (List.replicate m 0))).run Tryd.prog w = .ok (.string (S (List.replicate (m + m) 0))) w := fun w => by
        have := add_str (List.replicate m 0) (List.replicate m 0) (by simp; omega) w
        rwa [List.replicate_append_replicate] at this
      clear ih h0 ho
      generalize S (List.replicate (m + m) 0) = X at *
      generalize S (List.replicate m 0) = Y at *
      go_enter Tryd.func51, Tryd.ntmps51
      go_wp2_with fail
      refine (IH.out _).mono ?_
      rintro e w1 ⟨rfl, t1⟩
      have T1 := Lib.hid t1
      clear t1
      go_wp2_with fail
      go_ret
      exact ⟨rfl, T1.out⟩

theorem least_parts (k : Ky) : (if rightK k = true then (if k.ver = 6 then 40 else 20) + leastV k.proto else 0) = leastK k := by
  unfold leastK
  by_cases h : rightK k = true
  · rw [if_pos h, if_pos h]
    unfold headL
    rcases rightK_ver h with h | h <;> rw [h] <;> rfl
  · rw [if_neg h, if_neg h]
set_option maxRecDepth 100000 in
set_option maxHeartbeats 4000000 in
theorem refLeast14 (k : Ky) (w : World) : Calls Tryd.prog 22 #[.agg k.cells] w fun e w' => e = .returned (.int .i64 (leastK k)) ∧ Touch [] w w' := by
  rw [← least_parts]
  have R := Lib.hid (fun w => refRight14 k w)
  have B0 := (BoxV.new w 41 k.cells)
  have T0 := Lib.hid ((Touch.refl [] w).alloc (.cells k.cells 41))
  obtain ⟨x, hx⟩ : ∃ x : Int, (if k.ver = 6 then 40 else 20) = x := ⟨_, rfl⟩
  have hv : (k.ver == 6) = true ∧ x = 40 ∨ (k.ver == 6) = false ∧ x = 20 := by
    rw [← hx]
    by_cases h6 : k.ver = 6 <;> simp [h6]
  have hp : (k.proto == 6) = true ∧ (k.proto == 17) = false ∧ leastV k.proto = 20 ∨ (k.proto == 6) = false ∧ (k.proto == 17) = true ∧ leastV k.proto = 8 ∨ (k.proto == 6) = false ∧ (k.proto == 17) = false ∧ leastV k.proto = 0 := by
    unfold leastV
    by_cases h6 : k.proto = 6
    · left; simp [h6]
    · by_cases h17 : k.proto = 17
      · right; left; simp [h17]
      · right; right; simp [h6, h17]
  rw [hx]
  unfold Ky.cells at *
  obtain ⟨c0, c1, c2, c3, c4, c5, c6, c7⟩ := B0.key
  have l0 := B0.lt
  have HB := Lib.hid B0
  generalize rightK k = r at *
  generalize leastV k.proto = y at *
  clear hx B0
  rcases hv with ⟨d6, rfl⟩ | ⟨d6, rfl⟩ <;> rcases hp with ⟨p6, p17, rfl⟩ | ⟨p6, p17, rfl⟩ | ⟨p6, p17, rfl⟩ <;> cases r
  all_goals
    go_enter Tryd.func22, Tryd.ntmps22
    go_wp2_with fail
    refine (R.out _).mono ?_
    rintro e w1 ⟨rfl, t1⟩
    have T1 := Lib.hid (T0.out.trans t1 (by simp))
    clear t1
    go_wp2_with fail
    go_ret
    exact ⟨rfl, T1.out⟩
end Go.Proofs.YtdpaiegojioimaaDoor

/-
  Layer 14 (flow): Make, and the reference's.
-/
namespace Go.Proofs.YtdpaiegojioimaaDoor
open Go.ChangeShapes Go.WideShapes Go.ChangeAt Go.RowKit Go.Deep
set_option linter.unusedVariables false
set_option linter.unusedSimpArgs false

structure Ky.Ok (k : Ky) : Prop where
  sh : k.sh < 18446744073709551616
  sl : k.sl < 18446744073709551616
  dh : k.dh < 18446744073709551616
  dl : k.dl < 18446744073709551616
  proto : -9223372036854775808 ≤ k.proto ∧ k.proto ≤ 9223372036854775807
  sp : -9223372036854775808 ≤ k.sp ∧ k.sp ≤ 9223372036854775807
  dp : -9223372036854775808 ≤ k.dp ∧ k.dp ≤ 9223372036854775807
def hdK (k : Ky) : Hd := ⟨k.sh, k.sl, k.dh, k.dl, k.proto, 0, 0, 0, false⟩
theorem Ky.Ok.four {k : Ky} (h : k.Ok) : (hdK k).Ok := ⟨h.sl, h.dl, h.proto, by show (-9223372036854775808 : Int) ≤ 0 ∧ (0 : Int) ≤ 9223372036854775807; omega⟩
theorem Ky.Ok.six {k : Ky} (h : k.Ok) : (hdK k).Ok6 := ⟨h.sh, h.sl, h.dh, h.dl, h.proto, by show (-9223372036854775808 : Int) ≤ 0 ∧ (0 : Int) ≤ 9223372036854775807; omega⟩
def segK (k : Ky) (sz : Int) : List UInt8 := makeB k.proto k.sp k.dp (List.replicate (sz.toNat - (leastK k).toNat) 0)
def makeK (k : Ky) (sz : Int) : List UInt8 := if rightK k = true ∧ leastK k ≤ sz ∧ sz ≤ 2048 then (if k.ver = 4 then packA (hdK k) (segK k sz) else pack6 (hdK k) [] (segK k sz)) else []

set_option maxRecDepth 100000 in
set_option maxHeartbeats 8000000 in
theorem make14 (k : Ky) (ok : k.Ok) (sz : Int) (hsz : -9223372036854775808 ≤ sz ∧ sz ≤ 9223372036854775807) {w : World} (K : Tab6 w) : Calls Tryd.prog 23 #[.agg k.cells, .int .i64 sz] w fun e w' => e = .returned (.string (S (makeK k sz))) ∧ Touch [] w w' := by
  have B0 := Lib.hid (BoxV.new w 41 k.cells)
  have T0 := Lib.hid ((Touch.refl [] w).alloc (.cells k.cells 41))
  have RI := Lib.hid (fun w (K : Tab6 w) => right14 k K)
  have LE := Lib.hid (fun w (K : Tab6 w) => leastAny14 k K)
  have RP := Lib.hid (fun (n : Nat) (hn : n ≤ 100000) w => repeat0 n hn w)
  have PM := Lib.hid (fun (l : List UInt8) (hl : l.length ≤ 1000000000) w => portsMake k.proto k.sp k.dp l hl w)
  have M4 := Lib.hid (fun (l : List UInt8) (hl : l.length ≤ 1000000000) w => make11 (hdK k) ok.four l hl w)
  have M6 := Lib.hid (fun (l : List UInt8) (hl : l.length ≤ 9223372036854775807) w (K : Tab6 w) => make12 (A := none) (n := 0) (cap := 0) (X := fun _ => 0) (hdK k) ok.six l K (fun i hi => absurd hi (Nat.not_lt_zero _)) (by omega) hl)
  have HK0 := Lib.hid (K.carry T0.out (by simp))
  clear K
  have hle : 0 ≤ leastK k ∧ leastK k ≤ 60 := by
    unfold leastK
    have := leastV_in k.proto
    have := headL_in k.ver
    split <;> omega
  have hup : upto (fun _ : Nat => (0 : Int)) 0 = [] := rfl
  rw [hup] at M6
  unfold makeK segK
  unfold hdK Hd.cells at M4 M6
  unfold Ky.cells at *
  have hv := @rightK_ver k
  generalize rightK k = r at *
  generalize leastK k = le at *
  clear hup
  cases r
  · rw [if_neg (by simp)]
    rw [show S [] = ⟨#[]⟩ from rfl]
    clear hv PM M4 M6 RP
    go_enter Tryd.func23, Tryd.ntmps23
    go_wp2_with fail
    refine (RI.out _ HK0.out).mono ?_
    rintro e w1 ⟨rfl, t1⟩
    have H1 := Lib.hid (B0.out.carry t1 (by simp))
    have T1 := Lib.hid (T0.out.trans t1 (by simp))
    have HK1 := Lib.hid (HK0.out.carry t1 (by simp))
    clear t1
    go_wp2_with fail
    go_ret
    exact ⟨rfl, T1.out⟩
  by_cases h1 : sz < le
  · rw [if_neg (by simp; omega)]
    rw [show S [] = ⟨#[]⟩ from rfl]
    have d1 : decide (sz < le) = true := by simpa using h1
    clear hv PM M4 M6 RP h1
    go_enter Tryd.func23, Tryd.ntmps23
    go_wp2_with fail
    refine (RI.out _ HK0.out).mono ?_
    rintro e w1 ⟨rfl, t1⟩
    have H1 := Lib.hid (B0.out.carry t1 (by simp))
    have T1 := Lib.hid (T0.out.trans t1 (by simp))
    have HK1 := Lib.hid (HK0.out.carry t1 (by simp))
    clear t1
    obtain ⟨c0, c1, c2, c3, c4, c5, c6, c7⟩ := H1.out.key
    have l1 := H1.out.lt
    go_wp2_with fail
    refine (LE.out _ HK1.out).mono ?_
    rintro e w2 ⟨rfl, t2⟩
    have H2 := Lib.hid (H1.out.carry t2 (by simp))
    have T2 := Lib.hid (T1.out.trans t2 (by simp))
    have HK2 := Lib.hid (HK1.out.carry t2 (by simp))
    clear t2 c0 c1 c2 c3 c4 c5 c6 c7 l1
    go_wp2_with fail
    go_ret
    exact ⟨rfl, T2.out⟩
  have d1 : decide (sz < le) = false := by simpa using h1
  by_cases h2 : 2048 < sz
  · rw [if_neg (by simp; omega)]
    rw [show S [] = ⟨#[]⟩ from rfl]
    have d2 : decide (2048 < sz) = true := by simpa using h2
    clear hv PM M4 M6 RP h1 h2
    go_enter Tryd.func23, Tryd.ntmps23
    go_wp2_with fail
    refine (RI.out _ HK0.out).mono ?_
    rintro e w1 ⟨rfl, t1⟩
    have H1 := Lib.hid (B0.out.carry t1 (by simp))
    have T1 := Lib.hid (T0.out.trans t1 (by simp))
    have HK1 := Lib.hid (HK0.out.carry t1 (by simp))
    clear t1
    obtain ⟨c0, c1, c2, c3, c4, c5, c6, c7⟩ := H1.out.key
    have l1 := H1.out.lt
    go_wp2_with fail
    refine (LE.out _ HK1.out).mono ?_
    rintro e w2 ⟨rfl, t2⟩
    have H2 := Lib.hid (H1.out.carry t2 (by simp))
    have T2 := Lib.hid (T1.out.trans t2 (by simp))
    have HK2 := Lib.hid (HK1.out.carry t2 (by simp))
    clear t2 c0 c1 c2 c3 c4 c5 c6 c7 l1
    go_wp2_with fail
    go_ret
    exact ⟨rfl, T2.out⟩
  have d2 : decide (2048 < sz) = false := by simpa using h2
  rw [if_pos ⟨rfl, by omega, by omega⟩]
  obtain ⟨N, hN⟩ : ∃ N : Nat, sz.toNat - le.toNat = N := ⟨_, rfl⟩
  have fw : IntKind.i64.wrap (sz - le) = (N : Int) := by rw [IntKind.wrap_i64]; omega
  have hNl : N ≤ 2048 := by omega
  have RP := Lib.hid (RP.out N (by omega))
  have PM := Lib.hid (PM.out (List.replicate N 0) (by simp; omega))
  have hml : (makeB k.proto k.sp k.dp (List.replicate N 0)).length ≤ 2068 := by
    unfold makeB
    have := headB_length k.proto k.sp k.dp ((List.replicate N (0 : UInt8)).length)
    split <;> simp at * <;> omega
  have M4 := Lib.hid (M4.out _ (Nat.le_trans hml (by omega)))
  have M6 := Lib.hid (M6.out _ (Nat.le_trans hml (by omega)))
  rw [hN]
  generalize makeB k.proto k.sp k.dp (List.replicate N 0) = seg at *
  generalize List.replicate N (0 : UInt8) = zs at *
  clear h1 h2 hN hml hle hsz
  rcases hv rfl with h6 | h4
  · have d4 : (k.ver == 4) = false := by rw [h6]; rfl
    have d6 : (k.ver == 6) = true := by rw [h6]; rfl
    rw [if_neg (by omega)]
    clear hv h6 M4
    go_enter Tryd.func23, Tryd.ntmps23
    go_wp2_with fail
    refine (RI.out _ HK0.out).mono ?_
    rintro e w1 ⟨rfl, t1⟩
    have H1 := Lib.hid (B0.out.carry t1 (by simp))
    have T1 := Lib.hid (T0.out.trans t1 (by simp))
    have HK1 := Lib.hid (HK0.out.carry t1 (by simp))
    clear t1
    obtain ⟨c0, c1, c2, c3, c4, c5, c6, c7⟩ := H1.out.key
    have l1 := H1.out.lt
    go_wp2_with fail
    refine (LE.out _ HK1.out).mono ?_
    rintro e w2 ⟨rfl, t2⟩
    have H2 := Lib.hid (H1.out.carry t2 (by simp))
    have T2 := Lib.hid (T1.out.trans t2 (by simp))
    have HK2 := Lib.hid (HK1.out.carry t2 (by simp))
    clear t2 c0 c1 c2 c3 c4 c5 c6 c7 l1
    go_upto_region 3 with fail
    have kk := fun x : Cls w2 => H2.out.carry x.property (by simp)
    have k0 : ∀ x : Cls w2, x.val.cell? ⟨w.heap.size, 0, none⟩ = some (.int .i64 k.ver) := fun x => (kk x).key.1
    have k1 : ∀ x : Cls w2, x.val.cell? ⟨w.heap.size, 1, none⟩ = some (.int .u64 (k.sh : Int)) := fun x => (kk x).key.2.1
    have k2 : ∀ x : Cls w2, x.val.cell? ⟨w.heap.size, 2, none⟩ = some (.int .u64 (k.sl : Int)) := fun x => (kk x).key.2.2.1
    have k3 : ∀ x : Cls w2, x.val.cell? ⟨w.heap.size, 3, none⟩ = some (.int .u64 (k.dh : Int)) := fun x => (kk x).key.2.2.2.1
    have k4 : ∀ x : Cls w2, x.val.cell? ⟨w.heap.size, 4, none⟩ = some (.int .u64 (k.dl : Int)) := fun x => (kk x).key.2.2.2.2.1
    have k5 : ∀ x : Cls w2, x.val.cell? ⟨w.heap.size, 5, none⟩ = some (.int .i64 k.proto) := fun x => (kk x).key.2.2.2.2.2.1
    have k6 : ∀ x : Cls w2, x.val.cell? ⟨w.heap.size, 6, none⟩ = some (.int .i64 k.sp) := fun x => (kk x).key.2.2.2.2.2.2.1
    have k7 : ∀ x : Cls w2, x.val.cell? ⟨w.heap.size, 7, none⟩ = some (.int .i64 k.dp) := fun x => (kk x).key.2.2.2.2.2.2.2
    clear kk
    refine wp_region_cls (wd := w2) (by kernel_rfl) (by kernel_rfl) ((Touch.refl _ _).drew) ?_
    repeat (first | go_big_quiet_step ((first | (go_at_call 21; with_reducible exact Calls.cls_at (LE.out _ (HK2.out.carry (Cls.property _) (by simp)))) | (go_at_call 48; with_reducible exact Calls.cls_at (RP.out _)) | (go_at_call 47; with_reducible exact Calls.cls_at (PM.out _)))) | quiet_step ((first | (go_at_call 21; with_reducible exact Calls.cls_at (LE.out _ (HK2.out.carry (Cls.property _) (by simp)))) | (go_at_call 48; with_reducible exact Calls.cls_at (RP.out _)) | (go_at_call 47; with_reducible exact Calls.cls_at (PM.out _)))))
    refine wpQuiet_nil ?_
    rintro _ ⟨y, rfl⟩
    have g0 := k0 y
    have g1 := k1 y
    have g2 := k2 y
    have g3 := k3 y
    have g4 := k4 y
    have g5 := k5 y
    have HY := Lib.hid (H2.out.carry y.property (by simp))
    have TY := Lib.hid (T2.out.trans y.property (by simp))
    have HKY := Lib.hid (HK2.out.carry y.property (by simp))
    have ly := HY.out.lt
    clear k0 k1 k2 k3 k4 k5 k6 k7
    go_wp2_with fail
    refine (M6.out _ HKY.out).mono ?_
    rintro e w9 ⟨rfl, t9⟩
    have T9 := Lib.hid (TY.out.trans t9 (by simp))
    clear t9
    go_wp2_with fail
    go_ret
    exact ⟨rfl, T9.out⟩
  · have d4 : (k.ver == 4) = true := by rw [h4]; rfl
    have d6 : (k.ver == 6) = false := by rw [h4]; rfl
    rw [if_pos h4]
    clear hv h4 M6
    go_enter Tryd.func23, Tryd.ntmps23
    go_wp2_with fail
    refine (RI.out _ HK0.out).mono ?_
    rintro e w1 ⟨rfl, t1⟩
    have H1 := Lib.hid (B0.out.carry t1 (by simp))
    have T1 := Lib.hid (T0.out.trans t1 (by simp))
    have HK1 := Lib.hid (HK0.out.carry t1 (by simp))
    clear t1
    obtain ⟨c0, c1, c2, c3, c4, c5, c6, c7⟩ := H1.out.key
    have l1 := H1.out.lt
    go_wp2_with fail
    refine (LE.out _ HK1.out).mono ?_
    rintro e w2 ⟨rfl, t2⟩
    have H2 := Lib.hid (H1.out.carry t2 (by simp))
    have T2 := Lib.hid (T1.out.trans t2 (by simp))
    have HK2 := Lib.hid (HK1.out.carry t2 (by simp))
    clear t2 c0 c1 c2 c3 c4 c5 c6 c7 l1
    go_upto_region 3 with fail
    have kk := fun x : Cls w2 => H2.out.carry x.property (by simp)
    have k0 : ∀ x : Cls w2, x.val.cell? ⟨w.heap.size, 0, none⟩ = some (.int .i64 k.ver) := fun x => (kk x).key.1
    have k1 : ∀ x : Cls w2, x.val.cell? ⟨w.heap.size, 1, none⟩ = some (.int .u64 (k.sh : Int)) := fun x => (kk x).key.2.1
    have k2 : ∀ x : Cls w2, x.val.cell? ⟨w.heap.size, 2, none⟩ = some (.int .u64 (k.sl : Int)) := fun x => (kk x).key.2.2.1
    have k3 : ∀ x : Cls w2, x.val.cell? ⟨w.heap.size, 3, none⟩ = some (.int .u64 (k.dh : Int)) := fun x => (kk x).key.2.2.2.1
    have k4 : ∀ x : Cls w2, x.val.cell? ⟨w.heap.size, 4, none⟩ = some (.int .u64 (k.dl : Int)) := fun x => (kk x).key.2.2.2.2.1
    have k5 : ∀ x : Cls w2, x.val.cell? ⟨w.heap.size, 5, none⟩ = some (.int .i64 k.proto) := fun x => (kk x).key.2.2.2.2.2.1
    have k6 : ∀ x : Cls w2, x.val.cell? ⟨w.heap.size, 6, none⟩ = some (.int .i64 k.sp) := fun x => (kk x).key.2.2.2.2.2.2.1
    have k7 : ∀ x : Cls w2, x.val.cell? ⟨w.heap.size, 7, none⟩ = some (.int .i64 k.dp) := fun x => (kk x).key.2.2.2.2.2.2.2
    clear kk
    refine wp_region_cls (wd := w2) (by kernel_rfl) (by kernel_rfl) ((Touch.refl _ _).drew) ?_
    repeat (first | go_big_quiet_step ((first | (go_at_call 21; with_reducible exact Calls.cls_at (LE.out _ (HK2.out.carry (Cls.property _) (by simp)))) | (go_at_call 48; with_reducible exact Calls.cls_at (RP.out _)) | (go_at_call 47; with_reducible exact Calls.cls_at (PM.out _)))) | quiet_step ((first | (go_at_call 21; with_reducible exact Calls.cls_at (LE.out _ (HK2.out.carry (Cls.property _) (by simp)))) | (go_at_call 48; with_reducible exact Calls.cls_at (RP.out _)) | (go_at_call 47; with_reducible exact Calls.cls_at (PM.out _)))))
    refine wpQuiet_nil ?_
    rintro _ ⟨y, rfl⟩
    have g0 := k0 y
    have g1 := k1 y
    have g2 := k2 y
    have g3 := k3 y
    have g4 := k4 y
    have g5 := k5 y
    have HY := Lib.hid (H2.out.carry y.property (by simp))
    have TY := Lib.hid (T2.out.trans y.property (by simp))
    have HKY := Lib.hid (HK2.out.carry y.property (by simp))
    have ly := HY.out.lt
    clear k0 k1 k2 k3 k4 k5 k6 k7
    go_wp2_with fail
    refine (M4.out _).mono ?_
    rintro e w9 ⟨rfl, t9⟩
    have T9 := Lib.hid (TY.out.trans t9 (by simp))
    clear t9
    go_wp2_with fail
    go_ret
    exact ⟨rfl, T9.out⟩

set_option maxRecDepth 100000 in
set_option maxHeartbeats 8000000 in
theorem refMake14 (k : Ky) (ok : k.Ok) (sz : Int) (hsz : -9223372036854775808 ≤ sz ∧ sz ≤ 9223372036854775807) (w : World) : Calls Tryd.prog 24 #[.agg k.cells, .int .i64 sz] w fun e w' => e = .returned (.string (S (makeK k sz))) ∧ Touch [] w w' := by
  have B0 := Lib.hid (BoxV.new w 41 k.cells)
  have T0 := Lib.hid ((Touch.refl [] w).alloc (.cells k.cells 41))
  have RI := Lib.hid (fun w => refRight14 k w)
  have LE := Lib.hid (fun w => refLeast14 k w)
  have RP := Lib.hid (fun (n : Nat) (hn : n ≤ 100000) w => noughts14 n hn w)
  have PM := Lib.hid (fun (l : List UInt8) (hl : l.length ≤ 1000000000) w => refMake13 k.proto k.sp k.dp l hl w)
  have M4 := Lib.hid (fun (l : List UInt8) (hl : l.length ≤ 1000000000) w => refMake11 (hdK k) ok.four l hl w)
  have M6 := Lib.hid (fun (l : List UInt8) (hl : l.length ≤ 9223372036854775807) w => refMake12 (A := none) (n := 0) (cap := 0) (X := fun _ => 0) (hdK k) ok.six l (w := w) (fun i hi => absurd hi (Nat.not_lt_zero _)) (by omega) hl)
  have hle : 0 ≤ leastK k ∧ leastK k ≤ 60 := by
    unfold leastK
    have := leastV_in k.proto
    have := headL_in k.ver
    split <;> omega
  have hup : upto (fun _ : Nat => (0 : Int)) 0 = [] := rfl
  rw [hup] at M6
  unfold makeK segK
  unfold hdK Hd.cells at M4 M6
  unfold Ky.cells at *
  have hv := @rightK_ver k
  generalize rightK k = r at *
  generalize leastK k = le at *
  clear hup
  cases r
  · rw [if_neg (by simp)]
    rw [show S [] = ⟨#[]⟩ from rfl]
    clear hv PM M4 M6 RP
    go_enter Tryd.func24, Tryd.ntmps24
    go_wp2_with fail
    refine (RI.out _).mono ?_
    rintro e w1 ⟨rfl, t1⟩
    have H1 := Lib.hid (B0.out.carry t1 (by simp))
    have T1 := Lib.hid (T0.out.trans t1 (by simp))
    clear t1
    go_wp2_with fail
    go_ret
    exact ⟨rfl, T1.out⟩
  by_cases h1 : sz < le
  · rw [if_neg (by simp; omega)]
    rw [show S [] = ⟨#[]⟩ from rfl]
    have d1 : decide (sz < le) = true := by simpa using h1
    clear hv PM M4 M6 RP h1
    go_enter Tryd.func24, Tryd.ntmps24
    go_wp2_with fail
    refine (RI.out _).mono ?_
    rintro e w1 ⟨rfl, t1⟩
    have H1 := Lib.hid (B0.out.carry t1 (by simp))
    have T1 := Lib.hid (T0.out.trans t1 (by simp))
    clear t1
    obtain ⟨c0, c1, c2, c3, c4, c5, c6, c7⟩ := H1.out.key
    have l1 := H1.out.lt
    go_wp2_with fail
    refine (LE.out _).mono ?_
    rintro e w2 ⟨rfl, t2⟩
    have H2 := Lib.hid (H1.out.carry t2 (by simp))
    have T2 := Lib.hid (T1.out.trans t2 (by simp))
    clear t2 c0 c1 c2 c3 c4 c5 c6 c7 l1
    go_wp2_with fail
    go_ret
    exact ⟨rfl, T2.out⟩
  have d1 : decide (sz < le) = false := by simpa using h1
  by_cases h2 : 2048 < sz
  · rw [if_neg (by simp; omega)]
    rw [show S [] = ⟨#[]⟩ from rfl]
    have d2 : decide (2048 < sz) = true := by simpa using h2
    clear hv PM M4 M6 RP h1 h2
    go_enter Tryd.func24, Tryd.ntmps24
    go_wp2_with fail
    refine (RI.out _).mono ?_
    rintro e w1 ⟨rfl, t1⟩
    have H1 := Lib.hid (B0.out.carry t1 (by simp))
    have T1 := Lib.hid (T0.out.trans t1 (by simp))
    clear t1
    obtain ⟨c0, c1, c2, c3, c4, c5, c6, c7⟩ := H1.out.key
    have l1 := H1.out.lt
    go_wp2_with fail
    refine (LE.out _).mono ?_
    rintro e w2 ⟨rfl, t2⟩
    have H2 := Lib.hid (H1.out.carry t2 (by simp))
    have T2 := Lib.hid (T1.out.trans t2 (by simp))
    clear t2 c0 c1 c2 c3 c4 c5 c6 c7 l1
    go_wp2_with fail
    go_ret
    exact ⟨rfl, T2.out⟩
  have d2 : decide (2048 < sz) = false := by simpa using h2
  rw [if_pos ⟨rfl, by omega, by omega⟩]
  obtain ⟨N, hN⟩ : ∃ N : Nat, sz.toNat - le.toNat = N := ⟨_, rfl⟩
  have fw : IntKind.i64.wrap (sz - le) = (N : Int) := by rw [IntKind.wrap_i64]; omega
  have hNl : N ≤ 2048 := by omega
  have RP := Lib.hid (RP.out N (by omega))
  have PM := Lib.hid (PM.out (List.replicate N 0) (by simp; omega))
  have hml : (makeB k.proto k.sp k.dp (List.replicate N 0)).length ≤ 2068 := by
    unfold makeB
    have := headB_length k.proto k.sp k.dp ((List.replicate N (0 : UInt8)).length)
    split <;> simp at * <;> omega
  have M4 := Lib.hid (M4.out _ (Nat.le_trans hml (by omega)))
  have M6 := Lib.hid (M6.out _ (Nat.le_trans hml (by omega)))
  rw [hN]
  generalize makeB k.proto k.sp k.dp (List.replicate N 0) = seg at *
  generalize List.replicate N (0 : UInt8) = zs at *
  clear h1 h2 hN hml hle hsz
  rcases hv rfl with h6 | h4
  · have d4 : (k.ver == 4) = false := by rw [h6]; rfl
    have d6 : (k.ver == 6) = true := by rw [h6]; rfl
    rw [if_neg (by omega)]
    clear hv h6 M4
    go_enter Tryd.func24, Tryd.ntmps24
    go_wp2_with fail
    refine (RI.out _).mono ?_
    rintro e w1 ⟨rfl, t1⟩
    have H1 := Lib.hid (B0.out.carry t1 (by simp))
    have T1 := Lib.hid (T0.out.trans t1 (by simp))
    clear t1
    obtain ⟨c0, c1, c2, c3, c4, c5, c6, c7⟩ := H1.out.key
    have l1 := H1.out.lt
    go_wp2_with fail
    refine (LE.out _).mono ?_
    rintro e w2 ⟨rfl, t2⟩
    have H2 := Lib.hid (H1.out.carry t2 (by simp))
    have T2 := Lib.hid (T1.out.trans t2 (by simp))
    clear t2 c0 c1 c2 c3 c4 c5 c6 c7 l1
    go_upto_region 3 with fail
    have kk := fun x : Cls w2 => H2.out.carry x.property (by simp)
    have k0 : ∀ x : Cls w2, x.val.cell? ⟨w.heap.size, 0, none⟩ = some (.int .i64 k.ver) := fun x => (kk x).key.1
    have k1 : ∀ x : Cls w2, x.val.cell? ⟨w.heap.size, 1, none⟩ = some (.int .u64 (k.sh : Int)) := fun x => (kk x).key.2.1
    have k2 : ∀ x : Cls w2, x.val.cell? ⟨w.heap.size, 2, none⟩ = some (.int .u64 (k.sl : Int)) := fun x => (kk x).key.2.2.1
    have k3 : ∀ x : Cls w2, x.val.cell? ⟨w.heap.size, 3, none⟩ = some (.int .u64 (k.dh : Int)) := fun x => (kk x).key.2.2.2.1
    have k4 : ∀ x : Cls w2, x.val.cell? ⟨w.heap.size, 4, none⟩ = some (.int .u64 (k.dl : Int)) := fun x => (kk x).key.2.2.2.2.1
    have k5 : ∀ x : Cls w2, x.val.cell? ⟨w.heap.size, 5, none⟩ = some (.int .i64 k.proto) := fun x => (kk x).key.2.2.2.2.2.1
    have k6 : ∀ x : Cls w2, x.val.cell? ⟨w.heap.size, 6, none⟩ = some (.int .i64 k.sp) := fun x => (kk x).key.2.2.2.2.2.2.1
    have k7 : ∀ x : Cls w2, x.val.cell? ⟨w.heap.size, 7, none⟩ = some (.int .i64 k.dp) := fun x => (kk x).key.2.2.2.2.2.2.2
    clear kk
    refine wp_region_cls (wd := w2) (by kernel_rfl) (by kernel_rfl) ((Touch.refl _ _).drew) ?_
    repeat (first | go_big_quiet_step ((first | (go_at_call 22; with_reducible exact Calls.cls_at (LE.out _)) | (go_at_call 51; with_reducible exact Calls.cls_at (RP.out _)) | (go_at_call 50; with_reducible exact Calls.cls_at (PM.out _)))) | quiet_step ((first | (go_at_call 22; with_reducible exact Calls.cls_at (LE.out _)) | (go_at_call 51; with_reducible exact Calls.cls_at (RP.out _)) | (go_at_call 50; with_reducible exact Calls.cls_at (PM.out _)))))
    refine wpQuiet_nil ?_
    rintro _ ⟨y, rfl⟩
    have g0 := k0 y
    have g1 := k1 y
    have g2 := k2 y
    have g3 := k3 y
    have g4 := k4 y
    have g5 := k5 y
    have HY := Lib.hid (H2.out.carry y.property (by simp))
    have TY := Lib.hid (T2.out.trans y.property (by simp))
    have ly := HY.out.lt
    clear k0 k1 k2 k3 k4 k5 k6 k7
    obtain ⟨wy, hwy⟩ : ∃ wy, y.val = wy := ⟨_, rfl⟩
    rw [hwy] at g0 g1 g2 g3 g4 g5 HY TY ly ⊢
    clear hwy
    go_upto_region 5 with fail
    have X0 := BoxV.new wy 31 #[.int .u64 (k.sh : Int), .int .u64 (k.sl : Int), .int .u64 (k.dh : Int), .int .u64 (k.dl : Int), .int .i64 k.proto, .int .i64 0, .int .i64 0, .int .i64 0, .bool false]
    have TA := (Touch.refl [] wy).alloc (.cells #[.int .u64 (k.sh : Int), .int .u64 (k.sl : Int), .int .u64 (k.dh : Int), .int .u64 (k.dl : Int), .int .i64 k.proto, .int .i64 0, .int .i64 0, .int .i64 0, .bool false] 31)
    have Y0 := HY.out.carry TA (by simp)
    have TZ := Lib.hid (TY.out.trans TA (by simp))
    generalize wy.alloc (.cells #[.int .u64 (k.sh : Int), .int .u64 (k.sl : Int), .int .u64 (k.dh : Int), .int .u64 (k.dl : Int), .int .i64 k.proto, .int .i64 0, .int .i64 0, .int .i64 0, .bool false] 31) = wz at *
    have x0 := X0.cell 0
    have x1 := X0.cell 1
    have x2 := X0.cell 2
    have x3 := X0.cell 3
    have x4 := X0.cell 4
    have x5 := X0.cell 5
    have x6 := X0.cell 6
    have x7 := X0.cell 7
    have x8 := X0.cell 8
    have z0 := Y0.cell 0
    have lz := Y0.lt
    have lx := X0.lt
    clear X0 Y0 TA
    go_wp2_with fail
    refine (M6.out _).mono ?_
    rintro e w9 ⟨rfl, t9⟩
    have T9 := Lib.hid (TZ.out.trans t9 (by simp))
    clear t9
    go_wp2_with fail
    go_ret
    exact ⟨rfl, T9.out⟩
  · have d4 : (k.ver == 4) = true := by rw [h4]; rfl
    have d6 : (k.ver == 6) = false := by rw [h4]; rfl
    rw [if_pos h4]
    clear hv h4 M6
    go_enter Tryd.func24, Tryd.ntmps24
    go_wp2_with fail
    refine (RI.out _).mono ?_
    rintro e w1 ⟨rfl, t1⟩
    have H1 := Lib.hid (B0.out.carry t1 (by simp))
    have T1 := Lib.hid (T0.out.trans t1 (by simp))
    clear t1
    obtain ⟨c0, c1, c2, c3, c4, c5, c6, c7⟩ := H1.out.key
    have l1 := H1.out.lt
    go_wp2_with fail
    refine (LE.out _).mono ?_
    rintro e w2 ⟨rfl, t2⟩
    have H2 := Lib.hid (H1.out.carry t2 (by simp))
    have T2 := Lib.hid (T1.out.trans t2 (by simp))
    clear t2 c0 c1 c2 c3 c4 c5 c6 c7 l1
    go_upto_region 3 with fail
    have kk := fun x : Cls w2 => H2.out.carry x.property (by simp)
    have k0 : ∀ x : Cls w2, x.val.cell? ⟨w.heap.size, 0, none⟩ = some (.int .i64 k.ver) := fun x => (kk x).key.1
    have k1 : ∀ x : Cls w2, x.val.cell? ⟨w.heap.size, 1, none⟩ = some (.int .u64 (k.sh : Int)) := fun x => (kk x).key.2.1
    have k2 : ∀ x : Cls w2, x.val.cell? ⟨w.heap.size, 2, none⟩ = some (.int .u64 (k.sl : Int)) := fun x => (kk x).key.2.2.1
    have k3 : ∀ x : Cls w2, x.val.cell? ⟨w.heap.size, 3, none⟩ = some (.int .u64 (k.dh : Int)) := fun x => (kk x).key.2.2.2.1
    have k4 : ∀ x : Cls w2, x.val.cell? ⟨w.heap.size, 4, none⟩ = some (.int .u64 (k.dl : Int)) := fun x => (kk x).key.2.2.2.2.1
    have k5 : ∀ x : Cls w2, x.val.cell? ⟨w.heap.size, 5, none⟩ = some (.int .i64 k.proto) := fun x => (kk x).key.2.2.2.2.2.1
    have k6 : ∀ x : Cls w2, x.val.cell? ⟨w.heap.size, 6, none⟩ = some (.int .i64 k.sp) := fun x => (kk x).key.2.2.2.2.2.2.1
    have k7 : ∀ x : Cls w2, x.val.cell? ⟨w.heap.size, 7, none⟩ = some (.int .i64 k.dp) := fun x => (kk x).key.2.2.2.2.2.2.2
    clear kk
    refine wp_region_cls (wd := w2) (by kernel_rfl) (by kernel_rfl) ((Touch.refl _ _).drew) ?_
    repeat (first | go_big_quiet_step ((first | (go_at_call 22; with_reducible exact Calls.cls_at (LE.out _)) | (go_at_call 51; with_reducible exact Calls.cls_at (RP.out _)) | (go_at_call 50; with_reducible exact Calls.cls_at (PM.out _)))) | quiet_step ((first | (go_at_call 22; with_reducible exact Calls.cls_at (LE.out _)) | (go_at_call 51; with_reducible exact Calls.cls_at (RP.out _)) | (go_at_call 50; with_reducible exact Calls.cls_at (PM.out _)))))
    refine wpQuiet_nil ?_
    rintro _ ⟨y, rfl⟩
    have g0 := k0 y
    have g1 := k1 y
    have g2 := k2 y
    have g3 := k3 y
    have g4 := k4 y
    have g5 := k5 y
    have HY := Lib.hid (H2.out.carry y.property (by simp))
    have TY := Lib.hid (T2.out.trans y.property (by simp))
    have ly := HY.out.lt
    clear k0 k1 k2 k3 k4 k5 k6 k7
    obtain ⟨wy, hwy⟩ : ∃ wy, y.val = wy := ⟨_, rfl⟩
    rw [hwy] at g0 g1 g2 g3 g4 g5 HY TY ly ⊢
    clear hwy
    go_upto_region 5 with fail
    have X0 := BoxV.new wy 31 #[.int .u64 (k.sh : Int), .int .u64 (k.sl : Int), .int .u64 (k.dh : Int), .int .u64 (k.dl : Int), .int .i64 k.proto, .int .i64 0, .int .i64 0, .int .i64 0, .bool false]
    have TA := (Touch.refl [] wy).alloc (.cells #[.int .u64 (k.sh : Int), .int .u64 (k.sl : Int), .int .u64 (k.dh : Int), .int .u64 (k.dl : Int), .int .i64 k.proto, .int .i64 0, .int .i64 0, .int .i64 0, .bool false] 31)
    have Y0 := HY.out.carry TA (by simp)
    have TZ := Lib.hid (TY.out.trans TA (by simp))
    generalize wy.alloc (.cells #[.int .u64 (k.sh : Int), .int .u64 (k.sl : Int), .int .u64 (k.dh : Int), .int .u64 (k.dl : Int), .int .i64 k.proto, .int .i64 0, .int .i64 0, .int .i64 0, .bool false] 31) = wz at *
    have x0 := X0.cell 0
    have x1 := X0.cell 1
    have x2 := X0.cell 2
    have x3 := X0.cell 3
    have x4 := X0.cell 4
    have x5 := X0.cell 5
    have x6 := X0.cell 6
    have x7 := X0.cell 7
    have x8 := X0.cell 8
    have z0 := Y0.cell 0
    have lz := Y0.lt
    have lx := X0.lt
    clear X0 Y0 TA
    go_wp2_with fail
    refine (M4.out _).mono ?_
    rintro e w9 ⟨rfl, t9⟩
    have T9 := Lib.hid (TZ.out.trans t9 (by simp))
    clear t9
    go_wp2_with fail
    go_ret
    exact ⟨rfl, T9.out⟩
end Go.Proofs.YtdpaiegojioimaaDoor

/-
  Layer 14 (flow): Less, and the reference's.
-/
namespace Go.Proofs.YtdpaiegojioimaaDoor
open Go.ChangeShapes Go.WideShapes Go.ChangeAt Go.RowKit Go.Deep
set_option linter.unusedVariables false
set_option linter.unusedSimpArgs false

def neA (ah al bh bl : Nat) : Bool := !(ah == bh && al == bl)
def lessA (ah al bh bl : Nat) : Bool := bif ah != bh then decide (ah < bh) else decide (al < bl)
def lessW (nv lv ns ls nd ld np lp nsp lsp ldp : Bool) : Bool := bif nv then lv else bif ns then ls else bif nd then ld else bif np then lp else bif nsp then lsp else ldp
def lessK (a b : Ky) : Bool :=
  lessW (a.ver != b.ver) (decide (a.ver < b.ver)) (neA a.sh a.sl b.sh b.sl) (lessA a.sh a.sl b.sh b.sl) (neA a.dh a.dl b.dh b.dl) (lessA a.dh a.dl b.dh b.dl) (a.proto != b.proto) (decide (a.proto < b.proto)) (a.sp != b.sp) (decide (a.sp < b.sp)) (decide (a.dp < b.dp))
theorem neA_ways (ah al bh bl : Nat) : (ah = bh ∧ al = bl ∧ neA ah al bh bl = false) ∨ ((ah == bh) = false ∧ ((ah : Int) == (bh : Int)) = false ∧ neA ah al bh bl = true) ∨ (ah = bh ∧ (al == bl) = false ∧ ((al : Int) == (bl : Int)) = false ∧ neA ah al bh bl = true) := by
  unfold neA
  by_cases h1 : ah = bh
  · by_cases h2 : al = bl
    · left; simp [h1, h2]
    · right; right
      refine ⟨h1, by simpa using h2, by simp; omega, by simp [h1, h2]⟩
  · right; left
    refine ⟨by simpa using h1, by simp; omega, by simp [h1]⟩
set_option maxRecDepth 100000 in
theorem inetLess10 (ah al bh bl : Nat) (w : World) : Calls Tryd.prog 53 #[av ah al, av bh bl] w fun e w' => e = .returned (.bool (lessA ah al bh bl)) ∧ Touch [] w w' := by
  have T := Lib.hid (((Touch.refl [] w).alloc (.cells #[.int .u64 (ah : Int), .int .u64 (al : Int)] 25)).alloc (.cells #[.int .u64 (bh : Int), .int .u64 (bl : Int)] 25))
  have B0 : BoxV ((w.alloc (.cells #[.int .u64 (ah : Int), .int .u64 (al : Int)] 25)).alloc (.cells #[.int .u64 (bh : Int), .int .u64 (bl : Int)] 25)) w.heap.size 25 #[.int .u64 (ah : Int), .int .u64 (al : Int)] := BoxV.of2
  have B1 : BoxV ((w.alloc (.cells #[.int .u64 (ah : Int), .int .u64 (al : Int)] 25)).alloc (.cells #[.int .u64 (bh : Int), .int .u64 (bl : Int)] 25)) (w.heap.size + 1) 25 #[.int .u64 (bh : Int), .int .u64 (bl : Int)] := BoxV.at1
  unfold lessA av
  by_cases h : ah = bh
  · subst h
    rw [show (ah != ah) = false by simp]
    go_enter Tryd.func53, Tryd.ntmps53
    go_upto_region 1 with fail
    generalize (w.alloc (.cells #[.int .u64 (ah : Int), .int .u64 (al : Int)] 25)).alloc (.cells #[.int .u64 (ah : Int), .int .u64 (bl : Int)] 25) = w2 at *
    have c0 := B0.cell 0
    have c1 := B0.cell 1
    have e0 := B1.cell 0
    have e1 := B1.cell 1
    have l0 := B0.lt
    have l1 := B1.lt
    clear B0 B1
    go_wp2_with fail
    go_ret
    exact ⟨by simp, T.out⟩
  · have d1 : (ah == bh) = false := by simpa using h
    have d2 : ((ah : Int) == (bh : Int)) = false := by simp; omega
    rw [show (ah != bh) = true by simpa using h]
    go_enter Tryd.func53, Tryd.ntmps53
    go_upto_region 1 with fail
    generalize (w.alloc (.cells #[.int .u64 (ah : Int), .int .u64 (al : Int)] 25)).alloc (.cells #[.int .u64 (bh : Int), .int .u64 (bl : Int)] 25) = w2 at *
    have c0 := B0.cell 0
    have c1 := B0.cell 1
    have e0 := B1.cell 0
    have e1 := B1.cell 1
    have l0 := B0.lt
    have l1 := B1.lt
    clear B0 B1
    go_wp2_with fail
    go_ret
    exact ⟨by simp, T.out⟩
set_option maxRecDepth 100000 in
theorem refLess10 (ah al bh bl : Nat) (w : World) : Calls Tryd.prog 54 #[av ah al, av bh bl] w fun e w' => e = .returned (.bool (lessA ah al bh bl)) ∧ Touch [] w w' := by
  have T := Lib.hid (((Touch.refl [] w).alloc (.cells #[.int .u64 (ah : Int), .int .u64 (al : Int)] 25)).alloc (.cells #[.int .u64 (bh : Int), .int .u64 (bl : Int)] 25))
  have B0 : BoxV ((w.alloc (.cells #[.int .u64 (ah : Int), .int .u64 (al : Int)] 25)).alloc (.cells #[.int .u64 (bh : Int), .int .u64 (bl : Int)] 25)) w.heap.size 25 #[.int .u64 (ah : Int), .int .u64 (al : Int)] := BoxV.of2
  have B1 : BoxV ((w.alloc (.cells #[.int .u64 (ah : Int), .int .u64 (al : Int)] 25)).alloc (.cells #[.int .u64 (bh : Int), .int .u64 (bl : Int)] 25)) (w.heap.size + 1) 25 #[.int .u64 (bh : Int), .int .u64 (bl : Int)] := BoxV.at1
  obtain ⟨r, hr⟩ : ∃ r, lessA ah al bh bl = r := ⟨_, rfl⟩
  have ways : (decide (ah < bh) = true ∧ decide ((ah : Int) < (bh : Int)) = true ∧ r = true) ∨ (decide (ah < bh) = false ∧ decide ((ah : Int) < (bh : Int)) = false ∧ (ah == bh) = false ∧ ((ah : Int) == (bh : Int)) = false ∧ r = false) ∨
      (decide (ah < bh) = false ∧ decide ((ah : Int) < (bh : Int)) = false ∧ (ah == bh) = true ∧ ((ah : Int) == (bh : Int)) = true ∧ decide (al < bl) = r ∧ decide ((al : Int) < (bl : Int)) = r) := by
    unfold lessA at hr
    by_cases h1 : ah < bh
    · left
      refine ⟨by simpa using h1, by simp; omega, ?_⟩
      rw [← hr, show (ah != bh) = true by simp; omega]
      simpa using h1
    · by_cases h2 : ah = bh
      · right; right
        refine ⟨by simp; omega, by simp; omega, by simpa using h2, by simp; omega, ?_, ?_⟩
        · rw [← hr, show (ah != bh) = false by simpa using h2]; rfl
        · rw [← hr, show (ah != bh) = false by simpa using h2]
          simp
      · right; left
        refine ⟨by simp; omega, by simp; omega, by simpa using h2, by simp; omega, ?_⟩
        rw [← hr, show (ah != bh) = true by simpa using h2]
        simp
        omega
  rw [hr]
  clear hr
  unfold av
  rcases ways with ⟨d1, d2, rfl⟩ | ⟨d1, d2, d3, d4, rfl⟩ | ⟨d1, d2, d3, d4, d5, d6⟩
  all_goals
    go_enter Tryd.func54, Tryd.ntmps54
    go_upto_region 1 with fail
    generalize (w.alloc (.cells #[.int .u64 (ah : Int), .int .u64 (al : Int)] 25)).alloc (.cells #[.int .u64 (bh : Int), .int .u64 (bl : Int)] 25) = w2 at *
    have c0 := B0.cell 0
    have c1 := B0.cell 1
    have e0 := B1.cell 0
    have e1 := B1.cell 1
    have l0 := B0.lt
    have l1 := B1.lt
    clear B0 B1
    go_wp2_with fail
    go_ret
    exact ⟨rfl, T.out⟩

set_option maxRecDepth 100000 in
set_option maxHeartbeats 8000000 in
theorem less14 (a b : Ky) (w : World) : Calls Tryd.prog 25 #[.agg a.cells, .agg b.cells] w fun e w' => e = .returned (.bool (lessK a b)) ∧ Touch [] w w' := by
  have T0 := Lib.hid (((Touch.refl [] w).alloc (.cells a.cells 41)).alloc (.cells b.cells 41))
  have B0 : BoxV ((w.alloc (.cells a.cells 41)).alloc (.cells b.cells 41)) w.heap.size 41 a.cells := BoxV.of2
  have B1 : BoxV ((w.alloc (.cells a.cells 41)).alloc (.cells b.cells 41)) (w.heap.size + 1) 41 b.cells := BoxV.at1
  have LS := Lib.hid (fun w => inetLess10 a.sh a.sl b.sh b.sl w)
  have LD := Lib.hid (fun w => inetLess10 a.dh a.dl b.dh b.dl w)
  have hs := neA_ways a.sh a.sl b.sh b.sl
  have hd := neA_ways a.dh a.dl b.dh b.dl
  unfold lessK
  unfold av at LS LD
  unfold Ky.cells at *
  obtain ⟨av, ash, asl, adh, adl, ap, asp, adp⟩ := a
  obtain ⟨bv, bsh, bsl, bdh, bdl, bp, bsp, bdp⟩ := b
  simp only at *
  generalize neA ash asl bsh bsl = ns at *
  generalize neA adh adl bdh bdl = nd at *
  generalize lessA ash asl bsh bsl = ls at *
  generalize lessA adh adl bdh bdl = ld at *
  have hv : (av != bv) = true ∨ av = bv := by by_cases h : av = bv <;> simp [h]
  have hp : (ap != bp) = true ∨ ap = bp := by by_cases h : ap = bp <;> simp [h]
  have hq : (asp != bsp) = true ∨ asp = bsp := by by_cases h : asp = bsp <;> simp [h]
  rcases hv with dv | rfl
  · clear hs hd hp hq LS LD
    go_enter Tryd.func25, Tryd.ntmps25
    go_upto_region 1 with fail
    generalize hw2 : (w.alloc _).alloc _ = w2 at *
    clear hw2
    have c0 := B0.cell 0
    have c1 := B0.cell 1
    have c2 := B0.cell 2
    have c3 := B0.cell 3
    have c4 := B0.cell 4
    have c5 := B0.cell 5
    have c6 := B0.cell 6
    have c7 := B0.cell 7
    have e0 := B1.cell 0
    have e1 := B1.cell 1
    have e2 := B1.cell 2
    have e3 := B1.cell 3
    have e4 := B1.cell 4
    have e5 := B1.cell 5
    have e6 := B1.cell 6
    have e7 := B1.cell 7
    have l0 := B0.lt
    have l1 := B1.lt
    clear B0 B1
    go_wp2_with fail
    go_ret
    exact ⟨by simp [lessW, *], T0.out⟩
  rcases hs with ⟨rfl, rfl, rfl⟩ | ⟨d1, d2, rfl⟩ | ⟨rfl, d1, d2, rfl⟩
  rotate_left
  · clear hd hp hq LD
    go_enter Tryd.func25, Tryd.ntmps25
    go_upto_region 1 with fail
    generalize hw2 : (w.alloc _).alloc _ = w2 at *
    clear hw2
    have c0 := B0.cell 0
    have c1 := B0.cell 1
    have c2 := B0.cell 2
    have c3 := B0.cell 3
    have c4 := B0.cell 4
    have c5 := B0.cell 5
    have c6 := B0.cell 6
    have c7 := B0.cell 7
    have e0 := B1.cell 0
    have e1 := B1.cell 1
    have e2 := B1.cell 2
    have e3 := B1.cell 3
    have e4 := B1.cell 4
    have e5 := B1.cell 5
    have e6 := B1.cell 6
    have e7 := B1.cell 7
    have l0 := B0.lt
    have l1 := B1.lt
    clear B0 B1
    go_wp2_with fail
    refine (LS.out _).mono ?_
    rintro e w3 ⟨rfl, t3⟩
    have T3 := Lib.hid (T0.out.trans t3 (by simp))
    clear t3 c0 c1 c2 c3 c4 c5 c6 c7 e0 e1 e2 e3 e4 e5 e6 e7 l0 l1
    go_wp2_with fail
    go_ret
    exact ⟨by simp [lessW, *], T3.out⟩
  · clear hd hp hq LD
    go_enter Tryd.func25, Tryd.ntmps25
    go_upto_region 1 with fail
    generalize hw2 : (w.alloc _).alloc _ = w2 at *
    clear hw2
    have c0 := B0.cell 0
    have c1 := B0.cell 1
    have c2 := B0.cell 2
    have c3 := B0.cell 3
    have c4 := B0.cell 4
    have c5 := B0.cell 5
    have c6 := B0.cell 6
    have c7 := B0.cell 7
    have e0 := B1.cell 0
    have e1 := B1.cell 1
    have e2 := B1.cell 2
    have e3 := B1.cell 3
    have e4 := B1.cell 4
    have e5 := B1.cell 5
    have e6 := B1.cell 6
    have e7 := B1.cell 7
    have l0 := B0.lt
    have l1 := B1.lt
    clear B0 B1
    go_wp2_with fail
    refine (LS.out _).mono ?_
    rintro e w3 ⟨rfl, t3⟩
    have T3 := Lib.hid (T0.out.trans t3 (by simp))
    clear t3 c0 c1 c2 c3 c4 c5 c6 c7 e0 e1 e2 e3 e4 e5 e6 e7 l0 l1
    go_wp2_with fail
    go_ret
    exact ⟨by simp [lessW, *], T3.out⟩
  rcases hd with ⟨rfl, rfl, rfl⟩ | ⟨d1, d2, rfl⟩ | ⟨rfl, d1, d2, rfl⟩
  rotate_left
  · clear hp hq LS
    go_enter Tryd.func25, Tryd.ntmps25
    go_upto_region 1 with fail
    generalize hw2 : (w.alloc _).alloc _ = w2 at *
    clear hw2
    have c0 := B0.cell 0
    have c1 := B0.cell 1
    have c2 := B0.cell 2
    have c3 := B0.cell 3
    have c4 := B0.cell 4
    have c5 := B0.cell 5
    have c6 := B0.cell 6
    have c7 := B0.cell 7
    have e0 := B1.cell 0
    have e1 := B1.cell 1
    have e2 := B1.cell 2
    have e3 := B1.cell 3
    have e4 := B1.cell 4
    have e5 := B1.cell 5
    have e6 := B1.cell 6
    have e7 := B1.cell 7
    have l0 := B0.lt
    have l1 := B1.lt
    clear B0 B1
    go_wp2_with fail
    refine (LD.out _).mono ?_
    rintro e w3 ⟨rfl, t3⟩
    have T3 := Lib.hid (T0.out.trans t3 (by simp))
    clear t3 c0 c1 c2 c3 c4 c5 c6 c7 e0 e1 e2 e3 e4 e5 e6 e7 l0 l1
    go_wp2_with fail
    go_ret
    exact ⟨by simp [lessW, *], T3.out⟩
  · clear hp hq LS
    go_enter Tryd.func25, Tryd.ntmps25
    go_upto_region 1 with fail
    generalize hw2 : (w.alloc _).alloc _ = w2 at *
    clear hw2
    have c0 := B0.cell 0
    have c1 := B0.cell 1
    have c2 := B0.cell 2
    have c3 := B0.cell 3
    have c4 := B0.cell 4
    have c5 := B0.cell 5
    have c6 := B0.cell 6
    have c7 := B0.cell 7
    have e0 := B1.cell 0
    have e1 := B1.cell 1
    have e2 := B1.cell 2
    have e3 := B1.cell 3
    have e4 := B1.cell 4
    have e5 := B1.cell 5
    have e6 := B1.cell 6
    have e7 := B1.cell 7
    have l0 := B0.lt
    have l1 := B1.lt
    clear B0 B1
    go_wp2_with fail
    refine (LD.out _).mono ?_
    rintro e w3 ⟨rfl, t3⟩
    have T3 := Lib.hid (T0.out.trans t3 (by simp))
    clear t3 c0 c1 c2 c3 c4 c5 c6 c7 e0 e1 e2 e3 e4 e5 e6 e7 l0 l1
    go_wp2_with fail
    go_ret
    exact ⟨by simp [lessW, *], T3.out⟩
  clear LS LD
  rcases hp with dp | rfl
  · clear hq
    go_enter Tryd.func25, Tryd.ntmps25
    go_upto_region 1 with fail
    generalize hw2 : (w.alloc _).alloc _ = w2 at *
    clear hw2
    have c0 := B0.cell 0
    have c1 := B0.cell 1
    have c2 := B0.cell 2
    have c3 := B0.cell 3
    have c4 := B0.cell 4
    have c5 := B0.cell 5
    have c6 := B0.cell 6
    have c7 := B0.cell 7
    have e0 := B1.cell 0
    have e1 := B1.cell 1
    have e2 := B1.cell 2
    have e3 := B1.cell 3
    have e4 := B1.cell 4
    have e5 := B1.cell 5
    have e6 := B1.cell 6
    have e7 := B1.cell 7
    have l0 := B0.lt
    have l1 := B1.lt
    clear B0 B1
    go_wp2_with fail
    go_ret
    exact ⟨by simp [lessW, *], T0.out⟩
  rcases hq with dq | rfl
  · skip
    go_enter Tryd.func25, Tryd.ntmps25
    go_upto_region 1 with fail
    generalize hw2 : (w.alloc _).alloc _ = w2 at *
    clear hw2
    have c0 := B0.cell 0
    have c1 := B0.cell 1
    have c2 := B0.cell 2
    have c3 := B0.cell 3
    have c4 := B0.cell 4
    have c5 := B0.cell 5
    have c6 := B0.cell 6
    have c7 := B0.cell 7
    have e0 := B1.cell 0
    have e1 := B1.cell 1
    have e2 := B1.cell 2
    have e3 := B1.cell 3
    have e4 := B1.cell 4
    have e5 := B1.cell 5
    have e6 := B1.cell 6
    have e7 := B1.cell 7
    have l0 := B0.lt
    have l1 := B1.lt
    clear B0 B1
    go_wp2_with fail
    go_ret
    exact ⟨by simp [lessW, *], T0.out⟩
  · skip
    go_enter Tryd.func25, Tryd.ntmps25
    go_upto_region 1 with fail
    generalize hw2 : (w.alloc _).alloc _ = w2 at *
    clear hw2
    have c0 := B0.cell 0
    have c1 := B0.cell 1
    have c2 := B0.cell 2
    have c3 := B0.cell 3
    have c4 := B0.cell 4
    have c5 := B0.cell 5
    have c6 := B0.cell 6
    have c7 := B0.cell 7
    have e0 := B1.cell 0
    have e1 := B1.cell 1
    have e2 := B1.cell 2
    have e3 := B1.cell 3
    have e4 := B1.cell 4
    have e5 := B1.cell 5
    have e6 := B1.cell 6
    have e7 := B1.cell 7
    have l0 := B0.lt
    have l1 := B1.lt
    clear B0 B1
    go_wp2_with fail
    go_ret
    exact ⟨by simp [lessW, *], T0.out⟩
end Go.Proofs.YtdpaiegojioimaaDoor

/-
  Layer 14 (flow): the reference's Less.
-/
namespace Go.Proofs.YtdpaiegojioimaaDoor
open Go.ChangeShapes Go.WideShapes Go.ChangeAt Go.RowKit Go.Deep
set_option linter.unusedVariables false
set_option linter.unusedSimpArgs false

set_option maxRecDepth 100000 in
set_option maxHeartbeats 16000000 in
theorem refLess14 (a b : Ky) (w : World) : Calls Tryd.prog 26 #[.agg a.cells, .agg b.cells] w fun e w' => e = .returned (.bool (lessK a b)) ∧ Touch [] w w' := by
  have T0 := Lib.hid (((Touch.refl [] w).alloc (.cells a.cells 41)).alloc (.cells b.cells 41))
  have B0 : BoxV ((w.alloc (.cells a.cells 41)).alloc (.cells b.cells 41)) w.heap.size 41 a.cells := BoxV.of2
  have B1 : BoxV ((w.alloc (.cells a.cells 41)).alloc (.cells b.cells 41)) (w.heap.size + 1) 41 b.cells := BoxV.at1
  have LS := Lib.hid (fun w => refLess10 a.sh a.sl b.sh b.sl w)
  have LD := Lib.hid (fun w => refLess10 a.dh a.dl b.dh b.dl w)
  have hs := neA_ways a.sh a.sl b.sh b.sl
  have hd := neA_ways a.dh a.dl b.dh b.dl
  unfold lessK
  unfold av at LS LD
  unfold Ky.cells at *
  obtain ⟨av, ash, asl, adh, adl, ap, asp, adp⟩ := a
  obtain ⟨bv, bsh, bsl, bdh, bdl, bp, bsp, bdp⟩ := b
  simp only at *
  generalize neA ash asl bsh bsl = ns at *
  generalize neA adh adl bdh bdl = nd at *
  generalize lessA ash asl bsh bsl = ls at *
  generalize lessA adh adl bdh bdl = ld at *
  have hv : (av != bv) = true ∨ av = bv := by by_cases h : av = bv <;> simp [h]
  have hp : (ap != bp) = true ∨ ap = bp := by by_cases h : ap = bp <;> simp [h]
  have hq : (asp != bsp) = true ∨ asp = bsp := by by_cases h : asp = bsp <;> simp [h]
  rcases hs with ⟨rfl, rfl, rfl⟩ | ⟨f1, f2, rfl⟩ | ⟨rfl, f1, f2, rfl⟩
  · skip
    rcases hd with ⟨rfl, rfl, rfl⟩ | ⟨d1, d2, rfl⟩ | ⟨rfl, d1, d2, rfl⟩
    · skip
      rcases hv with dv | rfl <;> rcases hp with dp | rfl <;> rcases hq with dq | rfl
      all_goals
        go_enter Tryd.func26, Tryd.ntmps26
        go_upto_region 1 with fail
        generalize hw2 : (w.alloc _).alloc _ = w2 at *
        clear hw2
        have c0 := B0.cell 0
        have c1 := B0.cell 1
        have c2 := B0.cell 2
        have c3 := B0.cell 3
        have c4 := B0.cell 4
        have c5 := B0.cell 5
        have c6 := B0.cell 6
        have c7 := B0.cell 7
        have e0 := B1.cell 0
        have e1 := B1.cell 1
        have e2 := B1.cell 2
        have e3 := B1.cell 3
        have e4 := B1.cell 4
        have e5 := B1.cell 5
        have e6 := B1.cell 6
        have e7 := B1.cell 7
        have l0 := B0.lt
        have l1 := B1.lt
        have HB0 := Lib.hid B0
        have HB1 := Lib.hid B1
        clear B0 B1
        go_wp2_with fail
        go_ret
        exact ⟨by simp [lessW, *], T0.out⟩
    · skip
      rcases hv with dv | rfl <;> rcases hp with dp | rfl <;> rcases hq with dq | rfl
      all_goals
        go_enter Tryd.func26, Tryd.ntmps26
        go_upto_region 1 with fail
        generalize hw2 : (w.alloc _).alloc _ = w2 at *
        clear hw2
        have c0 := B0.cell 0
        have c1 := B0.cell 1
        have c2 := B0.cell 2
        have c3 := B0.cell 3
        have c4 := B0.cell 4
        have c5 := B0.cell 5
        have c6 := B0.cell 6
        have c7 := B0.cell 7
        have e0 := B1.cell 0
        have e1 := B1.cell 1
        have e2 := B1.cell 2
        have e3 := B1.cell 3
        have e4 := B1.cell 4
        have e5 := B1.cell 5
        have e6 := B1.cell 6
        have e7 := B1.cell 7
        have l0 := B0.lt
        have l1 := B1.lt
        have HB0 := Lib.hid B0
        have HB1 := Lib.hid B1
        clear B0 B1
        go_wp2_with fail
        refine (LD.out _).mono ?_
        rintro e w3 ⟨rfl, t3⟩
        have T3 := Lib.hid (T0.out.trans t3 (by simp))
        have X3 := HB0.out.carry t3 (by simp)
        have Y3 := HB1.out.carry t3 (by simp)
        clear c0 c1 c2 c3 c4 c5 c6 c7 e0 e1 e2 e3 e4 e5 e6 e7 l0 l1
        have c0 := X3.cell 0
        have c1 := X3.cell 1
        have c2 := X3.cell 2
        have c3 := X3.cell 3
        have c4 := X3.cell 4
        have c5 := X3.cell 5
        have c6 := X3.cell 6
        have c7 := X3.cell 7
        have e0 := Y3.cell 0
        have e1 := Y3.cell 1
        have e2 := Y3.cell 2
        have e3 := Y3.cell 3
        have e4 := Y3.cell 4
        have e5 := Y3.cell 5
        have e6 := Y3.cell 6
        have e7 := Y3.cell 7
        have l0 := X3.lt
        have l1 := Y3.lt
        clear HB0 HB1 t3
        have HB0 := Lib.hid X3
        have HB1 := Lib.hid Y3
        clear X3 Y3
        go_wp2_with fail
        go_ret
        exact ⟨by simp [lessW, *], T3.out⟩
    · skip
      rcases hv with dv | rfl <;> rcases hp with dp | rfl <;> rcases hq with dq | rfl
      all_goals
        go_enter Tryd.func26, Tryd.ntmps26
        go_upto_region 1 with fail
        generalize hw2 : (w.alloc _).alloc _ = w2 at *
        clear hw2
        have c0 := B0.cell 0
        have c1 := B0.cell 1
        have c2 := B0.cell 2
        have c3 := B0.cell 3
        have c4 := B0.cell 4
        have c5 := B0.cell 5
        have c6 := B0.cell 6
        have c7 := B0.cell 7
        have e0 := B1.cell 0
        have e1 := B1.cell 1
        have e2 := B1.cell 2
        have e3 := B1.cell 3
        have e4 := B1.cell 4
        have e5 := B1.cell 5
        have e6 := B1.cell 6
        have e7 := B1.cell 7
        have l0 := B0.lt
        have l1 := B1.lt
        have HB0 := Lib.hid B0
        have HB1 := Lib.hid B1
        clear B0 B1
        go_wp2_with fail
        refine (LD.out _).mono ?_
        rintro e w3 ⟨rfl, t3⟩
        have T3 := Lib.hid (T0.out.trans t3 (by simp))
        have X3 := HB0.out.carry t3 (by simp)
        have Y3 := HB1.out.carry t3 (by simp)
        clear c0 c1 c2 c3 c4 c5 c6 c7 e0 e1 e2 e3 e4 e5 e6 e7 l0 l1
        have c0 := X3.cell 0
        have c1 := X3.cell 1
        have c2 := X3.cell 2
        have c3 := X3.cell 3
        have c4 := X3.cell 4
        have c5 := X3.cell 5
        have c6 := X3.cell 6
        have c7 := X3.cell 7
        have e0 := Y3.cell 0
        have e1 := Y3.cell 1
        have e2 := Y3.cell 2
        have e3 := Y3.cell 3
        have e4 := Y3.cell 4
        have e5 := Y3.cell 5
        have e6 := Y3.cell 6
        have e7 := Y3.cell 7
        have l0 := X3.lt
        have l1 := Y3.lt
        clear HB0 HB1 t3
        have HB0 := Lib.hid X3
        have HB1 := Lib.hid Y3
        clear X3 Y3
        go_wp2_with fail
        go_ret
        exact ⟨by simp [lessW, *], T3.out⟩
  · skip
    rcases hd with ⟨rfl, rfl, rfl⟩ | ⟨d1, d2, rfl⟩ | ⟨rfl, d1, d2, rfl⟩
    · skip
      rcases hv with dv | rfl <;> rcases hp with dp | rfl <;> rcases hq with dq | rfl
      all_goals
        go_enter Tryd.func26, Tryd.ntmps26
        go_upto_region 1 with fail
        generalize hw2 : (w.alloc _).alloc _ = w2 at *
        clear hw2
        have c0 := B0.cell 0
        have c1 := B0.cell 1
        have c2 := B0.cell 2
        have c3 := B0.cell 3
        have c4 := B0.cell 4
        have c5 := B0.cell 5
        have c6 := B0.cell 6
        have c7 := B0.cell 7
        have e0 := B1.cell 0
        have e1 := B1.cell 1
        have e2 := B1.cell 2
        have e3 := B1.cell 3
        have e4 := B1.cell 4
        have e5 := B1.cell 5
        have e6 := B1.cell 6
        have e7 := B1.cell 7
        have l0 := B0.lt
        have l1 := B1.lt
        have HB0 := Lib.hid B0
        have HB1 := Lib.hid B1
        clear B0 B1
        go_wp2_with fail
        refine (LS.out _).mono ?_
        rintro e w4 ⟨rfl, t4⟩
        have T4 := Lib.hid (T0.out.trans t4 (by simp))
        have X4 := HB0.out.carry t4 (by simp)
        have Y4 := HB1.out.carry t4 (by simp)
        clear c0 c1 c2 c3 c4 c5 c6 c7 e0 e1 e2 e3 e4 e5 e6 e7 l0 l1
        have c0 := X4.cell 0
        have c1 := X4.cell 1
        have c2 := X4.cell 2
        have c3 := X4.cell 3
        have c4 := X4.cell 4
        have c5 := X4.cell 5
        have c6 := X4.cell 6
        have c7 := X4.cell 7
        have e0 := Y4.cell 0
        have e1 := Y4.cell 1
        have e2 := Y4.cell 2
        have e3 := Y4.cell 3
        have e4 := Y4.cell 4
        have e5 := Y4.cell 5
        have e6 := Y4.cell 6
        have e7 := Y4.cell 7
        have l0 := X4.lt
        have l1 := Y4.lt
        clear HB0 HB1 t4
        have HB0 := Lib.hid X4
        have HB1 := Lib.hid Y4
        clear X4 Y4
        go_wp2_with fail
        go_ret
        exact ⟨by simp [lessW, *], T4.out⟩
    · skip
      rcases hv with dv | rfl <;> rcases hp with dp | rfl <;> rcases hq with dq | rfl
      all_goals
        go_enter Tryd.func26, Tryd.ntmps26
        go_upto_region 1 with fail
        generalize hw2 : (w.alloc _).alloc _ = w2 at *
        clear hw2
        have c0 := B0.cell 0
        have c1 := B0.cell 1
        have c2 := B0.cell 2
        have c3 := B0.cell 3
        have c4 := B0.cell 4
        have c5 := B0.cell 5
        have c6 := B0.cell 6
        have c7 := B0.cell 7
        have e0 := B1.cell 0
        have e1 := B1.cell 1
        have e2 := B1.cell 2
        have e3 := B1.cell 3
        have e4 := B1.cell 4
        have e5 := B1.cell 5
        have e6 := B1.cell 6
        have e7 := B1.cell 7
        have l0 := B0.lt
        have l1 := B1.lt
        have HB0 := Lib.hid B0
        have HB1 := Lib.hid B1
        clear B0 B1
        go_wp2_with fail
        refine (LD.out _).mono ?_
        rintro e w3 ⟨rfl, t3⟩
        have T3 := Lib.hid (T0.out.trans t3 (by simp))
        have X3 := HB0.out.carry t3 (by simp)
        have Y3 := HB1.out.carry t3 (by simp)
        clear c0 c1 c2 c3 c4 c5 c6 c7 e0 e1 e2 e3 e4 e5 e6 e7 l0 l1
        have c0 := X3.cell 0
        have c1 := X3.cell 1
        have c2 := X3.cell 2
        have c3 := X3.cell 3
        have c4 := X3.cell 4
        have c5 := X3.cell 5
        have c6 := X3.cell 6
        have c7 := X3.cell 7
        have e0 := Y3.cell 0
        have e1 := Y3.cell 1
        have e2 := Y3.cell 2
        have e3 := Y3.cell 3
        have e4 := Y3.cell 4
        have e5 := Y3.cell 5
        have e6 := Y3.cell 6
        have e7 := Y3.cell 7
        have l0 := X3.lt
        have l1 := Y3.lt
        clear HB0 HB1 t3
        have HB0 := Lib.hid X3
        have HB1 := Lib.hid Y3
        clear X3 Y3
        go_wp2_with fail
        refine (LS.out _).mono ?_
        rintro e w4 ⟨rfl, t4⟩
        have T4 := Lib.hid (T3.out.trans t4 (by simp))
        have X4 := HB0.out.carry t4 (by simp)
        have Y4 := HB1.out.carry t4 (by simp)
        clear c0 c1 c2 c3 c4 c5 c6 c7 e0 e1 e2 e3 e4 e5 e6 e7 l0 l1
        have c0 := X4.cell 0
        have c1 := X4.cell 1
        have c2 := X4.cell 2
        have c3 := X4.cell 3
        have c4 := X4.cell 4
        have c5 := X4.cell 5
        have c6 := X4.cell 6
        have c7 := X4.cell 7
        have e0 := Y4.cell 0
        have e1 := Y4.cell 1
        have e2 := Y4.cell 2
        have e3 := Y4.cell 3
        have e4 := Y4.cell 4
        have e5 := Y4.cell 5
        have e6 := Y4.cell 6
        have e7 := Y4.cell 7
        have l0 := X4.lt
        have l1 := Y4.lt
        clear HB0 HB1 t4
        have HB0 := Lib.hid X4
        have HB1 := Lib.hid Y4
        clear X4 Y4
        go_wp2_with fail
        go_ret
        exact ⟨by simp [lessW, *], T4.out⟩
    · skip
      rcases hv with dv | rfl <;> rcases hp with dp | rfl <;> rcases hq with dq | rfl
      all_goals
        go_enter Tryd.func26, Tryd.ntmps26
        go_upto_region 1 with fail
        generalize hw2 : (w.alloc _).alloc _ = w2 at *
        clear hw2
        have c0 := B0.cell 0
        have c1 := B0.cell 1
        have c2 := B0.cell 2
        have c3 := B0.cell 3
        have c4 := B0.cell 4
        have c5 := B0.cell 5
        have c6 := B0.cell 6
        have c7 := B0.cell 7
        have e0 := B1.cell 0
        have e1 := B1.cell 1
        have e2 := B1.cell 2
        have e3 := B1.cell 3
        have e4 := B1.cell 4
        have e5 := B1.cell 5
        have e6 := B1.cell 6
        have e7 := B1.cell 7
        have l0 := B0.lt
        have l1 := B1.lt
        have HB0 := Lib.hid B0
        have HB1 := Lib.hid B1
        clear B0 B1
        go_wp2_with fail
        refine (LD.out _).mono ?_
        rintro e w3 ⟨rfl, t3⟩
        have T3 := Lib.hid (T0.out.trans t3 (by simp))
        have X3 := HB0.out.carry t3 (by simp)
        have Y3 := HB1.out.carry t3 (by simp)
        clear c0 c1 c2 c3 c4 c5 c6 c7 e0 e1 e2 e3 e4 e5 e6 e7 l0 l1
        have c0 := X3.cell 0
        have c1 := X3.cell 1
        have c2 := X3.cell 2
        have c3 := X3.cell 3
        have c4 := X3.cell 4
        have c5 := X3.cell 5
        have c6 := X3.cell 6
        have c7 := X3.cell 7
        have e0 := Y3.cell 0
        have e1 := Y3.cell 1
        have e2 := Y3.cell 2
        have e3 := Y3.cell 3
        have e4 := Y3.cell 4
        have e5 := Y3.cell 5
        have e6 := Y3.cell 6
        have e7 := Y3.cell 7
        have l0 := X3.lt
        have l1 := Y3.lt
        clear HB0 HB1 t3
        have HB0 := Lib.hid X3
        have HB1 := Lib.hid Y3
        clear X3 Y3
        go_wp2_with fail
        refine (LS.out _).mono ?_
        rintro e w4 ⟨rfl, t4⟩
        have T4 := Lib.hid (T3.out.trans t4 (by simp))
        have X4 := HB0.out.carry t4 (by simp)
        have Y4 := HB1.out.carry t4 (by simp)
        clear c0 c1 c2 c3 c4 c5 c6 c7 e0 e1 e2 e3 e4 e5 e6 e7 l0 l1
        have c0 := X4.cell 0
        have c1 := X4.cell 1
        have c2 := X4.cell 2
        have c3 := X4.cell 3
        have c4 := X4.cell 4
        have c5 := X4.cell 5
        have c6 := X4.cell 6
        have c7 := X4.cell 7
        have e0 := Y4.cell 0
        have e1 := Y4.cell 1
        have e2 := Y4.cell 2
        have e3 := Y4.cell 3
        have e4 := Y4.cell 4
        have e5 := Y4.cell 5
        have e6 := Y4.cell 6
        have e7 := Y4.cell 7
        have l0 := X4.lt
        have l1 := Y4.lt
        clear HB0 HB1 t4
        have HB0 := Lib.hid X4
        have HB1 := Lib.hid Y4
        clear X4 Y4
        go_wp2_with fail
        go_ret
        exact ⟨by simp [lessW, *], T4.out⟩
  · skip
    rcases hd with ⟨rfl, rfl, rfl⟩ | ⟨d1, d2, rfl⟩ | ⟨rfl, d1, d2, rfl⟩
    · skip
      rcases hv with dv | rfl <;> rcases hp with dp | rfl <;> rcases hq with dq | rfl
      all_goals
        go_enter Tryd.func26, Tryd.ntmps26
        go_upto_region 1 with fail
        generalize hw2 : (w.alloc _).alloc _ = w2 at *
        clear hw2
        have c0 := B0.cell 0
        have c1 := B0.cell 1
        have c2 := B0.cell 2
        have c3 := B0.cell 3
        have c4 := B0.cell 4
        have c5 := B0.cell 5
        have c6 := B0.cell 6
        have c7 := B0.cell 7
        have e0 := B1.cell 0
        have e1 := B1.cell 1
        have e2 := B1.cell 2
        have e3 := B1.cell 3
        have e4 := B1.cell 4
        have e5 := B1.cell 5
        have e6 := B1.cell 6
        have e7 := B1.cell 7
        have l0 := B0.lt
        have l1 := B1.lt
        have HB0 := Lib.hid B0
        have HB1 := Lib.hid B1
        clear B0 B1
        go_wp2_with fail
        refine (LS.out _).mono ?_
        rintro e w4 ⟨rfl, t4⟩
        have T4 := Lib.hid (T0.out.trans t4 (by simp))
        have X4 := HB0.out.carry t4 (by simp)
        have Y4 := HB1.out.carry t4 (by simp)
        clear c0 c1 c2 c3 c4 c5 c6 c7 e0 e1 e2 e3 e4 e5 e6 e7 l0 l1
        have c0 := X4.cell 0
        have c1 := X4.cell 1
        have c2 := X4.cell 2
        have c3 := X4.cell 3
        have c4 := X4.cell 4
        have c5 := X4.cell 5
        have c6 := X4.cell 6
        have c7 := X4.cell 7
        have e0 := Y4.cell 0
        have e1 := Y4.cell 1
        have e2 := Y4.cell 2
        have e3 := Y4.cell 3
        have e4 := Y4.cell 4
        have e5 := Y4.cell 5
        have e6 := Y4.cell 6
        have e7 := Y4.cell 7
        have l0 := X4.lt
        have l1 := Y4.lt
        clear HB0 HB1 t4
        have HB0 := Lib.hid X4
        have HB1 := Lib.hid Y4
        clear X4 Y4
        go_wp2_with fail
        go_ret
        exact ⟨by simp [lessW, *], T4.out⟩
    · skip
      rcases hv with dv | rfl <;> rcases hp with dp | rfl <;> rcases hq with dq | rfl
      all_goals
        go_enter Tryd.func26, Tryd.ntmps26
        go_upto_region 1 with fail
        generalize hw2 : (w.alloc _).alloc _ = w2 at *
        clear hw2
        have c0 := B0.cell 0
        have c1 := B0.cell 1
        have c2 := B0.cell 2
        have c3 := B0.cell 3
        have c4 := B0.cell 4
        have c5 := B0.cell 5
        have c6 := B0.cell 6
        have c7 := B0.cell 7
        have e0 := B1.cell 0
        have e1 := B1.cell 1
        have e2 := B1.cell 2
        have e3 := B1.cell 3
        have e4 := B1.cell 4
        have e5 := B1.cell 5
        have e6 := B1.cell 6
        have e7 := B1.cell 7
        have l0 := B0.lt
        have l1 := B1.lt
        have HB0 := Lib.hid B0
        have HB1 := Lib.hid B1
        clear B0 B1
        go_wp2_with fail
        refine (LD.out _).mono ?_
        rintro e w3 ⟨rfl, t3⟩
        have T3 := Lib.hid (T0.out.trans t3 (by simp))
        have X3 := HB0.out.carry t3 (by simp)
        have Y3 := HB1.out.carry t3 (by simp)
        clear c0 c1 c2 c3 c4 c5 c6 c7 e0 e1 e2 e3 e4 e5 e6 e7 l0 l1
        have c0 := X3.cell 0
        have c1 := X3.cell 1
        have c2 := X3.cell 2
        have c3 := X3.cell 3
        have c4 := X3.cell 4
        have c5 := X3.cell 5
        have c6 := X3.cell 6
        have c7 := X3.cell 7
        have e0 := Y3.cell 0
        have e1 := Y3.cell 1
        have e2 := Y3.cell 2
        have e3 := Y3.cell 3
        have e4 := Y3.cell 4
        have e5 := Y3.cell 5
        have e6 := Y3.cell 6
        have e7 := Y3.cell 7
        have l0 := X3.lt
        have l1 := Y3.lt
        clear HB0 HB1 t3
        have HB0 := Lib.hid X3
        have HB1 := Lib.hid Y3
        clear X3 Y3
        go_wp2_with fail
        refine (LS.out _).mono ?_
        rintro e w4 ⟨rfl, t4⟩
        have T4 := Lib.hid (T3.out.trans t4 (by simp))
        have X4 := HB0.out.carry t4 (by simp)
        have Y4 := HB1.out.carry t4 (by simp)
        clear c0 c1 c2 c3 c4 c5 c6 c7 e0 e1 e2 e3 e4 e5 e6 e7 l0 l1
        have c0 := X4.cell 0
        have c1 := X4.cell 1
        have c2 := X4.cell 2
        have c3 := X4.cell 3
        have c4 := X4.cell 4
        have c5 := X4.cell 5
        have c6 := X4.cell 6
        have c7 := X4.cell 7
        have e0 := Y4.cell 0
        have e1 := Y4.cell 1
        have e2 := Y4.cell 2
        have e3 := Y4.cell 3
        have e4 := Y4.cell 4
        have e5 := Y4.cell 5
        have e6 := Y4.cell 6
        have e7 := Y4.cell 7
        have l0 := X4.lt
        have l1 := Y4.lt
        clear HB0 HB1 t4
        have HB0 := Lib.hid X4
        have HB1 := Lib.hid Y4
        clear X4 Y4
        go_wp2_with fail
        go_ret
        exact ⟨by simp [lessW, *], T4.out⟩
    · skip
      rcases hv with dv | rfl <;> rcases hp with dp | rfl <;> rcases hq with dq | rfl
      all_goals
        go_enter Tryd.func26, Tryd.ntmps26
        go_upto_region 1 with fail
        generalize hw2 : (w.alloc _).alloc _ = w2 at *
        clear hw2
        have c0 := B0.cell 0
        have c1 := B0.cell 1
        have c2 := B0.cell 2
        have c3 := B0.cell 3
        have c4 := B0.cell 4
        have c5 := B0.cell 5
        have c6 := B0.cell 6
        have c7 := B0.cell 7
        have e0 := B1.cell 0
        have e1 := B1.cell 1
        have e2 := B1.cell 2
        have e3 := B1.cell 3
        have e4 := B1.cell 4
        have e5 := B1.cell 5
        have e6 := B1.cell 6
        have e7 := B1.cell 7
        have l0 := B0.lt
        have l1 := B1.lt
        have HB0 := Lib.hid B0
        have HB1 := Lib.hid B1
        clear B0 B1
        go_wp2_with fail
        refine (LD.out _).mono ?_
        rintro e w3 ⟨rfl, t3⟩
        have T3 := Lib.hid (T0.out.trans t3 (by simp))
        have X3 := HB0.out.carry t3 (by simp)
        have Y3 := HB1.out.carry t3 (by simp)
        clear c0 c1 c2 c3 c4 c5 c6 c7 e0 e1 e2 e3 e4 e5 e6 e7 l0 l1
        have c0 := X3.cell 0
        have c1 := X3.cell 1
        have c2 := X3.cell 2
        have c3 := X3.cell 3
        have c4 := X3.cell 4
        have c5 := X3.cell 5
        have c6 := X3.cell 6
        have c7 := X3.cell 7
        have e0 := Y3.cell 0
        have e1 := Y3.cell 1
        have e2 := Y3.cell 2
        have e3 := Y3.cell 3
        have e4 := Y3.cell 4
        have e5 := Y3.cell 5
        have e6 := Y3.cell 6
        have e7 := Y3.cell 7
        have l0 := X3.lt
        have l1 := Y3.lt
        clear HB0 HB1 t3
        have HB0 := Lib.hid X3
        have HB1 := Lib.hid Y3
        clear X3 Y3
        go_wp2_with fail
        refine (LS.out _).mono ?_
        rintro e w4 ⟨rfl, t4⟩
        have T4 := Lib.hid (T3.out.trans t4 (by simp))
        have X4 := HB0.out.carry t4 (by simp)
        have Y4 := HB1.out.carry t4 (by simp)
        clear c0 c1 c2 c3 c4 c5 c6 c7 e0 e1 e2 e3 e4 e5 e6 e7 l0 l1
        have c0 := X4.cell 0
        have c1 := X4.cell 1
        have c2 := X4.cell 2
        have c3 := X4.cell 3
        have c4 := X4.cell 4
        have c5 := X4.cell 5
        have c6 := X4.cell 6
        have c7 := X4.cell 7
        have e0 := Y4.cell 0
        have e1 := Y4.cell 1
        have e2 := Y4.cell 2
        have e3 := Y4.cell 3
        have e4 := Y4.cell 4
        have e5 := Y4.cell 5
        have e6 := Y4.cell 6
        have e7 := Y4.cell 7
        have l0 := X4.lt
        have l1 := Y4.lt
        clear HB0 HB1 t4
        have HB0 := Lib.hid X4
        have HB1 := Lib.hid Y4
        clear X4 Y4
        go_wp2_with fail
        go_ret
        exact ⟨by simp [lessW, *], T4.out⟩
end Go.Proofs.YtdpaiegojioimaaDoor

/-
  FlowKeys: for all keys and every size the law on flow's Right, Least, Make and Less returns true, where ipv6.known holds what its initialiser lays. No other conditions.
-/
namespace Go.Proofs.YtdpaiegojioimaaDoor
open Go.ChangeShapes Go.WideShapes Go.ChangeAt Go.RowKit Go.Deep Go.Joins
set_option linter.unusedVariables false
set_option linter.unusedSimpArgs false

section
variable {H : Type} {enc : TypeId × Value → H} {w : World} {base : Nat} {sp : Nat → Bool}
theorem list8 {cs : List Value} (h : cs.length = 8) : ∃ a0 a1 a2 a3 a4 a5 a6 a7, cs = [a0, a1, a2, a3, a4, a5, a6, a7] := by
  match cs, h with
  | [a0, a1, a2, a3, a4, a5, a6, a7], _ => exact ⟨a0, a1, a2, a3, a4, a5, a6, a7, rfl⟩
set_option maxRecDepth 100000 in
/-- The cells of a key that came in by value. -/
theorem key_cells {n : Nat} {cs : List Value} {x : DataW H × List MemPlace} (hl : cs.length = 8) (hf : DataW.trod enc Tryd.prog w base sp true n 41 cs = some x) : ∃ q : Ky, cs = q.cells.toList ∧ q.Ok := by
  have c3 : Tryd.prog.cellsOf 3 = 1 := by kernel_rfl
  have c30 : Tryd.prog.cellsOf 23 = 1 := by kernel_rfl
  have c44 : Tryd.prog.cellsOf 25 = 2 := by kernel_rfl
  obtain ⟨a0, a1, a2, a3, a4, a5, a6, a7, rfl⟩ := list8 hl
  obtain ⟨m0, y0, h0⟩ := field6 Tryd.underlying41 hf 0 _ rfl
  obtain ⟨m1, y1, h1⟩ := field6 Tryd.underlying41 hf 1 _ rfl
  obtain ⟨m2, y2, h2⟩ := field6 Tryd.underlying41 hf 2 _ rfl
  obtain ⟨m3, y3, h3⟩ := field6 Tryd.underlying41 hf 3 _ rfl
  obtain ⟨m4, y4, h4⟩ := field6 Tryd.underlying41 hf 4 _ rfl
  obtain ⟨m5, y5, h5⟩ := field6 Tryd.underlying41 hf 5 _ rfl
  simp [c3, c44] at h0 h1 h2 h3 h4 h5
  obtain ⟨n0, z0, k0⟩ := field6 Tryd.underlying25 h1 0 _ rfl
  obtain ⟨n1, z1, k1⟩ := field6 Tryd.underlying25 h1 1 _ rfl
  obtain ⟨n2, z2, k2⟩ := field6 Tryd.underlying25 h2 0 _ rfl
  obtain ⟨n3, z3, k3⟩ := field6 Tryd.underlying25 h2 1 _ rfl
  simp [c30] at k0 k1 k2 k3
  obtain ⟨b0, rfl, w0⟩ := cell_int Tryd.underlying23 k0
  obtain ⟨b1, rfl, w1⟩ := cell_int Tryd.underlying23 k1
  obtain ⟨b2, rfl, w2⟩ := cell_int Tryd.underlying23 k2
  obtain ⟨b3, rfl, w3⟩ := cell_int Tryd.underlying23 k3
  obtain ⟨b4, rfl, w4⟩ := cell_int Tryd.underlying3 h0
  obtain ⟨b5, rfl, w5⟩ := cell_int Tryd.underlying3 h3
  obtain ⟨b6, rfl, w6⟩ := cell_int Tryd.underlying3 h4
  obtain ⟨b7, rfl, w7⟩ := cell_int Tryd.underlying3 h5
  have u0 := u64_in w0
  have u1 := u64_in w1
  have u2 := u64_in w2
  have u3 := u64_in w3
  obtain ⟨x0, rfl⟩ := Int.eq_ofNat_of_zero_le u0.1
  obtain ⟨x1, rfl⟩ := Int.eq_ofNat_of_zero_le u1.1
  obtain ⟨x2, rfl⟩ := Int.eq_ofNat_of_zero_le u2.1
  obtain ⟨x3, rfl⟩ := Int.eq_ofNat_of_zero_le u3.1
  exact ⟨⟨b4, x0, x1, x2, x3, b5, b6, b7⟩, rfl, ⟨by simp only; omega, by simp only; omega, by simp only; omega, by simp only; omega, i64_in w5, i64_in w6, i64_in w7⟩⟩
set_option maxRecDepth 100000 in
theorem open_key {v : Value} {d : DataW H} {p : List MemPlace} {r : Reach} {b0 : Nat} (hv : Value.okWide Tryd.prog w r b0 41 v) (h : DataW.Trod enc Tryd.prog w base sp true 41 v d p) : ∃ q : Ky, v = .agg q.cells ∧ q.Ok := by
  obtain ⟨cs, rfl, hsz⟩ := okWide_struct Tryd.underlying41 hv
  obtain ⟨fuel, hf⟩ := h
  have hcs : (Value.agg cs).cells.toList = cs.toList := rfl
  rw [hcs] at hf
  obtain ⟨q, hq, ok⟩ := key_cells (by have := hsz.trans (show _ = 8 by kernel_rfl); simpa using this) hf
  exact ⟨q, by rw [Array.toList_inj.1 hq], ok⟩
end

set_option maxRecDepth 100000 in
set_option maxHeartbeats 8000000 in
theorem flowKeys_walk (a b : Ky) (oka : a.Ok) (okb : b.Ok) (sz : Int) (hsz : -9223372036854775808 ≤ sz ∧ sz ≤ 9223372036854775807) {w : World} (K : Tab6 w) :
    Calls Tryd.prog 7 #[.agg a.cells, .agg b.cells, .int .i64 sz] w fun e w' => e = .returned (.bool true) ∧ Below w.heap.size w w' := by
  have T0 := Lib.hid (((Touch.refl [] w).alloc (.cells a.cells 41)).alloc (.cells b.cells 41))
  have B0 : BoxV ((w.alloc (.cells a.cells 41)).alloc (.cells b.cells 41)) w.heap.size 41 a.cells := BoxV.of2
  have B1 : BoxV ((w.alloc (.cells a.cells 41)).alloc (.cells b.cells 41)) (w.heap.size + 1) 41 b.cells := BoxV.at1
  have C1 := Lib.hid (fun w (K : Tab6 w) => right14 a K)
  have C2 := Lib.hid (fun w => refRight14 a w)
  have C3 := Lib.hid (fun w (K : Tab6 w) => leastAny14 a K)
  have C4 := Lib.hid (fun w => refLeast14 a w)
  have C5 := Lib.hid (fun w (K : Tab6 w) => make14 a oka sz hsz K)
  have C6 := Lib.hid (fun w => refMake14 a oka sz hsz w)
  have C7 := Lib.hid (fun w => less14 a b w)
  have C8 := Lib.hid (fun w => refLess14 a b w)
  have C9 := Lib.hid (fun w (K : Tab6 w) => flowLives K)
  have HK := Lib.hid (K.carry T0.out (by simp))
  unfold Ky.cells at *
  generalize rightK a = r at *
  generalize leastK a = le at *
  generalize makeK a sz = mk at *
  generalize lessK a b = ls at *
  clear K hsz oka okb
  have er : (r == r) = true := by cases r <;> rfl
  have el : (ls == ls) = true := by cases ls <;> rfl
  go_enter Tryd.func7, Tryd.ntmps7
  go_upto_region 1 with fail
  generalize hw2 : (w.alloc _).alloc _ = w2 at *
  clear hw2
  have ka := fun x : Cls w2 => B0.carry x.property (by simp)
  have kb := fun x : Cls w2 => B1.carry x.property (by simp)
  have a0 := fun x : Cls w2 => (ka x).key.1
  have a1 := fun x : Cls w2 => (ka x).key.2.1
  have a2 := fun x : Cls w2 => (ka x).key.2.2.1
  have a3 := fun x : Cls w2 => (ka x).key.2.2.2.1
  have a4 := fun x : Cls w2 => (ka x).key.2.2.2.2.1
  have a5 := fun x : Cls w2 => (ka x).key.2.2.2.2.2.1
  have a6 := fun x : Cls w2 => (ka x).key.2.2.2.2.2.2.1
  have a7 := fun x : Cls w2 => (ka x).key.2.2.2.2.2.2.2
  have b0 := fun x : Cls w2 => (kb x).key.1
  have b1 := fun x : Cls w2 => (kb x).key.2.1
  have b2 := fun x : Cls w2 => (kb x).key.2.2.1
  have b3 := fun x : Cls w2 => (kb x).key.2.2.2.1
  have b4 := fun x : Cls w2 => (kb x).key.2.2.2.2.1
  have b5 := fun x : Cls w2 => (kb x).key.2.2.2.2.2.1
  have b6 := fun x : Cls w2 => (kb x).key.2.2.2.2.2.2.1
  have b7 := fun x : Cls w2 => (kb x).key.2.2.2.2.2.2.2
  clear ka kb B0 B1
  refine wp_region_cls (wd := w2) (by kernel_rfl) (by kernel_rfl) ((Touch.refl _ _).drew) ?_
  repeat (first | go_big_quiet_step ((first | (go_at_call 19; with_reducible exact Calls.cls_at (C1.out _ (HK.out.carry (Cls.property _) (by simp)))) | (go_at_call 20; with_reducible exact Calls.cls_at (C2.out _)) | (go_at_call 21; with_reducible exact Calls.cls_at (C3.out _ (HK.out.carry (Cls.property _) (by simp)))) | (go_at_call 22; with_reducible exact Calls.cls_at (C4.out _)) | (go_at_call 23; with_reducible exact Calls.cls_at (C5.out _ (HK.out.carry (Cls.property _) (by simp)))) | (go_at_call 24; with_reducible exact Calls.cls_at (C6.out _)) | (go_at_call 25; with_reducible exact Calls.cls_at (C7.out _)) | (go_at_call 26; with_reducible exact Calls.cls_at (C8.out _)) | (go_at_call 16; with_reducible exact Calls.cls_at (C9.out _ (HK.out.carry (Cls.property _) (by simp)))))) | quiet_step ((first | (go_at_call 19; with_reducible exact Calls.cls_at (C1.out _ (HK.out.carry (Cls.property _) (by simp)))) | (go_at_call 20; with_reducible exact Calls.cls_at (C2.out _)) | (go_at_call 21; with_reducible exact Calls.cls_at (C3.out _ (HK.out.carry (Cls.property _) (by simp)))) | (go_at_call 22; with_reducible exact Calls.cls_at (C4.out _)) | (go_at_call 23; with_reducible exact Calls.cls_at (C5.out _ (HK.out.carry (Cls.property _) (by simp)))) | (go_at_call 24; with_reducible exact Calls.cls_at (C6.out _)) | (go_at_call 25; with_reducible exact Calls.cls_at (C7.out _)) | (go_at_call 26; with_reducible exact Calls.cls_at (C8.out _)) | (go_at_call 16; with_reducible exact Calls.cls_at (C9.out _ (HK.out.carry (Cls.property _) (by simp)))))))
  refine wpQuiet_nil ?_
  rintro _ ⟨y, rfl⟩
  have hb : Below w.heap.size w y.val := (T0.out.trans y.property (by simp)).below (by simp) (Nat.le_refl _)
  have HB := Lib.hid hb
  clear hb a0 a1 a2 a3 a4 a5 a6 a7 b0 b1 b2 b3 b4 b5 b6 b7
  go_wp2_with fail
  go_ret
  exact ⟨rfl, HB.out⟩

set_option maxRecDepth 100000 in
theorem flowKeys_calls : LawCallsK Tryd.prog 7 Tryd.f7 := by
  intro H enc W base args ds p hK hval hA hlt
  rw [Tryd.params7] at hA hval
  obtain ⟨v0, vs0, d0, ds0, p0, q0, hargs, rfl, rfl, h0, r0⟩ := trodAll_cons hA
  obtain ⟨v1, vs1, d1, ds1, p1, q1, rfl, rfl, rfl, h1, r1⟩ := trodAll_cons r0
  obtain ⟨v2, vs2, d2, ds2, p2, q2, rfl, rfl, rfl, h2, r2⟩ := trodAll_cons r1
  obtain ⟨rfl, rfl, rfl⟩ := trodAll_nil r2
  obtain rfl : args = #[v0, v1, v2] := by cases args; simp_all
  obtain ⟨a, rfl, oka⟩ := open_key (hval 0 41 v0 rfl rfl) h0
  obtain ⟨b, rfl, okb⟩ := open_key (hval 1 41 v1 rfl rfl) h1
  obtain ⟨sz, rfl, rfl, rfl, ws⟩ := open_int Tryd.underlying3 (hval 2 3 v2 rfl rfl) h2
  exact flowKeys_walk a b oka okb sz (i64_in ws) hK

set_option maxRecDepth 100000 in
theorem flowKeys_lifted (os : Os) (started : os.Started) (H : Type) (enc : TypeId × Value → H) :
    ReturnsInHanded {} Tryd.checked os 7 .any (fun w args => (Rows.flowKeysSpec.pre enc Tryd.prog Tryd.f7 [] false w args ∧ laidMetH Tryd.prog laid1 w) ∧ sizedMet enc Tryd.prog Tryd.f7 (OpenSpec.ofChange Rows.flowKeysSpec) false w args)
      (Rows.flowKeysSpec.post enc Tryd.prog Tryd.f7 false true false false) := by
  refine returnsInHanded_of_change_and (C := Tryd.checked) (X := fun w _ => laidMetH Tryd.prog laid1 w) (fun _ _ _ hh h => h.of_heap hh) own started (by kernel_rfl) Tryd.func7
    (ChangeSpec.witness_shaped (enc := enc) (C := Tryd.checked) (os := os) (X := fun w _ => laidMetH Tryd.prog laid1 w) false (World.doorLaid Tryd.prog 14 os) #[.agg #[.int .i64 0, .int .u64 0, .int .u64 0, .int .u64 0, .int .u64 0, .int .i64 0, .int .i64 0, .int .i64 0], .agg #[.int .i64 0, .int .u64 0, .int .u64 0, .int .u64 0, .int .u64 0, .int .i64 0, .int .i64 0, .int .i64 0], .int .i64 0] 8 rfl (World.shaped_of_RefB (by kernel_rfl) (by kernel_rfl)) (by kernel_rfl) (by kernel_rfl) (by kernel_rfl) (door_met os _)) ?_
  intro W base args ds gs before hval hW _ _ hL _
  exact law_contractK laidOut (by kernel_rfl) rfl rfl boolType (fun ds h => by match ds, h with | [_, _, _], _ => rfl) flowKeys_calls W (known_of_laid hL) base args ds gs before hval hW

theorem flowKeys_over : Rows.FlowKeysSaid :=
  OpenClaim.holds_of_wide 7 Tryd.f7 rfl rfl rfl rfl rfl rfl rfl ⟨rfl, rfl, rfl, rfl, rfl⟩ rfl rfl rfl rfl rfl (by kernel_rfl) Tryd.func7 (by kernel_rfl)
    (of_decide_eq_true (by kernel_rfl)) (by unfold Func.isWrapper; first | (rw [if_pos (by decide +kernel)]; kernel_rfl) | (rw [if_neg (by decide +kernel)]; exact ⟨rfl, rfl⟩))
    (fun os started H enc _ => flowKeys_lifted os started H enc)

theorem flowKeys_holds : Rows.FlowKeysCardSaid :=
  Claim7.holds_tied_plain_at .later [] [.data] true Rows.flowKeysCard.stood.harness true
    flowKeys_over (fun _ h => by cases h) (by kernel_rfl) (fun _ h => by cases h) flowKeys_row_tie rfl ⟨rfl, rfl⟩ (by kernel_rfl) rfl
    (fun f fn hf hfn => by
      obtain rfl : f = 7 := Option.some.inj ((show Tryd.prog.funcNamed "flashlock/flashlocklaw14.FlowKeys" = some 7 by kernel_rfl).symm.trans hf) |>.symm
      obtain rfl : fn = Tryd.f7 := (Option.some.inj (Tryd.func7.symm.trans hfn)).symm
      exact ⟨by kernel_rfl, fun j t ht => by
        rw [Tryd.params7] at ht
        have hm := Array.mem_of_getElem? ht
        have hall : (Tryd.f7.params.toList.all fun u => !Tryd.prog.wantsStandIn u) = true := by kernel_rfl
        have hm' : t ∈ Tryd.f7.params.toList := by rw [Tryd.params7]; simpa using hm
        exact (show Tryd.prog.wantsStandIn t = false by simpa using List.all_eq_true.1 hall t hm')⟩)
    (by kernel_rfl)
#print axioms flowKeys_holds
end Go.Proofs.YtdpaiegojioimaaDoor

/-
  Layer 12 (ipv6): what is made is read; with a byte less there is no packet.
-/
namespace Go.Proofs.YtdpaiegojioimaaDoor
open Go.ChangeShapes Go.WideShapes Go.ChangeAt Go.RowKit Go.Deep
set_option linter.unusedVariables false
set_option linter.unusedSimpArgs false

theorem byteAt_left (x y : List UInt8) (k : Nat) (h : k < x.length) : byteAt (x ++ y) k = byteAt x k := by unfold byteAt; rw [List.getElem?_append_left h]
theorem twoA_left (x y : List UInt8) (k : Nat) (h : k + 1 < x.length) : twoA (x ++ y) k = twoA x k := by unfold twoA; rw [byteAt_left x y k (by omega), byteAt_left x y (k + 1) h]
theorem mid_of (A B C : List UInt8) (a b : Nat) (hA : A.length = a) (hB : B.length = b) : ((A ++ (B ++ C)).drop a).take b = B := by
  subst hA hB
  simp
theorem u64n_small {p : Int} (h : 0 ≤ p ∧ p ≤ 255) : u64n p = p.toNat := by unfold u64n; omega

theorem ext_byte0 (h : Hd) (p q : Int) (r : List UInt8) : byteAt (extA h p q ++ r) 0 = u64n q % 256 := by
  have : byteAt (extA h p q ++ r) 0 = (UInt8.ofNat (u64n q / 256 ^ 0)).toNat := rfl
  rw [this]
  simp
theorem ext_byte1 (h : Hd) (p q : Int) (r : List UInt8) : byteAt (extA h p q ++ r) 1 = 0 := rfl
theorem ext_two (h : Hd) (q : Int) (r : List UInt8) (ho : 0 ≤ h.off ∧ h.off ≤ 8191) : twoA (extA h 44 q ++ r) 2 = flags6 h := by
  have e : twoA (extA h 44 q ++ r) 2 = (UInt8.ofNat (flags6 h / 256 ^ 1)).toNat * 256 + (UInt8.ofNat (flags6 h / 256 ^ 0)).toNat := rfl
  rw [e]
  have hf : flags6 h < 65536 := by unfold flags6; split <;> omega
  simp
  omega

theorem walk_exts (h : Hd) (pay : List UInt8) (hp : 0 ≤ h.proto ∧ h.proto ≤ 255) (hnf : fol h.proto = false) (ho : 0 ≤ h.off ∧ h.off ≤ 8191) : ∀ (ks : List Int) (fuel : Nat) (g : Hd), (∀ p ∈ ks, fol p = true) → ks.length ≤ fuel → (44 ∈ ks → h.off = 0) → g.proto = nextOf h ks → g.off = 0 →
    walkE fuel g (extsA h ks ++ pay) = 0 ∧ walkH fuel g (extsA h ks ++ pay) = { g with proto := h.proto, start := g.start + 8 * (ks.length : Int), more := if 44 ∈ ks then h.more else g.more }
  | [], fuel, g, _, _, _, hg, ho0 => by
    have hst : stop6 g = true := by
      have : g.proto = h.proto := hg
      simp [stop6, this, hnf]
    obtain ⟨w1, w2⟩ := walk_stop fuel g (extsA h [] ++ pay) hst
    refine ⟨w1, ?_⟩
    rw [w2]
    have : g.proto = h.proto := hg
    obtain ⟨a, b, c, d, e, f, i, j, k⟩ := g
    simp only at this
    subst this
    simp
  | p :: ks, 0, g, _, hl, _, _, _ => by simp at hl
  | p :: ks, fuel + 1, g, hall, hl, h44, hg, ho0 => by
    have hpf : fol p = true := hall p (by simp)
    have hgp : g.proto = p := hg
    have hst : stop6 g = false := by simp [stop6, hgp, hpf, ho0]
    have es : extsA h (p :: ks) ++ pay = extA h p (nextOf h ks) ++ (extsA h ks ++ pay) := by simp [extsA]
    rw [es]
    have hq : 0 ≤ nextOf h ks ∧ nextOf h ks ≤ 255 := by
      cases ks with
      | nil => exact hp
      | cons k' ks' =>
        have := fol_in (hall k' (by simp))
        show 0 ≤ k' ∧ k' ≤ 255
        omega
    have b0 := ext_byte0 h p (nextOf h ks) (extsA h ks ++ pay)
    have b1 := ext_byte1 h p (nextOf h ks) (extsA h ks ++ pay)
    have hln : (extA h p (nextOf h ks) ++ (extsA h ks ++ pay)).length = 8 + (extsA h ks ++ pay).length := by rw [List.length_append, extA_length]
    have hdr : (extA h p (nextOf h ks) ++ (extsA h ks ++ pay)).drop 8 = extsA h ks ++ pay := List.drop_left' (extA_length h p _)
    have hl6 : len6 g.proto (extA h p (nextOf h ks) ++ (extsA h ks ++ pay)) = 8 := by
      unfold len6
      rw [b1]
      split <;> rfl
    have t2 : p = 44 → twoA (extA h p (nextOf h ks) ++ (extsA h ks ++ pay)) 2 = flags6 h := fun e => by subst e; exact ext_two h _ _ ho
    generalize extA h p (nextOf h ks) ++ (extsA h ks ++ pay) = s at *
    obtain ⟨w1, w2⟩ := walk_next fuel g s hst (by omega) (by rw [hl6]; omega)
    rw [hl6, hdr] at w1 w2
    have hb0 : ((byteAt s 0 : Nat) : Int) = nextOf h ks := by
      rw [b0, u64n_small hq]
      omega
    have hgo : (step6 g s).off = 0 := by
      unfold step6 frag
      by_cases e : g.proto = 44
      · rw [if_pos e]
        have h0 : h.off = 0 := h44 (by rw [← e, hgp]; simp)
        rw [t2 (hgp.symm.trans e)]
        show ((flags6 h / 8 : Nat) : Int) = 0
        have hu : u64n h.off = 0 := by rw [h0]; rfl
        unfold flags6
        rw [hu]
        split <;> simp
      · rw [if_neg e]
        exact ho0
    have hgm : (step6 g s).more = if p = 44 then h.more else g.more := by
      unfold step6 frag
      by_cases e : g.proto = 44
      · rw [if_pos e, if_pos (hgp.symm.trans e), t2 (hgp.symm.trans e)]
        show decide (flags6 h % 2 = 1) = h.more
        unfold flags6
        cases h.more
        · rw [if_neg (by decide)]
          exact decide_eq_false (by omega)
        · rw [if_pos rfl]
          exact decide_eq_true (by omega)
      · rw [if_neg e, if_neg (fun e' => e (hgp.trans e'))]
    have hgr : (step6 g s).sh = g.sh ∧ (step6 g s).sl = g.sl ∧ (step6 g s).dh = g.dh ∧ (step6 g s).dl = g.dl ∧ (step6 g s).size = g.size ∧ (step6 g s).start = g.start + 8 := by
      unfold step6 frag
      rw [hl6]
      split <;> exact ⟨rfl, rfl, rfl, rfl, rfl, rfl⟩
    have hgq : (step6 g s).proto = nextOf h ks := hb0
    obtain ⟨i1, i2⟩ := walk_exts h pay hp hnf ho ks fuel (step6 g s) (fun q hq => hall q (by simp [hq])) (by simpa using hl) (fun hm => h44 (by simp [hm])) hgq hgo
    refine ⟨w1.trans i1, (w2.trans i2).trans ?_⟩
    generalize step6 g s = g' at *
    obtain ⟨a', b', c', d', e', f', i', j', k'⟩ := g'
    obtain ⟨a, b, c, d, e, f, i, j, k⟩ := g
    simp only at hgr hgm hgo ho0 hgq
    obtain ⟨rfl, rfl, rfl, rfl, rfl, rfl⟩ := hgr
    subst hgo ho0 hgm
    simp only [List.mem_cons, List.length_cons]
    congr 1
    · push_cast
      omega
    · by_cases m44 : 44 ∈ ks
      · simp [m44]
      · by_cases e : p = 44
        · simp [e]
        · have e' : ¬ 44 = p := fun x => e x.symm
          simp [m44, e, e']

structure Hd.Fit6 (h : Hd) : Prop where
  ok : h.Ok6
  proto : 0 ≤ h.proto ∧ h.proto ≤ 255
  nf : fol h.proto = false
  off : 0 ≤ h.off ∧ h.off ≤ 8191
theorem pack6_eq (h : Hd) (l : List Int) (pay : List UInt8) (hl : l.length ≤ 8) (hp : pay.length ≤ 200) : pack6 h l pay = headA6 h (nextOf h (l.filter fol)) (8 * (l.filter fol).length + pay.length) ++ (extsA h (l.filter fol) ++ pay) := by
  unfold pack6
  rw [if_neg (by omega)]
theorem pack6_length (h : Hd) (l : List Int) (pay : List UInt8) (hl : l.length ≤ 8) (hp : pay.length ≤ 200) : (pack6 h l pay).length = 40 + 8 * (l.filter fol).length + pay.length := by
  rw [pack6_eq h l pay hl hp, List.length_append, List.length_append, headA6_length, extsA_length]
  omega
theorem next_in (h : Hd) (ft : h.Fit6) (l : List Int) : 0 ≤ nextOf h (l.filter fol) ∧ nextOf h (l.filter fol) ≤ 255 := by
  cases hk : l.filter fol with
  | nil => exact ft.proto
  | cons k ks =>
    have : k ∈ l.filter fol := by rw [hk]; simp
    have := fol_in (List.mem_filter.1 this).2
    show 0 ≤ k ∧ k ≤ 255
    omega
/-- The places of a packet that Parse reads. -/
theorem pack6_facts (h : Hd) (ft : h.Fit6) (l : List Int) (pay : List UInt8) (hl : l.length ≤ 8) (hp : pay.length ≤ 200) :
    byteAt (pack6 h l pay) 0 = 96 ∧ twoA (pack6 h l pay) 4 = 8 * (l.filter fol).length + pay.length ∧ ((byteAt (pack6 h l pay) 6 : Nat) : Int) = nextOf h (l.filter fol) ∧
    num (((pack6 h l pay).drop 8).take 8) = h.sh ∧ num (((pack6 h l pay).drop 16).take 8) = h.sl ∧ num (((pack6 h l pay).drop 24).take 8) = h.dh ∧ num (((pack6 h l pay).drop 32).take 8) = h.dl ∧
    body6 (pack6 h l pay) = extsA h (l.filter fol) ++ pay := by
  have hfl : (l.filter fol).length ≤ 8 := Nat.le_trans (List.length_filter_le _ _) hl
  have hnx := next_in h ft l
  have e := pack6_eq h l pay hl hp
  have hel := extsA_length h (l.filter fol)
  rw [e]
  generalize l.filter fol = ks at *
  have h2 : twoA (headA6 h (nextOf h ks) (8 * ks.length + pay.length) ++ (extsA h ks ++ pay)) 4 = 8 * ks.length + pay.length := by
    rw [twoA_left _ _ 4 (by rw [headA6_length]; omega)]
    have e1 : twoA (headA6 h (nextOf h ks) (8 * ks.length + pay.length)) 4 = (UInt8.ofNat (u64n (8 * ks.length + pay.length) / 256 ^ 1)).toNat * 256 + (UInt8.ofNat (u64n (8 * ks.length + pay.length) / 256 ^ 0)).toNat := rfl
    have e2 : u64n (8 * (ks.length : Int) + (pay.length : Int)) = 8 * ks.length + pay.length := by unfold u64n; omega
    rw [e1, e2]
    simp
    omega
  refine ⟨?_, h2, ?_, ?_, ?_, ?_, ?_, ?_⟩
  · rw [byteAt_left _ _ 0 (by rw [headA6_length]; omega)]
    rfl
  · rw [byteAt_left _ _ 6 (by rw [headA6_length]; omega)]
    have e1 : byteAt (headA6 h (nextOf h ks) (8 * ks.length + pay.length)) 6 = (UInt8.ofNat (u64n (nextOf h ks) / 256 ^ 0)).toNat := rfl
    rw [e1, u64n_small hnx]
    simp
    omega
  · rw [show headA6 h (nextOf h ks) (8 * ks.length + pay.length) ++ (extsA h ks ++ pay) = ([96, 0, 0, 0] ++ be (u64n (8 * ks.length + pay.length)) 2 ++ be (u64n (nextOf h ks)) 1 ++ [0]) ++ (be h.sh 8 ++ (be h.sl 8 ++ (be h.dh 8 ++ be h.dl 8) ++ (extsA h ks ++ pay))) by simp only [headA6, List.append_assoc]]
    rw [mid_of _ (be h.sh 8) _ 8 8 (by simp [be_length]) (be_length _ _), num_be _ _ ft.ok.sh]
  · rw [show headA6 h (nextOf h ks) (8 * ks.length + pay.length) ++ (extsA h ks ++ pay) = ([96, 0, 0, 0] ++ be (u64n (8 * ks.length + pay.length)) 2 ++ be (u64n (nextOf h ks)) 1 ++ [0] ++ be h.sh 8) ++ (be h.sl 8 ++ ((be h.dh 8 ++ be h.dl 8) ++ (extsA h ks ++ pay))) by simp only [headA6, List.append_assoc]]
    rw [mid_of _ (be h.sl 8) _ 16 8 (by simp [be_length]) (be_length _ _), num_be _ _ ft.ok.sl]
  · rw [show headA6 h (nextOf h ks) (8 * ks.length + pay.length) ++ (extsA h ks ++ pay) = ([96, 0, 0, 0] ++ be (u64n (8 * ks.length + pay.length)) 2 ++ be (u64n (nextOf h ks)) 1 ++ [0] ++ be h.sh 8 ++ be h.sl 8) ++ (be h.dh 8 ++ (be h.dl 8 ++ (extsA h ks ++ pay))) by simp only [headA6, List.append_assoc]]
    rw [mid_of _ (be h.dh 8) _ 24 8 (by simp [be_length]) (be_length _ _), num_be _ _ ft.ok.dh]
  · rw [show headA6 h (nextOf h ks) (8 * ks.length + pay.length) ++ (extsA h ks ++ pay) = ([96, 0, 0, 0] ++ be (u64n (8 * ks.length + pay.length)) 2 ++ be (u64n (nextOf h ks)) 1 ++ [0] ++ be h.sh 8 ++ be h.sl 8 ++ be h.dh 8) ++ (be h.dl 8 ++ (extsA h ks ++ pay)) by simp only [headA6, List.append_assoc]]
    rw [mid_of _ (be h.dl 8) _ 32 8 (by simp [be_length]) (be_length _ _), num_be _ _ ft.ok.dl]
  · unfold body6
    rw [h2]
    have := mid_of (headA6 h (nextOf h ks) (8 * ks.length + pay.length)) (extsA h ks ++ pay) [] 40 (8 * ks.length + pay.length) (headA6_length _ _ _) (by rw [List.length_append, hel])
    rwa [List.append_nil] at this

def back6 (h : Hd) (l : List Int) (pay : List UInt8) : Hd :=
  ⟨h.sh, h.sl, h.dh, h.dl, h.proto, 40 + 8 * ((l.filter fol).length : Int), 40 + 8 * ((l.filter fol).length : Int) + (pay.length : Int), 0, if 44 ∈ l then h.more else false⟩
theorem pack6_back (h : Hd) (ft : h.Fit6) (l : List Int) (pay : List UInt8) (hl : l.length ≤ 8) (hp : pay.length ≤ 200) (h44 : 44 ∈ l → h.off = 0) : err6 (pack6 h l pay) = 0 ∧ hd6 (pack6 h l pay) = back6 h l pay := by
  obtain ⟨f0, f4, f6, n1, n2, n3, n4, fb⟩ := pack6_facts h ft l pay hl hp
  have ln := pack6_length h l pay hl hp
  have hfl : (l.filter fol).length ≤ 8 := Nat.le_trans (List.length_filter_le _ _) hl
  have eB : errB (pack6 h l pay) = 0 := by
    unfold errB
    rw [ln, f0, f4, if_neg (by omega), if_neg (by decide), if_neg (by omega)]
  have hB : hdB (pack6 h l pay) = ⟨h.sh, h.sl, h.dh, h.dl, nextOf h (l.filter fol), 40, 40 + ((8 * (l.filter fol).length + pay.length : Nat) : Int), 0, false⟩ := by
    unfold hdB
    rw [n1, n2, n3, n4, f6, f4]
  have m44 : (44 ∈ l.filter fol) = (44 ∈ l) := by
    apply propext
    rw [List.mem_filter]
    exact ⟨fun x => x.1, fun x => ⟨x, by decide⟩⟩
  obtain ⟨w1, w2⟩ := walk_exts h pay ft.proto ft.nf ft.off (l.filter fol) 8 (hdB (pack6 h l pay)) (fun p hp => (List.mem_filter.1 hp).2) hfl (fun hm => h44 (by rwa [m44] at hm)) (by rw [hB]) (by rw [hB])
  have e6 : err6 (pack6 h l pay) = 0 := by unfold err6; rw [if_pos eB, fb, w1]
  refine ⟨e6, ?_⟩
  unfold hd6
  rw [if_pos e6, fb, w2, hB]
  unfold back6
  simp only [m44]
  congr 1
  omega
theorem pack6_less (h : Hd) (ft : h.Fit6) (l : List Int) (pay : List UInt8) (hl : l.length ≤ 8) (hp : pay.length ≤ 200) : err6 ((pack6 h l pay).take (39 + 8 * (l.filter fol).length + pay.length)) ≠ 0 := by
  obtain ⟨f0, f4, _⟩ := pack6_facts h ft l pay hl hp
  have ln := pack6_length h l pay hl hp
  have lt : ((pack6 h l pay).take (39 + 8 * (l.filter fol).length + pay.length)).length = 39 + 8 * (l.filter fol).length + pay.length := by rw [List.length_take]; omega
  have eB : errB ((pack6 h l pay).take (39 + 8 * (l.filter fol).length + pay.length)) = 5 ∨ errB ((pack6 h l pay).take (39 + 8 * (l.filter fol).length + pay.length)) = 6 := by
    by_cases c : 8 * (l.filter fol).length + pay.length = 0
    · left
      unfold errB
      rw [lt, if_pos (by omega)]
    · right
      have b : ∀ k, k < 10 → byteAt ((pack6 h l pay).take (39 + 8 * (l.filter fol).length + pay.length)) k = byteAt (pack6 h l pay) k := by
        intro k hk
        unfold byteAt
        rw [List.getElem?_take, if_pos (by omega)]
      have t4 : twoA ((pack6 h l pay).take (39 + 8 * (l.filter fol).length + pay.length)) 4 = 8 * (l.filter fol).length + pay.length := by
        rw [← f4]
        unfold twoA
        rw [b 4 (by omega), b (4 + 1) (by omega)]
      unfold errB
      rw [lt, t4, b 0 (by omega), f0, if_neg (by omega), if_neg (by decide), if_pos (by omega)]
  unfold err6
  rcases eB with e | e <;> rw [e, if_neg (by decide)] <;> decide
end Go.Proofs.YtdpaiegojioimaaDoor
