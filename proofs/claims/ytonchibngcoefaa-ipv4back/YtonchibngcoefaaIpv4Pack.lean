/-
  Layer 11 (ipv4): Make and the reference's Make.
-/
import Derived.Test.YtonchibngcoefaaIpv4Make
namespace Go.Proofs.Ytonchibngcoefaa
open Go.ChangeShapes Go.WideShapes Go.ChangeAt Go.RowKit Go.Deep
set_option linter.unusedVariables false
set_option linter.unusedSimpArgs false

def packA (h : Hd) (l : List UInt8) : List UInt8 := if 65515 < l.length then [] else headA h (20 + l.length) ++ l

set_option maxHeartbeats 1000000 in
theorem make11 (h : Hd) (ok : h.Ok) (l : List UInt8) (hl : l.length ≤ 1000000000) (w : World) : Calls Try.prog 26 #[.agg h.cells, .string (S l)] w fun e w' => e = .returned (.string (S (packA h l))) ∧ Touch [] w w' := by
  have hss : (S l).size = l.length := S_size l
  unfold packA
  by_cases hb : 65515 < l.length
  · rw [if_pos hb]
    have d : decide (65515 < (l.length : Int)) = true := by simp; omega
    unfold Hd.cells
    go_enter Try.func26, Try.ntmps26
    go_wp2_with fail
    go_ret
    exact ⟨rfl, (Touch.refl _ _).alloc _⟩
  · rw [if_neg hb]
    have d : decide (65515 < (l.length : Int)) = false := by simp; omega
    have HD := Lib.hid (fun w => header11 h ok (20 + (l.length : Int)) w)
    have ha := add_str (headA h (20 + (l.length : Int))) l (by rw [headA_length]; omega)
    generalize headA h (20 + (l.length : Int)) ++ l = R at *
    generalize headA h (20 + (l.length : Int)) = A at *
    have T0 := Lib.hid ((Touch.refl [] w).alloc (.cells h.cells 51))
    unfold Hd.cells at *
    clear ok
    go_enter Try.func26, Try.ntmps26
    go_wp2_with fail
    refine (HD.out _).mono ?_
    rintro e w1 ⟨rfl, t1⟩
    have T1 := Lib.hid (T0.out.trans t1 (by simp))
    clear t1
    go_wp2_with fail
    go_ret
    exact ⟨rfl, T1.out⟩

set_option maxHeartbeats 2000000 in
set_option maxRecDepth 100000 in
theorem refMake11 (h : Hd) (ok : h.Ok) (l : List UInt8) (hl : l.length ≤ 1000000000) (w : World) : Calls Try.prog 27 #[.agg h.cells, .string (S l)] w fun e w' => e = .returned (.string (S (packA h l))) ∧ Touch [] w w' := by
  have hss : (S l).size = l.length := S_size l
  unfold packA
  by_cases hb : 65515 < l.length
  · rw [if_pos hb]
    have d : decide (65515 < (l.length : Int)) = true := by simp; omega
    unfold Hd.cells
    go_enter Try.func27, Try.ntmps27
    go_wp2_with fail
    go_ret
    exact ⟨rfl, (Touch.refl _ _).alloc _⟩
  · rw [if_neg hb]
    have d : decide (65515 < (l.length : Int)) = false := by simp; omega
    have hx : u64n h.off % 8192 < 8192 := by omega
    have hfl : flagsA h ≤ 16383 := by unfold flagsA; split <;> omega
    have P1 : Hid (∀ w, Calls Try.prog 60 #[.int .i64 (20 + (l.length : Int)), .int .i64 2] w fun e w' => e = .returned (.string (S (be (u64n (20 + (l.length : Int))) 2))) ∧ Touch [] w w') := Lib.hid (fun w => low11 _ 2 (by omega) (by omega) w)
    have P2 : Hid (∀ w, Calls Try.prog 60 #[.int .i64 (flagsA h : Nat), .int .i64 2] w fun e w' => e = .returned (.string (S (be (flagsA h) 2))) ∧ Touch [] w w') := Lib.hid (fun w => by
      have := low11 (flagsA h : Nat) 2 (by omega) (by omega) w
      rwa [u64n_nat _ (by omega)] at this)
    have P6 : Hid (∀ w, Calls Try.prog 60 #[.int .i64 h.proto, .int .i64 1] w fun e w' => e = .returned (.string (S (be (u64n h.proto) 1))) ∧ Touch [] w w') := Lib.hid (fun w => low11 _ 1 (by omega) ok.proto w)
    have P3 : Hid (∀ w, Calls Try.prog 54 #[.int .u64 (h.sl : Int), .int .i64 4] w fun e w' => e = .returned (.string (S (be h.sl 4))) ∧ Touch [] w w') := Lib.hid (fun w => refPutNum 4 (by omega) h.sl ok.sl w)
    have P4 : Hid (∀ w, Calls Try.prog 54 #[.int .u64 (h.dl : Int), .int .i64 4] w fun e w' => e = .returned (.string (S (be h.dl 4))) ∧ Touch [] w w') := Lib.hid (fun w => refPutNum 4 (by omega) h.dl ok.dl w)
    have hlab : (aA h (20 + (l.length : Int)) ++ bA h).length = 18 := by simp [aA, bA, be_length]
    have SU := Lib.hid (fun w => refSum11 (aA h (20 + (l.length : Int)) ++ bA h) (by omega) w)
    have hsi := sumA_in (aA h (20 + (l.length : Int)) ++ bA h)
    have P5 : Hid (∀ w, Calls Try.prog 60 #[.int .i64 (sumA (aA h (20 + (l.length : Int)) ++ bA h)), .int .i64 2] w fun e w' => e = .returned (.string (S (be (u64n (sumA (aA h (20 + (l.length : Int)) ++ bA h))) 2))) ∧ Touch [] w w') := Lib.hid (fun w => low11 _ 2 (by omega) (by omega) w)
    have h1 := be_length (u64n (20 + (l.length : Int))) 2
    have h2 := be_length (flagsA h) 2
    have h6 := be_length (u64n h.proto) 1
    have h3 := be_length h.sl 4
    have h4 := be_length h.dl 4
    have h5 := be_length (u64n (sumA (aA h (20 + (l.length : Int)) ++ bA h))) 2
    have eh : headA h (20 + (l.length : Int)) = aA h (20 + (l.length : Int)) ++ be (u64n (sumA (aA h (20 + (l.length : Int)) ++ bA h))) 2 ++ bA h := rfl
    have ea : aA h (20 + (l.length : Int)) = [69, 0] ++ be (u64n (20 + (l.length : Int))) 2 ++ [0, 0] ++ be (flagsA h) 2 ++ [0] ++ be (u64n h.proto) 1 := rfl
    have eb : bA h = be h.sl 4 ++ be h.dl 4 := rfl
    rw [eh]
    generalize u64n (sumA (aA h (20 + (l.length : Int)) ++ bA h)) = sn at *
    generalize sumA (aA h (20 + (l.length : Int)) ++ bA h) = sm at *
    generalize be sn 2 = Z5 at *
    generalize be (u64n (20 + (l.length : Int))) 2 = Z1 at *
    generalize be (flagsA h) 2 = Z2 at *
    generalize be (u64n h.proto) 1 = Z6 at *
    generalize be h.sl 4 = Z3 at *
    generalize be h.dl 4 = Z4 at *
    have a1 : ∀ w : World, (Op.stringOp .add ⟨#[69, 0]⟩ (S Z1)).run Try.prog w = .ok (.string (S ([69, 0] ++ Z1))) w := fun w => add_str [69, 0] Z1 (by simp; omega) w
    have a2 : ∀ w : World, (Op.stringOp .add (S ([69, 0] ++ Z1)) ⟨#[0, 0]⟩).run Try.prog w = .ok (.string (S ([69, 0] ++ Z1 ++ [0, 0]))) w := fun w => add_str ([69, 0] ++ Z1) [0, 0] (by simp; omega) w
    have a3 : ∀ w : World, (Op.stringOp .add (S ([69, 0] ++ Z1 ++ [0, 0])) (S Z2)).run Try.prog w = .ok (.string (S ([69, 0] ++ Z1 ++ [0, 0] ++ Z2))) w := fun w => add_str _ _ (by simp; omega) w
    have a4 : ∀ w : World, (Op.stringOp .add (S ([69, 0] ++ Z1 ++ [0, 0] ++ Z2)) ⟨#[0]⟩).run Try.prog w = .ok (.string (S ([69, 0] ++ Z1 ++ [0, 0] ++ Z2 ++ [0]))) w := fun w => add_str ([69, 0] ++ Z1 ++ [0, 0] ++ Z2) [0] (by simp; omega) w
    have a5 : ∀ w : World, (Op.stringOp .add (S ([69, 0] ++ Z1 ++ [0, 0] ++ Z2 ++ [0])) (S Z6)).run Try.prog w = .ok (.string (S ([69, 0] ++ Z1 ++ [0, 0] ++ Z2 ++ [0] ++ Z6))) w := fun w => add_str _ _ (by simp; omega) w
    rw [← ea] at a5
    have a6 : ∀ w : World, (Op.stringOp .add (S Z3) (S Z4)).run Try.prog w = .ok (.string (S (Z3 ++ Z4))) w := fun w => add_str _ _ (by omega) w
    rw [← eb] at a6
    clear ea eb
    generalize [69, 0] ++ Z1 ++ [0, 0] ++ Z2 ++ [0] = q4 at *
    generalize [69, 0] ++ Z1 ++ [0, 0] ++ Z2 = q3 at *
    generalize [69, 0] ++ Z1 ++ [0, 0] = q2 at *
    generalize [69, 0] ++ Z1 = q1 at *
    have hla : (aA h (20 + (l.length : Int))).length ≤ 18 := by rw [List.length_append] at hlab; omega
    have hlb : (bA h).length ≤ 18 := by rw [List.length_append] at hlab; omega
    generalize aA h (20 + (l.length : Int)) = A at *
    generalize bA h = B at *
    have a7 : ∀ w : World, (Op.stringOp .add (S A) (S B)).run Try.prog w = .ok (.string (S (A ++ B))) w := fun w => add_str _ _ (by omega) w
    have a8 : ∀ w : World, (Op.stringOp .add (S A) (S Z5)).run Try.prog w = .ok (.string (S (A ++ Z5))) w := fun w => add_str _ _ (by omega) w
    have a9 : ∀ w : World, (Op.stringOp .add (S (A ++ Z5)) (S B)).run Try.prog w = .ok (.string (S (A ++ Z5 ++ B))) w := fun w => add_str _ _ (by rw [List.length_append]; omega) w
    have a10 : ∀ w : World, (Op.stringOp .add (S (A ++ Z5 ++ B)) (S l)).run Try.prog w = .ok (.string (S (A ++ Z5 ++ B ++ l))) w := fun w => add_str _ _ (by rw [List.length_append, List.length_append]; omega) w
    generalize A ++ Z5 ++ B ++ l = q9 at *
    generalize A ++ Z5 ++ B = q8 at *
    generalize A ++ Z5 = q7 at *
    generalize A ++ B = q6 at *
    have wo : IntKind.u64.wrap h.off = ((u64n h.off : Nat) : Int) := by rw [IntKind.wrap_u64]; exact u64n_cast h.off
    have ef : flagsA h = u64n h.off % 8192 + (if h.more then 8192 else 0) := rfl
    have hfx : flagsA h < 20000 := by omega
    obtain ⟨fl, hfl'⟩ : ∃ fl, flagsA h = fl := ⟨_, rfl⟩
    rw [hfl'] at P2 ef hfx
    have wm : ((u64n h.off : Nat) : Int) % 8192 = ((u64n h.off % 8192 : Nat) : Int) := by omega
    generalize u64n h.off % 8192 = xm at *
    generalize u64n h.off = xo at *
    have wc : IntKind.i64.wrap (xm : Int) = (xm : Int) := by rw [IntKind.wrap_i64]; omega
    have X0 := Lib.hid (BoxV.new w 54 h.cells)
    have T0 := Lib.hid ((Touch.refl [] w).alloc (.cells h.cells 54))
    unfold Hd.cells at *
    clear ok hla hlb hlab hsi h1 h2 h3 h4 h5 h6 hfl hfl' eh
    cases hm : h.more with
    | false =>
      rw [hm] at X0 T0 ef
      obtain rfl : fl = xm := by simpa using ef
      clear ef hm
      go_enter Try.func27, Try.ntmps27
      go_upto_region 6 with fail
      generalize w.alloc (.cells #[.int .u64 (h.sh : Int), .int .u64 (h.sl : Int), .int .u64 (h.dh : Int), .int .u64 (h.dl : Int), .int .i64 h.proto, .int .i64 h.start, .int .i64 h.size, .int .i64 h.off, .bool false] 54) = w1 at *
      have k1 : ∀ x : Cls w1, x.val.cell? ⟨w.heap.size, 1, none⟩ = some (.int .u64 (h.sl : Int)) := fun x => (X0.out.carry x.property (by simp)).cell 1
      have k3 : ∀ x : Cls w1, x.val.cell? ⟨w.heap.size, 3, none⟩ = some (.int .u64 (h.dl : Int)) := fun x => (X0.out.carry x.property (by simp)).cell 3
      have k4 : ∀ x : Cls w1, x.val.cell? ⟨w.heap.size, 4, none⟩ = some (.int .i64 h.proto) := fun x => (X0.out.carry x.property (by simp)).cell 4
      refine wp_region_cls (wd := w1) (by kernel_rfl) (by kernel_rfl) ((Touch.refl _ _).drew) ?_
      repeat (first | go_big_quiet_step ((first | (go_at_call 60; first | with_reducible exact Calls.cls_at (P1.out _) | with_reducible exact Calls.cls_at (P2.out _) | with_reducible exact Calls.cls_at (P6.out _)))) | quiet_step ((first | (go_at_call 60; first | with_reducible exact Calls.cls_at (P1.out _) | with_reducible exact Calls.cls_at (P2.out _) | with_reducible exact Calls.cls_at (P6.out _)))))
      refine wpQuiet_nil ?_
      rintro _ ⟨y, rfl⟩
      go_upto_region 7 with fail
      refine wp_region_cls (wd := w1) (by kernel_rfl) (by kernel_rfl) (y.property.drew) ?_
      repeat (first | go_big_quiet_step ((first | (go_at_call 54; first | with_reducible exact Calls.cls_at (P3.out _) | with_reducible exact Calls.cls_at (P4.out _)))) | quiet_step ((first | (go_at_call 54; first | with_reducible exact Calls.cls_at (P3.out _) | with_reducible exact Calls.cls_at (P4.out _)))))
      refine wpQuiet_nil ?_
      rintro _ ⟨z, rfl⟩
      clear k1 k3 k4
      go_wp2_with fail
      refine (SU.out _).mono ?_
      rintro e wq ⟨rfl, hq⟩
      subst hq
      go_wp2_with fail
      refine (P5.out _).mono ?_
      rintro e wq ⟨rfl, tq⟩
      have TQ := Lib.hid ((T0.out.trans z.property (by simp)).trans tq (by simp))
      clear tq
      go_wp2_with fail
      go_ret
      exact ⟨rfl, TQ.out⟩
    | true =>
      rw [hm] at X0 T0 ef
      obtain rfl : fl = xm + 8192 := by simpa using ef
      have P2 : Hid (∀ w, Calls Try.prog 60 #[.int .i64 ((xm : Int) + 8192), .int .i64 2] w fun e w' => e = .returned (.string (S Z2)) ∧ Touch [] w w') := P2
      clear ef hm
      go_enter Try.func27, Try.ntmps27
      go_upto_region 6 with fail
      generalize w.alloc (.cells #[.int .u64 (h.sh : Int), .int .u64 (h.sl : Int), .int .u64 (h.dh : Int), .int .u64 (h.dl : Int), .int .i64 h.proto, .int .i64 h.start, .int .i64 h.size, .int .i64 h.off, .bool true] 54) = w1 at *
      have k1 : ∀ x : Cls w1, x.val.cell? ⟨w.heap.size, 1, none⟩ = some (.int .u64 (h.sl : Int)) := fun x => (X0.out.carry x.property (by simp)).cell 1
      have k3 : ∀ x : Cls w1, x.val.cell? ⟨w.heap.size, 3, none⟩ = some (.int .u64 (h.dl : Int)) := fun x => (X0.out.carry x.property (by simp)).cell 3
      have k4 : ∀ x : Cls w1, x.val.cell? ⟨w.heap.size, 4, none⟩ = some (.int .i64 h.proto) := fun x => (X0.out.carry x.property (by simp)).cell 4
      refine wp_region_cls (wd := w1) (by kernel_rfl) (by kernel_rfl) ((Touch.refl _ _).drew) ?_
      repeat (first | go_big_quiet_step ((first | (go_at_call 60; first | with_reducible exact Calls.cls_at (P1.out _) | with_reducible exact Calls.cls_at (P2.out _) | with_reducible exact Calls.cls_at (P6.out _)))) | quiet_step ((first | (go_at_call 60; first | with_reducible exact Calls.cls_at (P1.out _) | with_reducible exact Calls.cls_at (P2.out _) | with_reducible exact Calls.cls_at (P6.out _)))))
      refine wpQuiet_nil ?_
      rintro _ ⟨y, rfl⟩
      go_upto_region 7 with fail
      refine wp_region_cls (wd := w1) (by kernel_rfl) (by kernel_rfl) (y.property.drew) ?_
      repeat (first | go_big_quiet_step ((first | (go_at_call 54; first | with_reducible exact Calls.cls_at (P3.out _) | with_reducible exact Calls.cls_at (P4.out _)))) | quiet_step ((first | (go_at_call 54; first | with_reducible exact Calls.cls_at (P3.out _) | with_reducible exact Calls.cls_at (P4.out _)))))
      refine wpQuiet_nil ?_
      rintro _ ⟨z, rfl⟩
      clear k1 k3 k4
      go_wp2_with fail
      refine (SU.out _).mono ?_
      rintro e wq ⟨rfl, hq⟩
      subst hq
      go_wp2_with fail
      refine (P5.out _).mono ?_
      rintro e wq ⟨rfl, tq⟩
      have TQ := Lib.hid ((T0.out.trans z.property (by simp)).trans tq (by simp))
      clear tq
      go_wp2_with fail
      go_ret
      exact ⟨rfl, TQ.out⟩
end Go.Proofs.Ytonchibngcoefaa
