/-
  The reference's Put, reply's Bad, and the example (layer 39).
-/
import Derived.Test.YtfeeaokeomcafaaReply
import Derived.Deep.DeepCutAuto
namespace Go.Proofs.Ytfeeaokeomcafaa
open Go.ChangeShapes Go.WideShapes Go.ChangeAt Go.RowKit Go.Deep
set_option linter.unusedVariables false

set_option maxRecDepth 100000 in
theorem refStat (t : Nat → Int) (w : World) :
    Calls Try.prog 98 #[.agg #[.int .i64 (t 0), .int .i64 (t 1), .int .i64 (t 2), .int .i64 (t 3), .int .i64 (t 4), .int .i64 (t 5)]] w fun e w' =>
      ∃ g, e = .returned (.slice (some ⟨g, 0, none⟩) 6 6) ∧ (∀ w'', Touch [] w' w'' → ∀ k, k < 6 → w''.cell? ⟨g, k, none⟩ = some (.int .i64 (t k))) ∧ Touch [] w w' := by
  go_enter Try.func98, Try.ntmps98
  go_wp2_with fail
  go_ret
  refine ⟨w.heap.size + 1, rfl, fun w'' tt k hk => ?_, ((Touch.refl [] w).alloc _).alloc _⟩
  rw [tt.cell (a := ⟨w.heap.size + 1, k, none⟩) (by simp) (by simp)]
  have := World.cell?_alloc_mark (w.alloc (.cells #[.int .i64 (t 0), .int .i64 (t 1), .int .i64 (t 2), .int .i64 (t 3), .int .i64 (t 4), .int .i64 (t 5)] 76)) #[.int .i64 (t 0), .int .i64 (t 1), .int .i64 (t 2), .int .i64 (t 3), .int .i64 (t 4), .int .i64 (t 5)] 3 (0, 0) k
  rw [show (w.alloc (.cells #[.int .i64 (t 0), .int .i64 (t 1), .int .i64 (t 2), .int .i64 (t 3), .int .i64 (t 4), .int .i64 (t 5)] 76)).heap.size = w.heap.size + 1 by simp] at this
  refine this.trans ?_
  match k, hk with
  | 0, _ => rfl
  | 1, _ => rfl
  | 2, _ => rfl
  | 3, _ => rfl
  | 4, _ => rfl
  | 5, _ => rfl

set_option maxHeartbeats 2000000 in
set_option maxRecDepth 100000 in
theorem refPut39 (r : Rep) (h : r.Ok) (w : World) :
    Calls Try.prog 55 #[.agg r.cells] w fun e w' => e = .returned (.string (S r.bytes)) ∧ Touch [] w w' := by
  have hbox := Lib.hid (fun w' (t : Touch [] (w.alloc (.cells r.cells 78)) w') => r.boxed t)
  have hl := r.headB_length h
  have l1 := varB_ten r.ver h.ver
  have l2 := varB_ten r.cnt h.cnt
  have P1 := Lib.hid (fun w => refPutNum 1 (by omega) (u64n r.op) (u64n_lt _) w)
  have P2 := Lib.hid (fun w => refPutNum 1 (by omega) (u64n r.err) (u64n_lt _) w)
  have P3 := Lib.hid (fun w => refPutNum 4 (by omega) r.sum (by have := h.sum; omega) w)
  have V1 := Lib.hid (fun w => refPutVar r.ver h.ver w)
  have V2 := Lib.hid (fun w => refPutVar r.cnt h.cnt w)
  have VS := Lib.hid (fun k w => refPutVar (r.st k) (h.st k) w)
  have sl := Lib.hid (statB_length r.st h.st)
  have vl := Lib.hid (fun k => varB_ten (r.st k) (h.st k))
  have ST := Lib.hid (fun w => refStat r.st w)
  have TW := Lib.hid ((Touch.refl [] w).alloc (.cells r.cells 78))
  have f1 : IntKind.u64.wrap r.op = ((u64n r.op : Nat) : Int) := by rw [IntKind.wrap_u64, u64n_cast]
  have f2 : IntKind.u64.wrap r.err = ((u64n r.err : Nat) : Int) := by rw [IntKind.wrap_u64, u64n_cast]
  have f3 := u64n_cast r.op
  have f4 := u64n_cast r.err
  have us2 := h.sum
  have a1 : ∀ w, (Op.stringOp .add (S (be (u64n r.op) 1)) (S (be (u64n r.err) 1))).run Try.prog w = .ok (.string (S (be (u64n r.op) 1 ++ be (u64n r.err) 1))) w := fun w => add_str _ _ (by simp [be_length]) w
  have a2 : ∀ w, (Op.stringOp .add (S (be (u64n r.op) 1 ++ be (u64n r.err) 1)) (S (varB (zz r.ver)))).run Try.prog w = .ok (.string (S (be (u64n r.op) 1 ++ be (u64n r.err) 1 ++ varB (zz r.ver)))) w := fun w => add_str _ _ (by simp [be_length]; omega) w
  have a3 : ∀ w, (Op.stringOp .add (S (be (u64n r.op) 1 ++ be (u64n r.err) 1 ++ varB (zz r.ver))) (S (varB (zz r.cnt)))).run Try.prog w = .ok (.string (S (be (u64n r.op) 1 ++ be (u64n r.err) 1 ++ varB (zz r.ver) ++ varB (zz r.cnt)))) w := fun w => add_str _ _ (by simp [be_length]; omega) w
  have a4 : ∀ w, (Op.stringOp .add (S (be (u64n r.op) 1 ++ be (u64n r.err) 1 ++ varB (zz r.ver) ++ varB (zz r.cnt))) (S (be r.sum 4))).run Try.prog w = .ok (.string (S r.headB)) w := fun w => add_str _ _ (by simp [be_length]; omega) w
  clear h
  unfold Rep.bytes
  generalize be (u64n r.op) 1 ++ be (u64n r.err) 1 ++ varB (zz r.ver) ++ varB (zz r.cnt) = L3 at a3 a4
  generalize be (u64n r.op) 1 ++ be (u64n r.err) 1 ++ varB (zz r.ver) = L2 at a2 a3
  generalize be (u64n r.op) 1 ++ be (u64n r.err) 1 = L1 at a1 a2
  generalize r.headB = LH at *
  unfold Rep.cells at hbox TW ⊢
  generalize hwb : w.alloc (.cells #[.int .i64 r.op, .int .i64 r.err, .int .i64 r.ver, .int .i64 r.cnt, .int .u32 (r.sum : Int), .int .i64 (r.st 0), .int .i64 (r.st 1), .int .i64 (r.st 2), .int .i64 (r.st 3), .int .i64 (r.st 4), .int .i64 (r.st 5)] 78) = wb at *
  have k0 : ∀ x : Cls wb, x.val.cell? ⟨w.heap.size, 0, none⟩ = some (.int .i64 r.op) := fun x => hbox.out x.val x.property 0 (by omega)
  have k1 : ∀ x : Cls wb, x.val.cell? ⟨w.heap.size, 1, none⟩ = some (.int .i64 r.err) := fun x => hbox.out x.val x.property 1 (by omega)
  have k2 : ∀ x : Cls wb, x.val.cell? ⟨w.heap.size, 2, none⟩ = some (.int .i64 r.ver) := fun x => hbox.out x.val x.property 2 (by omega)
  have k3 : ∀ x : Cls wb, x.val.cell? ⟨w.heap.size, 3, none⟩ = some (.int .i64 r.cnt) := fun x => hbox.out x.val x.property 3 (by omega)
  have k4 : ∀ x : Cls wb, x.val.cell? ⟨w.heap.size, 4, none⟩ = some (.int .u32 (r.sum : Int)) := fun x => hbox.out x.val x.property 4 (by omega)
  go_enter Try.func55, Try.ntmps55
  go_upto_region 1 with fail
  refine wp_region_cls (wd := wb) (by kernel_rfl) (by kernel_rfl) ((Touch.refl _ _).drew) ?_
  repeat (first | go_big_quiet_step ((first | (go_at_call 23; first | with_reducible exact Calls.cls_at (P1.out _) | with_reducible exact Calls.cls_at (P2.out _) | with_reducible exact Calls.cls_at (P3.out _)) | (go_at_call 27; first | with_reducible exact Calls.cls_at (V1.out _) | with_reducible exact Calls.cls_at (V2.out _)))) | quiet_step ((first | (go_at_call 23; first | with_reducible exact Calls.cls_at (P1.out _) | with_reducible exact Calls.cls_at (P2.out _) | with_reducible exact Calls.cls_at (P3.out _)) | (go_at_call 27; first | with_reducible exact Calls.cls_at (V1.out _) | with_reducible exact Calls.cls_at (V2.out _)))))
  refine wpQuiet_nil ?_
  rintro _ ⟨y, rfl⟩
  have k5 := hbox.out _ y.property 5 (by omega)
  have k6 := hbox.out _ y.property 6 (by omega)
  have k7 := hbox.out _ y.property 7 (by omega)
  have k8 := hbox.out _ y.property 8 (by omega)
  have k9 := hbox.out _ y.property 9 (by omega)
  have k10 := hbox.out _ y.property 10 (by omega)
  simp at k5 k6 k7 k8 k9 k10
  have TY := Lib.hid (TW.out.trans y.property (by simp))
  generalize y.val = wy at *
  go_wp2_with fail
  refine (ST.out _).mono ?_
  rintro e w4 ⟨g, rfl, hg, t4⟩
  have HG := Lib.hid hg
  have T4 := Lib.hid (TY.out.trans t4 (by simp))
  have g4 : g < w4.heap.size := cell_lt (hg w4 (Touch.refl _ _) 0 (by omega))
  clear hg t4 k5 k6 k7 k8 k9 k10 k0 k1 k2 k3 k4 a1 a2 a3 a4 P1 P2 P3 V1 V2 ST
  go_wp2_with fail
  go_loopw [3, 5] (fun x y wr => ∃ k : Nat, k ≤ 6 ∧ y = .int .i64 k ∧ x = .string (S (LH ++ statB r.st k)) ∧ Touch [] w4 wr) (fun _ y _ => 6 - (intOf y).toNat)
  case atStart => exact ⟨0, by omega, rfl, by simp [statB], Touch.refl _ _⟩
  case round =>
    obtain ⟨k, hk, rfl, rfl, ht⟩ := hrel
    have hsl := sl.out k
    have hvl := vl.out k
    by_cases hlt : k < 6
    · have hc := HG.out wr ht k hlt
      have c4 := Lib.hid (VS.out k wr)
      have hadd : ∀ w, (Op.stringOp .add (S (LH ++ statB r.st k)) (S (varB (zz (r.st k))))).run Try.prog w = .ok (.string (S (LH ++ statB r.st (k + 1)))) w := fun w => by
        rw [add_str _ _ (by simp; omega) w, statB, List.append_assoc]
      have HT := Lib.hid ht
      have g5 : g < wr.heap.size := Nat.lt_of_lt_of_le g4 ht.size
      clear ht
      generalize hM1 : LH ++ statB r.st (k + 1) = M1 at hadd
      generalize LH ++ statB r.st k = M0 at *
      generalize varB (zz (r.st k)) = V at *
      go_wp2_with fail
      refine (c4.out).mono ?_
      rintro e w5 ⟨rfl, t5⟩
      have HT5 := Lib.hid (HT.out.trans t5 (by simp))
      clear t5 c4
      go_wp2_with fail
      go_roundw
      case rel => exact ⟨k + 1, by omega, by go_num, by rw [hM1], HT5.out⟩
      case measure => simp [intOf]; omega
    · obtain rfl : k = 6 := by omega
      have HT := Lib.hid ht
      clear ht
      go_wp2_with fail
      go_ret
      exact ⟨rfl, T4.out.trans HT.out (by simp)⟩

def badRep (e : Int) : Rep := ⟨0, e, 0, 0, 0, fun _ => 0⟩
theorem badRep_ok (e : Int) (h : fitI e) : (badRep e).Ok := ⟨by unfold fitI badRep; simp, h, by unfold fitI badRep; simp, by unfold fitI badRep; simp, by simp [badRep], fun k => by unfold fitI badRep; simp⟩
theorem zero_bytes : (badRep 0).bytes = [0, 0, 0, 0, 0, 0, 0, 0, 0, 0, 0, 0, 0, 0] := by
  have h : varB (zz 0) = [0] := varB_small (by decide)
  simp [Rep.bytes, Rep.headB, badRep, statB, h, be, u64n]
set_option maxRecDepth 100000 in
theorem lives39 (w : World) : Calls Try.prog 52 #[] w fun en w' => en = .returned (.bool true) ∧ Touch [] w w' := by
  have H := Lib.hid (replyPut (badRep 0) (badRep_ok 0 (by unfold fitI; omega)) w)
  rw [zero_bytes] at H
  unfold badRep Rep.cells at H
  simp only at H
  have he : ((S [0, 0, 0, 0, 0, 0, 0, 0, 0, 0, 0, 0, 0, 0]) == (⟨#[0, 0, 0, 0, 0, 0, 0, 0, 0, 0, 0, 0, 0, 0]⟩ : ByteArray)) = true := by decide
  go_enter Try.func52, Try.ntmps52
  go_wp2_with fail
  refine (H.out).mono ?_
  rintro en w1 ⟨rfl, t1⟩
  go_wp2_with fail
  go_ret
  exact ⟨ret_bool (by rw [S_toList]; rfl), t1⟩
end Go.Proofs.Ytfeeaokeomcafaa
