/-
  The reference of layer 10 (inet): number, Of, Bytes; inet's Mask at the law's example.
-/
import Derived.Test.YtonchibngcoefaaInetF
namespace Go.Proofs.Ytonchibngcoefaa
open Go.ChangeShapes Go.WideShapes Go.ChangeAt Go.RowKit Go.Deep
set_option linter.unusedVariables false
set_option linter.unusedSimpArgs false

theorem number10 (l : List UInt8) (h8 : l.length ≤ 8) (w : World) : Calls Try.prog 51 #[.string (S l)] w fun e w' => e = .returned (.int .u64 (num l : Nat)) ∧ Touch [] w w' := by
  have N := Lib.hid (fun w => refNum_ok l l.length (Nat.le_refl _) h8 (by omega) w)
  rw [List.take_length, List.drop_length] at N
  have hss : (S l).size = l.length := S_size l
  unfold rv at N
  generalize num l = x at *
  go_enter Try.func51, Try.ntmps51
  go_wp2_with fail
  refine (N.out _).mono ?_
  rintro e w1 ⟨rfl, t1⟩
  have T1 := Lib.hid t1
  clear t1
  go_wp2_with fail
  go_ret
  exact ⟨rfl, T1.out.alloc _⟩

set_option maxRecDepth 100000 in
set_option maxHeartbeats 1000000 in
theorem refBytes10 (v : Int) (hi lo : Nat) (hhi : hi < 18446744073709551616) (hlo : lo < 18446744073709551616) (w : World) :
    Calls Try.prog 19 #[.int .i64 v, av hi lo] w fun e w' => e = .returned (.string (S (bytesA v hi lo))) ∧ Touch [] w w' := by
  have R := Lib.hid (fun w => refRight10 v hi lo w)
  have X0 := Lib.hid (BoxV.new w 44 #[.int .u64 (hi : Int), .int .u64 (lo : Int)])
  have T0 := Lib.hid ((Touch.refl [] w).alloc (.cells #[.int .u64 (hi : Int), .int .u64 (lo : Int)] 44))
  unfold bytesA
  cases hr : rightA v hi lo with
  | false =>
    rw [if_neg (by simp)]
    rw [hr] at R
    unfold av at *
    go_enter Try.func19, Try.ntmps19
    go_wp2_with fail
    refine (R.out _).mono ?_
    rintro e w2 ⟨rfl, t⟩
    have T := Lib.hid (T0.out.trans t (by simp))
    clear t
    go_wp2_with fail
    go_ret
    exact ⟨rfl, T.out⟩
  | true =>
    rw [if_pos rfl]
    rw [hr] at R
    have hv : v = 4 ∨ v = 6 := by
      unfold rightA at hr
      split at hr
      · left; assumption
      · right; simpa using hr
    unfold av at *
    rcases hv with rfl | rfl
    · rw [if_pos rfl]
      have P := Lib.hid (fun w => refPutNum 4 (by omega) lo hlo w)
      generalize be lo 4 = M at *
      clear hr
      go_enter Try.func19, Try.ntmps19
      go_wp2_with fail
      refine (R.out _).mono ?_
      rintro e w2 ⟨rfl, t⟩
      have T := Lib.hid (T0.out.trans t (by simp))
      have X := X0.out.carry t (by simp)
      have c1 := X.cell 1
      have lt0 := X.lt
      clear t X
      go_wp2_with fail
      refine (P.out _).mono ?_
      rintro e w3 ⟨rfl, t3⟩
      have T3 := Lib.hid (T.out.trans t3 (by simp))
      clear t3
      go_wp2_with fail
      go_ret
      exact ⟨rfl, T3.out⟩
    · rw [if_neg (by decide)]
      have P1 := Lib.hid (fun w => refPutNum 8 (by omega) hi hhi w)
      have P2 := Lib.hid (fun w => refPutNum 8 (by omega) lo hlo w)
      have hadd := add_str (be hi 8) (be lo 8) (by simp [be_length])
      generalize be hi 8 = M1 at *
      generalize be lo 8 = M2 at *
      clear hr
      go_enter Try.func19, Try.ntmps19
      go_wp2_with fail
      refine (R.out _).mono ?_
      rintro e w2 ⟨rfl, t⟩
      have T := Lib.hid (T0.out.trans t (by simp))
      have X := Lib.hid (X0.out.carry t (by simp))
      clear t
      go_upto_region 5 with fail
      have c0 : ∀ x : Cls w2, x.val.cell? ⟨w.heap.size, 0, none⟩ = some (.int .u64 (hi : Int)) := fun x => (X.out.carry x.property (by simp)).cell 0
      have c1 : ∀ x : Cls w2, x.val.cell? ⟨w.heap.size, 1, none⟩ = some (.int .u64 (lo : Int)) := fun x => (X.out.carry x.property (by simp)).cell 1
      refine wp_region_cls (wd := w2) (by kernel_rfl) (by kernel_rfl) ((Touch.refl _ _).drew) ?_
      repeat (first | go_big_quiet_step ((go_at_call 54; first | with_reducible exact Calls.cls_at (P1.out _) | with_reducible exact Calls.cls_at (P2.out _))) | quiet_step ((go_at_call 54; first | with_reducible exact Calls.cls_at (P1.out _) | with_reducible exact Calls.cls_at (P2.out _))))
      refine wpQuiet_nil ?_
      rintro _ ⟨y, rfl⟩
      clear c0 c1
      go_wp2_with fail
      go_ret
      exact ⟨rfl, T.out.trans y.property (by simp)⟩
end Go.Proofs.Ytonchibngcoefaa
