/-
  inet (layer 10): Bytes, gather.
-/
import Derived.Test.YtonchibngcoefaaInetC
namespace Go.Proofs.Ytonchibngcoefaa
open Go.ChangeShapes Go.WideShapes Go.ChangeAt Go.RowKit Go.Deep
set_option linter.unusedVariables false
set_option linter.unusedSimpArgs false

def bytesA (v : Int) (hi lo : Nat) : List UInt8 := if rightA v hi lo then (if v = 4 then be lo 4 else be hi 8 ++ be lo 8) else []
theorem img_there (w : World) (C : Array Value) (h : C.size = 16) : (w.alloc (.cells #[.int .u8 0, .int .u8 0, .int .u8 0, .int .u8 0, .int .u8 0, .int .u8 0, .int .u8 0, .int .u8 0, .int .u8 0, .int .u8 0, .int .u8 0, .int .u8 0, .int .u8 0, .int .u8 0, .int .u8 0, .int .u8 0] 88)).there w.heap.size 0 C.size := by
  have := (BoxV.new w 88 #[.int .u8 0, .int .u8 0, .int .u8 0, .int .u8 0, .int .u8 0, .int .u8 0, .int .u8 0, .int .u8 0, .int .u8 0, .int .u8 0, .int .u8 0, .int .u8 0, .int .u8 0, .int .u8 0, .int .u8 0, .int .u8 0]).there
  rw [h]
  exact this
theorem img_size (C : Array Value) (h : C.size = 16) : (Try.prog.info? 88).map (·.size) = some C.size := by rw [h]; kernel_rfl

set_option maxRecDepth 100000 in
set_option maxHeartbeats 1000000 in
theorem bytes10 (v : Int) (hi lo : Nat) (hhi : hi < 18446744073709551616) (hlo : lo < 18446744073709551616) (w : World) :
    Calls Try.prog 18 #[.int .i64 v, av hi lo] w fun e w' => e = .returned (.string (S (bytesA v hi lo))) ∧ Touch [] w w' := by
  have R := Lib.hid (fun w => right10 v hi lo w)
  have SP := Lib.hid (fun w => spread10 hi lo hhi hlo w)
  have X0 := Lib.hid (BoxV.new w 44 #[.int .u64 (hi : Int), .int .u64 (lo : Int)])
  have T0 := Lib.hid ((Touch.refl [] w).alloc (.cells #[.int .u64 (hi : Int), .int .u64 (lo : Int)] 44))
  unfold bytesA
  cases hr : rightA v hi lo with
  | false =>
    rw [if_neg (by simp)]
    rw [hr] at R
    unfold av at *
    go_enter Try.func18, Try.ntmps18
    go_wp2_with fail
    refine (R.out _).mono ?_
    rintro e w2 ⟨rfl, t⟩
    have T := Lib.hid (T0.out.trans t (by simp))
    clear t
    go_wp2_with fail
    go_ret
    exact ⟨rfl, T.out⟩
  | true =>
    rw [if_pos rfl]
    rw [hr] at R
    have hl16 : (be hi 8 ++ be lo 8).length = 16 := by simp [be_length]
    have hC : (byt (be hi 8 ++ be lo 8)).toArray.size = 16 := by simp [byt_length, be_length]
    have HC := Lib.hid (show (byt (be hi 8 ++ be lo 8)).toArray.all (·.oneCell') = true from all_oneCell_toArray (byt_one _))
    have HTh := Lib.hid (fun w => img_there w _ hC)
    have HZ := Lib.hid (img_size _ hC)
    have HCs := Lib.hid hC
    have hv : v = 4 ∨ v = 6 := by
      unfold rightA at hr
      split at hr
      · left; assumption
      · right; simpa using hr
    have h4 : v = 4 → ((be hi 8 ++ be lo 8).drop 12).take 4 = be lo 4 := by
      intro _
      rw [List.drop_append, be_length, List.drop_of_length_le (by rw [be_length]; omega), List.nil_append, show (be lo 8).drop (12 - 8) = be lo 4 from rfl, List.take_of_length_le (by rw [be_length]; omega)]
    unfold av at *
    generalize be hi 8 ++ be lo 8 = L at *
    rcases hv with rfl | rfl
    · rw [if_pos rfl]
      have H4 := Lib.hid (h4 rfl)
      have HL := Lib.hid hl16
      have HO := Lib.hid (fun (w : World) (b : Nat) (h : BoxV w b imgT (byt L).toArray) => own4 h)
      clear h4 hr hC hl16
      go_enter Try.func18, Try.ntmps18
      go_wp2_with fail
      refine (R.out _).mono ?_
      rintro e w2 ⟨rfl, t⟩
      have T := Lib.hid (T0.out.trans t (by simp))
      have X := X0.out.carry t (by simp)
      have c0 := X.cell 0
      have c1 := X.cell 1
      have lt0 := X.lt
      clear t X
      go_wp2_with fail
      refine (SP.out _).mono ?_
      rintro e w3 ⟨rfl, t3⟩
      clear c0 c1 lt0
      have T3 := Lib.hid (T.out.trans t3 (by simp))
      clear t3
      go_wp2_with (refine wpList_store_mid rfl 88 (.tmp 5) (.tmp 11) rfl w3.heap.size 0 (byt L).toArray rfl rfl (HTh.out w3) HZ.out HC.out ?_)
      have B := (BoxV.new w3 88 #[.int .u8 0, .int .u8 0, .int .u8 0, .int .u8 0, .int .u8 0, .int .u8 0, .int .u8 0, .int .u8 0, .int .u8 0, .int .u8 0, .int .u8 0, .int .u8 0, .int .u8 0, .int .u8 0, .int .u8 0, .int .u8 0]).whole (byt L).toArray (by rw [HCs.out]; rfl)
      refine (HO.out _ _ B).mono ?_
      rintro e w5 ⟨rfl, t5⟩
      have hcv := str_of (img_bts (B.carry t5 (by simp)) 12 4 4 (by rw [HL.out]; omega) (by omega) (by omega))
      rw [H4.out] at hcv
      have TT := Lib.hid (((T3.out.alloc _).trans (touch_setCells (b := w3.heap.size) (byt L).toArray.toList 0 (w3.alloc (.cells #[.int .u8 0, .int .u8 0, .int .u8 0, .int .u8 0, .int .u8 0, .int .u8 0, .int .u8 0, .int .u8 0, .int .u8 0, .int .u8 0, .int .u8 0, .int .u8 0, .int .u8 0, .int .u8 0, .int .u8 0, .int .u8 0] 88))) (by intro q hq; right; have := T3.out.size; simp at hq; omega)).trans t5 (by simp))
      clear B t5
      go_wp2_with fail
      go_ret
      exact ⟨rfl, TT.out⟩
    · rw [if_neg (by decide)]
      have HL := Lib.hid hl16
      have H6 := Lib.hid (show (L.drop 0).take 16 = L by rw [List.drop_zero, List.take_of_length_le (by omega)])
      have HO := Lib.hid (fun (w : World) (b : Nat) (h : BoxV w b imgT (byt L).toArray) => own6 h)
      clear h4 hr hC hl16
      go_enter Try.func18, Try.ntmps18
      go_wp2_with fail
      refine (R.out _).mono ?_
      rintro e w2 ⟨rfl, t⟩
      have T := Lib.hid (T0.out.trans t (by simp))
      have X := X0.out.carry t (by simp)
      have c0 := X.cell 0
      have c1 := X.cell 1
      have lt0 := X.lt
      clear t X
      go_wp2_with fail
      refine (SP.out _).mono ?_
      rintro e w3 ⟨rfl, t3⟩
      clear c0 c1 lt0
      have T3 := Lib.hid (T.out.trans t3 (by simp))
      clear t3
      go_wp2_with (refine wpList_store_mid rfl 88 (.tmp 5) (.tmp 11) rfl w3.heap.size 0 (byt L).toArray rfl rfl (HTh.out w3) HZ.out HC.out ?_)
      have B := (BoxV.new w3 88 #[.int .u8 0, .int .u8 0, .int .u8 0, .int .u8 0, .int .u8 0, .int .u8 0, .int .u8 0, .int .u8 0, .int .u8 0, .int .u8 0, .int .u8 0, .int .u8 0, .int .u8 0, .int .u8 0, .int .u8 0, .int .u8 0]).whole (byt L).toArray (by rw [HCs.out]; rfl)
      refine (HO.out _ _ B).mono ?_
      rintro e w5 ⟨rfl, t5⟩
      have hcv := str_of (img_bts (B.carry t5 (by simp)) 0 16 16 (by rw [HL.out]; omega) (by omega) (by omega))
      rw [H6.out] at hcv
      have TT := Lib.hid (((T3.out.alloc _).trans (touch_setCells (b := w3.heap.size) (byt L).toArray.toList 0 (w3.alloc (.cells #[.int .u8 0, .int .u8 0, .int .u8 0, .int .u8 0, .int .u8 0, .int .u8 0, .int .u8 0, .int .u8 0, .int .u8 0, .int .u8 0, .int .u8 0, .int .u8 0, .int .u8 0, .int .u8 0, .int .u8 0, .int .u8 0] 88))) (by intro q hq; right; have := T3.out.size; simp at hq; omega)).trans t5 (by simp))
      clear B t5
      go_wp2_with fail
      go_ret
      exact ⟨rfl, TT.out⟩
end Go.Proofs.Ytonchibngcoefaa
