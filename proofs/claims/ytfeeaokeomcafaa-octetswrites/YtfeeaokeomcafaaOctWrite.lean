/-
  octets' PutFloat and PutBool and the reference's (layer 9); the laws' example; bytes that came in.
-/
import Derived.Test.YtfeeaokeomcafaaReader2
import Derived.Test.YtfeeaokeomcafaaRefPut2
import Derived.Test.YtfeeaokeomcafaaReply
import Derived.Test.YtfeeaokeomcafaaShare
import Derived.Test.YtfeeaokeomcafaaInts
namespace Go.Proofs.Ytfeeaokeomcafaa
open Go.ChangeShapes Go.WideShapes Go.ChangeAt Go.RowKit Go.Deep
set_option linter.unusedVariables false
set_option linter.unusedSimpArgs false

/-- The bits that are written of a float. -/
def fltN (x : Nat) : Nat := if 9218868437227405312 < rung x then 9221120237041090560 else x
theorem fltN_lt (x : Nat) (h : x < 18446744073709551616) : fltN x < 18446744073709551616 := by unfold fltN; split <;> omega

theorem putFloat_any {w : World} {v : Value} {b : List UInt8} (hb : Bts w v b) (x : Nat) (hx : x < 18446744073709551616) (hl : b.length ≤ 10000000) :
    Calls Try.prog 28 #[v, .float .f64 x] w (Fresh w (b ++ be (fltN x) 8)) := by
  have hfb := fun w => float_bits x w
  unfold fltN
  by_cases hn : isN x
  · rw [if_pos (show 9218868437227405312 < rung x from hn)]
    have C := Lib.hid (fun w => isNaN_yes x hn w)
    have H := Lib.hid (putU64_any hb 9221120237041090560 (by omega) hl)
    rw [show ((9221120237041090560 : Nat) : Int) = 9221120237041090560 from rfl] at H
    obtain ⟨A0, c0, rfl, _, _, _, _⟩ := hb
    go_enter Try.func28, Try.ntmps28
    go_wp2_with fail
    refine (C.out _).mono ?_
    rintro e w ⟨rfl, rfl⟩
    go_wp2_with fail
    refine (H.out).mono ?_
    rintro e w1 ⟨v1, rfl, hown, ht1⟩
    go_wp2_with fail
    go_ret
    exact ⟨_, rfl, hown, ht1⟩
  · rw [if_neg (show ¬ 9218868437227405312 < rung x from hn)]
    have C := Lib.hid (fun w => isNaN_no x hn w)
    have H := Lib.hid (putU64_any hb x hx hl)
    obtain ⟨A0, c0, rfl, _, _, _, _⟩ := hb
    go_enter Try.func28, Try.ntmps28
    go_wp2_with fail
    refine (C.out _).mono ?_
    rintro e w ⟨rfl, rfl⟩
    go_wp2_with fail
    refine (H.out).mono ?_
    rintro e w1 ⟨v1, rfl, hown, ht1⟩
    go_wp2_with fail
    go_ret
    exact ⟨_, rfl, hown, ht1⟩

theorem refPutFloat (x : Nat) (hx : x < 18446744073709551616) (w : World) :
    Calls Try.prog 29 #[.float .f64 x] w fun e w' => e = .returned (.string (S (be (fltN x) 8))) ∧ Touch [] w w' := by
  have hfb := fun w => float_bits x w
  unfold fltN
  by_cases hn : isN x
  · rw [if_pos (show 9218868437227405312 < rung x from hn)]
    have ho := order_self_nan x hn
    have H := Lib.hid (fun w => refPutNum 8 (by omega) 9221120237041090560 (by omega) w)
    rw [show ((9221120237041090560 : Nat) : Int) = 9221120237041090560 from rfl, show ((8 : Nat) : Int) = 8 from rfl] at H
    go_enter Try.func29, Try.ntmps29
    go_wp2_with fail
    refine (H.out _).mono ?_
    rintro e w1 ⟨rfl, t1⟩
    go_wp2_with fail
    go_ret
    exact ⟨rfl, t1⟩
  · rw [if_neg (show ¬ 9218868437227405312 < rung x from hn)]
    have ho := order_self x hn
    have H := Lib.hid (fun w => refPutNum 8 (by omega) x hx w)
    rw [show ((8 : Nat) : Int) = 8 from rfl] at H
    go_enter Try.func29, Try.ntmps29
    go_wp2_with fail
    refine (H.out _).mono ?_
    rintro e w1 ⟨rfl, t1⟩
    go_wp2_with fail
    go_ret
    exact ⟨rfl, t1⟩

def bitB (c : Bool) : List UInt8 := if c then [1] else [0]
theorem putBool_any {w : World} {v : Value} {b : List UInt8} (hb : Bts w v b) (c : Bool) (hl : b.length ≤ 10000000) :
    Calls Try.prog 30 #[v, .bool c] w (Fresh w (b ++ bitB c)) := by
  cases c
  · have H := Lib.hid (put_bytes hb 0 1 (by omega) (by omega) hl)
    obtain ⟨A0, c0, rfl, _, _, _, _⟩ := hb
    go_enter Try.func30, Try.ntmps30
    go_wp2_with fail
    refine (H.out).mono ?_
    rintro e w1 ⟨v1, rfl, hown, ht1⟩
    go_wp2_with fail
    go_ret
    exact ⟨_, rfl, hown, ht1⟩
  · have H := Lib.hid (put_bytes hb 1 1 (by omega) (by omega) hl)
    obtain ⟨A0, c0, rfl, _, _, _, _⟩ := hb
    go_enter Try.func30, Try.ntmps30
    go_wp2_with fail
    refine (H.out).mono ?_
    rintro e w1 ⟨v1, rfl, hown, ht1⟩
    go_wp2_with fail
    go_ret
    exact ⟨_, rfl, hown, ht1⟩
theorem refPutBool (c : Bool) (w : World) : Calls Try.prog 31 #[.bool c] w fun e w' => e = .returned (.string (S (bitB c))) ∧ w' = w := by
  cases c
  · go_enter Try.func31, Try.ntmps31
    go_wp2
    go_ret
    exact ⟨rfl, rfl⟩
  · go_enter Try.func31, Try.ntmps31
    go_wp2
    go_ret
    exact ⟨rfl, rfl⟩

theorem lives09f {w : World} {p : Nat} (h : At w p [120]) : Calls Try.prog 65 #[.pointer (some ⟨p, 0, none⟩)] w (Fails p w 5) := by
  have U := Lib.hid (u16_any h (by decide))
  go_enter Try.func65, Try.ntmps65
  go_wp2_with fail
  refine (U.out).mono ?_
  intro e w1 hh
  obtain ⟨rfl, t1⟩ := hh.2 (by decide)
  go_wp2_with fail
  exact ⟨rfl, rfl, t1⟩
theorem entL1 (args : Array Value) (w : World) : (callFunc 65 args).run Try.prog w = .ok (.enter 65 args) w := by
  simp [callFunc, Try.func65]
  rfl
theorem tryAt (w : World) (l : List UInt8) : At (tryW w (S l)) (w.heap.size + 1) l := by
  have := (Box1.new (w.alloc (.cells #[.int .i64 0] 26)) 102 (.string (S l))).carry ((Touch.refl [] _).alloc (.cells #[.pointer (some ⟨w.heap.size + 1, 0, none⟩)] 28)) (by simp)
  rwa [show (w.alloc (.cells #[.int .i64 0] 26)).heap.size = w.heap.size + 1 by simp] at this
set_option maxRecDepth 100000 in
theorem lives09 (w : World) : Calls Try.prog 14 #[] w fun e w' => e = .returned (.bool true) ∧ Touch [] w w' := by
  have hmf : ∀ (fn : Fn) (first cap : Array Value) (w : World), (Instr.makeFunc fn first cap).run Try.prog w = .ok (.func fn first cap) w := fun _ _ _ _ => rfl
  have key := try_any (s := S [120]) (k := 65) (cap := #[]) (w := w) (S := [w.heap.size + 1]) (Q := fun er _ => er = 5) (by simp) entL1 (by
    refine (lives09f (tryAt w [120])).mono ?_
    rintro e w' ⟨rfl, t⟩
    exact ⟨t, Or.inr ⟨5, rfl, rfl⟩⟩)
  have K := Lib.hid key
  rw [show S [120] = (⟨#[120]⟩ : ByteArray) from rfl] at K
  have P := Lib.hid (fun w => putVar_any (Bts.nil w) (-3) (by decide) (by simp))
  rw [show [] ++ varB (zz (-3)) = [5] by rw [show zz (-3) = 5 from rfl, varB_small (by omega)]; rfl] at P
  have e5 : ((S [5]).toList == [5]) = true := by rw [S_toList]; rfl
  clear key
  go_enter Try.func14, Try.ntmps14
  go_wp2_with fail
  refine (K.out).mono ?_
  rintro e w2 ⟨er, w1, rfl, rfl, t1, t2⟩
  have T2 := Lib.hid ((t1.mono (S' := []) (by simp)).trans t2 (by simp))
  clear t1 t2
  go_wp2_with fail
  refine (P.out _).mono ?_
  intro e w3 hf
  obtain ⟨A3, n3, c3, rfl, b3, t3⟩ := fresh_bts hf
  have hcv := str_of b3
  have T3 := Lib.hid (T2.out.trans t3 (by simp))
  clear b3 t3 hf
  go_wp2_with fail
  go_ret
  exact ⟨rfl, T3.out⟩

set_option maxRecDepth 100000 in
/-- Bytes that came in. -/
theorem bts_in {W : World} {base : Nat} {H : Type} {enc : TypeId × Value → H} {v : Value} {d : DataW H} {p : List MemPlace}
    (hv : Value.okWide Try.prog W .any base 43 v) (h : DataW.Trod enc Try.prog W 0 (fun _ => true) true 43 v d p) : ∃ l, Bts W v l := by
  obtain ⟨A, len, cap, X, rfl, hl, hm, hX, hF⟩ := num_cells (k := .u8) Try.underlying43 Try.underlying5 (by kernel_rfl) hv h
  refine ⟨(List.range len).map fun i => UInt8.ofNat (X i).toNat, A, cap, by simp, by simpa using hl, by simpa [maxLen] using hm, fun e => ?_, fun ad ha j u hu => ?_⟩
  · cases len with
    | zero => rfl
    | succ k =>
      obtain ⟨b, off, hA, _⟩ := hX 0 (by omega)
      rw [hA] at e
      cases e
  · have hj : j < len := by
      have := (List.getElem?_eq_some_iff.1 hu).1
      simpa [byt_length] using this
    obtain ⟨b, off, hA, hb, hc⟩ := hX j hj
    obtain rfl : ⟨b, off, none⟩ = ad := by rw [hA] at ha; simpa using ha
    have h8 := u8_in (hF j hj)
    rw [show (⟨b, off, none⟩ : Addr).add j = ⟨b, off + j, none⟩ by unfold Addr.add; split <;> simp_all, hc, ← hu]
    have e1 : ((X j).toNat % 256 : Nat) = (X j).toNat := by omega
    simp [byt, hj]
    omega
end Go.Proofs.Ytfeeaokeomcafaa
