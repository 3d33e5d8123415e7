/-
  octets' PutFloat and PutBool and the reference's (layer 9); the laws' example; bytes that came in.
-/
import Derived.Test.YtpmnnaghadpnnaaReader2
import Derived.Test.YtpmnnaghadpnnaaRefPut2
import Derived.Test.YtpmnnaghadpnnaaReply
import Derived.Test.YtpmnnaghadpnnaaShare
import Derived.Test.YtpmnnaghadpnnaaInts
namespace Go.Proofs.Ytpmnnaghadpnnaa
open Go.ChangeShapes Go.WideShapes Go.ChangeAt Go.RowKit Go.Deep
set_option linter.unusedVariables false
set_option linter.unusedSimpArgs false

/-- The bits that are written of a float. -/
def fltN (x : Nat) : Nat := if 9218868437227405312 < rung x then 9221120237041090560 else x
theorem fltN_lt (x : Nat) (h : x < 18446744073709551616) : fltN x < 18446744073709551616 := by unfold fltN; split <;> omega

def bitB (c : Bool) : List UInt8 := if c then [1] else [0]
theorem lives09f {w : World} {p : Nat} (h : At w p [120]) : Calls Try.prog 11 #[.pointer (some ⟨p, 0, none⟩)] w (Fails p w 5) := by
  have U := Lib.hid (u16_any h (by decide))
  go_enter Try.func11, Try.ntmps11
  go_wp2_with fail
  refine (U.out).mono ?_
  intro e w1 hh
  obtain ⟨rfl, t1⟩ := hh.2 (by decide)
  go_wp2_with fail
  exact ⟨rfl, rfl, t1⟩
theorem entL1 (args : Array Value) (w : World) : (callFunc 11 args).run Try.prog w = .ok (.enter 11 args) w := by
  simp [callFunc, Try.func11]
  rfl
theorem tryAt (w : World) (l : List UInt8) : At (tryW w (S l)) (w.heap.size + 1) l := by
  have := (Box1.new (w.alloc (.cells #[.int .i64 0] 26)) 46 (.string (S l))).carry ((Touch.refl [] _).alloc (.cells #[.pointer (some ⟨w.heap.size + 1, 0, none⟩)] 28)) (by simp)
  rwa [show (w.alloc (.cells #[.int .i64 0] 26)).heap.size = w.heap.size + 1 by simp] at this
set_option maxRecDepth 100000 in
theorem lives09 (w : World) : Calls Try.prog 4 #[] w fun e w' => e = .returned (.bool true) ∧ Touch [] w w' := by
  have hmf : ∀ (fn : Fn) (first cap : Array Value) (w : World), (Instr.makeFunc fn first cap).run Try.prog w = .ok (.func fn first cap) w := fun _ _ _ _ => rfl
  have key := try_any (s := S [120]) (k := 11) (cap := #[]) (w := w) (S := [w.heap.size + 1]) (Q := fun er _ => er = 5) (by simp) entL1 (by
    refine (lives09f (tryAt w [120])).mono ?_
    rintro e w' ⟨rfl, t⟩
    exact ⟨t, Or.inr ⟨5, rfl, rfl⟩⟩)
  have K := Lib.hid key
  rw [show S [120] = (⟨#[120]⟩ : ByteArray) from rfl] at K
  have P := Lib.hid (fun w => putVar_any (Bts.nil w) (-3) (by decide) (by simp))
  rw [show [] ++ varB (zz (-3)) = [5] by rw [show zz (-3) = 5 from rfl, varB_small (by omega)]; rfl] at P
  have e5 : ((S [5]).toList == [5]) = true := by rw [S_toList]; rfl
  clear key
  go_enter Try.func4, Try.ntmps4
  go_wp2_with fail
  refine (K.out).mono ?_
  rintro e w2 ⟨er, w1, rfl, rfl, t1, t2⟩
  have T2 := Lib.hid ((t1.mono (S' := []) (by simp)).trans t2 (by simp))
  clear t1 t2
  go_wp2_with fail
  refine (P.out _).mono ?_
  intro e w3 hf
  obtain ⟨A3, n3, c3, rfl, b3, t3⟩ := fresh_bts hf
  have hcv := str_of b3
  have T3 := Lib.hid (T2.out.trans t3 (by simp))
  clear b3 t3 hf
  go_wp2_with fail
  go_ret
  exact ⟨rfl, T3.out⟩

set_option maxRecDepth 100000 in
/-- Bytes that came in. -/
theorem bts_in {W : World} {base : Nat} {H : Type} {enc : TypeId × Value → H} {v : Value} {d : DataW H} {p : List MemPlace}
    (hv : Value.okWide Try.prog W .any base 43 v) (h : DataW.Trod enc Try.prog W 0 (fun _ => true) true 43 v d p) : ∃ l, Bts W v l := by
  obtain ⟨A, len, cap, X, rfl, hl, hm, hX, hF⟩ := num_cells (k := .u8) Try.underlying43 Try.underlying5 (by kernel_rfl) hv h
  refine ⟨(List.range len).map fun i => UInt8.ofNat (X i).toNat, A, cap, by simp, by simpa using hl, by simpa [maxLen] using hm, fun e => ?_, fun ad ha j u hu => ?_⟩
  · cases len with
    | zero => rfl
    | succ k =>
      obtain ⟨b, off, hA, _⟩ := hX 0 (by omega)
      rw [hA] at e
      cases e
  · have hj : j < len := by
      have := (List.getElem?_eq_some_iff.1 hu).1
      simpa [byt_length] using this
    obtain ⟨b, off, hA, hb, hc⟩ := hX j hj
    obtain rfl : ⟨b, off, none⟩ = ad := by rw [hA] at ha; simpa using ha
    have h8 := u8_in (hF j hj)
    rw [show (⟨b, off, none⟩ : Addr).add j = ⟨b, off + j, none⟩ by unfold Addr.add; split <;> simp_all, hc, ← hu]
    have e1 : ((X j).toNat % 256 : Nat) = (X j).toNat := by omega
    simp [byt, hj]
    omega
end Go.Proofs.Ytpmnnaghadpnnaa
