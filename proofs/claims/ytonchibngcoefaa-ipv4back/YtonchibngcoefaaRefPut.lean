/-
  Strings of bytes; the reference's PutNum and PutVar (layer 9).
-/
import Derived.Test.YtonchibngcoefaaPutVar
import Derived.Deep.RegionWith
import Derived.Deep.RegionHeld3
namespace Go.Proofs.Ytonchibngcoefaa
open Go.ChangeShapes Go.WideShapes Go.ChangeAt Go.RowKit Go.Deep
set_option linter.unusedVariables false

/-- A string by its bytes. -/
def S (l : List UInt8) : ByteArray := ⟨l.toArray⟩
theorem S_size (l : List UInt8) : (S l).size = l.length := by show l.toArray.size = _; simp
theorem S_nil : (⟨#[]⟩ : ByteArray) = S [] := rfl
theorem bytes_loop (bs : ByteArray) (i : Nat) (r : List UInt8) : ByteArray.toList.loop bs i r = r.reverse ++ bs.data.toList.drop i := by
  unfold ByteArray.toList.loop
  split
  · rename_i h
    rw [bytes_loop bs (i + 1)]
    have hs : i < bs.data.toList.length := by simpa using h
    rw [List.drop_eq_getElem_cons hs]
    simp [ByteArray.get!]
    have hd : i < bs.data.size := h
    rw [getElem!_pos bs.data i hd]
  · rename_i h
    rw [List.drop_eq_nil_of_le (by simpa using h)]
    simp
termination_by bs.size - i
theorem bytes_toList (bs : ByteArray) : bs.toList = bs.data.toList := by
  unfold ByteArray.toList
  rw [bytes_loop]
  simp
theorem S_toList (l : List UInt8) : (S l).toList = l := by rw [bytes_toList]; unfold S; simp
theorem add_str (l m : List UInt8) (h : l.length + m.length ≤ 9223372036854775807) (w : World) : (Op.stringOp .add (S l) (S m)).run Try.prog w = .ok (.string (S (l ++ m))) w := by
  rw [run_string_add_sum w _ _ (by rw [S_size, S_size]; exact h)]
  unfold S
  rw [ByteArray.mk_append_mk]
theorem str_of {w : World} {v : Value} {l : List UInt8} (h : Bts w v l) : (convert 63 9 v).run Try.prog w = .ok (.string (S l)) w := by
  obtain ⟨A, c, rfl, _, _, h3, h4⟩ := h
  cases A with
  | none =>
    obtain rfl := h3 rfl
    rw [run_convert_bytes_string w 63 9 5 none _ c Try.underlying63 Try.underlying5 Try.underlying9]
    rfl
  | some a =>
    exact run_convert_bytes_back w 63 9 5 a c l Try.underlying63 Try.underlying5 Try.underlying9 (fun j hj => h4 a rfl j _ (by simp [byt, hj]))

theorem litStr (x : Int) (x8 : UInt8) (hx : x = (x8.toNat : Int)) (w : World) : Bts (w.alloc (.cells #[.int .u8 x] 5)) (.slice (some ⟨w.heap.size, 0, none⟩) 1 1) [x8] := by
  subst hx
  exact Bts.lit w x8

set_option maxHeartbeats 1000000 in
set_option maxRecDepth 100000 in
theorem refPutNum (n : Nat) : n ≤ 100 → ∀ (x : Nat), x < 18446744073709551616 → ∀ (w : World),
    Calls Try.prog 54 #[.int .u64 (x : Int), .int .i64 (n : Int)] w fun e w' => e = .returned (.string (S (be x n))) ∧ Touch [] w w' := by
  induction n with
  | zero =>
    intro hn x hx w
    go_enter Try.func54, Try.ntmps54
    go_wp2_with fail
    go_ret
    exact ⟨rfl, Touch.refl _ _⟩
  | succ n ih =>
    intro hn x hx w
    have IH := Lib.hid (fun w => ih (by omega) (x / 256) (by omega) w)
    clear ih
    rw [show ((x / 256 : Nat) : Int) = (x : Int) / 256 by omega] at IH
    have hlit := Lib.hid (litStr ((x : Int) % 256) (UInt8.ofNat x) (by rw [u8_nat]; omega))
    have hcv : ∀ w : World, (convert 63 9 (.slice (some ⟨w.heap.size, 0, none⟩) 1 1)).run Try.prog (w.alloc (.cells #[.int .u8 ((x : Int) % 256)] 5)) = .ok (.string (S [UInt8.ofNat x])) (w.alloc (.cells #[.int .u8 ((x : Int) % 256)] 5)) := fun w => str_of (hlit.out w)
    have hcd : ∀ w : World, (convert 63 9 (.slice (some ⟨w.heap.size, 0, none⟩) 1 1)).run Try.prog (w.alloc (.cells #[.int .u8 ((x : Int) % 256)] 5)).drew = .ok (.string (S [UInt8.ofNat x])) (w.alloc (.cells #[.int .u8 ((x : Int) % 256)] 5)).drew := fun w => str_of (w := (w.alloc (.cells #[.int .u8 ((x : Int) % 256)] 5)).drew) (hlit.out w)
    have hadd : ∀ w, (Op.stringOp .add (S (be (x / 256) n)) (S [UInt8.ofNat x])).run Try.prog w = .ok (.string (S (be (x / 256) n ++ [UInt8.ofNat x]))) w := fun w => add_str _ _ (by rw [be_length]; simp; omega) w
    rw [be_next]
    generalize be (x / 256) n = B at *
    generalize UInt8.ofNat x = x8 at *
    have f1 : IntKind.u64.wrap ((x : Int) / 256) = (x : Int) / 256 := by rw [IntKind.wrap_u64]; omega
    have f2 : IntKind.i64.wrap (n : Int) = (n : Int) := by rw [IntKind.wrap_i64]; omega
    have f3 : IntKind.u64.wrap ((x : Int) % 256) = (x : Int) % 256 := by rw [IntKind.wrap_u64]; omega
    have f4 : IntKind.u8.wrap ((x : Int) % 256) = (x : Int) % 256 := by rw [IntKind.wrap_u8]; omega
    have f5 : IntKind.u8.wrap ((x : Int).tmod 256) = (x : Int) % 256 := by rw [IntKind.wrap_u8, Int.tmod_eq_emod_of_nonneg (by omega)]; omega
    have n0 : ((n : Int) + 1 == 0) = false := by simp; omega
    go_enter Try.func54, Try.ntmps54
    go_wp2_with fail
    go_region_with (go_at_call 54; first | rw [f1, f2] | skip; refine (IH.out _).mono ?_; rintro e w1 ⟨rfl, t1⟩; try have hcv1 := str_of (Bts.carry (w := (w.alloc (.cells #[.int .u8 ((x : Int) % 256)] 5)).drew) (hlit.out w) t1 (by simp)))
    all_goals
      go_wp2_with fail
      go_ret
    all_goals first | exact ⟨rfl, ((Touch.refl [] w).drew.trans t1 (by simp)).alloc _⟩ | exact ⟨rfl, ((Touch.refl [] w).alloc _).drew.trans t1 (by simp)⟩
end Go.Proofs.Ytonchibngcoefaa
