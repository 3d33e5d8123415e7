/-
  Strings of bytes; the reference's PutNum and PutVar (layer 9).
-/
import Derived.Test.YtpmnnaghadpnnaaPutVar
import Derived.Deep.RegionWith
import Derived.Deep.RegionHeld3
namespace Go.Proofs.Ytpmnnaghadpnnaa
open Go.ChangeShapes Go.WideShapes Go.ChangeAt Go.RowKit Go.Deep
set_option linter.unusedVariables false

/-- A string by its bytes. -/
def S (l : List UInt8) : ByteArray := ⟨l.toArray⟩
theorem S_size (l : List UInt8) : (S l).size = l.length := by show l.toArray.size = _; simp
theorem S_nil : (⟨#[]⟩ : ByteArray) = S [] := rfl
theorem bytes_loop (bs : ByteArray) (i : Nat) (r : List UInt8) : ByteArray.toList.loop bs i r = r.reverse ++ bs.data.toList.drop i := by
  unfold ByteArray.toList.loop
  split
  · rename_i h
    rw [bytes_loop bs (i + 1)]
    have hs : i < bs.data.toList.length := by simpa using h
    rw [List.drop_eq_getElem_cons hs]
    simp [ByteArray.get!]
    have hd : i < bs.data.size := h
    rw [getElem!_pos bs.data i hd]
  · rename_i h
    rw [List.drop_eq_nil_of_le (by simpa using h)]
    simp
termination_by bs.size - i
theorem bytes_toList (bs : ByteArray) : bs.toList = bs.data.toList := by
  unfold ByteArray.toList
  rw [bytes_loop]
  simp
theorem S_toList (l : List UInt8) : (S l).toList = l := by rw [bytes_toList]; unfold S; simp
theorem add_str (l m : List UInt8) (h : l.length + m.length ≤ 9223372036854775807) (w : World) : (Op.stringOp .add (S l) (S m)).run Try.prog w = .ok (.string (S (l ++ m))) w := by
  rw [run_string_add_sum w _ _ (by rw [S_size, S_size]; exact h)]
  unfold S
  rw [ByteArray.mk_append_mk]
theorem str_of {w : World} {v : Value} {l : List UInt8} (h : Bts w v l) : (convert 43 9 v).run Try.prog w = .ok (.string (S l)) w := by
  obtain ⟨A, c, rfl, _, _, h3, h4⟩ := h
  cases A with
  | none =>
    obtain rfl := h3 rfl
    rw [run_convert_bytes_string w 43 9 5 none _ c Try.underlying43 Try.underlying5 Try.underlying9]
    rfl
  | some a =>
    exact run_convert_bytes_back w 43 9 5 a c l Try.underlying43 Try.underlying5 Try.underlying9 (fun j hj => h4 a rfl j _ (by simp [byt, hj]))

theorem litStr (x : Int) (x8 : UInt8) (hx : x = (x8.toNat : Int)) (w : World) : Bts (w.alloc (.cells #[.int .u8 x] 5)) (.slice (some ⟨w.heap.size, 0, none⟩) 1 1) [x8] := by
  subst hx
  exact Bts.lit w x8

end Go.Proofs.Ytpmnnaghadpnnaa
