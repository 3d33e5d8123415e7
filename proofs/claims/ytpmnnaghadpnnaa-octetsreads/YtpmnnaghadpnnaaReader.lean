/-
  octets' Reader (layer 9): Left, Need, Take and the numbers of fixed length.
-/
import Derived.Test.YtpmnnaghadpnnaaTry
namespace Go.Proofs.Ytpmnnaghadpnnaa
open Go.ChangeShapes Go.WideShapes Go.ChangeAt Go.RowKit Go.Deep
set_option linter.unusedVariables false

/-- A reader at p, with l before it. -/
abbrev At (w : World) (p : Nat) (l : List UInt8) : Prop := Box1 w p 46 (.string (S l))
/-- It returned v, with l before it. -/
def Reads (p : Nat) (w : World) (v : Value) (l : List UInt8) (e : Ending) (w' : World) : Prop := e = .returned v ∧ At w' p l ∧ Touch [p] w w'
/-- It failed with k. -/
def Fails (p : Nat) (w : World) (k : Int) (e : Ending) (w' : World) : Prop := e = .panicked [{ v := failV p k, recovered := false }] ∧ Touch [p] w w'

theorem S_take (l : List UInt8) (n : Nat) : (S l).extract 0 n = S (l.take n) := by
  unfold S
  rw [ByteArray.extract_mk]
  simp
theorem S_drop (l : List UInt8) (n : Nat) : (S l).extract n l.length = S (l.drop n) := by
  unfold S
  rw [ByteArray.extract_mk]
  simp
  exact List.take_of_length_le (by simp)

theorem need_yes (p : Value) (k : Int) (w : World) : Calls Try.prog 23 #[p, .bool true, .int .i64 k] w fun e w' => e = .returned (.tuple #[]) ∧ w' = w := by
  go_enter Try.func23, Try.ntmps23
  go_wp2
  first | go_end0 | refine bodyPost_ret (results_none rfl _ _ _) rfl ?_
  exact ⟨rfl, rfl⟩
theorem need_no (p : Nat) (k : Int) (hk : k ≠ 0) (w : World) : Calls Try.prog 23 #[.pointer (some ⟨p, 0, none⟩), .bool false, .int .i64 k] w fun e w' => e = .panicked [{ v := failV p k, recovered := false }] ∧ w' = w := by
  have b1 : (k == 0) = false := by simpa using hk
  have hpn : ∀ w, (Instr.panic (.iface 48 (.agg #[.pointer (some ⟨p, 0, none⟩), .int .i64 k]))).run Try.prog w = .halt (.panic (.iface 48 (.agg #[.pointer (some ⟨p, 0, none⟩), .int .i64 k]))) w := fun w => by kernel_rfl
  go_enter Try.func23, Try.ntmps23
  go_wp2
  exact ⟨rfl, rfl, rfl⟩

section
variable {w : World} {p : Nat} {l : List UInt8}
theorem left_any (h : At w p l) : Calls Try.prog 8 #[.pointer (some ⟨p, 0, none⟩)] w fun e w' => e = .returned (.int .i64 (l.length : Int)) ∧ w' = w := by
  have c0 := h.c0
  have lt := h.lt
  have hs := S_size l
  clear h
  go_enter Try.func8, Try.ntmps8
  go_wp2
  go_ret
  exact ⟨rfl, rfl⟩
set_option maxRecDepth 100000 in
theorem take_ok (h : At w p l) (n : Nat) (hn : n ≤ l.length) (hl : l.length ≤ 1000000000) : Calls Try.prog 21 #[.pointer (some ⟨p, 0, none⟩), .int .i64 (n : Int)] w (Reads p w (.string (S (l.take n))) (l.drop n)) := by
  have c0 := h.c0
  have f0 := h.fr 0
  have lt := h.lt
  have hs := S_size l
  have e1 := S_take l n
  have e2 := S_drop l n
  have N := Lib.hid (need_yes)
  have L := Lib.hid (left_any h)
  have H := Lib.hid h
  clear h
  have g0 : (0 : Int) ≤ (n : Int) := by omega
  have g1 : (n : Int) ≤ (l.length : Int) := by omega
  go_enter Try.func21, Try.ntmps21
  go_wp2_with fail
  refine (N.out _ _ _).mono ?_
  rintro e w1 ⟨rfl, rfl⟩
  go_wp2_with fail
  refine (L.out).mono ?_
  rintro e w2 ⟨rfl, rfl⟩
  go_wp2_with fail
  refine (N.out _ _ _).mono ?_
  rintro e w3 ⟨rfl, rfl⟩
  go_wp2_with fail
  go_ret
  exact ⟨rfl, H.out.set0 _, (Touch.refl _ _).setCell (Or.inl (by simp)) _⟩
set_option maxRecDepth 100000 in
theorem take_short (h : At w p l) (n : Nat) (hn : l.length < n) (hl : l.length ≤ 1000000000) : Calls Try.prog 21 #[.pointer (some ⟨p, 0, none⟩), .int .i64 (n : Int)] w (Fails p w 5) := by
  have N := Lib.hid (need_yes)
  have M := Lib.hid (need_no p 5 (by decide))
  have L := Lib.hid (left_any h)
  clear h
  have g0 : (0 : Int) ≤ (n : Int) := by omega
  have g1 : decide (n ≤ l.length) = false := by simp; omega
  go_enter Try.func21, Try.ntmps21
  go_wp2_with fail
  refine (N.out _ _ _).mono ?_
  rintro e w1 ⟨rfl, rfl⟩
  go_wp2_with fail
  refine (L.out).mono ?_
  rintro e w2 ⟨rfl, rfl⟩
  go_wp2_with fail
  refine (M.out _).mono ?_
  rintro e w3 ⟨rfl, rfl⟩
  exact ⟨rfl, rfl, Touch.refl _ _⟩
set_option maxRecDepth 100000 in
theorem take_neg (p : Nat) (n : Int) (hn : n < 0) : Calls Try.prog 21 #[.pointer (some ⟨p, 0, none⟩), .int .i64 n] w (Fails p w 2) := by
  have M := Lib.hid (need_no p 2 (by decide))
  have g1 : ¬ (0 ≤ n) := by omega
  go_enter Try.func21, Try.ntmps21
  go_wp2_with fail
  refine (M.out _).mono ?_
  rintro e w3 ⟨rfl, rfl⟩
  exact ⟨rfl, rfl, Touch.refl _ _⟩
theorem u8_ok {b : UInt8} (h : At w p (b :: l)) (hl : l.length < 1000000000) : Calls Try.prog 15 #[.pointer (some ⟨p, 0, none⟩)] w (Reads p w (.int .i64 (b.toNat : Int)) l) := by
  have T := Lib.hid (take_ok h 1 (by simp) (by simp; omega))
  have hi : (S (List.take 1 (b :: l))).size = 1 := by rw [S_size]; simp
  have hx : ∀ w, (Instr.index 9 (.string (S (List.take 1 (b :: l)))) (.int .i64 0)).run Try.prog w = .ok (.int .u8 (b.toNat : Int)) w := fun w => by
    simp [S, Instr.index, run_underlying Try.underlying9, asIntOf]
    rw [show (⟨#[b]⟩ : ByteArray)[0]? = some b from rfl]
    rfl
  have hw : wrap64 (b.toNat : Int) = (b.toNat : Int) := by have := b.toNat_lt; unfold wrap64; omega
  clear h
  generalize S (List.take 1 (b :: l)) = s1 at *
  simp only [List.drop_succ_cons, List.drop_zero] at T
  go_enter Try.func15, Try.ntmps15
  go_wp2_with fail
  refine (T.out).mono ?_
  rintro e w1 ⟨rfl, a1, t1⟩
  have F := Lib.hid (And.intro a1 t1)
  clear a1 t1
  go_wp2_with fail
  go_ret
  exact ⟨ret_int hw, F.out⟩
theorem u8_short (h : At w p []) : Calls Try.prog 15 #[.pointer (some ⟨p, 0, none⟩)] w (Fails p w 5) := by
  have T := Lib.hid (take_short h 1 (by simp) (by simp))
  go_enter Try.func15, Try.ntmps15
  go_wp2_with fail
  refine (T.out).mono ?_
  rintro e w1 ⟨rfl, t1⟩
  exact ⟨rfl, rfl, t1⟩
end
end Go.Proofs.Ytpmnnaghadpnnaa
