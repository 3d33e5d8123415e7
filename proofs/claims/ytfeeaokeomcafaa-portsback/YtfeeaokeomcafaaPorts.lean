/-
  ports (layer 13): Least, Has, and the reading of a segment.
-/
import Derived.Test.YtfeeaokeomcafaaReader2
import Derived.Test.YtfeeaokeomcafaaCls
import Derived.Deep.DeepCutAuto
namespace Go.Proofs.Ytfeeaokeomcafaa
open Go.ChangeShapes Go.WideShapes Go.ChangeAt Go.RowKit Go.Deep
set_option linter.unusedVariables false

def leastV (x : Int) : Int := if x = 6 then 20 else if x = 17 then 8 else 0
theorem least_any (x : Int) (w : World) : Calls Try.prog 48 #[.int .i64 x] w fun e w' => e = .returned (.int .i64 (leastV x)) ∧ w' = w := by
  unfold leastV
  by_cases h6 : x = 6
  · subst h6
    go_enter Try.func48, Try.ntmps48
    go_wp2
    go_ret
    exact ⟨rfl, rfl⟩
  · by_cases h17 : x = 17
    · subst h17
      go_enter Try.func48, Try.ntmps48
      go_wp2
      go_ret
      exact ⟨rfl, rfl⟩
    · rw [if_neg h6, if_neg h17]
      have b6 : (x == 6) = false := by simpa using h6
      have b17 : (x == 17) = false := by simpa using h17
      go_enter Try.func48, Try.ntmps48
      go_wp2
      go_ret
      exact ⟨rfl, rfl⟩
theorem has_any (x : Int) (w : World) : Calls Try.prog 49 #[.int .i64 x] w fun e w' => e = .returned (.bool (decide (0 < leastV x))) ∧ w' = w := by
  have L := Lib.hid (least_any x w)
  go_enter Try.func49, Try.ntmps49
  go_wp2_with fail
  refine (L.out).mono ?_
  rintro e w1 ⟨rfl, rfl⟩
  go_wp2_with fail
  go_ret
  exact ⟨ret_bool (by first | rfl | simp), rfl⟩

section
variable {w : World} {p : Nat} {l : List UInt8}
set_option maxRecDepth 100000 in
theorem skip16 (h : At w p l) (n : Nat) (hn : n + 2 ≤ l.length) (hl : l.length ≤ 1000000000) :
    Calls Try.prog 92 #[.pointer (some ⟨p, 0, none⟩), .int .i64 (n : Int), .func (.func 66) #[] #[]] w (Reads p w (.int .i64 (num ((l.drop n).take 2) : Nat)) (l.drop (n + 2))) := by
  have T := Lib.hid (take_ok h n (by omega) hl)
  clear h
  go_enter Try.func92, Try.ntmps92
  go_wp2_with fail
  refine (T.out).mono ?_
  rintro e w1 ⟨rfl, a1, t1⟩
  have U := Lib.hid (u16_any a1 (by rw [List.length_drop]; omega))
  have T1 := Lib.hid t1
  clear a1 t1
  go_wp2_with fail
  refine (U.out).mono ?_
  intro e w2 hj
  obtain ⟨rfl, a2, t2⟩ := hj.1 (by rw [List.length_drop]; omega)
  rw [List.drop_drop] at a2
  have F := Lib.hid (And.intro a2 (T1.out.trans t2 (fun b hb => Or.inl hb)))
  clear a2 t2 hj
  go_wp2_with fail
  go_ret
  exact ⟨rfl, F.out⟩
set_option maxRecDepth 100000 in
theorem skip8 (h : At w p l) (n : Nat) (hn : n + 1 ≤ l.length) (hl : l.length ≤ 1000000000) :
    Calls Try.prog 92 #[.pointer (some ⟨p, 0, none⟩), .int .i64 (n : Int), .func (.func 68) #[] #[]] w (Reads p w (.int .i64 ((l[n]'(by omega)).toNat : Int)) (l.drop (n + 1))) := by
  have T := Lib.hid (take_ok h n (by omega) hl)
  clear h
  go_enter Try.func92, Try.ntmps92
  go_wp2_with fail
  refine (T.out).mono ?_
  rintro e w1 ⟨rfl, a1, t1⟩
  rw [List.drop_eq_getElem_cons (show n < l.length by omega)] at a1
  have U := Lib.hid (u8_ok a1 (by rw [List.length_drop]; omega))
  have T1 := Lib.hid t1
  clear a1 t1
  go_wp2_with fail
  refine (U.out).mono ?_
  rintro e w2 ⟨rfl, a2, t2⟩
  have F := Lib.hid (And.intro a2 (T1.out.trans t2 (fun b hb => Or.inl hb)))
  clear a2 t2
  go_wp2_with fail
  go_ret
  exact ⟨rfl, F.out⟩
set_option maxRecDepth 100000 in
theorem length_tcp (h : At w p l) (hn : 9 ≤ l.length) (hl : l.length ≤ 1000000000) :
    Calls Try.prog 93 #[.int .i64 6, .pointer (some ⟨p, 0, none⟩)] w (Reads p w (.tuple #[.int .i64 (((l[8]'(by omega)).toNat / 16 * 4 : Nat) : Int), .int .i64 23]) (l.drop 9)) := by
  have T := Lib.hid (skip8 h 8 hn hl)
  have hb := (l[8]'(by omega)).toNat_lt
  clear h
  generalize (l[8]'(by omega)).toNat = b at *
  go_enter Try.func93, Try.ntmps93
  go_wp2_with fail
  refine (T.out).mono ?_
  rintro e w1 ⟨rfl, a1, t1⟩
  have F := Lib.hid (And.intro a1 t1)
  clear a1 t1
  go_wp2_with fail
  go_ret2
  refine ⟨?_, F.out⟩
  rw [show ((b / 16 * 4 : Nat) : Int) = (b : Int) / 16 * 4 by omega]
  rfl
set_option maxRecDepth 100000 in
theorem length_udp (x : Int) (hx : x ≠ 6) (h : At w p l) (hn : 2 ≤ l.length) (hl : l.length ≤ 1000000000) :
    Calls Try.prog 93 #[.int .i64 x, .pointer (some ⟨p, 0, none⟩)] w (Reads p w (.tuple #[.int .i64 (num (l.take 2) : Nat), .int .i64 6]) (l.drop 2)) := by
  have T := Lib.hid (skip16 h 0 (by omega) hl)
  simp only [List.drop_zero, Nat.zero_add] at T
  have b6 : (x == 6) = false := by simpa using hx
  clear h
  go_enter Try.func93, Try.ntmps93
  go_wp2_with fail
  refine (T.out).mono ?_
  rintro e w1 ⟨rfl, a1, t1⟩
  have F := Lib.hid (And.intro a1 t1)
  clear a1 t1
  go_wp2_with fail
  go_ret2
  exact ⟨rfl, F.out⟩
end
end Go.Proofs.Ytfeeaokeomcafaa
