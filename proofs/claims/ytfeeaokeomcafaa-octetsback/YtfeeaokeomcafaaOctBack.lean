/-
  The function literals of OctetsBack (layer 9).
-/
import Derived.Test.YtfeeaokeomcafaaVarBack
import Derived.Test.YtfeeaokeomcafaaShareLess
namespace Go.Proofs.Ytfeeaokeomcafaa
open Go.ChangeShapes Go.WideShapes Go.ChangeAt Go.RowKit Go.Deep
set_option linter.unusedVariables false
set_option linter.unusedSimpArgs false

/-- A reader and four variables, each in a block of its own. -/
structure Four (w : World) (p b1 b2 b3 b4 : Nat) (l : List UInt8) (v1 v2 v3 v4 : Value) : Prop where
  rd : At w p l
  y : Box1 w b1 30 v1
  m : Box1 w b2 3 v2
  g : Box1 w b3 31 v3
  i : Box1 w b4 4 v4
  ne : p ≠ b1 ∧ p ≠ b2 ∧ p ≠ b3 ∧ p ≠ b4 ∧ b1 ≠ b2 ∧ b1 ≠ b3 ∧ b1 ≠ b4 ∧ b2 ≠ b3 ∧ b2 ≠ b4 ∧ b3 ≠ b4
section
variable {w w' : World} {p b1 b2 b3 b4 : Nat} {l l' : List UInt8} {v1 v2 v3 v4 : Value}
theorem Four.go (h : Four w p b1 b2 b3 b4 l v1 v2 v3 v4) (a : At w' p l') (t : Touch [p] w w') : Four w' p b1 b2 b3 b4 l' v1 v2 v3 v4 := by
  obtain ⟨n1, n2, n3, n4, n5⟩ := h.ne
  exact ⟨a, h.y.carry t (by simp; omega), h.m.carry t (by simp; omega), h.g.carry t (by simp; omega), h.i.carry t (by simp; omega), h.ne⟩
theorem Four.set1 (h : Four w p b1 b2 b3 b4 l v1 v2 v3 v4) (v : Value) : Four (w.setCell ⟨b1, 0, none⟩ v) p b1 b2 b3 b4 l v v2 v3 v4 := by
  obtain ⟨n1, n2, n3, n4, n5, n6, n7, n8, n9, n10⟩ := h.ne
  have t := (Touch.refl [b1] w).setCell (a := ⟨b1, 0, none⟩) (Or.inl (by simp)) v
  exact ⟨h.rd.carry t (by simp; omega), h.y.set0 v, h.m.carry t (by simp; omega), h.g.carry t (by simp; omega), h.i.carry t (by simp; omega), h.ne⟩
theorem Four.set2 (h : Four w p b1 b2 b3 b4 l v1 v2 v3 v4) (v : Value) : Four (w.setCell ⟨b2, 0, none⟩ v) p b1 b2 b3 b4 l v1 v v3 v4 := by
  obtain ⟨n1, n2, n3, n4, n5, n6, n7, n8, n9, n10⟩ := h.ne
  have t := (Touch.refl [b2] w).setCell (a := ⟨b2, 0, none⟩) (Or.inl (by simp)) v
  exact ⟨h.rd.carry t (by simp; omega), h.y.carry t (by simp; omega), h.m.set0 v, h.g.carry t (by simp; omega), h.i.carry t (by simp; omega), h.ne⟩
theorem Four.set3 (h : Four w p b1 b2 b3 b4 l v1 v2 v3 v4) (v : Value) : Four (w.setCell ⟨b3, 0, none⟩ v) p b1 b2 b3 b4 l v1 v2 v v4 := by
  obtain ⟨n1, n2, n3, n4, n5, n6, n7, n8, n9, n10⟩ := h.ne
  have t := (Touch.refl [b3] w).setCell (a := ⟨b3, 0, none⟩) (Or.inl (by simp)) v
  exact ⟨h.rd.carry t (by simp; omega), h.y.carry t (by simp; omega), h.m.carry t (by simp; omega), h.g.set0 v, h.i.carry t (by simp; omega), h.ne⟩
theorem Four.set4 (h : Four w p b1 b2 b3 b4 l v1 v2 v3 v4) (v : Value) : Four (w.setCell ⟨b4, 0, none⟩ v) p b1 b2 b3 b4 l v1 v2 v3 v := by
  obtain ⟨n1, n2, n3, n4, n5, n6, n7, n8, n9, n10⟩ := h.ne
  have t := (Touch.refl [b4] w).setCell (a := ⟨b4, 0, none⟩) (Or.inl (by simp)) v
  exact ⟨h.rd.carry t (by simp; omega), h.y.carry t (by simp; omega), h.m.carry t (by simp; omega), h.g.carry t (by simp; omega), h.i.set0 v, h.ne⟩

theorem store_one {w : World} {a : Addr} {u v : Value} (hc : w.cell? a = some u) (hf : w.frozen? a = false) (h1 : v.oneCell' = true) : (store a v).run Try.prog w = .ok () (w.setCell a v) := by
  rw [run_store Try.prog w a v _ h1, hc]
  simp [hf]
def backB (x : Nat) (n : Int) : List UInt8 := be x 8 ++ varB (zz n) ++ be (fltN x) 8 ++ bitB (decide (0 < n))
theorem take8 (u : Nat) (m : List UInt8) : (be u 8 ++ m).take 8 = be u 8 ∧ (be u 8 ++ m).drop 8 = m := by
  have := be_length u 8
  exact ⟨List.take_left' this, List.drop_left' this⟩
theorem fltN_ok (x : Nat) : ¬ isN (fltN x) ∨ fltN x = 9221120237041090560 := by
  unfold fltN
  split
  · right; rfl
  · left; assumption

set_option maxHeartbeats 1000000 in
set_option maxRecDepth 100000 in
theorem back1 (x : Nat) (hx : x < 18446744073709551616) (n : Int) (hn : -9223372036854775808 ≤ n ∧ n ≤ 9223372036854775807) (h : Four w p b1 b2 b3 b4 (backB x n) v1 v2 v3 v4) :
    Calls Try.prog 32 #[.pointer (some ⟨p, 0, none⟩), .pointer (some ⟨b1, 0, none⟩), .pointer (some ⟨b2, 0, none⟩), .pointer (some ⟨b3, 0, none⟩), .pointer (some ⟨b4, 0, none⟩)] w fun e w' =>
      e = .returned (.tuple #[]) ∧ Four w' p b1 b2 b3 b4 [] (.int .u64 (x : Int)) (.int .i64 n) (.float .f64 (fltN x)) (.bool (decide (0 < n))) ∧ Touch [p, b1, b2, b3, b4] w w' := by
  have lv := varB_ten n hn
  have lo : (bitB (decide (0 < n))).length = 1 := by unfold bitB; split <;> rfl
  have e0 : backB x n = be x 8 ++ (varB (zz n) ++ (be (fltN x) 8 ++ bitB (decide (0 < n)))) := by unfold backB; simp [List.append_assoc]
  have k1 := take8 x (varB (zz n) ++ (be (fltN x) 8 ++ bitB (decide (0 < n))))
  have k2 := var_read (zz n) (zz_lt n hn) (be (fltN x) 8 ++ bitB (decide (0 < n)))
  rw [unzz_zz] at k2
  have k3 := take8 (fltN x) (bitB (decide (0 < n)))
  have n1 := num_be x 8 (by omega)
  have n2 := num_be (fltN x) 8 (by have := fltN_lt x hx; omega)
  have l1 := be_length x 8
  have l2 := be_length (fltN x) 8
  rw [e0] at h
  have H := Lib.hid h
  have U := u64_any h.rd (by simp only [List.length_append]; omega)
  rw [k1.1, k1.2, n1] at U
  have U' := Lib.hid U
  have K2 := Lib.hid k2
  have K3 := Lib.hid k3
  have N2 := Lib.hid n2
  have L2 := Lib.hid (And.intro l2 (And.intro lv lo))
  have L1 := Lib.hid l1
  have c1 := h.y.c0
  have f1 := h.y.fr 0
  clear h U k1 k2 k3 n1 n2 l1 l2 lv lo e0 c1 f1
  go_enter Try.func32, Try.ntmps32
  go_wp2_with fail
  refine (U'.out).mono ?_
  intro e w1 hj
  obtain ⟨rfl, a1, t1⟩ := hj.1 (by have := L1.out; simp only [List.length_append]; omega)
  have F1 := H.out.go a1 t1
  have c1 := F1.y.c0
  have f1 := F1.y.fr 0
  have F1' := F1.set1 (.int .u64 (x : Int))
  have V := var_any F1'.rd (by have := L2.out; simp only [List.length_append]; omega)
  rw [K2.out.2.1, K2.out.2.2] at V
  have V' := Lib.hid V
  have H1 := Lib.hid F1'
  have T1 := Lib.hid ((t1.mono (S' := [p, b1, b2, b3, b4]) (by simp)).setCell (a := ⟨b1, 0, none⟩) (Or.inl (by simp)) (.int .u64 (x : Int)))
  clear hj a1 t1 F1 F1' V U' H
  go_wp2_with fail
  refine (V'.out).mono ?_
  intro e w2 hj
  obtain ⟨rfl, a2, t2⟩ := hj.1 K2.out.1
  have F2 := H1.out.go a2 t2
  have c2 := F2.m.c0
  have f2 := F2.m.fr 0
  have F2' := F2.set2 (.int .i64 n)
  have G := float_any F2'.rd (by have := L2.out; simp only [List.length_append]; omega)
  rw [K3.out.1, K3.out.2, N2.out] at G
  have G' := Lib.hid G
  have H2 := Lib.hid F2'
  have T2 := Lib.hid ((T1.out.trans t2 (by simp)).setCell (a := ⟨b2, 0, none⟩) (Or.inl (by simp)) (.int .i64 n))
  clear hj a2 t2 F2 F2' G V' H1 T1 c1 f1
  go_wp2_with fail
  refine (G'.out).mono ?_
  intro e w3 hj
  obtain ⟨rfl, a3, t3⟩ := hj.1 (by have := L2.out; simp only [List.length_append]; omega) (fltN_ok x)
  have F3 := H2.out.go a3 t3
  have c3 := F3.g.c0
  have f3 := F3.g.fr 0
  have s3 := store_one (v := .float .f64 (fltN x)) c3 f3 rfl
  have F3' := F3.set3 (.float .f64 (fltN x))
  have B := bool_any F3'.rd (by have := L2.out; omega)
  have B' := Lib.hid B
  have H3 := Lib.hid F3'
  have T3 := Lib.hid ((T2.out.trans t3 (by simp)).setCell (a := ⟨b3, 0, none⟩) (Or.inl (by simp)) (.float .f64 (fltN x)))
  clear hj a3 t3 F3 F3' B G' H2 T2 c2 f2 f3 c3
  go_wp2_with fail
  refine (B'.out).mono ?_
  intro e w4 hj
  have hbit : ∃ bt : UInt8, bitB (decide (0 < n)) = [bt] ∧ bt.toNat ≤ 1 ∧ (bt.toNat == 1) = decide (0 < n) := by
    unfold bitB
    cases decide (0 < n)
    · exact ⟨0, rfl, by decide, rfl⟩
    · exact ⟨1, rfl, by decide, rfl⟩
  obtain ⟨bt, hb1, hb2, hb3⟩ := hbit
  have hr := hj.1 bt [] hb1 hb2
  rw [hb3] at hr
  obtain ⟨rfl, a4, t4⟩ := hr
  have F4 := H3.out.go a4 t4
  have c4 := F4.i.c0
  have f4 := F4.i.fr 0
  have F4' := F4.set4 (.bool (decide (0 < n)))
  have E' := Lib.hid (end_yes F4'.rd)
  have H4 := Lib.hid F4'
  have T4 := Lib.hid ((T3.out.trans t4 (by simp)).setCell (a := ⟨b4, 0, none⟩) (Or.inl (by simp)) (.bool (decide (0 < n))))
  clear hj a4 t4 F4 F4' B' H3 T3 s3 hb1 hb2 hb3
  go_wp2_with fail
  refine (E'.out).mono ?_
  rintro e w5 ⟨rfl, rfl⟩
  go_wp2_with fail
  first | go_end0 | refine bodyPost_ret (results_none rfl _ _ _) rfl ?_
  exact ⟨rfl, H4.out, T4.out⟩

def dE (l : List UInt8) : Int := if varE l ≠ 0 then varE l else if l.drop (lead l + 1) = [] then 0 else 4
set_option maxHeartbeats 1000000 in
set_option maxRecDepth 100000 in
theorem back2_ok {b : Nat} {v : Value} (hl : l.length ≤ 1000000000) (h : At w p l) (hb : Box1 w b 3 v) (hne : p ≠ b) (hv : varE l = 0) (hR : l.drop (lead l + 1) = []) :
    Calls Try.prog 38 #[.pointer (some ⟨p, 0, none⟩), .pointer (some ⟨b, 0, none⟩)] w fun e w' =>
      e = .returned (.tuple #[]) ∧ Box1 w' b 3 (.int .i64 (varV l)) ∧ Touch [p, b] w w' := by
  have V := Lib.hid (var_any h hl)
  have HB := Lib.hid hb
  clear h hb
  go_enter Try.func38, Try.ntmps38
  go_wp2_with fail
  refine (V.out).mono ?_
  intro e w1 hj
  obtain ⟨rfl, a1, t1⟩ := hj.1 hv
  have X1 := HB.out.carry t1 (by simp; omega)
  have c1 := X1.c0
  have f1 := X1.fr 0
  have X2 := X1.set0 (.int .i64 (varV l))
  have ts := (Touch.refl [b] w1).setCell (a := ⟨b, 0, none⟩) (Or.inl (by simp)) (.int .i64 (varV l))
  have a2 := a1.carry ts (by simp; omega)
  have T2 := Lib.hid ((t1.mono (S' := [p, b]) (by simp)).trans ts (by simp))
  have HX2 := Lib.hid X2
  rw [hR] at a2
  have E := Lib.hid (end_yes a2)
  clear hj t1 X1 X2 ts a1 a2
  go_wp2_with fail
  refine (E.out).mono ?_
  rintro e w5 ⟨rfl, rfl⟩
  go_wp2_with fail
  first | go_end0 | refine bodyPost_ret (results_none rfl _ _ _) rfl ?_
  exact ⟨rfl, HX2.out, T2.out⟩
set_option maxHeartbeats 1000000 in
set_option maxRecDepth 100000 in
theorem back2_more {b : Nat} {v : Value} (hl : l.length ≤ 1000000000) (h : At w p l) (hb : Box1 w b 3 v) (hne : p ≠ b) (hv : varE l = 0) (hR : l.drop (lead l + 1) ≠ []) :
    Calls Try.prog 38 #[.pointer (some ⟨p, 0, none⟩), .pointer (some ⟨b, 0, none⟩)] w fun e w' =>
      e = .panicked [{ v := failV p 4, recovered := false }] ∧ Touch [p, b] w w' := by
  have V := Lib.hid (var_any h hl)
  have HB := Lib.hid hb
  have HR := Lib.hid hR
  clear h hb hR
  go_enter Try.func38, Try.ntmps38
  go_wp2_with fail
  refine (V.out).mono ?_
  intro e w1 hj
  obtain ⟨rfl, a1, t1⟩ := hj.1 hv
  have X1 := HB.out.carry t1 (by simp; omega)
  have c1 := X1.c0
  have f1 := X1.fr 0
  have ts := (Touch.refl [b] w1).setCell (a := ⟨b, 0, none⟩) (Or.inl (by simp)) (.int .i64 (varV l))
  have a2 := a1.carry ts (by simp; omega)
  have T2 := Lib.hid ((t1.mono (S' := [p, b]) (by simp)).trans ts (by simp))
  have E := Lib.hid (end_no a2 HR.out)
  clear hj t1 X1 ts a1 a2
  go_wp2_with fail
  refine (E.out).mono ?_
  rintro e w5 ⟨rfl, t5⟩
  go_wp2_with fail
  exact ⟨rfl, rfl, T2.out.trans t5 (by simp)⟩
theorem back2_no {b : Nat} {v : Value} (hl : l.length ≤ 1000000000) (h : At w p l) (hv : varE l ≠ 0) :
    Calls Try.prog 38 #[.pointer (some ⟨p, 0, none⟩), .pointer (some ⟨b, 0, none⟩)] w fun e w' =>
      e = .panicked [{ v := failV p (varE l), recovered := false }] ∧ Touch [p, b] w w' := by
  have V := Lib.hid (var_any h hl)
  have HV := Lib.hid hv
  clear h hv
  go_enter Try.func38, Try.ntmps38
  go_wp2_with fail
  refine (V.out).mono ?_
  intro e w1 hj
  obtain ⟨rfl, t1⟩ := hj.2 HV.out
  clear hj
  go_wp2_with fail
  exact ⟨rfl, rfl, t1.mono (by simp)⟩
theorem back2 {b : Nat} {v : Value} (hl : l.length ≤ 1000000000) (h : At w p l) (hb : Box1 w b 3 v) (hne : p ≠ b) :
    Calls Try.prog 38 #[.pointer (some ⟨p, 0, none⟩), .pointer (some ⟨b, 0, none⟩)] w fun e w' =>
      Touch [p, b] w w' ∧ (e = .returned (.tuple #[]) ∧ (dE l = 0 ∧ Box1 w' b 3 (.int .i64 (varV l))) ∨ ∃ er, e = .panicked [{ v := failV p er, recovered := false }] ∧ er = dE l ∧ dE l ≠ 0) := by
  by_cases hv : varE l = 0
  · by_cases hR : l.drop (lead l + 1) = []
    · have e0 : dE l = 0 := by unfold dE; rw [if_neg (fun h => h hv), if_pos hR]
      exact (back2_ok hl h hb hne hv hR).mono fun e w' ⟨q1, q2, q3⟩ => ⟨q3, Or.inl ⟨q1, e0, q2⟩⟩
    · have e0 : dE l = 4 := by unfold dE; rw [if_neg (fun h => h hv), if_neg hR]
      exact (back2_more hl h hb hne hv hR).mono fun e w' ⟨q1, q2⟩ => ⟨q2, Or.inr ⟨4, q1, e0.symm, by omega⟩⟩
  · have e0 : dE l = varE l := by unfold dE; rw [if_pos hv]
    exact (back2_no (v := v) hl h hv).mono fun e w' ⟨q1, q2⟩ => ⟨q2, Or.inr ⟨_, q1, e0.symm, by omega⟩⟩
end
end Go.Proofs.Ytfeeaokeomcafaa
