/-
  The contracts on which the law's proof rests, bound together in build order: Ports, Ports2, Ports3, PortsRef, Flow, Flow2, Flow3, FlowOfLaw.
-/
import Derived.Test.YtdpaiegojioimaaDoorAllA
import Derived.Deep.DeepCutAuto
import Derived.Deep.RegionWith
import Derived.Test.YtdpaiegojioimaaDoorAllD
/-
  ports (layer 13): Least, Has, and the reading of a segment.
-/
namespace Go.Proofs.YtdpaiegojioimaaDoor
open Go.ChangeShapes Go.WideShapes Go.ChangeAt Go.RowKit Go.Deep
set_option linter.unusedVariables false

def leastV (x : Int) : Int := if x = 6 then 20 else if x = 17 then 8 else 0
theorem least_any (x : Int) (w : World) : Calls Tryd.prog 46 #[.int .i64 x] w fun e w' => e = .returned (.int .i64 (leastV x)) ∧ w' = w := by
  unfold leastV
  by_cases h6 : x = 6
  · subst h6
    go_enter Tryd.func46, Tryd.ntmps46
    go_wp2
    go_ret
    exact ⟨rfl, rfl⟩
  · by_cases h17 : x = 17
    · subst h17
      go_enter Tryd.func46, Tryd.ntmps46
      go_wp2
      go_ret
      exact ⟨rfl, rfl⟩
    · rw [if_neg h6, if_neg h17]
      have b6 : (x == 6) = false := by simpa using h6
      have b17 : (x == 17) = false := by simpa using h17
      go_enter Tryd.func46, Tryd.ntmps46
      go_wp2
      go_ret
      exact ⟨rfl, rfl⟩
theorem has_any (x : Int) (w : World) : Calls Tryd.prog 70 #[.int .i64 x] w fun e w' => e = .returned (.bool (decide (0 < leastV x))) ∧ w' = w := by
  have L := Lib.hid (least_any x w)
  go_enter Tryd.func70, Tryd.ntmps70
  go_wp2_with fail
  refine (L.out).mono ?_
  rintro e w1 ⟨rfl, rfl⟩
  go_wp2_with fail
  go_ret
  exact ⟨ret_bool (by first | rfl | simp), rfl⟩

section
variable {w : World} {p : Nat} {l : List UInt8}
set_option maxRecDepth 100000 in
theorem skip16 (h : At w p l) (n : Nat) (hn : n + 2 ≤ l.length) (hl : l.length ≤ 1000000000) :
    Calls Tryd.prog 72 #[.pointer (some ⟨p, 0, none⟩), .int .i64 (n : Int), .func (.func 60) #[] #[]] w (Reads p w (.int .i64 (num ((l.drop n).take 2) : Nat)) (l.drop (n + 2))) := by
  have T := Lib.hid (take_ok h n (by omega) hl)
  clear h
  go_enter Tryd.func72, Tryd.ntmps72
  go_wp2_with fail
  refine (T.out).mono ?_
  rintro e w1 ⟨rfl, a1, t1⟩
  have U := Lib.hid (u16_any a1 (by rw [List.length_drop]; omega))
  have T1 := Lib.hid t1
  clear a1 t1
  go_wp2_with fail
  refine (U.out).mono ?_
  intro e w2 hj
  obtain ⟨rfl, a2, t2⟩ := hj.1 (by rw [List.length_drop]; omega)
  rw [List.drop_drop] at a2
  have F := Lib.hid (And.intro a2 (T1.out.trans t2 (fun b hb => Or.inl hb)))
  clear a2 t2 hj
  go_wp2_with fail
  go_ret
  exact ⟨rfl, F.out⟩
set_option maxRecDepth 100000 in
theorem skip8 (h : At w p l) (n : Nat) (hn : n + 1 ≤ l.length) (hl : l.length ≤ 1000000000) :
    Calls Tryd.prog 72 #[.pointer (some ⟨p, 0, none⟩), .int .i64 (n : Int), .func (.func 58) #[] #[]] w (Reads p w (.int .i64 ((l[n]'(by omega)).toNat : Int)) (l.drop (n + 1))) := by
  have T := Lib.hid (take_ok h n (by omega) hl)
  clear h
  go_enter Tryd.func72, Tryd.ntmps72
  go_wp2_with fail
  refine (T.out).mono ?_
  rintro e w1 ⟨rfl, a1, t1⟩
  rw [List.drop_eq_getElem_cons (show n < l.length by omega)] at a1
  have U := Lib.hid (u8_ok a1 (by rw [List.length_drop]; omega))
  have T1 := Lib.hid t1
  clear a1 t1
  go_wp2_with fail
  refine (U.out).mono ?_
  rintro e w2 ⟨rfl, a2, t2⟩
  have F := Lib.hid (And.intro a2 (T1.out.trans t2 (fun b hb => Or.inl hb)))
  clear a2 t2
  go_wp2_with fail
  go_ret
  exact ⟨rfl, F.out⟩
set_option maxRecDepth 100000 in
theorem length_tcp (h : At w p l) (hn : 9 ≤ l.length) (hl : l.length ≤ 1000000000) :
    Calls Tryd.prog 73 #[.int .i64 6, .pointer (some ⟨p, 0, none⟩)] w (Reads p w (.tuple #[.int .i64 (((l[8]'(by omega)).toNat / 16 * 4 : Nat) : Int), .int .i64 23]) (l.drop 9)) := by
  have T := Lib.hid (skip8 h 8 hn hl)
  have hb := (l[8]'(by omega)).toNat_lt
  clear h
  generalize (l[8]'(by omega)).toNat = b at *
  go_enter Tryd.func73, Tryd.ntmps73
  go_wp2_with fail
  refine (T.out).mono ?_
  rintro e w1 ⟨rfl, a1, t1⟩
  have F := Lib.hid (And.intro a1 t1)
  clear a1 t1
  go_wp2_with fail
  go_ret2
  refine ⟨?_, F.out⟩
  rw [show ((b / 16 * 4 : Nat) : Int) = (b : Int) / 16 * 4 by omega]
  rfl
set_option maxRecDepth 100000 in
theorem length_udp (x : Int) (hx : x ≠ 6) (h : At w p l) (hn : 2 ≤ l.length) (hl : l.length ≤ 1000000000) :
    Calls Tryd.prog 73 #[.int .i64 x, .pointer (some ⟨p, 0, none⟩)] w (Reads p w (.tuple #[.int .i64 (num (l.take 2) : Nat), .int .i64 6]) (l.drop 2)) := by
  have T := Lib.hid (skip16 h 0 (by omega) hl)
  simp only [List.drop_zero, Nat.zero_add] at T
  have b6 : (x == 6) = false := by simpa using hx
  clear h
  go_enter Tryd.func73, Tryd.ntmps73
  go_wp2_with fail
  refine (T.out).mono ?_
  rintro e w1 ⟨rfl, a1, t1⟩
  have F := Lib.hid (And.intro a1 t1)
  clear a1 t1
  go_wp2_with fail
  go_ret2
  exact ⟨rfl, F.out⟩
end
end Go.Proofs.YtdpaiegojioimaaDoor

/-
  ports (layer 13): Of.
-/
namespace Go.Proofs.YtdpaiegojioimaaDoor
open Go.ChangeShapes Go.WideShapes Go.ChangeAt Go.RowKit Go.Deep
set_option linter.unusedVariables false
set_option linter.unusedSimpArgs false

/-- What Of's function finds: the segment, the protocol, and where the ports go. -/
structure Seg (w : World) (p b1 b2 b3 b4 : Nat) (l m : List UInt8) (x : Int) (u v : Int) : Prop where
  rd : At w p l
  s : Box1 w b1 9 (.string (S m))
  x : Box1 w b2 3 (.int .i64 x)
  u : Box1 w b3 3 (.int .i64 u)
  v : Box1 w b4 3 (.int .i64 v)
  n1 : b1 ≠ p
  n2 : b2 ≠ p
  n3 : b3 ≠ p
  n4 : b4 ≠ p
  n34 : b3 ≠ b4
theorem Seg.go {w w' : World} {p b1 b2 b3 b4 : Nat} {l l' m : List UInt8} {x u v : Int} (h : Seg w p b1 b2 b3 b4 l m x u v) (a : At w' p l') (t : Touch [p] w w') : Seg w' p b1 b2 b3 b4 l' m x u v :=
  ⟨a, h.s.carry t (by simpa using h.n1), h.x.carry t (by simpa using h.n2), h.u.carry t (by simpa using h.n3), h.v.carry t (by simpa using h.n4), h.n1, h.n2, h.n3, h.n4, h.n34⟩

section
variable {w : World} {p b1 b2 b3 b4 : Nat} {l : List UInt8} {x : Int}
set_option maxHeartbeats 1000000 in
set_option maxRecDepth 100000 in
theorem of1_short (h : Seg w p b1 b2 b3 b4 l l x 0 0) (hl : l.length ≤ 1000000000) (hs : (l.length : Int) < leastV x) :
    Calls Tryd.prog 71 #[.pointer (some ⟨p, 0, none⟩), .pointer (some ⟨b1, 0, none⟩), .pointer (some ⟨b2, 0, none⟩), .pointer (some ⟨b3, 0, none⟩), .pointer (some ⟨b4, 0, none⟩)] w (Fails p w 5) := by
  have k1 : ∀ y : Cls w, y.val.cell? ⟨b1, 0, none⟩ = some (.string (S l)) := fun y => (h.s.carry y.property (by simp)).c0
  have k2 : ∀ y : Cls w, y.val.cell? ⟨b2, 0, none⟩ = some (.int .i64 x) := fun y => (h.x.carry y.property (by simp)).c0
  have L := Lib.hid (fun w => (least_any x w))
  have M := Lib.hid (need_no p 5 (by decide))
  have hz := S_size l
  have g1 : decide (leastV x ≤ (l.length : Int)) = false := by simp; omega
  have g2 : ¬ (leastV x ≤ (l.length : Int)) := by omega
  clear h
  generalize leastV x = q at *
  go_enter Tryd.func71, Tryd.ntmps71
  go_upto_region 0 with fail
  refine wp_region_tail (wd := w) 6 (by kernel_rfl) (by kernel_rfl) ((Touch.refl _ _).drew) ?_
  repeat (first | go_big_quiet_step ((go_at_call 46; exact Calls.cls_same ((L.out _).mono fun _ _ ⟨a, b⟩ => ⟨a, b.symm⟩))) | quiet_step ((go_at_call 46; exact Calls.cls_same ((L.out _).mono fun _ _ ⟨a, b⟩ => ⟨a, b.symm⟩))))
  refine wpQuiet_nil ?_
  intro y
  go_wp2_with fail
  refine (M.out _).mono ?_
  rintro e w3 ⟨rfl, rfl⟩
  exact ⟨rfl, rfl, y.property.mono (by simp)⟩

/-- What Of's function does with a segment that is long enough: it holds the length that is told against the segment's. -/
def Told (w : World) (p b1 b2 b3 b4 : Nat) (l : List UInt8) (x : Int) (told : Nat) (wrong : Int) (e : Ending) (w' : World) : Prop :=
  (leastV x ≤ told ∧ told ≤ l.length → e = .returned (.tuple #[]) ∧ Box1 w' b3 3 (.int .i64 (num (l.take 2) : Nat)) ∧ Box1 w' b4 3 (.int .i64 (num ((l.drop 2).take 2) : Nat)) ∧ Touch [p, b3, b4] w w') ∧
  (¬ (leastV x ≤ told ∧ told ≤ l.length) → Fails p w wrong e w')

set_option maxHeartbeats 2000000 in
set_option maxRecDepth 100000 in
theorem of1_go (h : Seg w p b1 b2 b3 b4 l l x 0 0) (hl : l.length ≤ 1000000000) (hs : leastV x ≤ (l.length : Int)) (h4 : 4 ≤ l.length) (told : Nat) (ht : told ≤ 65535) (wrong : Int) (hw : wrong ≠ 0) (l' : List UInt8)
    (hlen : ∀ w, At w p (l.drop 4) → Calls Tryd.prog 73 #[.int .i64 x, .pointer (some ⟨p, 0, none⟩)] w (Reads p w (.tuple #[.int .i64 (told : Int), .int .i64 wrong]) l')) :
    Calls Tryd.prog 71 #[.pointer (some ⟨p, 0, none⟩), .pointer (some ⟨b1, 0, none⟩), .pointer (some ⟨b2, 0, none⟩), .pointer (some ⟨b3, 0, none⟩), .pointer (some ⟨b4, 0, none⟩)] w (Told w p b1 b2 b3 b4 l x told wrong) := by
  have k1 : ∀ y : Cls w, y.val.cell? ⟨b1, 0, none⟩ = some (.string (S l)) := fun y => (h.s.carry y.property (by simp)).c0
  have k2 : ∀ y : Cls w, y.val.cell? ⟨b2, 0, none⟩ = some (.int .i64 x) := fun y => (h.x.carry y.property (by simp)).c0
  have L := Lib.hid (fun w => (least_any x w))
  have N := Lib.hid (need_yes)
  have M := Lib.hid (fun w => need_no p wrong hw w)
  have HL := Lib.hid hlen
  have H := Lib.hid h
  have hz := S_size l
  have n1 : num (l.take 2) < 65536 := Nat.lt_of_lt_of_le (num_lt _) (Nat.le_trans (Nat.pow_le_pow_right (by omega) (List.length_take_le 2 l)) (by decide))
  have n2 : num ((l.drop 2).take 2) < 65536 := Nat.lt_of_lt_of_le (num_lt _) (Nat.le_trans (Nat.pow_le_pow_right (by omega) (List.length_take_le 2 _)) (by decide))
  have g1 : decide (leastV x ≤ (l.length : Int)) = true := by simp; omega
  unfold Told
  clear h hlen
  generalize leastV x = q at *
  go_enter Tryd.func71, Tryd.ntmps71
  go_upto_region 0 with fail
  refine wp_region_tail (wd := w) 6 (by kernel_rfl) (by kernel_rfl) ((Touch.refl _ _).drew) ?_
  repeat (first | go_big_quiet_step ((go_at_call 46; exact Calls.cls_same ((L.out _).mono fun _ _ ⟨a, b⟩ => ⟨a, b.symm⟩))) | quiet_step ((go_at_call 46; exact Calls.cls_same ((L.out _).mono fun _ _ ⟨a, b⟩ => ⟨a, b.symm⟩))))
  refine wpQuiet_nil ?_
  intro y
  have TY := Lib.hid y.property
  have HY := Lib.hid (H.out.go (H.out.rd.carry (y.property) (by simp)) (y.property.mono (by simp)))
  clear k1 k2
  generalize y.val = wy at *
  go_wp2_with fail
  refine (N.out _ _ _).mono ?_
  rintro e w3 ⟨rfl, rfl⟩
  have S1 := Lib.hid (skip16 HY.out.rd 0 (by omega) hl)
  simp only [List.drop_zero, Nat.zero_add] at S1
  go_wp2_with fail
  refine (S1.out).mono ?_
  rintro e w4 ⟨rfl, a4, t4⟩
  have H4 := Lib.hid (HY.out.go a4 t4)
  have S2 := Lib.hid (skip16 a4 0 (by rw [List.length_drop]; omega) (by rw [List.length_drop]; omega))
  simp only [List.drop_zero, Nat.zero_add, List.drop_drop] at S2
  have T4 := Lib.hid ((TY.out.mono (S' := [p]) (by simp)).trans t4 (fun b hb => Or.inl hb))
  clear a4 t4
  go_wp2_with fail
  refine (S2.out).mono ?_
  rintro e w5 ⟨rfl, a5, t5⟩
  have H5 := Lib.hid (H4.out.go a5 t5)
  have T5 := Lib.hid (T4.out.trans t5 (fun b hb => Or.inl hb))
  have S3 := Lib.hid (HL.out w5 a5)
  have c2 := H5.out.x.c0
  clear a5 t5
  go_wp2_with fail
  refine (S3.out).mono ?_
  rintro e w6 ⟨rfl, a6, t6⟩
  have H6 := Lib.hid (H5.out.go a6 t6)
  have T6 := Lib.hid (T5.out.trans t6 (fun b hb => Or.inl hb))
  have d2 := H6.out.x.c0
  have d1 := H6.out.s.c0
  clear a6 t6 c2
  go_wp2_with fail
  refine (L.out _).mono ?_
  rintro e w7 ⟨rfl, rfl⟩
  clear g1
  by_cases c1 : q ≤ (told : Int)
  · by_cases c2 : told ≤ l.length
    · have f1 : decide (q ≤ (told : Int)) = true := by simpa using c1
      have f2 : decide (told ≤ l.length) = true := by simpa using c2
      have u3 := H6.out.u.c0
      have u4 := H6.out.v.c0
      have z3 := H6.out.u.fr 0
      have z4 := H6.out.v.fr 0
      have l3 := H6.out.u.lt
      have l4 := H6.out.v.lt
      have n34 := H6.out.n34
      go_wp2_with fail
      refine (N.out _ _ _).mono ?_
      rintro e w8 ⟨rfl, rfl⟩
      have v4 := ((H6.out.u.set0 (.int .i64 ((num (l.take 2) : Nat) : Int))))
      have v5 := (H6.out.v.carry ((Touch.refl [b3] _).setCell (a := ⟨b3, 0, none⟩) (Or.inl (by simp)) (.int .i64 ((num (l.take 2) : Nat) : Int))) (by simpa using Ne.symm n34))
      have y4 := v5.c0
      have y5 := v5.fr 0
      have v6 := v5.set0 (.int .i64 ((num ((l.drop 2).take 2) : Nat) : Int))
      have v7 := v4.carry ((Touch.refl [b4] _).setCell (a := ⟨b4, 0, none⟩) (Or.inl (by simp)) (.int .i64 ((num ((l.drop 2).take 2) : Nat) : Int))) (by simpa using n34)
      have F := Lib.hid (And.intro v7 (And.intro v6 (((T6.out.mono (S' := [p, b3, b4]) (by simp)).setCell (a := ⟨b3, 0, none⟩) (Or.inl (by simp)) (.int .i64 ((num (l.take 2) : Nat) : Int))).setCell (a := ⟨b4, 0, none⟩) (Or.inl (by simp)) (.int .i64 ((num ((l.drop 2).take 2) : Nat) : Int)))))
      clear v4 v5 v6 v7
      go_wp2_with fail
      first | go_end0 | refine bodyPost_ret (results_none rfl _ _ _) rfl ?_
      exact ⟨fun _ => ⟨rfl, F.out⟩, fun h => absurd ⟨c1, c2⟩ h⟩
    · have f1 : decide (q ≤ (told : Int)) = true := by simpa using c1
      have f2 : decide (told ≤ l.length) = false := by simpa using c2
      go_wp2_with fail
      refine (M.out _).mono ?_
      rintro e w8 ⟨rfl, rfl⟩
      exact ⟨rfl, fun h => absurd h.2 c2, fun _ => ⟨rfl, T6.out⟩⟩
  · have f1 : decide (q ≤ (told : Int)) = false := by simpa using c1
    go_wp2_with fail
    refine (M.out _).mono ?_
    rintro e w8 ⟨rfl, rfl⟩
    exact ⟨rfl, fun h => by have := h.1; omega, fun _ => ⟨rfl, T6.out⟩⟩
end
end Go.Proofs.YtdpaiegojioimaaDoor

/-
  ports (layer 13): Of, for all bytes.
-/
namespace Go.Proofs.YtdpaiegojioimaaDoor
open Go.ChangeShapes Go.WideShapes Go.ChangeAt Go.RowKit Go.Deep
set_option linter.unusedVariables false
set_option linter.unusedSimpArgs false

def tcpTold (l : List UInt8) : Nat := (l[12]?.getD 0).toNat / 16 * 4
def udpTold (l : List UInt8) : Nat := num ((l.drop 4).take 2)
def portsE (x : Int) (l : List UInt8) : Int :=
  if x = 6 then (if l.length < 20 then 5 else if 20 ≤ tcpTold l ∧ tcpTold l ≤ l.length then 0 else 23)
  else if x = 17 then (if l.length < 8 then 5 else if 8 ≤ udpTold l ∧ udpTold l ≤ l.length then 0 else 6) else 0
def portsA (x : Int) (l : List UInt8) : Nat := if 0 < leastV x ∧ portsE x l = 0 then num (l.take 2) else 0
def portsB (x : Int) (l : List UInt8) : Nat := if 0 < leastV x ∧ portsE x l = 0 then num ((l.drop 2).take 2) else 0

section
variable {w : World} {p b1 b2 b3 b4 : Nat} {l : List UInt8} {x : Int}
theorem of1_any (h : Seg w p b1 b2 b3 b4 l l x 0 0) (hl : l.length ≤ 1000000000) (hx : 0 < leastV x) :
    Calls Tryd.prog 71 #[.pointer (some ⟨p, 0, none⟩), .pointer (some ⟨b1, 0, none⟩), .pointer (some ⟨b2, 0, none⟩), .pointer (some ⟨b3, 0, none⟩), .pointer (some ⟨b4, 0, none⟩)] w fun e w' =>
      (portsE x l = 0 → e = .returned (.tuple #[]) ∧ Box1 w' b3 3 (.int .i64 (num (l.take 2) : Nat)) ∧ Box1 w' b4 3 (.int .i64 (num ((l.drop 2).take 2) : Nat)) ∧ Touch [p, b3, b4] w w') ∧
      (portsE x l ≠ 0 → Fails p w (portsE x l) e w') := by
  unfold portsE
  by_cases h6 : x = 6
  · subst h6
    have e20 : leastV 6 = 20 := rfl
    rw [if_pos rfl]
    by_cases hs : l.length < 20
    · rw [if_pos hs]
      exact (of1_short h hl (by rw [e20]; omega)).mono fun e w' hf => ⟨(fun h => absurd h (by decide)), fun _ => hf⟩
    · rw [if_neg hs]
      have ht : tcpTold l = (l[12]'(by omega)).toNat / 16 * 4 := by unfold tcpTold; rw [List.getElem?_eq_getElem (by omega)]; rfl
      have hb := (l[12]'(by omega)).toNat_lt
      refine (of1_go h hl (by rw [e20]; omega) (by omega) (tcpTold l) (by omega) 23 (by decide) (l.drop 13) (fun w1 a1 => ?_)).mono ?_
      · have := length_tcp a1 (by rw [List.length_drop]; omega) (by rw [List.length_drop]; omega)
        rw [ht]
        simpa using this
      · intro e w' ⟨q1, q2⟩
        rw [e20] at q1 q2
        by_cases c : 20 ≤ tcpTold l ∧ tcpTold l ≤ l.length
        · rw [if_pos c]
          exact ⟨fun _ => q1 (by omega), fun h => absurd rfl h⟩
        · rw [if_neg c]
          exact ⟨(fun h => absurd h (by decide)), fun _ => q2 (by omega)⟩
  · have h17 : x = 17 := by
      unfold leastV at hx
      rw [if_neg h6] at hx
      by_cases c : x = 17
      · exact c
      · rw [if_neg c] at hx; omega
    subst h17
    have e8 : leastV 17 = 8 := rfl
    rw [if_neg h6, if_pos rfl]
    by_cases hs : l.length < 8
    · rw [if_pos hs]
      exact (of1_short h hl (by rw [e8]; omega)).mono fun e w' hf => ⟨(fun h => absurd h (by decide)), fun _ => hf⟩
    · rw [if_neg hs]
      have hb : udpTold l < 65536 := Nat.lt_of_lt_of_le (num_lt _) (Nat.le_trans (Nat.pow_le_pow_right (by omega) (List.length_take_le 2 _)) (by decide))
      refine (of1_go h hl (by rw [e8]; omega) (by omega) (udpTold l) (by omega) 6 (by decide) _ (fun w1 a1 => length_udp 17 (by decide) a1 (by rw [List.length_drop]; omega) (by rw [List.length_drop]; omega))).mono ?_
      intro e w' ⟨q1, q2⟩
      rw [e8] at q1 q2
      by_cases c : 8 ≤ udpTold l ∧ udpTold l ≤ l.length
      · rw [if_pos c]
        exact ⟨fun _ => q1 (by omega), fun h => absurd rfl h⟩
      · rw [if_neg c]
        exact ⟨(fun h => absurd h (by decide)), fun _ => q2 (by omega)⟩
end

theorem ent83 (args : Array Value) (w : World) : (callFunc 71 args).run Tryd.prog w = .ok (.enter 71 args) w := by
  simp [callFunc, Tryd.func71]
  rfl
/-- The world that Of has made ahead of Try. -/
def ofW (w : World) (x : Int) (l : List UInt8) : World := (((w.alloc (.cells #[.int .i64 x] 3)).alloc (.cells #[.string (S l)] 9)).alloc (.cells #[.int .i64 0] 3)).alloc (.cells #[.int .i64 0] 3)
set_option maxHeartbeats 1000000 in
set_option maxRecDepth 100000 in
theorem portsOf (x : Int) (l : List UInt8) (hl : l.length ≤ 1000000000) (w : World) :
    Calls Tryd.prog 38 #[.int .i64 x, .string (S l)] w fun e w' => e = .returned (.tuple #[.int .i64 (portsA x l : Nat), .int .i64 (portsB x l : Nat), .int .i64 (portsE x l)]) ∧ Touch [] w w' := by
  have hmf : ∀ (fn : Fn) (first cap : Array Value) (w : World), (Instr.makeFunc fn first cap).run Tryd.prog w = .ok (.func fn first cap) w := fun _ _ _ _ => rfl
  have HH := Lib.hid (fun w => has_any x w)
  by_cases hx : 0 < leastV x
  · have hx' : decide (0 < leastV x) = true := by simpa using hx
    rw [hx'] at HH
    have hsz : (ofW w x l).heap.size = w.heap.size + 4 := by simp [ofW]
    have B2 : Box1 (ofW w x l) w.heap.size 3 (.int .i64 x) := (((Box1.new w _ _).carry ((Touch.refl [] _).alloc _) (by simp)).carry ((Touch.refl [] _).alloc _) (by simp)).carry ((Touch.refl [] _).alloc _) (by simp)
    have B1 : Box1 (ofW w x l) (w.heap.size + 1) 9 (.string (S l)) := by
      have := (((Box1.new (w.alloc (.cells #[.int .i64 x] 3)) 9 (.string (S l)))).carry ((Touch.refl [] _).alloc (.cells #[.int .i64 0] 3)) (by simp)).carry ((Touch.refl [] _).alloc (.cells #[.int .i64 0] 3)) (by simp)
      rwa [show (w.alloc (.cells #[.int .i64 x] 3)).heap.size = w.heap.size + 1 by simp] at this
    have B3 : Box1 (ofW w x l) (w.heap.size + 1 + 1) 3 (.int .i64 0) := by
      have := ((Box1.new ((w.alloc (.cells #[.int .i64 x] 3)).alloc (.cells #[.string (S l)] 9)) 3 (.int .i64 0))).carry ((Touch.refl [] _).alloc (.cells #[.int .i64 0] 3)) (by simp)
      rwa [show ((w.alloc (.cells #[.int .i64 x] 3)).alloc (.cells #[.string (S l)] 9)).heap.size = w.heap.size + 1 + 1 by simp] at this
    have B4 : Box1 (ofW w x l) (w.heap.size + 1 + 1 + 1) 3 (.int .i64 0) := by
      have := (Box1.new (((w.alloc (.cells #[.int .i64 x] 3)).alloc (.cells #[.string (S l)] 9)).alloc (.cells #[.int .i64 0] 3)) 3 (.int .i64 0))
      rwa [show (((w.alloc (.cells #[.int .i64 x] 3)).alloc (.cells #[.string (S l)] 9)).alloc (.cells #[.int .i64 0] 3)).heap.size = w.heap.size + 1 + 1 + 1 by simp] at this
    have TW : Touch [] w (ofW w x l) := ((((Touch.refl [] w).alloc _).alloc _).alloc _).alloc _
    have tt : Touch [] (ofW w x l) (tryW (ofW w x l) (S l)) := (((Touch.refl [] _).alloc _).alloc _).alloc _
    have hat : At (tryW (ofW w x l) (S l)) (w.heap.size + 5) l := by
      have := (Box1.new ((ofW w x l).alloc (.cells #[.int .i64 0] 28)) 116 (.string (S l))).carry ((Touch.refl [] _).alloc (.cells #[.pointer (some ⟨(ofW w x l).heap.size + 1, 0, none⟩)] 82)) (by simp)
      rwa [show ((ofW w x l).alloc (.cells #[.int .i64 0] 28)).heap.size = w.heap.size + 5 by simp [hsz]] at this
    have sg : Seg (tryW (ofW w x l) (S l)) (w.heap.size + 5) (w.heap.size + 1) w.heap.size (w.heap.size + 1 + 1) (w.heap.size + 1 + 1 + 1) l l x 0 0 := ⟨hat, B1.carry tt (by simp), B2.carry tt (by simp), B3.carry tt (by simp), B4.carry tt (by simp), by omega, by omega, by omega, by omega, by omega⟩
    have u3 := sg.u
    have u4 := sg.v
    have key := try_any (s := S l) (k := 71) (cap := #[.pointer (some ⟨w.heap.size + 1, 0, none⟩), .pointer (some ⟨w.heap.size, 0, none⟩), .pointer (some ⟨w.heap.size + 1 + 1, 0, none⟩), .pointer (some ⟨w.heap.size + 1 + 1 + 1, 0, none⟩)]) (w := ofW w x l) (S := [w.heap.size + 5, w.heap.size + 1 + 1, w.heap.size + 1 + 1 + 1])
      (Q := fun er w' => er = portsE x l ∧ Box1 w' (w.heap.size + 1 + 1) 3 (.int .i64 (portsA x l : Nat)) ∧ Box1 w' (w.heap.size + 1 + 1 + 1) 3 (.int .i64 (portsB x l : Nat)))
      (by rw [hsz]; intro b hb; simp at hb; omega) ent83 (by
        rw [hsz]
        refine (of1_any sg hl hx).mono ?_
        intro e w' ⟨q1, q2⟩
        by_cases hE : portsE x l = 0
        · obtain ⟨rfl, r3, r4, r5⟩ := q1 hE
          refine ⟨r5, Or.inl ⟨rfl, hE.symm, ?_, ?_⟩⟩
          · unfold portsA; rw [if_pos ⟨hx, hE⟩]; exact r3
          · unfold portsB; rw [if_pos ⟨hx, hE⟩]; exact r4
        · obtain ⟨rfl, r5⟩ := q2 hE
          refine ⟨r5.mono (by simp), Or.inr ⟨_, rfl, rfl, ?_, ?_⟩⟩
          · unfold portsA; rw [if_neg (fun h => hE h.2)]; exact u3.carry r5 (by simp)
          · unfold portsB; rw [if_neg (fun h => hE h.2)]; exact u4.carry r5 (by simp))
    rw [hsz] at key
    have K := Lib.hid key
    have T0 := Lib.hid TW
    clear key TW tt hat sg u3 u4 B1 B2 B3 B4 hsz
    unfold ofW at K T0
    go_enter Tryd.func38, Tryd.ntmps38
    go_wp2_with fail
    refine (HH.out _).mono ?_
    rintro e w1 ⟨rfl, rfl⟩
    go_wp2_with fail
    refine (K.out).mono ?_
    rintro e w2 ⟨er, w3, rfl, ⟨rfl, q3, q4⟩, t3, t4⟩
    have q3' := q3.carry t4 (by simp)
    have q4' := q4.carry t4 (by simp)
    have c3 := q3'.c0
    have c4 := q4'.c0
    have z3 := q3'.fr 0
    have z4 := q4'.fr 0
    have TT := Lib.hid ((T0.out.trans t3 (by intro b hb; simp at hb; omega)).trans t4 (by intro b hb; simp at hb; omega))
    clear q3 q4 t3 t4 K
    go_upto_region 4 with fail
    go_region
    go_wp2_with fail
    have v3 := (q3'.set0 (.int .i64 ((portsA x l : Nat) : Int))).carry ((Touch.refl [w.heap.size + 1 + 1 + 1] _).setCell (a := ⟨w.heap.size + 1 + 1 + 1, 0, none⟩) (Or.inl (by simp)) (.int .i64 ((portsB x l : Nat) : Int))) (by simp)
    have v4 := (q4'.carry ((Touch.refl [w.heap.size + 1 + 1] _).setCell (a := ⟨w.heap.size + 1 + 1, 0, none⟩) (Or.inl (by simp)) (.int .i64 ((portsA x l : Nat) : Int))) (by simp)).set0 (.int .i64 ((portsB x l : Nat) : Int))
    have d3 := v3.c0
    have d4 := v4.c0
    refine bodyPost_ret (v := .tuple #[.int .i64 (portsA x l : Nat), .int .i64 (portsB x l : Nat), .int .i64 (portsE x l)]) (by simp [results, Tryd.results38, go_sem, d3, d4]) rfl ⟨rfl, ?_⟩
    exact ((TT.out.setCell (Or.inr (show w.heap.size ≤ w.heap.size + 1 + 1 by omega)) _).setCell (Or.inr (show w.heap.size ≤ w.heap.size + 1 + 1 + 1 by omega)) _).drew
  · have hx' : decide (0 < leastV x) = false := by simpa using hx
    have x6 : x ≠ 6 := fun e => by subst e; exact hx (by decide)
    have x17 : x ≠ 17 := fun e => by subst e; exact hx (by decide)
    have hA : portsA x l = 0 := by unfold portsA; rw [if_neg (fun h => hx h.1)]
    have hB : portsB x l = 0 := by unfold portsB; rw [if_neg (fun h => hx h.1)]
    have hE : portsE x l = 0 := by unfold portsE; rw [if_neg x6, if_neg x17]
    rw [hA, hB, hE]
    rw [hx'] at HH
    go_enter Tryd.func38, Tryd.ntmps38
    go_wp2_with fail
    refine (HH.out _).mono ?_
    rintro e w1 ⟨rfl, rfl⟩
    go_wp2_with fail
    refine bodyPost_ret (v := .tuple #[.int .i64 0, .int .i64 0, .int .i64 0]) (by simp [results, Tryd.results38, go_sem]) rfl ⟨rfl, ?_⟩
    exact ((((Touch.refl [] w).alloc _).alloc _).alloc _).alloc _
end Go.Proofs.YtdpaiegojioimaaDoor

/-
  The reference of ports (layer 13): two, Of.
-/
namespace Go.Proofs.YtdpaiegojioimaaDoor
open Go.ChangeShapes Go.WideShapes Go.ChangeAt Go.RowKit Go.Deep
set_option linter.unusedVariables false
set_option linter.unusedSimpArgs false

theorem index_str (l : List UInt8) (i : Nat) (hi : i < l.length) (w : World) : (Instr.index 9 (.string (S l)) (.int .i64 (i : Int))).run Tryd.prog w = .ok (.int .u8 ((l[i]).toNat : Int)) w := by
  have h : (S l)[i]? = some l[i] := by
    have : i < (S l).size := by rw [S_size]; exact hi
    rw [getElem?_pos (S l) i this]
    rfl
  simp [Instr.index, run_underlying Tryd.underlying9, asIntOf, h]
theorem num_pair (a b : UInt8) : num [a, b] = 256 * a.toNat + b.toNat := by simp [num]; omega
set_option maxRecDepth 100000 in
theorem refTwo (l : List UInt8) (i : Nat) (hi : i + 2 ≤ l.length) (h3 : i < 100) (w : World) :
    Calls Tryd.prog 75 #[.string (S l), .int .i64 (i : Int)] w fun e w' => e = .returned (.int .i64 (num ((l.drop i).take 2) : Nat)) ∧ Touch [] w w' := by
  have x1 := index_str l i (by omega)
  have x2 := index_str l (i + 1) (by omega)
  rw [show ((i + 1 : Nat) : Int) = (i : Int) + 1 by omega] at x2
  have hd : (l.drop i).take 2 = [l[i], l[i + 1]] := by
    rw [List.drop_eq_getElem_cons (by omega), List.drop_eq_getElem_cons (by omega)]
    rfl
  rw [hd, num_pair]
  have h1 := (l[i]).toNat_lt
  have h2 := (l[i + 1]).toNat_lt
  generalize (l[i]).toNat = a at *
  generalize (l[i + 1]).toNat = b at *
  have f1 : IntKind.i64.wrap (a : Int) = (a : Int) := by rw [IntKind.wrap_i64]; omega
  have f2 : IntKind.i64.wrap (b : Int) = (b : Int) := by rw [IntKind.wrap_i64]; omega
  have f3 : IntKind.i64.wrap (256 * (a : Int)) = 256 * (a : Int) := by rw [IntKind.wrap_i64]; omega
  have f4 : IntKind.i64.wrap (256 * (a : Int) + (b : Int)) = 256 * (a : Int) + (b : Int) := by rw [IntKind.wrap_i64]; omega
  have f5 : IntKind.i64.wrap ((i : Int) + 1) = (i : Int) + 1 := by rw [IntKind.wrap_i64]; omega
  go_enter Tryd.func75, Tryd.ntmps75
  go_upto_region 1 with fail
  go_region
  all_goals go_wp2_with fail
  all_goals go_ret
  all_goals exact ⟨ret_int (by omega), (Touch.refl _ _).drew⟩

set_option maxHeartbeats 1000000 in
set_option maxRecDepth 100000 in
theorem refOf13 (x : Int) (l : List UInt8) (hl : l.length ≤ 1000000000) (w : World) :
    Calls Tryd.prog 40 #[.int .i64 x, .string (S l)] w fun e w' => e = .returned (.tuple #[.int .i64 (portsA x l : Nat), .int .i64 (portsB x l : Nat), .int .i64 (portsE x l)]) ∧ Touch [] w w' := by
  have hz := S_size l
  by_cases h6 : x = 6
  · subst h6
    by_cases hs : l.length < 20
    · have hE : portsE 6 l = 5 := by unfold portsE; rw [if_pos rfl, if_pos hs]
      have hA : portsA 6 l = 0 := by unfold portsA; rw [hE, if_neg (by simp)]
      have hB : portsB 6 l = 0 := by unfold portsB; rw [hE, if_neg (by simp)]
      rw [hA, hB, hE]
      have g : (l.length : Int) < 20 := by omega
      go_enter Tryd.func40, Tryd.ntmps40
      go_wp2_with fail
      refine bodyPost_ret (results_tmp3 rfl _ _ _) rfl ?_
      exact ⟨rfl, Touch.refl _ _⟩
    · have ht : tcpTold l = (l[12]'(by omega)).toNat / 16 * 4 := by unfold tcpTold; rw [List.getElem?_eq_getElem (by omega)]; rfl
      have xi := index_str l 12 (by omega)
      rw [show ((12 : Nat) : Int) = 12 from rfl] at xi
      have hb := (l[12]'(by omega)).toNat_lt
      have g : ¬ ((l.length : Int) < 20) := by omega
      have T0 := Lib.hid (fun w => refTwo l 0 (by omega) (by omega) w)
      have T2 := Lib.hid (fun w => refTwo l 2 (by omega) (by omega) w)
      simp only [List.drop_zero] at T0
      by_cases c : 20 ≤ tcpTold l ∧ tcpTold l ≤ l.length
      · have hE : portsE 6 l = 0 := by unfold portsE; rw [if_pos rfl, if_neg hs, if_pos c]
        have hA : portsA 6 l = num (l.take 2) := by unfold portsA; rw [hE, if_pos ⟨by decide, rfl⟩]
        have hB : portsB 6 l = num ((l.drop 2).take 2) := by unfold portsB; rw [hE, if_pos ⟨by decide, rfl⟩]
        rw [hA, hB, hE]
        rw [ht] at c
        generalize (l[12]'(by omega)).toNat = b at *
        have c1 : ¬ (4 * ((b : Int) / 16) < 20) := by omega
        have c2 : ¬ ((l.length : Int) < 4 * ((b : Int) / 16)) := by omega
        clear hE hA hB
        go_enter Tryd.func40, Tryd.ntmps40
        go_wp2_with fail
        refine (T0.out _).mono ?_
        rintro e w1 ⟨rfl, t1⟩
        go_wp2_with fail
        refine (T2.out _).mono ?_
        rintro e w2 ⟨rfl, t2⟩
        go_wp2_with fail
        refine bodyPost_ret (results_tmp3 rfl _ _ _) rfl ?_
        exact ⟨rfl, t1.trans t2 (by simp)⟩
      · have hE : portsE 6 l = 23 := by unfold portsE; rw [if_pos rfl, if_neg hs, if_neg c]
        have hA : portsA 6 l = 0 := by unfold portsA; rw [hE, if_neg (by simp)]
        have hB : portsB 6 l = 0 := by unfold portsB; rw [hE, if_neg (by simp)]
        rw [hA, hB, hE]
        rw [ht] at c
        generalize (l[12]'(by omega)).toNat = b at *
        clear hE hA hB
        by_cases c1 : 4 * ((b : Int) / 16) < 20
        · go_enter Tryd.func40, Tryd.ntmps40
          go_wp2_with fail
          refine bodyPost_ret (results_tmp3 rfl _ _ _) rfl ?_
          exact ⟨rfl, Touch.refl _ _⟩
        · have c2 : (l.length : Int) < 4 * ((b : Int) / 16) := by omega
          go_enter Tryd.func40, Tryd.ntmps40
          go_wp2_with fail
          refine bodyPost_ret (results_tmp3 rfl _ _ _) rfl ?_
          exact ⟨rfl, Touch.refl _ _⟩
  · have b6 : (x == 6) = false := by simpa using h6
    by_cases h17 : x = 17
    · subst h17
      by_cases hs : l.length < 8
      · have hE : portsE 17 l = 5 := by unfold portsE; rw [if_neg h6, if_pos rfl, if_pos hs]
        have hA : portsA 17 l = 0 := by unfold portsA; rw [hE, if_neg (by simp)]
        have hB : portsB 17 l = 0 := by unfold portsB; rw [hE, if_neg (by simp)]
        rw [hA, hB, hE]
        have g : (l.length : Int) < 8 := by omega
        go_enter Tryd.func40, Tryd.ntmps40
        go_wp2_with fail
        refine bodyPost_ret (results_tmp3 rfl _ _ _) rfl ?_
        exact ⟨rfl, Touch.refl _ _⟩
      · have g : ¬ ((l.length : Int) < 8) := by omega
        have T0 := Lib.hid (fun w => refTwo l 0 (by omega) (by omega) w)
        have T2 := Lib.hid (fun w => refTwo l 2 (by omega) (by omega) w)
        have T4 := Lib.hid (fun w => refTwo l 4 (by omega) (by omega) w)
        simp only [List.drop_zero] at T0
        by_cases c : 8 ≤ udpTold l ∧ udpTold l ≤ l.length
        · have hE : portsE 17 l = 0 := by unfold portsE; rw [if_neg h6, if_pos rfl, if_neg hs, if_pos c]
          have hA : portsA 17 l = num (l.take 2) := by unfold portsA; rw [hE, if_pos ⟨by decide, rfl⟩]
          have hB : portsB 17 l = num ((l.drop 2).take 2) := by unfold portsB; rw [hE, if_pos ⟨by decide, rfl⟩]
          rw [hA, hB, hE]
          unfold udpTold at c
          generalize num ((l.drop 4).take 2) = b at *
          have c1 : ¬ ((b : Int) < 8) := by omega
          have c2 : ¬ ((l.length : Int) < (b : Int)) := by omega
          clear hE hA hB
          go_enter Tryd.func40, Tryd.ntmps40
          go_wp2_with fail
          refine (T4.out _).mono ?_
          rintro e w1 ⟨rfl, t1⟩
          go_wp2_with fail
          refine (T4.out _).mono ?_
          rintro e w2 ⟨rfl, t2⟩
          go_wp2_with fail
          refine (T0.out _).mono ?_
          rintro e w3 ⟨rfl, t3⟩
          go_wp2_with fail
          refine (T2.out _).mono ?_
          rintro e w4 ⟨rfl, t4⟩
          go_wp2_with fail
          refine bodyPost_ret (results_tmp3 rfl _ _ _) rfl ?_
          exact ⟨rfl, ((t1.trans t2 (by simp)).trans t3 (by simp)).trans t4 (by simp)⟩
        · have hE : portsE 17 l = 6 := by unfold portsE; rw [if_neg h6, if_pos rfl, if_neg hs, if_neg c]
          have hA : portsA 17 l = 0 := by unfold portsA; rw [hE, if_neg (by simp)]
          have hB : portsB 17 l = 0 := by unfold portsB; rw [hE, if_neg (by simp)]
          rw [hA, hB, hE]
          unfold udpTold at c
          generalize num ((l.drop 4).take 2) = b at *
          clear hE hA hB
          by_cases c1 : (b : Int) < 8
          · go_enter Tryd.func40, Tryd.ntmps40
            go_wp2_with fail
            refine (T4.out _).mono ?_
            rintro e w1 ⟨rfl, t1⟩
            go_wp2_with fail
            refine bodyPost_ret (results_tmp3 rfl _ _ _) rfl ?_
            exact ⟨rfl, t1⟩
          · have c2 : (l.length : Int) < (b : Int) := by omega
            go_enter Tryd.func40, Tryd.ntmps40
            go_wp2_with fail
            refine (T4.out _).mono ?_
            rintro e w1 ⟨rfl, t1⟩
            go_wp2_with fail
            refine (T4.out _).mono ?_
            rintro e w2 ⟨rfl, t2⟩
            go_wp2_with fail
            refine bodyPost_ret (results_tmp3 rfl _ _ _) rfl ?_
            exact ⟨rfl, t1.trans t2 (by simp)⟩
    · have b17 : (x == 17) = false := by simpa using h17
      have hE : portsE x l = 0 := by unfold portsE; rw [if_neg h6, if_neg h17]
      have hx : ¬ 0 < leastV x := by unfold leastV; rw [if_neg h6, if_neg h17]; omega
      have hA : portsA x l = 0 := by unfold portsA; rw [if_neg (fun h => hx h.1)]
      have hB : portsB x l = 0 := by unfold portsB; rw [if_neg (fun h => hx h.1)]
      rw [hA, hB, hE]
      go_enter Tryd.func40, Tryd.ntmps40
      go_wp2_with fail
      refine bodyPost_ret (results_tmp3 rfl _ _ _) rfl ?_
      exact ⟨rfl, Touch.refl _ _⟩
end Go.Proofs.YtdpaiegojioimaaDoor

/-
  Layer 14 (flow): what Of tells; flow's parse.
-/
namespace Go.Proofs.YtdpaiegojioimaaDoor
open Go.ChangeShapes Go.WideShapes Go.ChangeAt Go.RowKit Go.Deep
set_option linter.unusedVariables false
set_option linter.unusedSimpArgs false

/-- A key by its fields. -/
structure Ky where
  ver : Int
  sh : Nat
  sl : Nat
  dh : Nat
  dl : Nat
  proto : Int
  sp : Int
  dp : Int
def Ky.cells (k : Ky) : Array Value := #[.int .i64 k.ver, .int .u64 (k.sh : Int), .int .u64 (k.sl : Int), .int .u64 (k.dh : Int), .int .u64 (k.dl : Int), .int .i64 k.proto, .int .i64 k.sp, .int .i64 k.dp]
def zeroK : Ky := ⟨0, 0, 0, 0, 0, 0, 0, 0⟩
def verF (L : List UInt8) : Nat := byteAt L 0 / 16
def hdF (v : Nat) (L : List UInt8) : Hd := if v = 4 then hdP L else if v = 6 then hd6 L else zeroP
def errF (v : Nat) (L : List UInt8) : Int := if v = 4 then errP L else if v = 6 then err6 L else 22
def segF (h : Hd) (L : List UInt8) : List UInt8 := (L.drop h.start.toNat).take (h.size.toNat - h.start.toNat)
def isFrag (h : Hd) : Bool := h.off != 0 || h.more
def errO (L : List UInt8) : Int :=
  if L.length = 0 then 5 else if errF (verF L) L ≠ 0 then errF (verF L) L else if isFrag (hdF (verF L) L) = true then 0 else portsE (hdF (verF L) L).proto (segF (hdF (verF L) L) L)
def bareK (v : Nat) (h : Hd) (a b : Int) : Ky := ⟨v, h.sh, h.sl, h.dh, h.dl, h.proto, a, b⟩
def keyO (L : List UInt8) : Ky :=
  if errO L ≠ 0 then zeroK else if isFrag (hdF (verF L) L) = true then bareK (verF L) (hdF (verF L) L) 0 0
  else bareK (verF L) (hdF (verF L) L) (portsA (hdF (verF L) L).proto (segF (hdF (verF L) L) L) : Nat) (portsB (hdF (verF L) L).proto (segF (hdF (verF L) L) L) : Nat)

theorem walk_range : ∀ (n : Nat) (h : Hd) (s : List UInt8), walkE n h s = 0 → h.start + (s.length : Int) = h.size → (walkH n h s).size = h.size ∧ h.start ≤ (walkH n h s).start ∧ (walkH n h s).start ≤ h.size
  | 0, h, s, _, hs => ⟨rfl, Int.le_refl _, by show h.start ≤ h.size; omega⟩
  | n + 1, h, s, he, hs => by
    by_cases hst : stop6 h = true
    · rw [(walk_stop _ h s hst).2]
      exact ⟨rfl, Int.le_refl _, by omega⟩
    have hst' : stop6 h = false := by simpa using hst
    by_cases h8 : s.length < 8
    · rw [(walk_short n h s hst' h8).1] at he
      cases he
    by_cases hl : s.length < len6 h.proto s
    · rw [(walk_long n h s hst' h8 hl).1] at he
      cases he
    obtain ⟨w1, w2⟩ := walk_next n h s hst' h8 hl
    rw [w1] at he
    rw [w2]
    have e1 : (step6 h s).start = h.start + (len6 h.proto s : Nat) := rfl
    have e2 : (step6 h s).size = h.size := by unfold step6 frag; split <;> rfl
    obtain ⟨a, b, c⟩ := walk_range n (step6 h s) (s.drop (len6 h.proto s)) he (by rw [e1, e2, List.length_drop]; omega)
    rw [e1] at b
    rw [e2] at a c
    exact ⟨a, by omega, c⟩
theorem rangeF (v : Nat) (L : List UInt8) (h : errF v L = 0) : ∃ a b : Nat, (hdF v L).start = (a : Int) ∧ (hdF v L).size = (b : Int) ∧ a ≤ b ∧ b ≤ L.length := by
  unfold errF at h
  unfold hdF
  by_cases h4 : v = 4
  · rw [if_pos h4] at h ⊢
    have e : hdP L = wholeP L := by unfold hdP; rw [if_pos h]
    rw [e]
    refine ⟨startP L, twoA L 2, rfl, rfl, ?_⟩
    unfold errP at h
    by_cases c1 : L.length < 20
    · rw [if_pos c1] at h; cases h
    rw [if_neg c1] at h
    by_cases c2 : byteAt L 0 / 16 ≠ 4
    · rw [if_pos c2] at h; cases h
    rw [if_neg c2] at h
    by_cases c3 : ¬ (20 ≤ startP L ∧ startP L ≤ L.length)
    · rw [if_pos c3] at h; cases h
    rw [if_neg c3] at h
    by_cases c4 : ¬ (startP L ≤ twoA L 2 ∧ twoA L 2 ≤ L.length)
    · rw [if_pos c4] at h; cases h
    omega
  rw [if_neg h4] at h ⊢
  by_cases h6 : v = 6
  · rw [if_pos h6] at h ⊢
    have eB : errB L = 0 := by
      unfold err6 at h
      by_cases c : errB L = 0
      · exact c
      · rw [if_neg c] at h; exact absurd h c
    have e1 : hd6 L = walkH 8 (hdB L) (body6 L) := by unfold hd6; rw [if_pos h]
    have e2 : walkE 8 (hdB L) (body6 L) = 0 := by unfold err6 at h; rwa [if_pos eB] at h
    obtain ⟨n1, n2, n3⟩ := body_length L eB
    have hs : (hdB L).start = 40 := rfl
    have hz : (hdB L).size = 40 + (twoA L 4 : Nat) := rfl
    obtain ⟨a, b, c⟩ := walk_range 8 (hdB L) (body6 L) e2 (by rw [hs, hz, n1])
    rw [e1]
    rw [hs] at b
    rw [hz] at a c
    refine ⟨(walkH 8 (hdB L) (body6 L)).start.toNat, 40 + twoA L 4, by omega, by rw [a]; omega, by omega, n3⟩
  · rw [if_neg h6] at h
    cases h

set_option maxRecDepth 100000 in
set_option maxHeartbeats 2000000 in
theorem parse14 (v : Nat) (L : List UInt8) (hl : L.length ≤ 100000) {w : World} (K : Tab6 w) :
    Calls Tryd.prog 37 #[.int .i64 (v : Int), .string (S L)] w fun e w' => e = .returned (.tuple #[.agg (hdF v L).cells, .int .i64 (errF v L)]) ∧ Touch [] w w' := by
  have B0 := Lib.hid (BoxV.new w 27 #[.int .u64 0, .int .u64 0, .int .u64 0, .int .u64 0, .int .i64 0, .int .i64 0, .int .i64 0, .int .i64 0, .bool false])
  have T0 := Lib.hid ((Touch.refl [] w).alloc (.cells #[.int .u64 0, .int .u64 0, .int .u64 0, .int .u64 0, .int .i64 0, .int .i64 0, .int .i64 0, .int .i64 0, .bool false] 27))
  have K0 := K.carry T0.out (by simp)
  unfold hdF errF
  by_cases h4 : v = 4
  · rw [if_pos h4, if_pos h4]
    subst h4
    have P := Lib.hid (parse11 L hl (w.alloc (.cells #[.int .u64 0, .int .u64 0, .int .u64 0, .int .u64 0, .int .i64 0, .int .i64 0, .int .i64 0, .int .i64 0, .bool false] 27)))
    generalize hdP L = D at *
    generalize errP L = E at *
    unfold Hd.cells at *
    clear K0 K
    go_enter Tryd.func37, Tryd.ntmps37
    go_wp2_with fail
    refine (P.out).mono ?_
    rintro e w1 ⟨rfl, t1⟩
    have TA := (Touch.refl [] w1).alloc (.cells #[.int .u64 (D.sh : Int), .int .u64 (D.sl : Int), .int .u64 (D.dh : Int), .int .u64 (D.dl : Int), .int .i64 D.proto, .int .i64 D.start, .int .i64 D.size, .int .i64 D.off, .bool D.more] 77)
    have C1 := BoxV.new w1 77 #[.int .u64 (D.sh : Int), .int .u64 (D.sl : Int), .int .u64 (D.dh : Int), .int .u64 (D.dl : Int), .int .i64 D.proto, .int .i64 D.start, .int .i64 D.size, .int .i64 D.off, .bool D.more]
    have B1 := (B0.out.carry t1 (by simp)).carry TA (by simp)
    have T1 := Lib.hid ((T0.out.trans t1 (by simp)).trans TA (by simp))
    go_upto_region 4 with fail
    generalize w1.alloc (.cells #[.int .u64 (D.sh : Int), .int .u64 (D.sl : Int), .int .u64 (D.dh : Int), .int .u64 (D.dl : Int), .int .i64 D.proto, .int .i64 D.start, .int .i64 D.size, .int .i64 D.off, .bool D.more] 77) = w2 at *
    have r0 := B1.cell 0
    have r1 := B1.cell 1
    have r2 := B1.cell 2
    have r3 := B1.cell 3
    have r4 := B1.cell 4
    have r5 := B1.cell 5
    have r6 := B1.cell 6
    have r7 := B1.cell 7
    have r8 := B1.cell 8
    have u0 := C1.cell 0
    have u1 := C1.cell 1
    have u2 := C1.cell 2
    have u3 := C1.cell 3
    have u4 := C1.cell 4
    have u5 := C1.cell 5
    have u6 := C1.cell 6
    have u7 := C1.cell 7
    have u8 := C1.cell 8
    have fz := B1.fr
    have ltq := B1.lt
    have HB := Lib.hid B1
    clear B1 C1 TA t1 B0 T0 P
    go_wp2_with fail
    refine bodyPost_ret (ret_box_tmp rfl rfl (HB.out.fill9 (.int .u64 (D.sh : Int)) (.int .u64 (D.sl : Int)) (.int .u64 (D.dh : Int)) (.int .u64 (D.dl : Int)) (.int .i64 D.proto) (.int .i64 D.start) (.int .i64 D.size) (.int .i64 D.off) (.bool D.more)) Tryd.underlying27 rfl (by kernel_rfl)) rfl ⟨rfl, T1.out.trans (touch_fill9 w2 w.heap.size (.int .u64 (D.sh : Int)) (.int .u64 (D.sl : Int)) (.int .u64 (D.dh : Int)) (.int .u64 (D.dl : Int)) (.int .i64 D.proto) (.int .i64 D.start) (.int .i64 D.size) (.int .i64 D.off) (.bool D.more)) (by simp)⟩
  rw [if_neg h4, if_neg h4]
  have d4 : ((v : Int) == 4) = false := by simp; omega
  have d4' : (v == 4) = false := by simpa using h4
  by_cases h6 : v = 6
  · rw [if_pos h6, if_pos h6]
    subst h6
    have P := Lib.hid (parse12 L hl K0)
    generalize hd6 L = D at *
    generalize err6 L = E at *
    unfold Hd.cells at *
    clear K0 K d4 d4' h4
    go_enter Tryd.func37, Tryd.ntmps37
    go_wp2_with fail
    refine (P.out).mono ?_
    rintro e w1 ⟨rfl, t1⟩
    have B1 := B0.out.carry t1 (by simp)
    have T1 := Lib.hid (T0.out.trans t1 (by simp))
    have r0 := B1.cell 0
    have r1 := B1.cell 1
    have r2 := B1.cell 2
    have r3 := B1.cell 3
    have r4 := B1.cell 4
    have r5 := B1.cell 5
    have r6 := B1.cell 6
    have r7 := B1.cell 7
    have r8 := B1.cell 8
    have fz := B1.fr
    have ltq := B1.lt
    have HB := Lib.hid B1
    clear B1 t1 B0 T0 P
    go_wp2_with fail
    refine bodyPost_ret (ret_box_tmp rfl rfl (HB.out.fill9 (.int .u64 (D.sh : Int)) (.int .u64 (D.sl : Int)) (.int .u64 (D.dh : Int)) (.int .u64 (D.dl : Int)) (.int .i64 D.proto) (.int .i64 D.start) (.int .i64 D.size) (.int .i64 D.off) (.bool D.more)) Tryd.underlying27 rfl (by kernel_rfl)) rfl ⟨rfl, T1.out.trans (touch_fill9 w1 w.heap.size (.int .u64 (D.sh : Int)) (.int .u64 (D.sl : Int)) (.int .u64 (D.dh : Int)) (.int .u64 (D.dl : Int)) (.int .i64 D.proto) (.int .i64 D.start) (.int .i64 D.size) (.int .i64 D.off) (.bool D.more)) (by simp)⟩
  · rw [if_neg h6, if_neg h6]
    have d6 : ((v : Int) == 6) = false := by simp; omega
    have d6' : (v == 6) = false := by simpa using h6
    unfold zeroP Hd.cells at *
    clear K0 K h4 h6
    go_enter Tryd.func37, Tryd.ntmps37
    go_wp2_with fail
    refine bodyPost_ret (v := .tuple #[.agg #[.int .u64 0, .int .u64 0, .int .u64 0, .int .u64 0, .int .i64 0, .int .i64 0, .int .i64 0, .int .i64 0, .bool false], .int .i64 22]) (by simp [results, Tryd.results37, go_sem]) rfl ⟨rfl, (Touch.refl _ _).alloc _⟩
end Go.Proofs.YtdpaiegojioimaaDoor

/-
  Layer 14 (flow): Of.
-/
namespace Go.Proofs.YtdpaiegojioimaaDoor
open Go.ChangeShapes Go.WideShapes Go.ChangeAt Go.RowKit Go.Deep
set_option linter.unusedVariables false
set_option linter.unusedSimpArgs false

def fill8 (w : World) (b : Nat) (v0 v1 v2 v3 v4 v5 v6 v7 : Value) : World := ((((((((w.setCell ⟨b, 0, none⟩ v0).setCell ⟨b, 1, none⟩ v1).setCell ⟨b, 2, none⟩ v2).setCell ⟨b, 3, none⟩ v3).setCell ⟨b, 4, none⟩ v4).setCell ⟨b, 5, none⟩ v5).setCell ⟨b, 6, none⟩ v6).setCell ⟨b, 7, none⟩ v7)
theorem BoxV.fill8 {w : World} {b : Nat} {T : TypeId} {z0 z1 z2 z3 z4 z5 z6 z7 : Value} (h : BoxV w b T #[z0, z1, z2, z3, z4, z5, z6, z7]) (v0 v1 v2 v3 v4 v5 v6 v7 : Value) : BoxV (fill8 w b v0 v1 v2 v3 v4 v5 v6 v7) b T #[v0, v1, v2, v3, v4, v5, v6, v7] := by
  have h1 : BoxV (w.setCell ⟨b, 0, none⟩ v0) b T #[v0, z1, z2, z3, z4, z5, z6, z7] := h.set 0 v0
  have h2 : BoxV ((w.setCell ⟨b, 0, none⟩ v0).setCell ⟨b, 1, none⟩ v1) b T #[v0, v1, z2, z3, z4, z5, z6, z7] := h1.set 1 v1
  have h3 : BoxV (((w.setCell ⟨b, 0, none⟩ v0).setCell ⟨b, 1, none⟩ v1).setCell ⟨b, 2, none⟩ v2) b T #[v0, v1, v2, z3, z4, z5, z6, z7] := h2.set 2 v2
  have h4 : BoxV ((((w.setCell ⟨b, 0, none⟩ v0).setCell ⟨b, 1, none⟩ v1).setCell ⟨b, 2, none⟩ v2).setCell ⟨b, 3, none⟩ v3) b T #[v0, v1, v2, v3, z4, z5, z6, z7] := h3.set 3 v3
  have h5 : BoxV (((((w.setCell ⟨b, 0, none⟩ v0).setCell ⟨b, 1, none⟩ v1).setCell ⟨b, 2, none⟩ v2).setCell ⟨b, 3, none⟩ v3).setCell ⟨b, 4, none⟩ v4) b T #[v0, v1, v2, v3, v4, z5, z6, z7] := h4.set 4 v4
  have h6 : BoxV ((((((w.setCell ⟨b, 0, none⟩ v0).setCell ⟨b, 1, none⟩ v1).setCell ⟨b, 2, none⟩ v2).setCell ⟨b, 3, none⟩ v3).setCell ⟨b, 4, none⟩ v4).setCell ⟨b, 5, none⟩ v5) b T #[v0, v1, v2, v3, v4, v5, z6, z7] := h5.set 5 v5
  have h7 : BoxV (((((((w.setCell ⟨b, 0, none⟩ v0).setCell ⟨b, 1, none⟩ v1).setCell ⟨b, 2, none⟩ v2).setCell ⟨b, 3, none⟩ v3).setCell ⟨b, 4, none⟩ v4).setCell ⟨b, 5, none⟩ v5).setCell ⟨b, 6, none⟩ v6) b T #[v0, v1, v2, v3, v4, v5, v6, z7] := h6.set 6 v6
  have h8 : BoxV ((((((((w.setCell ⟨b, 0, none⟩ v0).setCell ⟨b, 1, none⟩ v1).setCell ⟨b, 2, none⟩ v2).setCell ⟨b, 3, none⟩ v3).setCell ⟨b, 4, none⟩ v4).setCell ⟨b, 5, none⟩ v5).setCell ⟨b, 6, none⟩ v6).setCell ⟨b, 7, none⟩ v7) b T #[v0, v1, v2, v3, v4, v5, v6, v7] := h7.set 7 v7
  exact h8
theorem touch_fill8 (w : World) (b : Nat) (v0 v1 v2 v3 v4 v5 v6 v7 : Value) : Touch [b] w (fill8 w b v0 v1 v2 v3 v4 v5 v6 v7) :=
  (((((((((Touch.refl [b] w).setCell (a := ⟨b, 0, none⟩) (.inl (List.mem_singleton.2 rfl)) v0).setCell (a := ⟨b, 1, none⟩) (.inl (List.mem_singleton.2 rfl)) v1).setCell (a := ⟨b, 2, none⟩) (.inl (List.mem_singleton.2 rfl)) v2).setCell (a := ⟨b, 3, none⟩) (.inl (List.mem_singleton.2 rfl)) v3).setCell (a := ⟨b, 4, none⟩) (.inl (List.mem_singleton.2 rfl)) v4).setCell (a := ⟨b, 5, none⟩) (.inl (List.mem_singleton.2 rfl)) v5).setCell (a := ⟨b, 6, none⟩) (.inl (List.mem_singleton.2 rfl)) v6).setCell (a := ⟨b, 7, none⟩) (.inl (List.mem_singleton.2 rfl)) v7)
theorem not_empty (L : List UInt8) (h : L.length ≠ 0) : (S L).toList.isEmpty = false := by
  rw [S_toList]
  cases L with
  | nil => exact absurd rfl h
  | cons a t => rfl

set_option maxRecDepth 100000 in
set_option maxHeartbeats 4000000 in
theorem of14 (L : List UInt8) (hl : L.length ≤ 100000) {w : World} (K : Tab6 w) :
    Calls Tryd.prog 17 #[.string (S L)] w fun e w' => e = .returned (.tuple #[.agg (keyO L).cells, .int .i64 (errO L)]) ∧ Touch [] w w' := by
  have hss : (S L).size = L.length := S_size L
  have B0 := Lib.hid (BoxV.new w 41 #[.int .i64 0, .int .u64 0, .int .u64 0, .int .u64 0, .int .u64 0, .int .i64 0, .int .i64 0, .int .i64 0])
  have T0 := Lib.hid ((Touch.refl [] w).alloc (.cells #[.int .i64 0, .int .u64 0, .int .u64 0, .int .u64 0, .int .u64 0, .int .i64 0, .int .i64 0, .int .i64 0] 41))
  have K0 := K.carry T0.out (by simp)
  by_cases h0 : L.length = 0
  · obtain rfl : L = [] := List.length_eq_zero_iff.1 h0
    have e1 : errO [] = 5 := rfl
    have e2 : keyO [] = zeroK := rfl
    rw [e1, e2, show S [] = ⟨#[]⟩ from rfl]
    unfold zeroK Ky.cells at *
    clear K0 K
    go_enter Tryd.func17, Tryd.ntmps17
    go_wp2_with fail
    refine bodyPost_ret (v := .tuple #[.agg #[.int .i64 0, .int .u64 0, .int .u64 0, .int .u64 0, .int .u64 0, .int .i64 0, .int .i64 0, .int .i64 0], .int .i64 5]) (by simp [results, Tryd.results17, go_sem]) rfl ⟨rfl, (Touch.refl _ _).alloc _⟩
  have ne := not_empty L h0
  have hx0 : ∀ w : World, (Instr.index 9 (.string (S L)) (.int .i64 0)).run Tryd.prog w = .ok (.int .u8 ((byteAt L 0 : Nat) : Int)) w := fun w => ix_at L 0 (by omega) w
  have hb0 := byteAt_lt L 0
  have hv : ((byteAt L 0 : Nat) : Int) / 16 = ((verF L : Nat) : Int) := by unfold verF; omega
  have hvl : verF L ≤ 15 := by unfold verF; omega
  have P := parse14 (verF L) L hl K0
  by_cases hE : errF (verF L) L ≠ 0
  · have e1 : errO L = errF (verF L) L := by unfold errO; rw [if_neg h0, if_pos hE]
    have e2 : keyO L = zeroK := by unfold keyO; rw [e1, if_pos hE]
    rw [e1, e2]
    have dE : (errF (verF L) L != 0) = true := by simpa using hE
    generalize errF (verF L) L = E at *
    generalize hdF (verF L) L = D at *
    generalize verF L = v at *
    generalize byteAt L 0 = b0 at *
    unfold zeroK Ky.cells Hd.cells at *
    have P := Lib.hid P
    clear K0 K e1 e2 hE
    go_enter Tryd.func17, Tryd.ntmps17
    go_wp2_with fail
    refine (P.out).mono ?_
    rintro e w1 ⟨rfl, t1⟩
    have TA := (Touch.refl [] w1).alloc (.cells #[.int .u64 (D.sh : Int), .int .u64 (D.sl : Int), .int .u64 (D.dh : Int), .int .u64 (D.dl : Int), .int .i64 D.proto, .int .i64 D.start, .int .i64 D.size, .int .i64 D.off, .bool D.more] 27)
    have B1 := (B0.out.carry t1 (by simp)).carry TA (by simp)
    have T1 := Lib.hid ((T0.out.trans t1 (by simp)).trans TA (by simp))
    go_upto_region 6 with fail
    generalize w1.alloc (.cells #[.int .u64 (D.sh : Int), .int .u64 (D.sl : Int), .int .u64 (D.dh : Int), .int .u64 (D.dl : Int), .int .i64 D.proto, .int .i64 D.start, .int .i64 D.size, .int .i64 D.off, .bool D.more] 27) = w2 at *
    have r0 := B1.cell 0
    have r1 := B1.cell 1
    have r2 := B1.cell 2
    have r3 := B1.cell 3
    have r4 := B1.cell 4
    have r5 := B1.cell 5
    have r6 := B1.cell 6
    have r7 := B1.cell 7
    have fz := B1.fr
    have ltq := B1.lt
    have HB := Lib.hid B1
    clear B1 TA t1
    go_wp2_with fail
    refine bodyPost_ret (ret_box_tmp rfl rfl (HB.out.fill8 (.int .i64 0) (.int .u64 0) (.int .u64 0) (.int .u64 0) (.int .u64 0) (.int .i64 0) (.int .i64 0) (.int .i64 0)) Tryd.underlying41 rfl (by kernel_rfl)) rfl ⟨rfl, T1.out.trans (touch_fill8 w2 w.heap.size (.int .i64 0) (.int .u64 0) (.int .u64 0) (.int .u64 0) (.int .u64 0) (.int .i64 0) (.int .i64 0) (.int .i64 0)) (by simp)⟩
  have hE0 : errF (verF L) L = 0 := by
    rcases Int.decEq (errF (verF L) L) 0 with h | h
    · exact absurd h hE
    · exact h
  obtain ⟨a, b, ha, hb, hab, hbl⟩ := rangeF (verF L) L hE0
  have hseg : segF (hdF (verF L) L) L = (L.drop a).take (b - a) := by unfold segF; rw [ha, hb]; rfl
  have hsl : (S L).extract a b = S ((L.drop a).take (b - a)) := S_slice L a b hbl
  have PO := fun w => portsOf (hdF (verF L) L).proto ((L.drop a).take (b - a)) (by rw [List.length_take, List.length_drop]; omega) w
  have eO : errO L = if isFrag (hdF (verF L) L) = true then 0 else portsE (hdF (verF L) L).proto ((L.drop a).take (b - a)) := by unfold errO; rw [if_neg h0, if_neg hE, hseg]
  have kO : keyO L = if errO L ≠ 0 then zeroK else if isFrag (hdF (verF L) L) = true then bareK (verF L) (hdF (verF L) L) 0 0 else bareK (verF L) (hdF (verF L) L) (portsA (hdF (verF L) L).proto ((L.drop a).take (b - a)) : Nat) (portsB (hdF (verF L) L).proto ((L.drop a).take (b - a)) : Nat) := by
    rw [← hseg]
    rfl
  rw [hE0] at P
  generalize hdF (verF L) L = D at *
  obtain ⟨sh, sl, dh, dl, pr, st, sz, of, mo⟩ := D
  simp only at ha hb PO eO kO
  subst ha hb
  generalize portsA pr ((L.drop a).take (b - a)) = pA at *
  generalize portsB pr ((L.drop a).take (b - a)) = pB at *
  generalize portsE pr ((L.drop a).take (b - a)) = pE at *
  generalize (L.drop a).take (b - a) = sg at *
  generalize verF L = v at *
  generalize byteAt L 0 = b0 at *
  have hi1 : (a : Int) ≤ (b : Int) := by omega
  have hi2 : (b : Int) ≤ (L.length : Int) := by omega
  unfold bareK at kO
  unfold isFrag at eO kO
  simp only at eO kO
  unfold Hd.cells at P
  simp only at P
  have P := Lib.hid P
  have PO := Lib.hid PO
  clear K0 K hE hE0 hseg
  by_cases hfr : (of != 0 || mo) = true
  · have e1 : errO L = 0 := by rw [eO, if_pos hfr]
    have e2 : keyO L = ⟨v, sh, sl, dh, dl, pr, 0, 0⟩ := by rw [kO, e1, if_neg (by decide), if_pos hfr]
    rw [e1, e2]
    unfold Ky.cells at *
    clear eO kO e1 e2 PO
    have ways : (of != 0) = true ∨ ((of != 0) = false ∧ mo = true) := by
      cases h1 : (of != 0)
      · rw [h1] at hfr; exact .inr ⟨rfl, by simpa using hfr⟩
      · exact .inl rfl
    clear hfr
    rcases ways with d1 | ⟨d1, rfl⟩
    · go_enter Tryd.func17, Tryd.ntmps17
      go_wp2_with fail
      refine (P.out).mono ?_
      rintro e w1 ⟨rfl, t1⟩
      have TA : Touch [] w1 ((w1.alloc (.cells #[.int .u64 (sh : Int), .int .u64 (sl : Int), .int .u64 (dh : Int), .int .u64 (dl : Int), .int .i64 pr, .int .i64 (a : Int), .int .i64 (b : Int), .int .i64 of, .bool mo] 27)).alloc (.cells #[.int .i64 (v : Int), .int .u64 (sh : Int), .int .u64 (sl : Int), .int .u64 (dh : Int), .int .u64 (dl : Int), .int .i64 pr, .int .i64 0, .int .i64 0] 41)) := ((Touch.refl [] w1).alloc _).alloc _
      have B3 := (B0.out.carry t1 (by simp)).carry TA (by simp)
      have C5 : BoxV ((w1.alloc (.cells #[.int .u64 (sh : Int), .int .u64 (sl : Int), .int .u64 (dh : Int), .int .u64 (dl : Int), .int .i64 pr, .int .i64 (a : Int), .int .i64 (b : Int), .int .i64 of, .bool mo] 27)).alloc (.cells #[.int .i64 (v : Int), .int .u64 (sh : Int), .int .u64 (sl : Int), .int .u64 (dh : Int), .int .u64 (dl : Int), .int .i64 pr, .int .i64 0, .int .i64 0] 41)) w1.heap.size 27 #[.int .u64 (sh : Int), .int .u64 (sl : Int), .int .u64 (dh : Int), .int .u64 (dl : Int), .int .i64 pr, .int .i64 (a : Int), .int .i64 (b : Int), .int .i64 of, .bool mo] := BoxV.of2
      have C7 : BoxV ((w1.alloc (.cells #[.int .u64 (sh : Int), .int .u64 (sl : Int), .int .u64 (dh : Int), .int .u64 (dl : Int), .int .i64 pr, .int .i64 (a : Int), .int .i64 (b : Int), .int .i64 of, .bool mo] 27)).alloc (.cells #[.int .i64 (v : Int), .int .u64 (sh : Int), .int .u64 (sl : Int), .int .u64 (dh : Int), .int .u64 (dl : Int), .int .i64 pr, .int .i64 0, .int .i64 0] 41)) (w1.heap.size + 1) 41 #[.int .i64 (v : Int), .int .u64 (sh : Int), .int .u64 (sl : Int), .int .u64 (dh : Int), .int .u64 (dl : Int), .int .i64 pr, .int .i64 0, .int .i64 0] := BoxV.at1
      have T3 := Lib.hid ((T0.out.trans t1 (by simp)).trans TA (by simp))
      have lw := B0.out.lt
      have lw1 := t1.size
      go_upto_region 8 with fail
      generalize (w1.alloc (.cells #[.int .u64 (sh : Int), .int .u64 (sl : Int), .int .u64 (dh : Int), .int .u64 (dl : Int), .int .i64 pr, .int .i64 (a : Int), .int .i64 (b : Int), .int .i64 of, .bool mo] 27)).alloc (.cells #[.int .i64 (v : Int), .int .u64 (sh : Int), .int .u64 (sl : Int), .int .u64 (dh : Int), .int .u64 (dl : Int), .int .i64 pr, .int .i64 0, .int .i64 0] 41) = w3 at *
      have hw1 : w.heap.size < w1.heap.size := by omega
      have x7 := C5.cell 7
      have x8 := C5.cell 8
      have y0 := C7.cell 0
      have y1 := C7.cell 1
      have y2 := C7.cell 2
      have y3 := C7.cell 3
      have y4 := C7.cell 4
      have y5 := C7.cell 5
      have y6 := C7.cell 6
      have y7 := C7.cell 7
      have r0 := B3.cell 0
      have r1 := B3.cell 1
      have r2 := B3.cell 2
      have r3 := B3.cell 3
      have r4 := B3.cell 4
      have r5 := B3.cell 5
      have r6 := B3.cell 6
      have r7 := B3.cell 7
      have l5 := C5.lt
      have l7 := C7.lt
      have fz := B3.fr
      have ltq := B3.lt
      have HB := Lib.hid B3
      clear B3 C5 C7 TA t1
      go_wp2_with fail
      refine bodyPost_ret (ret_box_tmp rfl rfl (HB.out.fill8 (.int .i64 (v : Int)) (.int .u64 (sh : Int)) (.int .u64 (sl : Int)) (.int .u64 (dh : Int)) (.int .u64 (dl : Int)) (.int .i64 pr) (.int .i64 0) (.int .i64 0)) Tryd.underlying41 rfl (by kernel_rfl)) rfl ⟨rfl, T3.out.trans (touch_fill8 w3 w.heap.size (.int .i64 (v : Int)) (.int .u64 (sh : Int)) (.int .u64 (sl : Int)) (.int .u64 (dh : Int)) (.int .u64 (dl : Int)) (.int .i64 pr) (.int .i64 0) (.int .i64 0)) (by simp)⟩
    · go_enter Tryd.func17, Tryd.ntmps17
      go_wp2_with fail
      refine (P.out).mono ?_
      rintro e w1 ⟨rfl, t1⟩
      have TA : Touch [] w1 ((w1.alloc (.cells #[.int .u64 (sh : Int), .int .u64 (sl : Int), .int .u64 (dh : Int), .int .u64 (dl : Int), .int .i64 pr, .int .i64 (a : Int), .int .i64 (b : Int), .int .i64 of, .bool true] 27)).alloc (.cells #[.int .i64 (v : Int), .int .u64 (sh : Int), .int .u64 (sl : Int), .int .u64 (dh : Int), .int .u64 (dl : Int), .int .i64 pr, .int .i64 0, .int .i64 0] 41)) := ((Touch.refl [] w1).alloc _).alloc _
      have B3 := (B0.out.carry t1 (by simp)).carry TA (by simp)
      have C5 : BoxV ((w1.alloc (.cells #[.int .u64 (sh : Int), .int .u64 (sl : Int), .int .u64 (dh : Int), .int .u64 (dl : Int), .int .i64 pr, .int .i64 (a : Int), .int .i64 (b : Int), .int .i64 of, .bool true] 27)).alloc (.cells #[.int .i64 (v : Int), .int .u64 (sh : Int), .int .u64 (sl : Int), .int .u64 (dh : Int), .int .u64 (dl : Int), .int .i64 pr, .int .i64 0, .int .i64 0] 41)) w1.heap.size 27 #[.int .u64 (sh : Int), .int .u64 (sl : Int), .int .u64 (dh : Int), .int .u64 (dl : Int), .int .i64 pr, .int .i64 (a : Int), .int .i64 (b : Int), .int .i64 of, .bool true] := BoxV.of2
      have C7 : BoxV ((w1.alloc (.cells #[.int .u64 (sh : Int), .int .u64 (sl : Int), .int .u64 (dh : Int), .int .u64 (dl : Int), .int .i64 pr, .int .i64 (a : Int), .int .i64 (b : Int), .int .i64 of, .bool true] 27)).alloc (.cells #[.int .i64 (v : Int), .int .u64 (sh : Int), .int .u64 (sl : Int), .int .u64 (dh : Int), .int .u64 (dl : Int), .int .i64 pr, .int .i64 0, .int .i64 0] 41)) (w1.heap.size + 1) 41 #[.int .i64 (v : Int), .int .u64 (sh : Int), .int .u64 (sl : Int), .int .u64 (dh : Int), .int .u64 (dl : Int), .int .i64 pr, .int .i64 0, .int .i64 0] := BoxV.at1
      have T3 := Lib.hid ((T0.out.trans t1 (by simp)).trans TA (by simp))
      have lw := B0.out.lt
      have lw1 := t1.size
      go_upto_region 8 with fail
      generalize (w1.alloc (.cells #[.int .u64 (sh : Int), .int .u64 (sl : Int), .int .u64 (dh : Int), .int .u64 (dl : Int), .int .i64 pr, .int .i64 (a : Int), .int .i64 (b : Int), .int .i64 of, .bool true] 27)).alloc (.cells #[.int .i64 (v : Int), .int .u64 (sh : Int), .int .u64 (sl : Int), .int .u64 (dh : Int), .int .u64 (dl : Int), .int .i64 pr, .int .i64 0, .int .i64 0] 41) = w3 at *
      have hw1 : w.heap.size < w1.heap.size := by omega
      have x7 := C5.cell 7
      have x8 := C5.cell 8
      have y0 := C7.cell 0
      have y1 := C7.cell 1
      have y2 := C7.cell 2
      have y3 := C7.cell 3
      have y4 := C7.cell 4
      have y5 := C7.cell 5
      have y6 := C7.cell 6
      have y7 := C7.cell 7
      have r0 := B3.cell 0
      have r1 := B3.cell 1
      have r2 := B3.cell 2
      have r3 := B3.cell 3
      have r4 := B3.cell 4
      have r5 := B3.cell 5
      have r6 := B3.cell 6
      have r7 := B3.cell 7
      have l5 := C5.lt
      have l7 := C7.lt
      have fz := B3.fr
      have ltq := B3.lt
      have HB := Lib.hid B3
      clear B3 C5 C7 TA t1
      go_wp2_with fail
      refine bodyPost_ret (ret_box_tmp rfl rfl (HB.out.fill8 (.int .i64 (v : Int)) (.int .u64 (sh : Int)) (.int .u64 (sl : Int)) (.int .u64 (dh : Int)) (.int .u64 (dl : Int)) (.int .i64 pr) (.int .i64 0) (.int .i64 0)) Tryd.underlying41 rfl (by kernel_rfl)) rfl ⟨rfl, T3.out.trans (touch_fill8 w3 w.heap.size (.int .i64 (v : Int)) (.int .u64 (sh : Int)) (.int .u64 (sl : Int)) (.int .u64 (dh : Int)) (.int .u64 (dl : Int)) (.int .i64 pr) (.int .i64 0) (.int .i64 0)) (by simp)⟩
  have hof : (of != 0) = false ∧ mo = false := by
    cases h1 : (of != 0)
    · cases h2 : mo
      · exact ⟨rfl, rfl⟩
      · rw [h1, h2] at hfr; exact absurd rfl hfr
    · rw [h1] at hfr; exact absurd rfl hfr
  obtain ⟨d1, rfl⟩ := hof
  rw [if_neg hfr] at eO kO
  have e1 : errO L = pE := eO
  rw [e1] at kO ⊢
  clear eO e1 hfr
  by_cases hpE : pE = 0
  · have e2 : keyO L = ⟨v, sh, sl, dh, dl, pr, (pA : Nat), (pB : Nat)⟩ := by rw [kO, if_neg (fun h => h hpE)]
    subst hpE
    rw [e2]
    unfold Ky.cells
    clear e2 kO
    go_enter Tryd.func17, Tryd.ntmps17
    go_wp2_with fail
    refine (P.out).mono ?_
    rintro e w1 ⟨rfl, t1⟩
    have TA : Touch [] w1 ((w1.alloc (.cells #[.int .u64 (sh : Int), .int .u64 (sl : Int), .int .u64 (dh : Int), .int .u64 (dl : Int), .int .i64 pr, .int .i64 (a : Int), .int .i64 (b : Int), .int .i64 of, .bool false] 27)).alloc (.cells #[.int .i64 (v : Int), .int .u64 (sh : Int), .int .u64 (sl : Int), .int .u64 (dh : Int), .int .u64 (dl : Int), .int .i64 pr, .int .i64 0, .int .i64 0] 41)) := ((Touch.refl [] w1).alloc _).alloc _
    have B3 := (B0.out.carry t1 (by simp)).carry TA (by simp)
    have C5 : BoxV ((w1.alloc (.cells #[.int .u64 (sh : Int), .int .u64 (sl : Int), .int .u64 (dh : Int), .int .u64 (dl : Int), .int .i64 pr, .int .i64 (a : Int), .int .i64 (b : Int), .int .i64 of, .bool false] 27)).alloc (.cells #[.int .i64 (v : Int), .int .u64 (sh : Int), .int .u64 (sl : Int), .int .u64 (dh : Int), .int .u64 (dl : Int), .int .i64 pr, .int .i64 0, .int .i64 0] 41)) w1.heap.size 27 #[.int .u64 (sh : Int), .int .u64 (sl : Int), .int .u64 (dh : Int), .int .u64 (dl : Int), .int .i64 pr, .int .i64 (a : Int), .int .i64 (b : Int), .int .i64 of, .bool false] := BoxV.of2
    have C7 : BoxV ((w1.alloc (.cells #[.int .u64 (sh : Int), .int .u64 (sl : Int), .int .u64 (dh : Int), .int .u64 (dl : Int), .int .i64 pr, .int .i64 (a : Int), .int .i64 (b : Int), .int .i64 of, .bool false] 27)).alloc (.cells #[.int .i64 (v : Int), .int .u64 (sh : Int), .int .u64 (sl : Int), .int .u64 (dh : Int), .int .u64 (dl : Int), .int .i64 pr, .int .i64 0, .int .i64 0] 41)) (w1.heap.size + 1) 41 #[.int .i64 (v : Int), .int .u64 (sh : Int), .int .u64 (sl : Int), .int .u64 (dh : Int), .int .u64 (dl : Int), .int .i64 pr, .int .i64 0, .int .i64 0] := BoxV.at1
    have T3 := Lib.hid ((T0.out.trans t1 (by simp)).trans TA (by simp))
    have lw := B0.out.lt
    have lw1 := t1.size
    go_upto_region 8 with fail
    generalize (w1.alloc (.cells #[.int .u64 (sh : Int), .int .u64 (sl : Int), .int .u64 (dh : Int), .int .u64 (dl : Int), .int .i64 pr, .int .i64 (a : Int), .int .i64 (b : Int), .int .i64 of, .bool false] 27)).alloc (.cells #[.int .i64 (v : Int), .int .u64 (sh : Int), .int .u64 (sl : Int), .int .u64 (dh : Int), .int .u64 (dl : Int), .int .i64 pr, .int .i64 0, .int .i64 0] 41) = w3 at *
    have hw1 : w.heap.size < w1.heap.size := by omega
    clear lw lw1
    have c5k : True := trivial
    have q7o := C5.cell 7
    have q8o := C5.cell 8
    have l5 := C5.lt
    go_upto_region 10 with fail
    have x4 := C5.cell 4
    have x5 := C5.cell 5
    have x6 := C5.cell 6
    have C7d := Lib.hid (show BoxV w3.drew (w1.heap.size + 1) 41 #[.int .i64 (v : Int), .int .u64 (sh : Int), .int .u64 (sl : Int), .int .u64 (dh : Int), .int .u64 (dl : Int), .int .i64 pr, .int .i64 0, .int .i64 0] from C7)
    have B3d := Lib.hid (show BoxV w3.drew w.heap.size 41 #[.int .i64 0, .int .u64 0, .int .u64 0, .int .u64 0, .int .u64 0, .int .i64 0, .int .i64 0, .int .i64 0] from B3)
    have T3d := Lib.hid T3.out.drew
    clear B3 C5 C7 TA t1 c5k
    go_region_with (go_at_call 38; refine (PO.out _).mono ?_; rintro e wq ⟨rfl, tq⟩; have C7q := C7d.out.carry tq (by simp); have y6 := C7q.cell 6; have y7 := C7q.cell 7; have yf := C7q.fr; have yl := C7q.lt; have HC7 := Lib.hid C7q; have HB0 := Lib.hid (B3d.out.carry tq (by simp)); have HTq := Lib.hid (T3d.out.trans tq (by simp)); clear C7q tq)
    all_goals
      have tw : Touch [w1.heap.size + 1] wq ((wq.setCell ⟨w1.heap.size + 1, 6, none⟩ (.int .i64 (pA : Int))).setCell ⟨w1.heap.size + 1, 7, none⟩ (.int .i64 (pB : Int))) := ((Touch.refl _ _).setCell (a := ⟨w1.heap.size + 1, 6, none⟩) (by simp) _).setCell (a := ⟨w1.heap.size + 1, 7, none⟩) (by simp) _
      have W7 : BoxV ((wq.setCell ⟨w1.heap.size + 1, 6, none⟩ (.int .i64 (pA : Int))).setCell ⟨w1.heap.size + 1, 7, none⟩ (.int .i64 (pB : Int))) (w1.heap.size + 1) 41 #[.int .i64 (v : Int), .int .u64 (sh : Int), .int .u64 (sl : Int), .int .u64 (dh : Int), .int .u64 (dl : Int), .int .i64 pr, .int .i64 (pA : Int), .int .i64 (pB : Int)] := (HC7.out.set 6 (.int .i64 (pA : Int))).set 7 (.int .i64 (pB : Int))
      have W0 := HB0.out.carry tw (by simp; omega)
      have TT := Lib.hid (HTq.out.trans tw (by simp; omega))
      generalize (wq.setCell ⟨w1.heap.size + 1, 6, none⟩ (.int .i64 (pA : Int))).setCell ⟨w1.heap.size + 1, 7, none⟩ (.int .i64 (pB : Int)) = w5 at *
      clear y6 y7 yf yl x4 x5 x6 q7o q8o HC7 HB0 HTq tw
      have f7 := W7.lt
      have fz := W0.fr
      have ltq := W0.lt
      have HB := Lib.hid W0
      have y0 := W7.cell 0
      have y1 := W7.cell 1
      have y2 := W7.cell 2
      have y3 := W7.cell 3
      have y4 := W7.cell 4
      have y5 := W7.cell 5
      have y6 := W7.cell 6
      have y7 := W7.cell 7
      have r0 := W0.cell 0
      have r1 := W0.cell 1
      have r2 := W0.cell 2
      have r3 := W0.cell 3
      have r4 := W0.cell 4
      have r5 := W0.cell 5
      have r6 := W0.cell 6
      have r7 := W0.cell 7
      clear W0 W7
      go_wp2_with fail
      refine bodyPost_ret (ret_box_tmp rfl rfl (HB.out.fill8 (.int .i64 (v : Int)) (.int .u64 (sh : Int)) (.int .u64 (sl : Int)) (.int .u64 (dh : Int)) (.int .u64 (dl : Int)) (.int .i64 pr) (.int .i64 (pA : Int)) (.int .i64 (pB : Int))) Tryd.underlying41 rfl (by kernel_rfl)) rfl ⟨rfl, TT.out.trans (touch_fill8 w5 w.heap.size (.int .i64 (v : Int)) (.int .u64 (sh : Int)) (.int .u64 (sl : Int)) (.int .u64 (dh : Int)) (.int .u64 (dl : Int)) (.int .i64 pr) (.int .i64 (pA : Int)) (.int .i64 (pB : Int))) (by simp)⟩
  · have e2 : keyO L = zeroK := by rw [kO, if_pos hpE]
    rw [e2]
    have dE : (pE != 0) = true := by simpa using hpE
    unfold zeroK Ky.cells
    clear e2 kO hpE
    go_enter Tryd.func17, Tryd.ntmps17
    go_wp2_with fail
    refine (P.out).mono ?_
    rintro e w1 ⟨rfl, t1⟩
    have TA : Touch [] w1 ((w1.alloc (.cells #[.int .u64 (sh : Int), .int .u64 (sl : Int), .int .u64 (dh : Int), .int .u64 (dl : Int), .int .i64 pr, .int .i64 (a : Int), .int .i64 (b : Int), .int .i64 of, .bool false] 27)).alloc (.cells #[.int .i64 (v : Int), .int .u64 (sh : Int), .int .u64 (sl : Int), .int .u64 (dh : Int), .int .u64 (dl : Int), .int .i64 pr, .int .i64 0, .int .i64 0] 41)) := ((Touch.refl [] w1).alloc _).alloc _
    have B3 := (B0.out.carry t1 (by simp)).carry TA (by simp)
    have C5 : BoxV ((w1.alloc (.cells #[.int .u64 (sh : Int), .int .u64 (sl : Int), .int .u64 (dh : Int), .int .u64 (dl : Int), .int .i64 pr, .int .i64 (a : Int), .int .i64 (b : Int), .int .i64 of, .bool false] 27)).alloc (.cells #[.int .i64 (v : Int), .int .u64 (sh : Int), .int .u64 (sl : Int), .int .u64 (dh : Int), .int .u64 (dl : Int), .int .i64 pr, .int .i64 0, .int .i64 0] 41)) w1.heap.size 27 #[.int .u64 (sh : Int), .int .u64 (sl : Int), .int .u64 (dh : Int), .int .u64 (dl : Int), .int .i64 pr, .int .i64 (a : Int), .int .i64 (b : Int), .int .i64 of, .bool false] := BoxV.of2
    have C7 : BoxV ((w1.alloc (.cells #[.int .u64 (sh : Int), .int .u64 (sl : Int), .int .u64 (dh : Int), .int .u64 (dl : Int), .int .i64 pr, .int .i64 (a : Int), .int .i64 (b : Int), .int .i64 of, .bool false] 27)).alloc (.cells #[.int .i64 (v : Int), .int .u64 (sh : Int), .int .u64 (sl : Int), .int .u64 (dh : Int), .int .u64 (dl : Int), .int .i64 pr, .int .i64 0, .int .i64 0] 41)) (w1.heap.size + 1) 41 #[.int .i64 (v : Int), .int .u64 (sh : Int), .int .u64 (sl : Int), .int .u64 (dh : Int), .int .u64 (dl : Int), .int .i64 pr, .int .i64 0, .int .i64 0] := BoxV.at1
    have T3 := Lib.hid ((T0.out.trans t1 (by simp)).trans TA (by simp))
    have lw := B0.out.lt
    have lw1 := t1.size
    go_upto_region 8 with fail
    generalize (w1.alloc (.cells #[.int .u64 (sh : Int), .int .u64 (sl : Int), .int .u64 (dh : Int), .int .u64 (dl : Int), .int .i64 pr, .int .i64 (a : Int), .int .i64 (b : Int), .int .i64 of, .bool false] 27)).alloc (.cells #[.int .i64 (v : Int), .int .u64 (sh : Int), .int .u64 (sl : Int), .int .u64 (dh : Int), .int .u64 (dl : Int), .int .i64 pr, .int .i64 0, .int .i64 0] 41) = w3 at *
    have hw1 : w.heap.size < w1.heap.size := by omega
    clear lw lw1
    have c5k : True := trivial
    have q7o := C5.cell 7
    have q8o := C5.cell 8
    have l5 := C5.lt
    go_upto_region 10 with fail
    have x4 := C5.cell 4
    have x5 := C5.cell 5
    have x6 := C5.cell 6
    have C7d := Lib.hid (show BoxV w3.drew (w1.heap.size + 1) 41 #[.int .i64 (v : Int), .int .u64 (sh : Int), .int .u64 (sl : Int), .int .u64 (dh : Int), .int .u64 (dl : Int), .int .i64 pr, .int .i64 0, .int .i64 0] from C7)
    have B3d := Lib.hid (show BoxV w3.drew w.heap.size 41 #[.int .i64 0, .int .u64 0, .int .u64 0, .int .u64 0, .int .u64 0, .int .i64 0, .int .i64 0, .int .i64 0] from B3)
    have T3d := Lib.hid T3.out.drew
    clear B3 C5 C7 TA t1 c5k
    go_region_with (go_at_call 38; refine (PO.out _).mono ?_; rintro e wq ⟨rfl, tq⟩; have C7q := C7d.out.carry tq (by simp); have y6 := C7q.cell 6; have y7 := C7q.cell 7; have yf := C7q.fr; have yl := C7q.lt; have HC7 := Lib.hid C7q; have HB0 := Lib.hid (B3d.out.carry tq (by simp)); have HTq := Lib.hid (T3d.out.trans tq (by simp)); clear C7q tq)
    all_goals
      have tw : Touch [w1.heap.size + 1] wq ((wq.setCell ⟨w1.heap.size + 1, 6, none⟩ (.int .i64 (pA : Int))).setCell ⟨w1.heap.size + 1, 7, none⟩ (.int .i64 (pB : Int))) := ((Touch.refl _ _).setCell (a := ⟨w1.heap.size + 1, 6, none⟩) (by simp) _).setCell (a := ⟨w1.heap.size + 1, 7, none⟩) (by simp) _
      have W7 : BoxV ((wq.setCell ⟨w1.heap.size + 1, 6, none⟩ (.int .i64 (pA : Int))).setCell ⟨w1.heap.size + 1, 7, none⟩ (.int .i64 (pB : Int))) (w1.heap.size + 1) 41 #[.int .i64 (v : Int), .int .u64 (sh : Int), .int .u64 (sl : Int), .int .u64 (dh : Int), .int .u64 (dl : Int), .int .i64 pr, .int .i64 (pA : Int), .int .i64 (pB : Int)] := (HC7.out.set 6 (.int .i64 (pA : Int))).set 7 (.int .i64 (pB : Int))
      have W0 := HB0.out.carry tw (by simp; omega)
      have TT := Lib.hid (HTq.out.trans tw (by simp; omega))
      generalize (wq.setCell ⟨w1.heap.size + 1, 6, none⟩ (.int .i64 (pA : Int))).setCell ⟨w1.heap.size + 1, 7, none⟩ (.int .i64 (pB : Int)) = w5 at *
      clear y6 y7 yf yl x4 x5 x6 q7o q8o HC7 HB0 HTq tw
      have fz := W0.fr
      have ltq := W0.lt
      have HB := Lib.hid W0
      have r0 := W0.cell 0
      have r1 := W0.cell 1
      have r2 := W0.cell 2
      have r3 := W0.cell 3
      have r4 := W0.cell 4
      have r5 := W0.cell 5
      have r6 := W0.cell 6
      have r7 := W0.cell 7
      clear W0 W7
      go_wp2_with fail
      refine bodyPost_ret (ret_box_tmp rfl rfl (HB.out.fill8 (.int .i64 0) (.int .u64 0) (.int .u64 0) (.int .u64 0) (.int .u64 0) (.int .i64 0) (.int .i64 0) (.int .i64 0)) Tryd.underlying41 rfl (by kernel_rfl)) rfl ⟨rfl, TT.out.trans (touch_fill8 w5 w.heap.size (.int .i64 0) (.int .u64 0) (.int .u64 0) (.int .u64 0) (.int .u64 0) (.int .i64 0) (.int .i64 0) (.int .i64 0)) (by simp)⟩
end Go.Proofs.YtdpaiegojioimaaDoor

/-
  Layer 14 (flow): the reference's Of.
-/
namespace Go.Proofs.YtdpaiegojioimaaDoor
open Go.ChangeShapes Go.WideShapes Go.ChangeAt Go.RowKit Go.Deep
set_option linter.unusedVariables false
set_option linter.unusedSimpArgs false

set_option maxRecDepth 100000 in
set_option maxHeartbeats 8000000 in
theorem refOf14 (L : List UInt8) (hl : L.length ≤ 100000) (w : World) :
    Calls Tryd.prog 18 #[.string (S L)] w fun e w' => e = .returned (.tuple #[.agg (keyO L).cells, .int .i64 (errO L)]) ∧ Touch [] w w' := by
  have hss : (S L).size = L.length := S_size L
  have B0 := Lib.hid (BoxV.new w 41 #[.int .i64 0, .int .u64 0, .int .u64 0, .int .u64 0, .int .u64 0, .int .i64 0, .int .i64 0, .int .i64 0])
  have T0 := Lib.hid ((Touch.refl [] w).alloc (.cells #[.int .i64 0, .int .u64 0, .int .u64 0, .int .u64 0, .int .u64 0, .int .i64 0, .int .i64 0, .int .i64 0] 41))
  by_cases h0 : L.length = 0
  · obtain rfl : L = [] := List.length_eq_zero_iff.1 h0
    have e1 : errO [] = 5 := rfl
    have e2 : keyO [] = zeroK := rfl
    rw [e1, e2]
    have hs0 : (S []).size = 0 := rfl
    unfold zeroK Ky.cells at *
    go_enter Tryd.func18, Tryd.ntmps18
    go_wp2_with fail
    refine bodyPost_ret (v := .tuple #[.agg #[.int .i64 0, .int .u64 0, .int .u64 0, .int .u64 0, .int .u64 0, .int .i64 0, .int .i64 0, .int .i64 0], .int .i64 5]) (by simp [results, Tryd.results18, go_sem]) rfl ⟨rfl, (Touch.refl _ _).alloc _⟩
  have d0 : ((L.length : Int) == 0) = false := by rw [beq_eq_false_iff_ne]; omega
  have d0' : (L.length == 0) = false := by rw [beq_eq_false_iff_ne]; exact h0
  have hx0 : ∀ w : World, (Instr.index 9 (.string (S L)) (.int .i64 0)).run Tryd.prog w = .ok (.int .u8 ((byteAt L 0 : Nat) : Int)) w := fun w => ix_at L 0 (by omega) w
  have hb0 := byteAt_lt L 0
  by_cases hbad : byteAt L 0 / 16 ≠ 4 ∧ byteAt L 0 / 16 ≠ 6
  · have e0 : errF (verF L) L = 22 := by unfold errF verF; rw [if_neg hbad.1, if_neg hbad.2]
    have e1 : errO L = 22 := by unfold errO; rw [if_neg h0, e0, if_pos (by decide)]
    have e2 : keyO L = zeroK := by unfold keyO; rw [e1, if_pos (by decide)]
    rw [e1, e2]
    have d4 : (((byteAt L 0 : Nat) : Int) / 16 != 4) = true := by simp; omega
    have d6 : (((byteAt L 0 : Nat) : Int) / 16 != 6) = true := by simp; omega
    generalize byteAt L 0 = b0 at *
    unfold zeroK Ky.cells at *
    clear e0 e1 e2 hbad h0
    go_enter Tryd.func18, Tryd.ntmps18
    go_wp2_with fail
    refine bodyPost_ret (v := .tuple #[.agg #[.int .i64 0, .int .u64 0, .int .u64 0, .int .u64 0, .int .u64 0, .int .i64 0, .int .i64 0, .int .i64 0], .int .i64 22]) (by simp [results, Tryd.results18, go_sem]) rfl ⟨rfl, (Touch.refl _ _).alloc _⟩
  have P4 := fun w => refParse11 L hl w
  have P6 := fun w => refParse12 L hl w
  rcases (show byteAt L 0 / 16 = 4 ∨ byteAt L 0 / 16 = 6 by omega) with h4 | h6
  · have hv : ((byteAt L 0 : Nat) : Int) / 16 = 4 := by omega
    have hvv : verF L = 4 := h4
    have q1 : errP L = errF 4 L := by unfold errF; rw [if_pos rfl]
    have q2 : hdP L = hdF 4 L := by unfold hdF; rw [if_pos rfl]
    rw [q1, q2] at P4
    clear P6 q1 q2 hbad h4
    generalize byteAt L 0 = b0 at *
    by_cases hE : errF 4 L ≠ 0
    · have e1 : errO L = errF 4 L := by unfold errO; rw [if_neg h0, hvv, if_pos hE]
      have e2 : keyO L = zeroK := by unfold keyO; rw [e1, if_pos hE]
      rw [e1, e2]
      have dE : (errF 4 L != 0) = true := by simpa using hE
      generalize errF 4 L = E at *
      generalize hdF 4 L = D at *
      clear e1 e2 hE hvv
      unfold zeroK Ky.cells Hd.cells at *
      have P4 := Lib.hid P4
      go_enter Tryd.func18, Tryd.ntmps18
      go_wp2_with fail
      refine (P4.out _).mono ?_
      rintro e w1 ⟨rfl, t1⟩
      have TA : Touch [] w1 (w1.alloc (.cells #[.int .u64 (D.sh : Int), .int .u64 (D.sl : Int), .int .u64 (D.dh : Int), .int .u64 (D.dl : Int), .int .i64 D.proto, .int .i64 D.start, .int .i64 D.size, .int .i64 D.off, .bool D.more] 31)) := (Touch.refl [] w1).alloc _
      have B2 := (B0.out.carry t1 (by simp)).carry TA (by simp)
      have X2 : BoxV (w1.alloc (.cells #[.int .u64 (D.sh : Int), .int .u64 (D.sl : Int), .int .u64 (D.dh : Int), .int .u64 (D.dl : Int), .int .i64 D.proto, .int .i64 D.start, .int .i64 D.size, .int .i64 D.off, .bool D.more] 31)) w1.heap.size 31 #[.int .u64 (D.sh : Int), .int .u64 (D.sl : Int), .int .u64 (D.dh : Int), .int .u64 (D.dl : Int), .int .i64 D.proto, .int .i64 D.start, .int .i64 D.size, .int .i64 D.off, .bool D.more] := BoxV.new w1 _ _
      have T2 := (T0.out.trans t1 (by simp)).trans TA (by simp)
      have lw : w.heap.size < w1.heap.size := Nat.lt_of_lt_of_le B0.out.lt t1.size
      go_upto_region 7 with fail
      generalize w1.alloc (.cells #[.int .u64 (D.sh : Int), .int .u64 (D.sl : Int), .int .u64 (D.dh : Int), .int .u64 (D.dl : Int), .int .i64 D.proto, .int .i64 D.start, .int .i64 D.size, .int .i64 D.off, .bool D.more] 31) = w2 at *
      have B5 := B2
      have X5 := X2
      have T5 := Lib.hid T2
      clear B2 X2 T2 TA t1
      have hw2 : True := trivial
      go_upto_region 9 with fail
      generalize hq : w2 = w5 at *
      clear hq hw2
      clear X5 lw
      have r0 := B5.cell 0
      have r1 := B5.cell 1
      have r2 := B5.cell 2
      have r3 := B5.cell 3
      have r4 := B5.cell 4
      have r5 := B5.cell 5
      have r6 := B5.cell 6
      have r7 := B5.cell 7
      have fz := B5.fr
      have ltq := B5.lt
      have HB := Lib.hid B5
      clear B5
      go_wp2_with fail
      refine bodyPost_ret (ret_box_tmp rfl rfl (HB.out.fill8 (.int .i64 0) (.int .u64 0) (.int .u64 0) (.int .u64 0) (.int .u64 0) (.int .i64 0) (.int .i64 0) (.int .i64 0)) Tryd.underlying41 rfl (by kernel_rfl)) rfl ⟨rfl, T5.out.trans (touch_fill8 w5 w.heap.size (.int .i64 0) (.int .u64 0) (.int .u64 0) (.int .u64 0) (.int .u64 0) (.int .i64 0) (.int .i64 0) (.int .i64 0)) (by simp)⟩
    have hE0 : errF 4 L = 0 := by
      rcases Int.decEq (errF 4 L) 0 with h | h
      · exact absurd h hE
      · exact h
    obtain ⟨a, b, ha, hb, hab, hbl⟩ := rangeF 4 L hE0
    have hseg : segF (hdF 4 L) L = (L.drop a).take (b - a) := by unfold segF; rw [ha, hb]; rfl
    have hsl : (S L).extract a b = S ((L.drop a).take (b - a)) := S_slice L a b hbl
    have PO := fun w => refOf13 (hdF 4 L).proto ((L.drop a).take (b - a)) (by rw [List.length_take, List.length_drop]; omega) w
    have eO : errO L = if isFrag (hdF 4 L) = true then 0 else portsE (hdF 4 L).proto ((L.drop a).take (b - a)) := by unfold errO; rw [if_neg h0, hvv, if_neg hE, hseg]
    have kO : keyO L = if errO L ≠ 0 then zeroK else if isFrag (hdF 4 L) = true then bareK 4 (hdF 4 L) 0 0 else bareK 4 (hdF 4 L) (portsA (hdF 4 L).proto ((L.drop a).take (b - a)) : Nat) (portsB (hdF 4 L).proto ((L.drop a).take (b - a)) : Nat) := by
      rw [← hseg]
      unfold keyO
      rw [hvv]
    rw [hE0] at P4
    generalize hdF 4 L = D at *
    obtain ⟨sh, sl, dh, dl, pr, st, sz, of, mo⟩ := D
    simp only at ha hb PO eO kO
    subst ha hb
    generalize portsA pr ((L.drop a).take (b - a)) = pA at *
    generalize portsB pr ((L.drop a).take (b - a)) = pB at *
    generalize portsE pr ((L.drop a).take (b - a)) = pE at *
    generalize (L.drop a).take (b - a) = sg at *
    have hi1 : (a : Int) ≤ (b : Int) := by omega
    have hi2 : (b : Int) ≤ (L.length : Int) := by omega
    unfold bareK at kO
    unfold isFrag at eO kO
    simp only at eO kO
    unfold Hd.cells at *
    simp only at P4
    have P4 := Lib.hid P4
    have PO := Lib.hid PO
    clear hE hE0 hseg hvv
    by_cases h1 : of = 0
    · have d1 : (of == 0) = true := by simpa using h1
      have d1n : (of != 0) = false := by simpa using h1
      cases mo
      · have e1 : errO L = pE := by rw [eO, d1n]; rfl
        by_cases hpE : pE = 0
        · have e2 : keyO L = ⟨4, sh, sl, dh, dl, pr, (pA : Nat), (pB : Nat)⟩ := by rw [kO, e1, if_neg (fun h => h hpE), d1n]; rfl
          rw [e1, e2]
          subst hpE
          unfold Ky.cells
          clear eO kO e1 e2 h1 d1n
          go_enter Tryd.func18, Tryd.ntmps18
          go_wp2_with fail
          refine (P4.out _).mono ?_
          rintro e w1 ⟨rfl, t1⟩
          have TA : Touch [] w1 (w1.alloc (.cells #[.int .u64 (sh : Int), .int .u64 (sl : Int), .int .u64 (dh : Int), .int .u64 (dl : Int), .int .i64 pr, .int .i64 (a : Int), .int .i64 (b : Int), .int .i64 of, .bool false] 31)) := (Touch.refl [] w1).alloc _
          have B2 := (B0.out.carry t1 (by simp)).carry TA (by simp)
          have X2 : BoxV (w1.alloc (.cells #[.int .u64 (sh : Int), .int .u64 (sl : Int), .int .u64 (dh : Int), .int .u64 (dl : Int), .int .i64 pr, .int .i64 (a : Int), .int .i64 (b : Int), .int .i64 of, .bool false] 31)) w1.heap.size 31 #[.int .u64 (sh : Int), .int .u64 (sl : Int), .int .u64 (dh : Int), .int .u64 (dl : Int), .int .i64 pr, .int .i64 (a : Int), .int .i64 (b : Int), .int .i64 of, .bool false] := BoxV.new w1 _ _
          have T2 := (T0.out.trans t1 (by simp)).trans TA (by simp)
          have lw : w.heap.size < w1.heap.size := Nat.lt_of_lt_of_le B0.out.lt t1.size
          go_upto_region 7 with fail
          generalize w1.alloc (.cells #[.int .u64 (sh : Int), .int .u64 (sl : Int), .int .u64 (dh : Int), .int .u64 (dl : Int), .int .i64 pr, .int .i64 (a : Int), .int .i64 (b : Int), .int .i64 of, .bool false] 31) = w2 at *
          have B5 := B2
          have X5 := X2
          have T5 := Lib.hid T2
          clear B2 X2 T2 TA t1
          have hw2 : True := trivial
          go_upto_region 9 with fail
          generalize hq : w2 = w5 at *
          clear hq hw2
          have x7 := X5.cell 7
          have x8 := X5.cell 8
          have l5 := X5.lt
          go_upto_region 13 with fail
          have k4 : ∀ x : Cls w5, x.val.cell? ⟨w1.heap.size, 4, none⟩ = some (.int .i64 pr) := fun x => (X5.carry x.property (by simp)).cell 4
          have k5 : ∀ x : Cls w5, x.val.cell? ⟨w1.heap.size, 5, none⟩ = some (.int .i64 (a : Int)) := fun x => (X5.carry x.property (by simp)).cell 5
          have k6 : ∀ x : Cls w5, x.val.cell? ⟨w1.heap.size, 6, none⟩ = some (.int .i64 (b : Int)) := fun x => (X5.carry x.property (by simp)).cell 6
          refine wp_region_cls (wd := w5) (by kernel_rfl) (by kernel_rfl) ((Touch.refl _ _).drew) ?_
          repeat (first | go_big_quiet_step ((go_at_call 40; with_reducible exact Calls.cls_at (PO.out _))) | quiet_step ((go_at_call 40; with_reducible exact Calls.cls_at (PO.out _))))
          refine wpQuiet_nil ?_
          rintro _ ⟨z, rfl⟩
          have X6 := X5.carry z.property (by simp)
          have B6 := B5.carry z.property (by simp)
          have T6 := Lib.hid (T5.out.trans z.property (by simp))
          generalize z.val = w6 at *
          have y0 := X6.cell 0
          have y1 := X6.cell 1
          have y2 := X6.cell 2
          have y3 := X6.cell 3
          have y4 := X6.cell 4
          have r0 := B6.cell 0
          have r1 := B6.cell 1
          have r2 := B6.cell 2
          have r3 := B6.cell 3
          have r4 := B6.cell 4
          have r5 := B6.cell 5
          have r6 := B6.cell 6
          have r7 := B6.cell 7
          have l6 := X6.lt
          have fz := B6.fr
          have ltq := B6.lt
          have HB := Lib.hid B6
          clear B6 B5 X5 X6 x7 x8 k4 k5 k6
          go_wp2_with fail
          refine bodyPost_ret (ret_box_tmp rfl rfl (HB.out.fill8 (.int .i64 4) (.int .u64 (sh : Int)) (.int .u64 (sl : Int)) (.int .u64 (dh : Int)) (.int .u64 (dl : Int)) (.int .i64 pr) (.int .i64 (pA : Int)) (.int .i64 (pB : Int))) Tryd.underlying41 rfl (by kernel_rfl)) rfl ⟨rfl, T6.out.trans (touch_fill8 w6 w.heap.size (.int .i64 4) (.int .u64 (sh : Int)) (.int .u64 (sl : Int)) (.int .u64 (dh : Int)) (.int .u64 (dl : Int)) (.int .i64 pr) (.int .i64 (pA : Int)) (.int .i64 (pB : Int))) (by simp)⟩
        · have e2 : keyO L = zeroK := by rw [kO, e1, if_pos hpE]
          rw [e1, e2]
          have dE : (pE != 0) = true := by simpa using hpE
          unfold zeroK Ky.cells
          clear eO kO e1 e2 h1 d1n hpE
          go_enter Tryd.func18, Tryd.ntmps18
          go_wp2_with fail
          refine (P4.out _).mono ?_
          rintro e w1 ⟨rfl, t1⟩
          have TA : Touch [] w1 (w1.alloc (.cells #[.int .u64 (sh : Int), .int .u64 (sl : Int), .int .u64 (dh : Int), .int .u64 (dl : Int), .int .i64 pr, .int .i64 (a : Int), .int .i64 (b : Int), .int .i64 of, .bool false] 31)) := (Touch.refl [] w1).alloc _
          have B2 := (B0.out.carry t1 (by simp)).carry TA (by simp)
          have X2 : BoxV (w1.alloc (.cells #[.int .u64 (sh : Int), .int .u64 (sl : Int), .int .u64 (dh : Int), .int .u64 (dl : Int), .int .i64 pr, .int .i64 (a : Int), .int .i64 (b : Int), .int .i64 of, .bool false] 31)) w1.heap.size 31 #[.int .u64 (sh : Int), .int .u64 (sl : Int), .int .u64 (dh : Int), .int .u64 (dl : Int), .int .i64 pr, .int .i64 (a : Int), .int .i64 (b : Int), .int .i64 of, .bool false] := BoxV.new w1 _ _
          have T2 := (T0.out.trans t1 (by simp)).trans TA (by simp)
          have lw : w.heap.size < w1.heap.size := Nat.lt_of_lt_of_le B0.out.lt t1.size
          go_upto_region 7 with fail
          generalize w1.alloc (.cells #[.int .u64 (sh : Int), .int .u64 (sl : Int), .int .u64 (dh : Int), .int .u64 (dl : Int), .int .i64 pr, .int .i64 (a : Int), .int .i64 (b : Int), .int .i64 of, .bool false] 31) = w2 at *
          have B5 := B2
          have X5 := X2
          have T5 := Lib.hid T2
          clear B2 X2 T2 TA t1
          have hw2 : True := trivial
          go_upto_region 9 with fail
          generalize hq : w2 = w5 at *
          clear hq hw2
          have x7 := X5.cell 7
          have x8 := X5.cell 8
          have l5 := X5.lt
          go_upto_region 13 with fail
          have k4 : ∀ x : Cls w5, x.val.cell? ⟨w1.heap.size, 4, none⟩ = some (.int .i64 pr) := fun x => (X5.carry x.property (by simp)).cell 4
          have k5 : ∀ x : Cls w5, x.val.cell? ⟨w1.heap.size, 5, none⟩ = some (.int .i64 (a : Int)) := fun x => (X5.carry x.property (by simp)).cell 5
          have k6 : ∀ x : Cls w5, x.val.cell? ⟨w1.heap.size, 6, none⟩ = some (.int .i64 (b : Int)) := fun x => (X5.carry x.property (by simp)).cell 6
          refine wp_region_cls (wd := w5) (by kernel_rfl) (by kernel_rfl) ((Touch.refl _ _).drew) ?_
          repeat (first | go_big_quiet_step ((go_at_call 40; with_reducible exact Calls.cls_at (PO.out _))) | quiet_step ((go_at_call 40; with_reducible exact Calls.cls_at (PO.out _))))
          refine wpQuiet_nil ?_
          rintro _ ⟨z, rfl⟩
          have X6 := X5.carry z.property (by simp)
          have B6 := B5.carry z.property (by simp)
          have T6 := Lib.hid (T5.out.trans z.property (by simp))
          generalize z.val = w6 at *
          have r0 := B6.cell 0
          have r1 := B6.cell 1
          have r2 := B6.cell 2
          have r3 := B6.cell 3
          have r4 := B6.cell 4
          have r5 := B6.cell 5
          have r6 := B6.cell 6
          have r7 := B6.cell 7
          have l6 := X6.lt
          have fz := B6.fr
          have ltq := B6.lt
          have HB := Lib.hid B6
          clear B6 B5 X5 X6 x7 x8 k4 k5 k6
          go_wp2_with fail
          refine bodyPost_ret (ret_box_tmp rfl rfl (HB.out.fill8 (.int .i64 0) (.int .u64 0) (.int .u64 0) (.int .u64 0) (.int .u64 0) (.int .i64 0) (.int .i64 0) (.int .i64 0)) Tryd.underlying41 rfl (by kernel_rfl)) rfl ⟨rfl, T6.out.trans (touch_fill8 w6 w.heap.size (.int .i64 0) (.int .u64 0) (.int .u64 0) (.int .u64 0) (.int .u64 0) (.int .i64 0) (.int .i64 0) (.int .i64 0)) (by simp)⟩
      · have e1 : errO L = 0 := by rw [eO, d1n]; rfl
        have e2 : keyO L = ⟨4, sh, sl, dh, dl, pr, 0, 0⟩ := by rw [kO, e1, if_neg (by decide), d1n]; rfl
        rw [e1, e2]
        unfold Ky.cells
        clear eO kO e1 e2 PO h1 d1n
        go_enter Tryd.func18, Tryd.ntmps18
        go_wp2_with fail
        refine (P4.out _).mono ?_
        rintro e w1 ⟨rfl, t1⟩
        have TA : Touch [] w1 (w1.alloc (.cells #[.int .u64 (sh : Int), .int .u64 (sl : Int), .int .u64 (dh : Int), .int .u64 (dl : Int), .int .i64 pr, .int .i64 (a : Int), .int .i64 (b : Int), .int .i64 of, .bool true] 31)) := (Touch.refl [] w1).alloc _
        have B2 := (B0.out.carry t1 (by simp)).carry TA (by simp)
        have X2 : BoxV (w1.alloc (.cells #[.int .u64 (sh : Int), .int .u64 (sl : Int), .int .u64 (dh : Int), .int .u64 (dl : Int), .int .i64 pr, .int .i64 (a : Int), .int .i64 (b : Int), .int .i64 of, .bool true] 31)) w1.heap.size 31 #[.int .u64 (sh : Int), .int .u64 (sl : Int), .int .u64 (dh : Int), .int .u64 (dl : Int), .int .i64 pr, .int .i64 (a : Int), .int .i64 (b : Int), .int .i64 of, .bool true] := BoxV.new w1 _ _
        have T2 := (T0.out.trans t1 (by simp)).trans TA (by simp)
        have lw : w.heap.size < w1.heap.size := Nat.lt_of_lt_of_le B0.out.lt t1.size
        go_upto_region 7 with fail
        generalize w1.alloc (.cells #[.int .u64 (sh : Int), .int .u64 (sl : Int), .int .u64 (dh : Int), .int .u64 (dl : Int), .int .i64 pr, .int .i64 (a : Int), .int .i64 (b : Int), .int .i64 of, .bool true] 31) = w2 at *
        have B5 := B2
        have X5 := X2
        have T5 := Lib.hid T2
        clear B2 X2 T2 TA t1
        have hw2 : True := trivial
        go_upto_region 9 with fail
        generalize hq : w2 = w5 at *
        clear hq hw2
        have y0 := X5.cell 0
        have y1 := X5.cell 1
        have y2 := X5.cell 2
        have y3 := X5.cell 3
        have y4 := X5.cell 4
        have y7 := X5.cell 7
        have y8 := X5.cell 8
        have r0 := B5.cell 0
        have r1 := B5.cell 1
        have r2 := B5.cell 2
        have r3 := B5.cell 3
        have r4 := B5.cell 4
        have r5 := B5.cell 5
        have r6 := B5.cell 6
        have r7 := B5.cell 7
        have l5 := X5.lt
        clear X5
        have fz := B5.fr
        have ltq := B5.lt
        have HB := Lib.hid B5
        clear B5
        go_wp2_with fail
        refine bodyPost_ret (ret_box_tmp rfl rfl (HB.out.fill8 (.int .i64 4) (.int .u64 (sh : Int)) (.int .u64 (sl : Int)) (.int .u64 (dh : Int)) (.int .u64 (dl : Int)) (.int .i64 pr) (.int .i64 0) (.int .i64 0)) Tryd.underlying41 rfl (by kernel_rfl)) rfl ⟨rfl, T5.out.trans (touch_fill8 w5 w.heap.size (.int .i64 4) (.int .u64 (sh : Int)) (.int .u64 (sl : Int)) (.int .u64 (dh : Int)) (.int .u64 (dl : Int)) (.int .i64 pr) (.int .i64 0) (.int .i64 0)) (by simp)⟩
    · have d1 : (of == 0) = false := by simpa using h1
      have d1n : (of != 0) = true := by simpa using h1
      have e1 : errO L = 0 := by rw [eO, d1n]; rfl
      have e2 : keyO L = ⟨4, sh, sl, dh, dl, pr, 0, 0⟩ := by rw [kO, e1, if_neg (by decide), d1n]; rfl
      rw [e1, e2]
      unfold Ky.cells
      clear eO kO e1 e2 PO h1 d1n
      go_enter Tryd.func18, Tryd.ntmps18
      go_wp2_with fail
      refine (P4.out _).mono ?_
      rintro e w1 ⟨rfl, t1⟩
      have TA : Touch [] w1 (w1.alloc (.cells #[.int .u64 (sh : Int), .int .u64 (sl : Int), .int .u64 (dh : Int), .int .u64 (dl : Int), .int .i64 pr, .int .i64 (a : Int), .int .i64 (b : Int), .int .i64 of, .bool mo] 31)) := (Touch.refl [] w1).alloc _
      have B2 := (B0.out.carry t1 (by simp)).carry TA (by simp)
      have X2 : BoxV (w1.alloc (.cells #[.int .u64 (sh : Int), .int .u64 (sl : Int), .int .u64 (dh : Int), .int .u64 (dl : Int), .int .i64 pr, .int .i64 (a : Int), .int .i64 (b : Int), .int .i64 of, .bool mo] 31)) w1.heap.size 31 #[.int .u64 (sh : Int), .int .u64 (sl : Int), .int .u64 (dh : Int), .int .u64 (dl : Int), .int .i64 pr, .int .i64 (a : Int), .int .i64 (b : Int), .int .i64 of, .bool mo] := BoxV.new w1 _ _
      have T2 := (T0.out.trans t1 (by simp)).trans TA (by simp)
      have lw : w.heap.size < w1.heap.size := Nat.lt_of_lt_of_le B0.out.lt t1.size
      go_upto_region 7 with fail
      generalize w1.alloc (.cells #[.int .u64 (sh : Int), .int .u64 (sl : Int), .int .u64 (dh : Int), .int .u64 (dl : Int), .int .i64 pr, .int .i64 (a : Int), .int .i64 (b : Int), .int .i64 of, .bool mo] 31) = w2 at *
      have B5 := B2
      have X5 := X2
      have T5 := Lib.hid T2
      clear B2 X2 T2 TA t1
      have hw2 : True := trivial
      go_upto_region 9 with fail
      generalize hq : w2 = w5 at *
      clear hq hw2
      have y0 := X5.cell 0
      have y1 := X5.cell 1
      have y2 := X5.cell 2
      have y3 := X5.cell 3
      have y4 := X5.cell 4
      have y7 := X5.cell 7
      have y8 := X5.cell 8
      have r0 := B5.cell 0
      have r1 := B5.cell 1
      have r2 := B5.cell 2
      have r3 := B5.cell 3
      have r4 := B5.cell 4
      have r5 := B5.cell 5
      have r6 := B5.cell 6
      have r7 := B5.cell 7
      have l5 := X5.lt
      clear X5
      have fz := B5.fr
      have ltq := B5.lt
      have HB := Lib.hid B5
      clear B5
      go_wp2_with fail
      refine bodyPost_ret (ret_box_tmp rfl rfl (HB.out.fill8 (.int .i64 4) (.int .u64 (sh : Int)) (.int .u64 (sl : Int)) (.int .u64 (dh : Int)) (.int .u64 (dl : Int)) (.int .i64 pr) (.int .i64 0) (.int .i64 0)) Tryd.underlying41 rfl (by kernel_rfl)) rfl ⟨rfl, T5.out.trans (touch_fill8 w5 w.heap.size (.int .i64 4) (.int .u64 (sh : Int)) (.int .u64 (sl : Int)) (.int .u64 (dh : Int)) (.int .u64 (dl : Int)) (.int .i64 pr) (.int .i64 0) (.int .i64 0)) (by simp)⟩
  · have hv : ((byteAt L 0 : Nat) : Int) / 16 = 6 := by omega
    have hvv : verF L = 6 := h6
    have q1 : err6 L = errF 6 L := by unfold errF; rw [if_neg (by decide), if_pos rfl]
    have q2 : hd6 L = hdF 6 L := by unfold hdF; rw [if_neg (by decide), if_pos rfl]
    rw [q1, q2] at P6
    clear q1 q2 hbad h6
    generalize byteAt L 0 = b0 at *
    generalize hdP L = D4 at *
    generalize errP L = E4 at *
    by_cases hE : errF 6 L ≠ 0
    · have e1 : errO L = errF 6 L := by unfold errO; rw [if_neg h0, hvv, if_pos hE]
      have e2 : keyO L = zeroK := by unfold keyO; rw [e1, if_pos hE]
      rw [e1, e2]
      have dE : (errF 6 L != 0) = true := by simpa using hE
      generalize errF 6 L = E at *
      generalize hdF 6 L = D at *
      clear e1 e2 hE hvv
      unfold zeroK Ky.cells Hd.cells at *
      have P4 := Lib.hid P4
      have P6 := Lib.hid P6
      go_enter Tryd.func18, Tryd.ntmps18
      go_wp2_with fail
      refine (P4.out _).mono ?_
      rintro e w1 ⟨rfl, t1⟩
      have TA : Touch [] w1 (w1.alloc (.cells #[.int .u64 (D4.sh : Int), .int .u64 (D4.sl : Int), .int .u64 (D4.dh : Int), .int .u64 (D4.dl : Int), .int .i64 D4.proto, .int .i64 D4.start, .int .i64 D4.size, .int .i64 D4.off, .bool D4.more] 31)) := (Touch.refl [] w1).alloc _
      have B2 := (B0.out.carry t1 (by simp)).carry TA (by simp)
      have X2 : BoxV (w1.alloc (.cells #[.int .u64 (D4.sh : Int), .int .u64 (D4.sl : Int), .int .u64 (D4.dh : Int), .int .u64 (D4.dl : Int), .int .i64 D4.proto, .int .i64 D4.start, .int .i64 D4.size, .int .i64 D4.off, .bool D4.more] 31)) w1.heap.size 31 #[.int .u64 (D4.sh : Int), .int .u64 (D4.sl : Int), .int .u64 (D4.dh : Int), .int .u64 (D4.dl : Int), .int .i64 D4.proto, .int .i64 D4.start, .int .i64 D4.size, .int .i64 D4.off, .bool D4.more] := BoxV.new w1 _ _
      have T2 := (T0.out.trans t1 (by simp)).trans TA (by simp)
      have lw : w.heap.size < w1.heap.size := Nat.lt_of_lt_of_le B0.out.lt t1.size
      go_upto_region 7 with fail
      generalize w1.alloc (.cells #[.int .u64 (D4.sh : Int), .int .u64 (D4.sl : Int), .int .u64 (D4.dh : Int), .int .u64 (D4.dl : Int), .int .i64 D4.proto, .int .i64 D4.start, .int .i64 D4.size, .int .i64 D4.off, .bool D4.more] 31) = w2 at *
      have B2h := Lib.hid B2
      have X2h := Lib.hid X2
      have T2h := Lib.hid T2
      clear B2 X2 T2 TA t1
      go_wp2_with fail
      refine (P6.out _).mono ?_
      rintro e w3 ⟨rfl, t3⟩
      have X3 := X2h.out.carry t3 (by simp)
      have z0 := X3.cell 0
      have z1 := X3.cell 1
      have z2 := X3.cell 2
      have z3 := X3.cell 3
      have z4 := X3.cell 4
      have z5 := X3.cell 5
      have z6 := X3.cell 6
      have z7 := X3.cell 7
      have z8 := X3.cell 8
      have zf := X3.fr
      have zl := X3.lt
      have X5 := X3.fill9 (.int .u64 (D.sh : Int)) (.int .u64 (D.sl : Int)) (.int .u64 (D.dh : Int)) (.int .u64 (D.dl : Int)) (.int .i64 D.proto) (.int .i64 D.start) (.int .i64 D.size) (.int .i64 D.off) (.bool D.more)
      have U5 := touch_fill9 w3 w1.heap.size (.int .u64 (D.sh : Int)) (.int .u64 (D.sl : Int)) (.int .u64 (D.dh : Int)) (.int .u64 (D.dl : Int)) (.int .i64 D.proto) (.int .i64 D.start) (.int .i64 D.size) (.int .i64 D.off) (.bool D.more)
      have B5 := (B2h.out.carry t3 (by simp)).carry U5 (by simp; omega)
      have T5 := Lib.hid ((T2h.out.trans t3 (by simp)).trans U5 (by simp; omega))
      unfold fill9 at X5 B5 T5
      go_upto_region 9 with fail
      generalize (((((((((w3.setCell ⟨w1.heap.size, 0, none⟩ (.int .u64 (D.sh : Int))).setCell ⟨w1.heap.size, 1, none⟩ (.int .u64 (D.sl : Int))).setCell ⟨w1.heap.size, 2, none⟩ (.int .u64 (D.dh : Int))).setCell ⟨w1.heap.size, 3, none⟩ (.int .u64 (D.dl : Int))).setCell ⟨w1.heap.size, 4, none⟩ (.int .i64 D.proto)).setCell ⟨w1.heap.size, 5, none⟩ (.int .i64 D.start)).setCell ⟨w1.heap.size, 6, none⟩ (.int .i64 D.size)).setCell ⟨w1.heap.size, 7, none⟩ (.int .i64 D.off)).setCell ⟨w1.heap.size, 8, none⟩ (.bool D.more)) = w5 at *
      clear X3 U5 t3 B2h X2h T2h zf zl z0 z1 z2 z3 z4 z5 z6 z7 z8
      clear X5 lw
      have r0 := B5.cell 0
      have r1 := B5.cell 1
      have r2 := B5.cell 2
      have r3 := B5.cell 3
      have r4 := B5.cell 4
      have r5 := B5.cell 5
      have r6 := B5.cell 6
      have r7 := B5.cell 7
      have fz := B5.fr
      have ltq := B5.lt
      have HB := Lib.hid B5
      clear B5
      go_wp2_with fail
      refine bodyPost_ret (ret_box_tmp rfl rfl (HB.out.fill8 (.int .i64 0) (.int .u64 0) (.int .u64 0) (.int .u64 0) (.int .u64 0) (.int .i64 0) (.int .i64 0) (.int .i64 0)) Tryd.underlying41 rfl (by kernel_rfl)) rfl ⟨rfl, T5.out.trans (touch_fill8 w5 w.heap.size (.int .i64 0) (.int .u64 0) (.int .u64 0) (.int .u64 0) (.int .u64 0) (.int .i64 0) (.int .i64 0) (.int .i64 0)) (by simp)⟩
    have hE0 : errF 6 L = 0 := by
      rcases Int.decEq (errF 6 L) 0 with h | h
      · exact absurd h hE
      · exact h
    obtain ⟨a, b, ha, hb, hab, hbl⟩ := rangeF 6 L hE0
    have hseg : segF (hdF 6 L) L = (L.drop a).take (b - a) := by unfold segF; rw [ha, hb]; rfl
    have hsl : (S L).extract a b = S ((L.drop a).take (b - a)) := S_slice L a b hbl
    have PO := fun w => refOf13 (hdF 6 L).proto ((L.drop a).take (b - a)) (by rw [List.length_take, List.length_drop]; omega) w
    have eO : errO L = if isFrag (hdF 6 L) = true then 0 else portsE (hdF 6 L).proto ((L.drop a).take (b - a)) := by unfold errO; rw [if_neg h0, hvv, if_neg hE, hseg]
    have kO : keyO L = if errO L ≠ 0 then zeroK else if isFrag (hdF 6 L) = true then bareK 6 (hdF 6 L) 0 0 else bareK 6 (hdF 6 L) (portsA (hdF 6 L).proto ((L.drop a).take (b - a)) : Nat) (portsB (hdF 6 L).proto ((L.drop a).take (b - a)) : Nat) := by
      rw [← hseg]
      unfold keyO
      rw [hvv]
    rw [hE0] at P6
    generalize hdF 6 L = D at *
    obtain ⟨sh, sl, dh, dl, pr, st, sz, of, mo⟩ := D
    simp only at ha hb PO eO kO
    subst ha hb
    generalize portsA pr ((L.drop a).take (b - a)) = pA at *
    generalize portsB pr ((L.drop a).take (b - a)) = pB at *
    generalize portsE pr ((L.drop a).take (b - a)) = pE at *
    generalize (L.drop a).take (b - a) = sg at *
    have hi1 : (a : Int) ≤ (b : Int) := by omega
    have hi2 : (b : Int) ≤ (L.length : Int) := by omega
    unfold bareK at kO
    unfold isFrag at eO kO
    simp only at eO kO
    unfold Hd.cells at *
    simp only at P6
    have P4 := Lib.hid P4
    have P6 := Lib.hid P6
    have PO := Lib.hid PO
    clear hE hE0 hseg hvv
    by_cases h1 : of = 0
    · have d1 : (of == 0) = true := by simpa using h1
      have d1n : (of != 0) = false := by simpa using h1
      cases mo
      · have e1 : errO L = pE := by rw [eO, d1n]; rfl
        by_cases hpE : pE = 0
        · have e2 : keyO L = ⟨6, sh, sl, dh, dl, pr, (pA : Nat), (pB : Nat)⟩ := by rw [kO, e1, if_neg (fun h => h hpE), d1n]; rfl
          rw [e1, e2]
          subst hpE
          unfold Ky.cells
          clear eO kO e1 e2 h1 d1n
          go_enter Tryd.func18, Tryd.ntmps18
          go_wp2_with fail
          refine (P4.out _).mono ?_
          rintro e w1 ⟨rfl, t1⟩
          have TA : Touch [] w1 (w1.alloc (.cells #[.int .u64 (D4.sh : Int), .int .u64 (D4.sl : Int), .int .u64 (D4.dh : Int), .int .u64 (D4.dl : Int), .int .i64 D4.proto, .int .i64 D4.start, .int .i64 D4.size, .int .i64 D4.off, .bool D4.more] 31)) := (Touch.refl [] w1).alloc _
          have B2 := (B0.out.carry t1 (by simp)).carry TA (by simp)
          have X2 : BoxV (w1.alloc (.cells #[.int .u64 (D4.sh : Int), .int .u64 (D4.sl : Int), .int .u64 (D4.dh : Int), .int .u64 (D4.dl : Int), .int .i64 D4.proto, .int .i64 D4.start, .int .i64 D4.size, .int .i64 D4.off, .bool D4.more] 31)) w1.heap.size 31 #[.int .u64 (D4.sh : Int), .int .u64 (D4.sl : Int), .int .u64 (D4.dh : Int), .int .u64 (D4.dl : Int), .int .i64 D4.proto, .int .i64 D4.start, .int .i64 D4.size, .int .i64 D4.off, .bool D4.more] := BoxV.new w1 _ _
          have T2 := (T0.out.trans t1 (by simp)).trans TA (by simp)
          have lw : w.heap.size < w1.heap.size := Nat.lt_of_lt_of_le B0.out.lt t1.size
          go_upto_region 7 with fail
          generalize w1.alloc (.cells #[.int .u64 (D4.sh : Int), .int .u64 (D4.sl : Int), .int .u64 (D4.dh : Int), .int .u64 (D4.dl : Int), .int .i64 D4.proto, .int .i64 D4.start, .int .i64 D4.size, .int .i64 D4.off, .bool D4.more] 31) = w2 at *
          have B2h := Lib.hid B2
          have X2h := Lib.hid X2
          have T2h := Lib.hid T2
          clear B2 X2 T2 TA t1
          go_wp2_with fail
          refine (P6.out _).mono ?_
          rintro e w3 ⟨rfl, t3⟩
          have X3 := X2h.out.carry t3 (by simp)
          have z0 := X3.cell 0
          have z1 := X3.cell 1
          have z2 := X3.cell 2
          have z3 := X3.cell 3
          have z4 := X3.cell 4
          have z5 := X3.cell 5
          have z6 := X3.cell 6
          have z7 := X3.cell 7
          have z8 := X3.cell 8
          have zf := X3.fr
          have zl := X3.lt
          have X5 := X3.fill9 (.int .u64 (sh : Int)) (.int .u64 (sl : Int)) (.int .u64 (dh : Int)) (.int .u64 (dl : Int)) (.int .i64 pr) (.int .i64 (a : Int)) (.int .i64 (b : Int)) (.int .i64 of) (.bool false)
          have U5 := touch_fill9 w3 w1.heap.size (.int .u64 (sh : Int)) (.int .u64 (sl : Int)) (.int .u64 (dh : Int)) (.int .u64 (dl : Int)) (.int .i64 pr) (.int .i64 (a : Int)) (.int .i64 (b : Int)) (.int .i64 of) (.bool false)
          have B5 := (B2h.out.carry t3 (by simp)).carry U5 (by simp; omega)
          have T5 := Lib.hid ((T2h.out.trans t3 (by simp)).trans U5 (by simp; omega))
          unfold fill9 at X5 B5 T5
          go_upto_region 9 with fail
          generalize (((((((((w3.setCell ⟨w1.heap.size, 0, none⟩ (.int .u64 (sh : Int))).setCell ⟨w1.heap.size, 1, none⟩ (.int .u64 (sl : Int))).setCell ⟨w1.heap.size, 2, none⟩ (.int .u64 (dh : Int))).setCell ⟨w1.heap.size, 3, none⟩ (.int .u64 (dl : Int))).setCell ⟨w1.heap.size, 4, none⟩ (.int .i64 pr)).setCell ⟨w1.heap.size, 5, none⟩ (.int .i64 (a : Int))).setCell ⟨w1.heap.size, 6, none⟩ (.int .i64 (b : Int))).setCell ⟨w1.heap.size, 7, none⟩ (.int .i64 of)).setCell ⟨w1.heap.size, 8, none⟩ (.bool false)) = w5 at *
          clear X3 U5 t3 B2h X2h T2h zf zl z0 z1 z2 z3 z4 z5 z6 z7 z8
          have x7 := X5.cell 7
          have x8 := X5.cell 8
          have l5 := X5.lt
          go_upto_region 13 with fail
          have k4 : ∀ x : Cls w5, x.val.cell? ⟨w1.heap.size, 4, none⟩ = some (.int .i64 pr) := fun x => (X5.carry x.property (by simp)).cell 4
          have k5 : ∀ x : Cls w5, x.val.cell? ⟨w1.heap.size, 5, none⟩ = some (.int .i64 (a : Int)) := fun x => (X5.carry x.property (by simp)).cell 5
          have k6 : ∀ x : Cls w5, x.val.cell? ⟨w1.heap.size, 6, none⟩ = some (.int .i64 (b : Int)) := fun x => (X5.carry x.property (by simp)).cell 6
          refine wp_region_cls (wd := w5) (by kernel_rfl) (by kernel_rfl) ((Touch.refl _ _).drew) ?_
          repeat (first | go_big_quiet_step ((go_at_call 40; with_reducible exact Calls.cls_at (PO.out _))) | quiet_step ((go_at_call 40; with_reducible exact Calls.cls_at (PO.out _))))
          refine wpQuiet_nil ?_
          rintro _ ⟨z, rfl⟩
          have X6 := X5.carry z.property (by simp)
          have B6 := B5.carry z.property (by simp)
          have T6 := Lib.hid (T5.out.trans z.property (by simp))
          generalize z.val = w6 at *
          have y0 := X6.cell 0
          have y1 := X6.cell 1
          have y2 := X6.cell 2
          have y3 := X6.cell 3
          have y4 := X6.cell 4
          have r0 := B6.cell 0
          have r1 := B6.cell 1
          have r2 := B6.cell 2
          have r3 := B6.cell 3
          have r4 := B6.cell 4
          have r5 := B6.cell 5
          have r6 := B6.cell 6
          have r7 := B6.cell 7
          have l6 := X6.lt
          have fz := B6.fr
          have ltq := B6.lt
          have HB := Lib.hid B6
          clear B6 B5 X5 X6 x7 x8 k4 k5 k6
          go_wp2_with fail
          refine bodyPost_ret (ret_box_tmp rfl rfl (HB.out.fill8 (.int .i64 6) (.int .u64 (sh : Int)) (.int .u64 (sl : Int)) (.int .u64 (dh : Int)) (.int .u64 (dl : Int)) (.int .i64 pr) (.int .i64 (pA : Int)) (.int .i64 (pB : Int))) Tryd.underlying41 rfl (by kernel_rfl)) rfl ⟨rfl, T6.out.trans (touch_fill8 w6 w.heap.size (.int .i64 6) (.int .u64 (sh : Int)) (.int .u64 (sl : Int)) (.int .u64 (dh : Int)) (.int .u64 (dl : Int)) (.int .i64 pr) (.int .i64 (pA : Int)) (.int .i64 (pB : Int))) (by simp)⟩
        · have e2 : keyO L = zeroK := by rw [kO, e1, if_pos hpE]
          rw [e1, e2]
          have dE : (pE != 0) = true := by simpa using hpE
          unfold zeroK Ky.cells
          clear eO kO e1 e2 h1 d1n hpE
          go_enter Tryd.func18, Tryd.ntmps18
          go_wp2_with fail
          refine (P4.out _).mono ?_
          rintro e w1 ⟨rfl, t1⟩
          have TA : Touch [] w1 (w1.alloc (.cells #[.int .u64 (D4.sh : Int), .int .u64 (D4.sl : Int), .int .u64 (D4.dh : Int), .int .u64 (D4.dl : Int), .int .i64 D4.proto, .int .i64 D4.start, .int .i64 D4.size, .int .i64 D4.off, .bool D4.more] 31)) := (Touch.refl [] w1).alloc _
          have B2 := (B0.out.carry t1 (by simp)).carry TA (by simp)
          have X2 : BoxV (w1.alloc (.cells #[.int .u64 (D4.sh : Int), .int .u64 (D4.sl : Int), .int .u64 (D4.dh : Int), .int .u64 (D4.dl : Int), .int .i64 D4.proto, .int .i64 D4.start, .int .i64 D4.size, .int .i64 D4.off, .bool D4.more] 31)) w1.heap.size 31 #[.int .u64 (D4.sh : Int), .int .u64 (D4.sl : Int), .int .u64 (D4.dh : Int), .int .u64 (D4.dl : Int), .int .i64 D4.proto, .int .i64 D4.start, .int .i64 D4.size, .int .i64 D4.off, .bool D4.more] := BoxV.new w1 _ _
          have T2 := (T0.out.trans t1 (by simp)).trans TA (by simp)
          have lw : w.heap.size < w1.heap.size := Nat.lt_of_lt_of_le B0.out.lt t1.size
          go_upto_region 7 with fail
          generalize w1.alloc (.cells #[.int .u64 (D4.sh : Int), .int .u64 (D4.sl : Int), .int .u64 (D4.dh : Int), .int .u64 (D4.dl : Int), .int .i64 D4.proto, .int .i64 D4.start, .int .i64 D4.size, .int .i64 D4.off, .bool D4.more] 31) = w2 at *
          have B2h := Lib.hid B2
          have X2h := Lib.hid X2
          have T2h := Lib.hid T2
          clear B2 X2 T2 TA t1
          go_wp2_with fail
          refine (P6.out _).mono ?_
          rintro e w3 ⟨rfl, t3⟩
          have X3 := X2h.out.carry t3 (by simp)
          have z0 := X3.cell 0
          have z1 := X3.cell 1
          have z2 := X3.cell 2
          have z3 := X3.cell 3
          have z4 := X3.cell 4
          have z5 := X3.cell 5
          have z6 := X3.cell 6
          have z7 := X3.cell 7
          have z8 := X3.cell 8
          have zf := X3.fr
          have zl := X3.lt
          have X5 := X3.fill9 (.int .u64 (sh : Int)) (.int .u64 (sl : Int)) (.int .u64 (dh : Int)) (.int .u64 (dl : Int)) (.int .i64 pr) (.int .i64 (a : Int)) (.int .i64 (b : Int)) (.int .i64 of) (.bool false)
          have U5 := touch_fill9 w3 w1.heap.size (.int .u64 (sh : Int)) (.int .u64 (sl : Int)) (.int .u64 (dh : Int)) (.int .u64 (dl : Int)) (.int .i64 pr) (.int .i64 (a : Int)) (.int .i64 (b : Int)) (.int .i64 of) (.bool false)
          have B5 := (B2h.out.carry t3 (by simp)).carry U5 (by simp; omega)
          have T5 := Lib.hid ((T2h.out.trans t3 (by simp)).trans U5 (by simp; omega))
          unfold fill9 at X5 B5 T5
          go_upto_region 9 with fail
          generalize (((((((((w3.setCell ⟨w1.heap.size, 0, none⟩ (.int .u64 (sh : Int))).setCell ⟨w1.heap.size, 1, none⟩ (.int .u64 (sl : Int))).setCell ⟨w1.heap.size, 2, none⟩ (.int .u64 (dh : Int))).setCell ⟨w1.heap.size, 3, none⟩ (.int .u64 (dl : Int))).setCell ⟨w1.heap.size, 4, none⟩ (.int .i64 pr)).setCell ⟨w1.heap.size, 5, none⟩ (.int .i64 (a : Int))).setCell ⟨w1.heap.size, 6, none⟩ (.int .i64 (b : Int))).setCell ⟨w1.heap.size, 7, none⟩ (.int .i64 of)).setCell ⟨w1.heap.size, 8, none⟩ (.bool false)) = w5 at *
          clear X3 U5 t3 B2h X2h T2h zf zl z0 z1 z2 z3 z4 z5 z6 z7 z8
          have x7 := X5.cell 7
          have x8 := X5.cell 8
          have l5 := X5.lt
          go_upto_region 13 with fail
          have k4 : ∀ x : Cls w5, x.val.cell? ⟨w1.heap.size, 4, none⟩ = some (.int .i64 pr) := fun x => (X5.carry x.property (by simp)).cell 4
          have k5 : ∀ x : Cls w5, x.val.cell? ⟨w1.heap.size, 5, none⟩ = some (.int .i64 (a : Int)) := fun x => (X5.carry x.property (by simp)).cell 5
          have k6 : ∀ x : Cls w5, x.val.cell? ⟨w1.heap.size, 6, none⟩ = some (.int .i64 (b : Int)) := fun x => (X5.carry x.property (by simp)).cell 6
          refine wp_region_cls (wd := w5) (by kernel_rfl) (by kernel_rfl) ((Touch.refl _ _).drew) ?_
          repeat (first | go_big_quiet_step ((go_at_call 40; with_reducible exact Calls.cls_at (PO.out _))) | quiet_step ((go_at_call 40; with_reducible exact Calls.cls_at (PO.out _))))
          refine wpQuiet_nil ?_
          rintro _ ⟨z, rfl⟩
          have X6 := X5.carry z.property (by simp)
          have B6 := B5.carry z.property (by simp)
          have T6 := Lib.hid (T5.out.trans z.property (by simp))
          generalize z.val = w6 at *
          have r0 := B6.cell 0
          have r1 := B6.cell 1
          have r2 := B6.cell 2
          have r3 := B6.cell 3
          have r4 := B6.cell 4
          have r5 := B6.cell 5
          have r6 := B6.cell 6
          have r7 := B6.cell 7
          have l6 := X6.lt
          have fz := B6.fr
          have ltq := B6.lt
          have HB := Lib.hid B6
          clear B6 B5 X5 X6 x7 x8 k4 k5 k6
          go_wp2_with fail
          refine bodyPost_ret (ret_box_tmp rfl rfl (HB.out.fill8 (.int .i64 0) (.int .u64 0) (.int .u64 0) (.int .u64 0) (.int .u64 0) (.int .i64 0) (.int .i64 0) (.int .i64 0)) Tryd.underlying41 rfl (by kernel_rfl)) rfl ⟨rfl, T6.out.trans (touch_fill8 w6 w.heap.size (.int .i64 0) (.int .u64 0) (.int .u64 0) (.int .u64 0) (.int .u64 0) (.int .i64 0) (.int .i64 0) (.int .i64 0)) (by simp)⟩
      · have e1 : errO L = 0 := by rw [eO, d1n]; rfl
        have e2 : keyO L = ⟨6, sh, sl, dh, dl, pr, 0, 0⟩ := by rw [kO, e1, if_neg (by decide), d1n]; rfl
        rw [e1, e2]
        unfold Ky.cells
        clear eO kO e1 e2 PO h1 d1n
        go_enter Tryd.func18, Tryd.ntmps18
        go_wp2_with fail
        refine (P4.out _).mono ?_
        rintro e w1 ⟨rfl, t1⟩
        have TA : Touch [] w1 (w1.alloc (.cells #[.int .u64 (D4.sh : Int), .int .u64 (D4.sl : Int), .int .u64 (D4.dh : Int), .int .u64 (D4.dl : Int), .int .i64 D4.proto, .int .i64 D4.start, .int .i64 D4.size, .int .i64 D4.off, .bool D4.more] 31)) := (Touch.refl [] w1).alloc _
        have B2 := (B0.out.carry t1 (by simp)).carry TA (by simp)
        have X2 : BoxV (w1.alloc (.cells #[.int .u64 (D4.sh : Int), .int .u64 (D4.sl : Int), .int .u64 (D4.dh : Int), .int .u64 (D4.dl : Int), .int .i64 D4.proto, .int .i64 D4.start, .int .i64 D4.size, .int .i64 D4.off, .bool D4.more] 31)) w1.heap.size 31 #[.int .u64 (D4.sh : Int), .int .u64 (D4.sl : Int), .int .u64 (D4.dh : Int), .int .u64 (D4.dl : Int), .int .i64 D4.proto, .int .i64 D4.start, .int .i64 D4.size, .int .i64 D4.off, .bool D4.more] := BoxV.new w1 _ _
        have T2 := (T0.out.trans t1 (by simp)).trans TA (by simp)
        have lw : w.heap.size < w1.heap.size := Nat.lt_of_lt_of_le B0.out.lt t1.size
        go_upto_region 7 with fail
        generalize w1.alloc (.cells #[.int .u64 (D4.sh : Int), .int .u64 (D4.sl : Int), .int .u64 (D4.dh : Int), .int .u64 (D4.dl : Int), .int .i64 D4.proto, .int .i64 D4.start, .int .i64 D4.size, .int .i64 D4.off, .bool D4.more] 31) = w2 at *
        have B2h := Lib.hid B2
        have X2h := Lib.hid X2
        have T2h := Lib.hid T2
        clear B2 X2 T2 TA t1
        go_wp2_with fail
        refine (P6.out _).mono ?_
        rintro e w3 ⟨rfl, t3⟩
        have X3 := X2h.out.carry t3 (by simp)
        have z0 := X3.cell 0
        have z1 := X3.cell 1
        have z2 := X3.cell 2
        have z3 := X3.cell 3
        have z4 := X3.cell 4
        have z5 := X3.cell 5
        have z6 := X3.cell 6
        have z7 := X3.cell 7
        have z8 := X3.cell 8
        have zf := X3.fr
        have zl := X3.lt
        have X5 := X3.fill9 (.int .u64 (sh : Int)) (.int .u64 (sl : Int)) (.int .u64 (dh : Int)) (.int .u64 (dl : Int)) (.int .i64 pr) (.int .i64 (a : Int)) (.int .i64 (b : Int)) (.int .i64 of) (.bool true)
        have U5 := touch_fill9 w3 w1.heap.size (.int .u64 (sh : Int)) (.int .u64 (sl : Int)) (.int .u64 (dh : Int)) (.int .u64 (dl : Int)) (.int .i64 pr) (.int .i64 (a : Int)) (.int .i64 (b : Int)) (.int .i64 of) (.bool true)
        have B5 := (B2h.out.carry t3 (by simp)).carry U5 (by simp; omega)
        have T5 := Lib.hid ((T2h.out.trans t3 (by simp)).trans U5 (by simp; omega))
        unfold fill9 at X5 B5 T5
        go_upto_region 9 with fail
        generalize (((((((((w3.setCell ⟨w1.heap.size, 0, none⟩ (.int .u64 (sh : Int))).setCell ⟨w1.heap.size, 1, none⟩ (.int .u64 (sl : Int))).setCell ⟨w1.heap.size, 2, none⟩ (.int .u64 (dh : Int))).setCell ⟨w1.heap.size, 3, none⟩ (.int .u64 (dl : Int))).setCell ⟨w1.heap.size, 4, none⟩ (.int .i64 pr)).setCell ⟨w1.heap.size, 5, none⟩ (.int .i64 (a : Int))).setCell ⟨w1.heap.size, 6, none⟩ (.int .i64 (b : Int))).setCell ⟨w1.heap.size, 7, none⟩ (.int .i64 of)).setCell ⟨w1.heap.size, 8, none⟩ (.bool true)) = w5 at *
        clear X3 U5 t3 B2h X2h T2h zf zl z0 z1 z2 z3 z4 z5 z6 z7 z8
        have y0 := X5.cell 0
        have y1 := X5.cell 1
        have y2 := X5.cell 2
        have y3 := X5.cell 3
        have y4 := X5.cell 4
        have y7 := X5.cell 7
        have y8 := X5.cell 8
        have r0 := B5.cell 0
        have r1 := B5.cell 1
        have r2 := B5.cell 2
        have r3 := B5.cell 3
        have r4 := B5.cell 4
        have r5 := B5.cell 5
        have r6 := B5.cell 6
        have r7 := B5.cell 7
        have l5 := X5.lt
        clear X5
        have fz := B5.fr
        have ltq := B5.lt
        have HB := Lib.hid B5
        clear B5
        go_wp2_with fail
        refine bodyPost_ret (ret_box_tmp rfl rfl (HB.out.fill8 (.int .i64 6) (.int .u64 (sh : Int)) (.int .u64 (sl : Int)) (.int .u64 (dh : Int)) (.int .u64 (dl : Int)) (.int .i64 pr) (.int .i64 0) (.int .i64 0)) Tryd.underlying41 rfl (by kernel_rfl)) rfl ⟨rfl, T5.out.trans (touch_fill8 w5 w.heap.size (.int .i64 6) (.int .u64 (sh : Int)) (.int .u64 (sl : Int)) (.int .u64 (dh : Int)) (.int .u64 (dl : Int)) (.int .i64 pr) (.int .i64 0) (.int .i64 0)) (by simp)⟩
    · have d1 : (of == 0) = false := by simpa using h1
      have d1n : (of != 0) = true := by simpa using h1
      have e1 : errO L = 0 := by rw [eO, d1n]; rfl
      have e2 : keyO L = ⟨6, sh, sl, dh, dl, pr, 0, 0⟩ := by rw [kO, e1, if_neg (by decide), d1n]; rfl
      rw [e1, e2]
      unfold Ky.cells
      clear eO kO e1 e2 PO h1 d1n
      go_enter Tryd.func18, Tryd.ntmps18
      go_wp2_with fail
      refine (P4.out _).mono ?_
      rintro e w1 ⟨rfl, t1⟩
      have TA : Touch [] w1 (w1.alloc (.cells #[.int .u64 (D4.sh : Int), .int .u64 (D4.sl : Int), .int .u64 (D4.dh : Int), .int .u64 (D4.dl : Int), .int .i64 D4.proto, .int .i64 D4.start, .int .i64 D4.size, .int .i64 D4.off, .bool D4.more] 31)) := (Touch.refl [] w1).alloc _
      have B2 := (B0.out.carry t1 (by simp)).carry TA (by simp)
      have X2 : BoxV (w1.alloc (.cells #[.int .u64 (D4.sh : Int), .int .u64 (D4.sl : Int), .int .u64 (D4.dh : Int), .int .u64 (D4.dl : Int), .int .i64 D4.proto, .int .i64 D4.start, .int .i64 D4.size, .int .i64 D4.off, .bool D4.more] 31)) w1.heap.size 31 #[.int .u64 (D4.sh : Int), .int .u64 (D4.sl : Int), .int .u64 (D4.dh : Int), .int .u64 (D4.dl : Int), .int .i64 D4.proto, .int .i64 D4.start, .int .i64 D4.size, .int .i64 D4.off, .bool D4.more] := BoxV.new w1 _ _
      have T2 := (T0.out.trans t1 (by simp)).trans TA (by simp)
      have lw : w.heap.size < w1.heap.size := Nat.lt_of_lt_of_le B0.out.lt t1.size
      go_upto_region 7 with fail
      generalize w1.alloc (.cells #[.int .u64 (D4.sh : Int), .int .u64 (D4.sl : Int), .int .u64 (D4.dh : Int), .int .u64 (D4.dl : Int), .int .i64 D4.proto, .int .i64 D4.start, .int .i64 D4.size, .int .i64 D4.off, .bool D4.more] 31) = w2 at *
      have B2h := Lib.hid B2
      have X2h := Lib.hid X2
      have T2h := Lib.hid T2
      clear B2 X2 T2 TA t1
      go_wp2_with fail
      refine (P6.out _).mono ?_
      rintro e w3 ⟨rfl, t3⟩
      have X3 := X2h.out.carry t3 (by simp)
      have z0 := X3.cell 0
      have z1 := X3.cell 1
      have z2 := X3.cell 2
      have z3 := X3.cell 3
      have z4 := X3.cell 4
      have z5 := X3.cell 5
      have z6 := X3.cell 6
      have z7 := X3.cell 7
      have z8 := X3.cell 8
      have zf := X3.fr
      have zl := X3.lt
      have X5 := X3.fill9 (.int .u64 (sh : Int)) (.int .u64 (sl : Int)) (.int .u64 (dh : Int)) (.int .u64 (dl : Int)) (.int .i64 pr) (.int .i64 (a : Int)) (.int .i64 (b : Int)) (.int .i64 of) (.bool mo)
      have U5 := touch_fill9 w3 w1.heap.size (.int .u64 (sh : Int)) (.int .u64 (sl : Int)) (.int .u64 (dh : Int)) (.int .u64 (dl : Int)) (.int .i64 pr) (.int .i64 (a : Int)) (.int .i64 (b : Int)) (.int .i64 of) (.bool mo)
      have B5 := (B2h.out.carry t3 (by simp)).carry U5 (by simp; omega)
      have T5 := Lib.hid ((T2h.out.trans t3 (by simp)).trans U5 (by simp; omega))
      unfold fill9 at X5 B5 T5
      go_upto_region 9 with fail
      generalize (((((((((w3.setCell ⟨w1.heap.size, 0, none⟩ (.int .u64 (sh : Int))).setCell ⟨w1.heap.size, 1, none⟩ (.int .u64 (sl : Int))).setCell ⟨w1.heap.size, 2, none⟩ (.int .u64 (dh : Int))).setCell ⟨w1.heap.size, 3, none⟩ (.int .u64 (dl : Int))).setCell ⟨w1.heap.size, 4, none⟩ (.int .i64 pr)).setCell ⟨w1.heap.size, 5, none⟩ (.int .i64 (a : Int))).setCell ⟨w1.heap.size, 6, none⟩ (.int .i64 (b : Int))).setCell ⟨w1.heap.size, 7, none⟩ (.int .i64 of)).setCell ⟨w1.heap.size, 8, none⟩ (.bool mo)) = w5 at *
      clear X3 U5 t3 B2h X2h T2h zf zl z0 z1 z2 z3 z4 z5 z6 z7 z8
      have y0 := X5.cell 0
      have y1 := X5.cell 1
      have y2 := X5.cell 2
      have y3 := X5.cell 3
      have y4 := X5.cell 4
      have y7 := X5.cell 7
      have y8 := X5.cell 8
      have r0 := B5.cell 0
      have r1 := B5.cell 1
      have r2 := B5.cell 2
      have r3 := B5.cell 3
      have r4 := B5.cell 4
      have r5 := B5.cell 5
      have r6 := B5.cell 6
      have r7 := B5.cell 7
      have l5 := X5.lt
      clear X5
      have fz := B5.fr
      have ltq := B5.lt
      have HB := Lib.hid B5
      clear B5
      go_wp2_with fail
      refine bodyPost_ret (ret_box_tmp rfl rfl (HB.out.fill8 (.int .i64 6) (.int .u64 (sh : Int)) (.int .u64 (sl : Int)) (.int .u64 (dh : Int)) (.int .u64 (dl : Int)) (.int .i64 pr) (.int .i64 0) (.int .i64 0)) Tryd.underlying41 rfl (by kernel_rfl)) rfl ⟨rfl, T5.out.trans (touch_fill8 w5 w.heap.size (.int .i64 6) (.int .u64 (sh : Int)) (.int .u64 (sl : Int)) (.int .u64 (dh : Int)) (.int .u64 (dl : Int)) (.int .i64 pr) (.int .i64 0) (.int .i64 0)) (by simp)⟩
end Go.Proofs.YtdpaiegojioimaaDoor

/-
  FlowOf: for every string the law on flow's Of returns true, where ipv6.known holds what its initialiser lays. No other conditions.
-/
namespace Go.Proofs.YtdpaiegojioimaaDoor
open Go.ChangeShapes Go.WideShapes Go.ChangeAt Go.RowKit Go.Deep Go.Joins
set_option linter.unusedVariables false
set_option linter.unusedSimpArgs false

theorem least17 : leastV 17 = 8 := rfl
theorem within_yes (n h : Int) (h1 : 0 ≤ n) (h2 : n ≤ h) (w : World) : Calls Tryd.prog 42 #[.int .i64 n, .int .i64 h] w fun e w' => e = .returned (.bool true) ∧ w' = w := by
  have d1 : decide (0 ≤ n) = true := by simpa using h1
  have d2 : decide (n ≤ h) = true := by simpa using h2
  clear h1 h2
  go_enter Tryd.func42, Tryd.ntmps42
  go_wp2_with fail
  go_ret
  exact ⟨rfl, rfl⟩
theorem rightPorts17 (w : World) : Calls Tryd.prog 43 #[.agg #[.int .i64 4, .int .u64 0, .int .u64 0, .int .u64 0, .int .u64 0, .int .i64 17, .int .i64 0, .int .i64 0]] w fun e w' => e = .returned (.bool true) ∧ Touch [] w w' := by
  have HH : Hid (∀ w, Calls Tryd.prog 70 #[.int .i64 17] w fun e w' => e = .returned (.bool true) ∧ w' = w) := Lib.hid (fun w => has_any 17 w)
  have WI := Lib.hid (fun w => within_yes 0 65535 (by decide) (by decide) w)
  have T0 := Lib.hid ((Touch.refl [] w).alloc (.cells #[.int .i64 4, .int .u64 0, .int .u64 0, .int .u64 0, .int .u64 0, .int .i64 17, .int .i64 0, .int .i64 0] 41))
  go_enter Tryd.func43, Tryd.ntmps43
  go_wp2_with fail
  refine (HH.out _).mono ?_
  rintro e w1 ⟨rfl, hq⟩
  subst hq
  go_wp2_with fail
  refine (WI.out _).mono ?_
  rintro e w1 ⟨rfl, hq⟩
  subst hq
  go_wp2_with fail
  refine (WI.out _).mono ?_
  rintro e w1 ⟨rfl, hq⟩
  subst hq
  go_wp2_with fail
  go_ret
  exact ⟨rfl, T0.out⟩
theorem right17 (w : World) : Calls Tryd.prog 19 #[.agg #[.int .i64 4, .int .u64 0, .int .u64 0, .int .u64 0, .int .u64 0, .int .i64 17, .int .i64 0, .int .i64 0]] w fun e w' => e = .returned (.bool true) ∧ Touch [] w w' := by
  have R1 : Hid (∀ w, Calls Tryd.prog 41 #[.int .i64 4, .agg #[.int .u64 0, .int .u64 0]] w fun e w' => e = .returned (.bool true) ∧ Touch [] w w') := Lib.hid (fun w => right10 4 0 0 w)
  have R2 := Lib.hid (fun w => rightPorts17 w)
  have WI := Lib.hid (fun w => within_yes 17 255 (by decide) (by decide) w)
  have T0 := Lib.hid ((Touch.refl [] w).alloc (.cells #[.int .i64 4, .int .u64 0, .int .u64 0, .int .u64 0, .int .u64 0, .int .i64 17, .int .i64 0, .int .i64 0] 41))
  have B0 := Lib.hid (BoxV.new w 41 #[.int .i64 4, .int .u64 0, .int .u64 0, .int .u64 0, .int .u64 0, .int .i64 17, .int .i64 0, .int .i64 0])
  go_enter Tryd.func19, Tryd.ntmps19
  go_wp2_with fail
  refine (R1.out _).mono ?_
  rintro e w1 ⟨rfl, t1⟩
  have H1 := Lib.hid (B0.out.carry t1 (by simp))
  have T1 := Lib.hid (T0.out.trans t1 (by simp))
  have c0 := H1.out.cell 0
  have c3 := H1.out.cell 3
  have c4 := H1.out.cell 4
  have l1 := H1.out.lt
  clear t1
  go_wp2_with fail
  refine (R1.out _).mono ?_
  rintro e w2 ⟨rfl, t2⟩
  have H2 := Lib.hid (H1.out.carry t2 (by simp))
  have T2 := Lib.hid (T1.out.trans t2 (by simp))
  clear c0 c3 c4 l1 t2
  have c0 := H2.out.cell 0
  have c1 := H2.out.cell 1
  have c2 := H2.out.cell 2
  have c3 := H2.out.cell 3
  have c4 := H2.out.cell 4
  have c5 := H2.out.cell 5
  have c6 := H2.out.cell 6
  have c7 := H2.out.cell 7
  have l2 := H2.out.lt
  go_wp2_with fail
  refine (WI.out _).mono ?_
  rintro e w2 ⟨rfl, hq⟩
  subst hq
  go_wp2_with fail
  refine (R2.out _).mono ?_
  rintro e w3 ⟨rfl, t3⟩
  have T3 := Lib.hid (T2.out.trans t3 (by simp))
  clear t3
  go_wp2_with fail
  go_ret
  exact ⟨rfl, T3.out⟩
theorem headLen4 (w : World) : Calls Tryd.prog 45 #[.int .i64 4] w fun e w' => e = .returned (.int .i64 20) ∧ Touch [] w w' := by
  go_enter Tryd.func45, Tryd.ntmps45
  go_wp2_with fail
  go_ret
  exact ⟨rfl, Touch.refl _ _⟩
set_option maxRecDepth 100000 in
theorem least14 (w : World) : Calls Tryd.prog 21 #[.agg #[.int .i64 4, .int .u64 0, .int .u64 0, .int .u64 0, .int .u64 0, .int .i64 17, .int .i64 0, .int .i64 0]] w fun e w' => e = .returned (.int .i64 28) ∧ Touch [] w w' := by
  have R := Lib.hid (fun w => right17 w)
  have HL := Lib.hid (fun w => headLen4 w)
  have LE : Hid (∀ w, Calls Tryd.prog 46 #[.int .i64 17] w fun e w' => e = .returned (.int .i64 8) ∧ Touch [] w w') := Lib.hid (fun w => (least_any 17 w).mono fun e w' ⟨h1, h2⟩ => ⟨h1, by rw [h2]; exact Touch.refl _ _⟩)
  have T0 := Lib.hid ((Touch.refl [] w).alloc (.cells #[.int .i64 4, .int .u64 0, .int .u64 0, .int .u64 0, .int .u64 0, .int .i64 17, .int .i64 0, .int .i64 0] 41))
  have B0 := Lib.hid (BoxV.new w 41 #[.int .i64 4, .int .u64 0, .int .u64 0, .int .u64 0, .int .u64 0, .int .i64 17, .int .i64 0, .int .i64 0])
  go_enter Tryd.func21, Tryd.ntmps21
  go_wp2_with fail
  refine (R.out _).mono ?_
  rintro e w1 ⟨rfl, t1⟩
  have H1 := Lib.hid (B0.out.carry t1 (by simp))
  have T1 := Lib.hid (T0.out.trans t1 (by simp))
  clear t1
  go_upto_region 3 with fail
  have k0 : ∀ x : Cls w1, x.val.cell? ⟨w.heap.size, 0, none⟩ = some (.int .i64 4) := fun x => (H1.out.carry x.property (by simp)).cell 0
  have k5 : ∀ x : Cls w1, x.val.cell? ⟨w.heap.size, 5, none⟩ = some (.int .i64 17) := fun x => (H1.out.carry x.property (by simp)).cell 5
  refine wp_region_cls (wd := w1) (by kernel_rfl) (by kernel_rfl) ((Touch.refl _ _).drew) ?_
  repeat (first | go_big_quiet_step ((first | (go_at_call 45; with_reducible exact Calls.cls_at (HL.out _)) | (go_at_call 46; with_reducible exact Calls.cls_at (LE.out _)))) | quiet_step ((first | (go_at_call 45; with_reducible exact Calls.cls_at (HL.out _)) | (go_at_call 46; with_reducible exact Calls.cls_at (LE.out _)))))
  refine wpQuiet_nil ?_
  rintro _ ⟨y, rfl⟩
  go_wp2_with fail
  go_ret
  exact ⟨rfl, T1.out.trans y.property (by simp)⟩
set_option maxRecDepth 100000 in
theorem flowLives {w : World} (K : Tab6 w) : Calls Tryd.prog 16 #[] w fun e w' => e = .returned (.bool true) ∧ Touch [] w w' := by
  have O : Hid (Calls Tryd.prog 17 #[.string ⟨#[]⟩] w fun e w' => e = .returned (.tuple #[.agg #[.int .i64 0, .int .u64 0, .int .u64 0, .int .u64 0, .int .u64 0, .int .i64 0, .int .i64 0, .int .i64 0], .int .i64 5]) ∧ Touch [] w w') := Lib.hid (of14 [] (by decide) K)
  have LE := Lib.hid (fun w => least14 w)
  clear K
  go_enter Tryd.func16, Tryd.ntmps16
  go_wp2_with fail
  refine (O.out).mono ?_
  rintro e w1 ⟨rfl, t1⟩
  have T1 := Lib.hid (t1.alloc (.cells #[.int .i64 0, .int .u64 0, .int .u64 0, .int .u64 0, .int .u64 0, .int .i64 0, .int .i64 0, .int .i64 0] 41))
  clear t1
  go_wp2_with fail
  refine (LE.out _).mono ?_
  rintro e w2 ⟨rfl, t2⟩
  have T2 := Lib.hid (T1.out.trans t2 (by simp))
  clear t2
  go_wp2_with fail
  go_ret
  exact ⟨rfl, T2.out⟩

set_option maxHeartbeats 1000000 in
theorem flowOf_walk (l : List UInt8) (hl : l.length ≤ 9223372036854775807) {w : World} (K : Tab6 w) :
    Calls Tryd.prog 6 #[.string (S l)] w fun e w' => e = .returned (.bool true) ∧ Below w.heap.size w w' := by
  have hss : (S l).size = l.length := S_size l
  by_cases h4 : l.length ≤ 400
  · have d4 : decide (400 < (l.length : Int)) = false := by simp; omega
    have P1 := Lib.hid (of14 l (by omega) K)
    have P2 := Lib.hid (fun w => refOf14 l (by omega) w)
    have HK := Lib.hid K
    have ways : (errO l == 0) = true ∨ ((errO l == 0) = false ∧ keyO l = zeroK) := by
      by_cases h : errO l = 0
      · exact .inl (by simpa using h)
      · exact .inr ⟨by simpa using h, by unfold keyO; rw [if_pos h]⟩
    clear K
    rcases ways with dE | ⟨dE, hk⟩
    · unfold Ky.cells at *
      generalize keyO l = k at *
      generalize errO l = E at *
      go_enter Tryd.func6, Tryd.ntmps6
      go_wp2_with fail
      refine (P1.out).mono ?_
      rintro e w1 ⟨rfl, t1⟩
      have T1 := Lib.hid (t1.alloc (.cells #[.int .i64 k.ver, .int .u64 (k.sh : Int), .int .u64 (k.sl : Int), .int .u64 (k.dh : Int), .int .u64 (k.dl : Int), .int .i64 k.proto, .int .i64 k.sp, .int .i64 k.dp] 41))
      have B1 := Lib.hid (BoxV.new w1 41 #[.int .i64 k.ver, .int .u64 (k.sh : Int), .int .u64 (k.sl : Int), .int .u64 (k.dh : Int), .int .u64 (k.dl : Int), .int .i64 k.proto, .int .i64 k.sp, .int .i64 k.dp])
      clear t1
      go_wp2_with fail
      refine (P2.out _).mono ?_
      rintro e w2 ⟨rfl, t2⟩
      have B2 := (B1.out.carry (t2.alloc (.cells #[.int .i64 k.ver, .int .u64 (k.sh : Int), .int .u64 (k.sl : Int), .int .u64 (k.dh : Int), .int .u64 (k.dl : Int), .int .i64 k.proto, .int .i64 k.sp, .int .i64 k.dp] 41)) (by simp))
      have C2 := (BoxV.new w2 41 #[.int .i64 k.ver, .int .u64 (k.sh : Int), .int .u64 (k.sl : Int), .int .u64 (k.dh : Int), .int .u64 (k.dl : Int), .int .i64 k.proto, .int .i64 k.sp, .int .i64 k.dp])
      have T2 := Lib.hid ((T1.out.trans t2 (by simp)).alloc (.cells #[.int .i64 k.ver, .int .u64 (k.sh : Int), .int .u64 (k.sl : Int), .int .u64 (k.dh : Int), .int .u64 (k.dl : Int), .int .i64 k.proto, .int .i64 k.sp, .int .i64 k.dp] 41))
      have LV := Lib.hid (flowLives (HK.out.carry T2.out (by simp)))
      clear t2 T1 B1
      go_upto_region 5 with fail
      generalize w2.alloc (.cells #[.int .i64 k.ver, .int .u64 (k.sh : Int), .int .u64 (k.sl : Int), .int .u64 (k.dh : Int), .int .u64 (k.dl : Int), .int .i64 k.proto, .int .i64 k.sp, .int .i64 k.dp] 41) = w5 at *
      have k0 := B2.cell 0
      have k1 := B2.cell 1
      have k2 := B2.cell 2
      have k3 := B2.cell 3
      have k4 := B2.cell 4
      have k5 := B2.cell 5
      have k6 := B2.cell 6
      have k7 := B2.cell 7
      have j0 := C2.cell 0
      have j1 := C2.cell 1
      have j2 := C2.cell 2
      have j3 := C2.cell 3
      have j4 := C2.cell 4
      have j5 := C2.cell 5
      have j6 := C2.cell 6
      have j7 := C2.cell 7
      clear B2 C2
      go_wp2_with fail
      refine (LV.out).mono ?_
      rintro e w6 ⟨rfl, t6⟩
      have T6 := Lib.hid (T2.out.trans t6 (by simp))
      clear t6
      go_wp2_with fail
      go_ret
      exact ⟨rfl, T6.out.below (by simp) (Nat.le_refl _)⟩
    · rw [hk] at P1 P2
      unfold zeroK Ky.cells at *
      generalize errO l = E at *
      clear hk
      go_enter Tryd.func6, Tryd.ntmps6
      go_wp2_with fail
      refine (P1.out).mono ?_
      rintro e w1 ⟨rfl, t1⟩
      have T1 := Lib.hid (t1.alloc (.cells #[.int .i64 0, .int .u64 0, .int .u64 0, .int .u64 0, .int .u64 0, .int .i64 0, .int .i64 0, .int .i64 0] 41))
      have B1 := Lib.hid (BoxV.new w1 41 #[.int .i64 0, .int .u64 0, .int .u64 0, .int .u64 0, .int .u64 0, .int .i64 0, .int .i64 0, .int .i64 0])
      clear t1
      go_wp2_with fail
      refine (P2.out _).mono ?_
      rintro e w2 ⟨rfl, t2⟩
      have B2 := (B1.out.carry (t2.alloc (.cells #[.int .i64 0, .int .u64 0, .int .u64 0, .int .u64 0, .int .u64 0, .int .i64 0, .int .i64 0, .int .i64 0] 41)) (by simp))
      have C2 := (BoxV.new w2 41 #[.int .i64 0, .int .u64 0, .int .u64 0, .int .u64 0, .int .u64 0, .int .i64 0, .int .i64 0, .int .i64 0])
      have T2 := Lib.hid ((T1.out.trans t2 (by simp)).alloc (.cells #[.int .i64 0, .int .u64 0, .int .u64 0, .int .u64 0, .int .u64 0, .int .i64 0, .int .i64 0, .int .i64 0] 41))
      have LV := Lib.hid (flowLives (HK.out.carry T2.out (by simp)))
      clear t2 T1 B1
      go_upto_region 5 with fail
      generalize w2.alloc (.cells #[.int .i64 0, .int .u64 0, .int .u64 0, .int .u64 0, .int .u64 0, .int .i64 0, .int .i64 0, .int .i64 0] 41) = w5 at *
      have k0 := B2.cell 0
      have k1 := B2.cell 1
      have k2 := B2.cell 2
      have k3 := B2.cell 3
      have k4 := B2.cell 4
      have k5 := B2.cell 5
      have k6 := B2.cell 6
      have k7 := B2.cell 7
      have j0 := C2.cell 0
      have j1 := C2.cell 1
      have j2 := C2.cell 2
      have j3 := C2.cell 3
      have j4 := C2.cell 4
      have j5 := C2.cell 5
      have j6 := C2.cell 6
      have j7 := C2.cell 7
      clear B2 C2
      go_wp2_with fail
      refine (LV.out).mono ?_
      rintro e w6 ⟨rfl, t6⟩
      have T6 := Lib.hid (T2.out.trans t6 (by simp))
      clear t6
      go_wp2_with fail
      go_ret
      exact ⟨rfl, T6.out.below (by simp) (Nat.le_refl _)⟩
  · have d4 : decide (400 < (l.length : Int)) = true := by simp; omega
    have LV := Lib.hid (flowLives K)
    clear K
    go_enter Tryd.func6, Tryd.ntmps6
    go_wp2_with fail
    refine (LV.out).mono ?_
    rintro e w1 ⟨rfl, t1⟩
    have T1 := Lib.hid t1
    clear t1
    go_wp2_with fail
    go_ret
    exact ⟨rfl, T1.out.below (by simp) (Nat.le_refl _)⟩

set_option maxRecDepth 100000 in
theorem flowOf_calls : LawCallsK Tryd.prog 6 Tryd.f6 := by
  intro H enc W base args ds p hK hval hA hlt
  rw [Tryd.params6] at hA hval
  obtain ⟨v0, vs0, d0, ds0, p0, q0, hargs, rfl, rfl, h0, r0⟩ := trodAll_cons hA
  obtain ⟨rfl, rfl, rfl⟩ := trodAll_nil r0
  obtain rfl : args = #[v0] := by cases args; simp_all
  obtain ⟨s, rfl, rfl, rfl, hs⟩ := Go.ChangeMaps.open_string Tryd.underlying9 (hval 0 9 v0 rfl rfl) h0
  have es : s = S s.data.toList := by unfold S; simp
  have hz : s.data.toList.length = s.size := by simp
  rw [es]
  exact flowOf_walk s.data.toList (by unfold maxLen at hs; omega) hK

set_option maxRecDepth 100000 in
theorem flowOf_lifted (os : Os) (started : os.Started) (H : Type) (enc : TypeId × Value → H) :
    ReturnsInHanded {} Tryd.checked os 6 .any (fun w args => (Rows.flowOfSpec.pre enc Tryd.prog Tryd.f6 [] false w args ∧ laidMetH Tryd.prog laid1 w) ∧ sizedMet enc Tryd.prog Tryd.f6 (OpenSpec.ofChange Rows.flowOfSpec) false w args)
      (Rows.flowOfSpec.post enc Tryd.prog Tryd.f6 false true false false) := by
  refine returnsInHanded_of_change_and (C := Tryd.checked) (X := fun w _ => laidMetH Tryd.prog laid1 w) (fun _ _ _ hh h => h.of_heap hh) own started (by kernel_rfl) Tryd.func6
    (ChangeSpec.witness_shaped (enc := enc) (C := Tryd.checked) (os := os) (X := fun w _ => laidMetH Tryd.prog laid1 w) false (World.doorLaid Tryd.prog 14 os) #[.string ⟨#[]⟩] 8 rfl (World.shaped_of_RefB (by kernel_rfl) (by kernel_rfl)) (by kernel_rfl) (by kernel_rfl) (by kernel_rfl) (door_met os _)) ?_
  intro W base args ds gs before hval hW _ _ hL _
  exact law_contractK laidOut (by kernel_rfl) rfl rfl boolType (fun ds h => by match ds, h with | [_], _ => rfl) flowOf_calls W (known_of_laid hL) base args ds gs before hval hW

theorem flowOf_over : Rows.FlowOfSaid :=
  OpenClaim.holds_of_wide 6 Tryd.f6 rfl rfl rfl rfl rfl rfl rfl ⟨rfl, rfl, rfl, rfl, rfl⟩ rfl rfl rfl rfl rfl (by kernel_rfl) Tryd.func6 (by kernel_rfl)
    (of_decide_eq_true (by kernel_rfl)) (by unfold Func.isWrapper; first | (rw [if_pos (by decide +kernel)]; kernel_rfl) | (rw [if_neg (by decide +kernel)]; exact ⟨rfl, rfl⟩))
    (fun os started H enc _ => flowOf_lifted os started H enc)

theorem flowOf_holds : Rows.FlowOfCardSaid :=
  Claim7.holds_tied_plain_at .later [] [.data] true Rows.flowOfCard.stood.harness true
    flowOf_over (fun _ h => by cases h) (by kernel_rfl) (fun _ h => by cases h) flowOf_row_tie rfl ⟨rfl, rfl⟩ (by kernel_rfl) rfl
    (fun f fn hf hfn => by
      obtain rfl : f = 6 := Option.some.inj ((show Tryd.prog.funcNamed "flashlock/flashlocklaw14.FlowOf" = some 6 by kernel_rfl).symm.trans hf) |>.symm
      obtain rfl : fn = Tryd.f6 := (Option.some.inj (Tryd.func6.symm.trans hfn)).symm
      exact ⟨by kernel_rfl, fun j t ht => by
        rw [Tryd.params6] at ht
        have hm := Array.mem_of_getElem? ht
        have hall : (Tryd.f6.params.toList.all fun u => !Tryd.prog.wantsStandIn u) = true := by kernel_rfl
        have hm' : t ∈ Tryd.f6.params.toList := by rw [Tryd.params6]; simpa using hm
        exact (show Tryd.prog.wantsStandIn t = false by simpa using List.all_eq_true.1 hall t hm')⟩)
    (by kernel_rfl)
#print axioms flowOf_holds
end Go.Proofs.YtdpaiegojioimaaDoor
