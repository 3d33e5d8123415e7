/-
  ports (layer 13): Of.
-/
import Derived.Test.YtfeeaokeomcafaaPorts
namespace Go.Proofs.Ytfeeaokeomcafaa
open Go.ChangeShapes Go.WideShapes Go.ChangeAt Go.RowKit Go.Deep
set_option linter.unusedVariables false
set_option linter.unusedSimpArgs false

/-- What Of's function finds: the segment, the protocol, and where the ports go. -/
structure Seg (w : World) (p b1 b2 b3 b4 : Nat) (l m : List UInt8) (x : Int) (u v : Int) : Prop where
  rd : At w p l
  s : Box1 w b1 9 (.string (S m))
  x : Box1 w b2 3 (.int .i64 x)
  u : Box1 w b3 3 (.int .i64 u)
  v : Box1 w b4 3 (.int .i64 v)
  n1 : b1 ≠ p
  n2 : b2 ≠ p
  n3 : b3 ≠ p
  n4 : b4 ≠ p
  n34 : b3 ≠ b4
theorem Seg.go {w w' : World} {p b1 b2 b3 b4 : Nat} {l l' m : List UInt8} {x u v : Int} (h : Seg w p b1 b2 b3 b4 l m x u v) (a : At w' p l') (t : Touch [p] w w') : Seg w' p b1 b2 b3 b4 l' m x u v :=
  ⟨a, h.s.carry t (by simpa using h.n1), h.x.carry t (by simpa using h.n2), h.u.carry t (by simpa using h.n3), h.v.carry t (by simpa using h.n4), h.n1, h.n2, h.n3, h.n4, h.n34⟩

section
variable {w : World} {p b1 b2 b3 b4 : Nat} {l : List UInt8} {x : Int}
set_option maxHeartbeats 1000000 in
set_option maxRecDepth 100000 in
theorem of1_short (h : Seg w p b1 b2 b3 b4 l l x 0 0) (hl : l.length ≤ 1000000000) (hs : (l.length : Int) < leastV x) :
    Calls Try.prog 91 #[.pointer (some ⟨p, 0, none⟩), .pointer (some ⟨b1, 0, none⟩), .pointer (some ⟨b2, 0, none⟩), .pointer (some ⟨b3, 0, none⟩), .pointer (some ⟨b4, 0, none⟩)] w (Fails p w 5) := by
  have k1 : ∀ y : Cls w, y.val.cell? ⟨b1, 0, none⟩ = some (.string (S l)) := fun y => (h.s.carry y.property (by simp)).c0
  have k2 : ∀ y : Cls w, y.val.cell? ⟨b2, 0, none⟩ = some (.int .i64 x) := fun y => (h.x.carry y.property (by simp)).c0
  have L := Lib.hid (fun w => (least_any x w))
  have M := Lib.hid (need_no p 5 (by decide))
  have hz := S_size l
  have g1 : decide (leastV x ≤ (l.length : Int)) = false := by simp; omega
  have g2 : ¬ (leastV x ≤ (l.length : Int)) := by omega
  clear h
  generalize leastV x = q at *
  go_enter Try.func91, Try.ntmps91
  go_upto_region 0 with fail
  refine wp_region_tail (wd := w) 6 (by kernel_rfl) (by kernel_rfl) ((Touch.refl _ _).drew) ?_
  repeat (first | go_big_quiet_step ((go_at_call 48; exact Calls.cls_same ((L.out _).mono fun _ _ ⟨a, b⟩ => ⟨a, b.symm⟩))) | quiet_step ((go_at_call 48; exact Calls.cls_same ((L.out _).mono fun _ _ ⟨a, b⟩ => ⟨a, b.symm⟩))))
  refine wpQuiet_nil ?_
  intro y
  go_wp2_with fail
  refine (M.out _).mono ?_
  rintro e w3 ⟨rfl, rfl⟩
  exact ⟨rfl, rfl, y.property.mono (by simp)⟩

/-- What Of's function does with a segment that is long enough: it holds the length that is told against the segment's. -/
def Told (w : World) (p b1 b2 b3 b4 : Nat) (l : List UInt8) (x : Int) (told : Nat) (wrong : Int) (e : Ending) (w' : World) : Prop :=
  (leastV x ≤ told ∧ told ≤ l.length → e = .returned (.tuple #[]) ∧ Box1 w' b3 3 (.int .i64 (num (l.take 2) : Nat)) ∧ Box1 w' b4 3 (.int .i64 (num ((l.drop 2).take 2) : Nat)) ∧ Touch [p, b3, b4] w w') ∧
  (¬ (leastV x ≤ told ∧ told ≤ l.length) → Fails p w wrong e w')

set_option maxHeartbeats 2000000 in
set_option maxRecDepth 100000 in
theorem of1_go (h : Seg w p b1 b2 b3 b4 l l x 0 0) (hl : l.length ≤ 1000000000) (hs : leastV x ≤ (l.length : Int)) (h4 : 4 ≤ l.length) (told : Nat) (ht : told ≤ 65535) (wrong : Int) (hw : wrong ≠ 0) (l' : List UInt8)
    (hlen : ∀ w, At w p (l.drop 4) → Calls Try.prog 93 #[.int .i64 x, .pointer (some ⟨p, 0, none⟩)] w (Reads p w (.tuple #[.int .i64 (told : Int), .int .i64 wrong]) l')) :
    Calls Try.prog 91 #[.pointer (some ⟨p, 0, none⟩), .pointer (some ⟨b1, 0, none⟩), .pointer (some ⟨b2, 0, none⟩), .pointer (some ⟨b3, 0, none⟩), .pointer (some ⟨b4, 0, none⟩)] w (Told w p b1 b2 b3 b4 l x told wrong) := by
  have k1 : ∀ y : Cls w, y.val.cell? ⟨b1, 0, none⟩ = some (.string (S l)) := fun y => (h.s.carry y.property (by simp)).c0
  have k2 : ∀ y : Cls w, y.val.cell? ⟨b2, 0, none⟩ = some (.int .i64 x) := fun y => (h.x.carry y.property (by simp)).c0
  have L := Lib.hid (fun w => (least_any x w))
  have N := Lib.hid (need_yes)
  have M := Lib.hid (fun w => need_no p wrong hw w)
  have HL := Lib.hid hlen
  have H := Lib.hid h
  have hz := S_size l
  have n1 : num (l.take 2) < 65536 := Nat.lt_of_lt_of_le (num_lt _) (Nat.le_trans (Nat.pow_le_pow_right (by omega) (List.length_take_le 2 l)) (by decide))
  have n2 : num ((l.drop 2).take 2) < 65536 := Nat.lt_of_lt_of_le (num_lt _) (Nat.le_trans (Nat.pow_le_pow_right (by omega) (List.length_take_le 2 _)) (by decide))
  have g1 : decide (leastV x ≤ (l.length : Int)) = true := by simp; omega
  unfold Told
  clear h hlen
  generalize leastV x = q at *
  go_enter Try.func91, Try.ntmps91
  go_upto_region 0 with fail
  refine wp_region_tail (wd := w) 6 (by kernel_rfl) (by kernel_rfl) ((Touch.refl _ _).drew) ?_
  repeat (first | go_big_quiet_step ((go_at_call 48; exact Calls.cls_same ((L.out _).mono fun _ _ ⟨a, b⟩ => ⟨a, b.symm⟩))) | quiet_step ((go_at_call 48; exact Calls.cls_same ((L.out _).mono fun _ _ ⟨a, b⟩ => ⟨a, b.symm⟩))))
  refine wpQuiet_nil ?_
  intro y
  have TY := Lib.hid y.property
  have HY := Lib.hid (H.out.go (H.out.rd.carry (y.property) (by simp)) (y.property.mono (by simp)))
  clear k1 k2
  generalize y.val = wy at *
  go_wp2_with fail
  refine (N.out _ _ _).mono ?_
  rintro e w3 ⟨rfl, rfl⟩
  have S1 := Lib.hid (skip16 HY.out.rd 0 (by omega) hl)
  simp only [List.drop_zero, Nat.zero_add] at S1
  go_wp2_with fail
  refine (S1.out).mono ?_
  rintro e w4 ⟨rfl, a4, t4⟩
  have H4 := Lib.hid (HY.out.go a4 t4)
  have S2 := Lib.hid (skip16 a4 0 (by rw [List.length_drop]; omega) (by rw [List.length_drop]; omega))
  simp only [List.drop_zero, Nat.zero_add, List.drop_drop] at S2
  have T4 := Lib.hid ((TY.out.mono (S' := [p]) (by simp)).trans t4 (fun b hb => Or.inl hb))
  clear a4 t4
  go_wp2_with fail
  refine (S2.out).mono ?_
  rintro e w5 ⟨rfl, a5, t5⟩
  have H5 := Lib.hid (H4.out.go a5 t5)
  have T5 := Lib.hid (T4.out.trans t5 (fun b hb => Or.inl hb))
  have S3 := Lib.hid (HL.out w5 a5)
  have c2 := H5.out.x.c0
  clear a5 t5
  go_wp2_with fail
  refine (S3.out).mono ?_
  rintro e w6 ⟨rfl, a6, t6⟩
  have H6 := Lib.hid (H5.out.go a6 t6)
  have T6 := Lib.hid (T5.out.trans t6 (fun b hb => Or.inl hb))
  have d2 := H6.out.x.c0
  have d1 := H6.out.s.c0
  clear a6 t6 c2
  go_wp2_with fail
  refine (L.out _).mono ?_
  rintro e w7 ⟨rfl, rfl⟩
  clear g1
  by_cases c1 : q ≤ (told : Int)
  · by_cases c2 : told ≤ l.length
    · have f1 : decide (q ≤ (told : Int)) = true := by simpa using c1
      have f2 : decide (told ≤ l.length) = true := by simpa using c2
      have u3 := H6.out.u.c0
      have u4 := H6.out.v.c0
      have z3 := H6.out.u.fr 0
      have z4 := H6.out.v.fr 0
      have l3 := H6.out.u.lt
      have l4 := H6.out.v.lt
      have n34 := H6.out.n34
      go_wp2_with fail
      refine (N.out _ _ _).mono ?_
      rintro e w8 ⟨rfl, rfl⟩
      have v4 := ((H6.out.u.set0 (.int .i64 ((num (l.take 2) : Nat) : Int))))
      have v5 := (H6.out.v.carry ((Touch.refl [b3] _).setCell (a := ⟨b3, 0, none⟩) (Or.inl (by simp)) (.int .i64 ((num (l.take 2) : Nat) : Int))) (by simpa using Ne.symm n34))
      have y4 := v5.c0
      have y5 := v5.fr 0
      have v6 := v5.set0 (.int .i64 ((num ((l.drop 2).take 2) : Nat) : Int))
      have v7 := v4.carry ((Touch.refl [b4] _).setCell (a := ⟨b4, 0, none⟩) (Or.inl (by simp)) (.int .i64 ((num ((l.drop 2).take 2) : Nat) : Int))) (by simpa using n34)
      have F := Lib.hid (And.intro v7 (And.intro v6 (((T6.out.mono (S' := [p, b3, b4]) (by simp)).setCell (a := ⟨b3, 0, none⟩) (Or.inl (by simp)) (.int .i64 ((num (l.take 2) : Nat) : Int))).setCell (a := ⟨b4, 0, none⟩) (Or.inl (by simp)) (.int .i64 ((num ((l.drop 2).take 2) : Nat) : Int)))))
      clear v4 v5 v6 v7
      go_wp2_with fail
      first | go_end0 | refine bodyPost_ret (results_none rfl _ _ _) rfl ?_
      exact ⟨fun _ => ⟨rfl, F.out⟩, fun h => absurd ⟨c1, c2⟩ h⟩
    · have f1 : decide (q ≤ (told : Int)) = true := by simpa using c1
      have f2 : decide (told ≤ l.length) = false := by simpa using c2
      go_wp2_with fail
      refine (M.out _).mono ?_
      rintro e w8 ⟨rfl, rfl⟩
      exact ⟨rfl, fun h => absurd h.2 c2, fun _ => ⟨rfl, T6.out⟩⟩
  · have f1 : decide (q ≤ (told : Int)) = false := by simpa using c1
    go_wp2_with fail
    refine (M.out _).mono ?_
    rintro e w8 ⟨rfl, rfl⟩
    exact ⟨rfl, fun h => by have := h.1; omega, fun _ => ⟨rfl, T6.out⟩⟩
end
end Go.Proofs.Ytfeeaokeomcafaa
