/-
  The contracts on which the law's proof rests, bound together in build order: Ipv4Parse2, Ipv6Spec, Ipv6Read, Ipv6Trav, Ipv6Parse, Ipv6RefP, Phi, Fresh.
-/
import Derived.Test.YtdpaiegojioimaaDoorAllB
import Derived.WalkMore
import Derived.Test.YtdpaiegojioimaaDoorAllA
/-
  Layer 11 (ipv4): what Parse's own functions read.
-/
namespace Go.Proofs.YtdpaiegojioimaaDoor
open Go.ChangeShapes Go.WideShapes Go.ChangeAt Go.RowKit Go.Deep
set_option linter.unusedVariables false
set_option linter.unusedSimpArgs false

theorem num_two (L : List UInt8) (k : Nat) (h : k + 2 ≤ L.length) : num ((L.drop k).take 2) = twoA L k := by
  have e : (L.drop k).take 2 = [L[k], L[k + 1]] := by
    apply List.ext_getElem
    · rw [List.length_take, List.length_drop]; simp; omega
    · intro i h1 h2
      simp at h2
      rcases (show i = 0 ∨ i = 1 by omega) with rfl | rfl <;> simp
  rw [e]
  unfold twoA
  rw [byteAt_in L k (by omega), byteAt_in L (k + 1) (by omega)]
  simp [num]
section
variable {w : World} {p : Nat} {L : List UInt8} {k : Nat}
set_option maxRecDepth 100000 in
theorem next16 (h : At w p (L.drop k)) (n : Nat) (hn : k + n + 2 ≤ L.length) (hl : L.length ≤ 100000) :
    Calls Tryd.prog 93 #[.pointer (some ⟨p, 0, none⟩), .int .i64 (n : Int), .func (.func 60) #[] #[]] w (Reads p w (.int .i64 (twoA L (k + n) : Nat)) (L.drop (k + n + 2))) := by
  have T := Lib.hid (take_ok h n (by rw [List.length_drop]; omega) (by rw [List.length_drop]; omega))
  clear h
  go_enter Tryd.func93, Tryd.ntmps93
  go_wp2_with fail
  refine (T.out).mono ?_
  rintro e w1 ⟨rfl, a1, t1⟩
  rw [List.drop_drop] at a1
  have U := Lib.hid (u16_any a1 (by rw [List.length_drop]; omega))
  have T1 := Lib.hid t1
  clear a1 t1
  go_wp2_with fail
  refine (U.out).mono ?_
  intro e w2 hj
  obtain ⟨rfl, a2, t2⟩ := hj.1 (by rw [List.length_drop]; omega)
  rw [List.drop_drop] at a2
  rw [num_two L (k + n) (by omega)]
  have F := Lib.hid (And.intro a2 (T1.out.trans t2 (fun b hb => Or.inl hb)))
  clear a2 t2 hj
  go_wp2_with fail
  go_ret
  exact ⟨rfl, F.out⟩
set_option maxRecDepth 100000 in
theorem next8 (h : At w p (L.drop k)) (n : Nat) (hn : k + n + 1 ≤ L.length) (hl : L.length ≤ 100000) :
    Calls Tryd.prog 93 #[.pointer (some ⟨p, 0, none⟩), .int .i64 (n : Int), .func (.func 58) #[] #[]] w (Reads p w (.int .i64 (byteAt L (k + n) : Nat)) (L.drop (k + n + 1))) := by
  have T := Lib.hid (take_ok h n (by rw [List.length_drop]; omega) (by rw [List.length_drop]; omega))
  clear h
  go_enter Tryd.func93, Tryd.ntmps93
  go_wp2_with fail
  refine (T.out).mono ?_
  rintro e w1 ⟨rfl, a1, t1⟩
  rw [List.drop_drop] at a1
  rw [List.drop_eq_getElem_cons (show k + n < L.length by omega)] at a1
  have U := Lib.hid (u8_ok a1 (by rw [List.length_drop]; omega))
  rw [← byteAt_in L (k + n) (by omega)] at U
  have T1 := Lib.hid t1
  clear a1 t1
  go_wp2_with fail
  refine (U.out).mono ?_
  rintro e w2 ⟨rfl, a2, t2⟩
  have F := Lib.hid (And.intro a2 (T1.out.trans t2 (fun b hb => Or.inl hb)))
  clear a2 t2
  go_wp2_with fail
  go_ret
  exact ⟨rfl, F.out⟩
theorem of_four (m : List UInt8) (hm : m.length = 4) : hiA m = 0 ∧ loA m = num m ∧ verA m = 4 ∧ okA m = true := by
  refine ⟨?_, ?_, ?_, ?_⟩
  · unfold hiA; rw [if_neg (by omega)]
  · unfold loA; rw [if_pos hm]
  · unfold verA; rw [if_pos hm]
  · unfold okA; simp [hm]
set_option maxRecDepth 100000 in
theorem address11 (h : At w p (L.drop k)) (hk : k + 4 ≤ L.length) (hl : L.length ≤ 100000) :
    Calls Tryd.prog 94 #[.pointer (some ⟨p, 0, none⟩)] w (Reads p w (av 0 (num ((L.drop k).take 4))) (L.drop (k + 4))) := by
  have lt := h.lt
  have hA : At (w.alloc (.cells #[.int .u64 0, .int .u64 0] 25)) p (L.drop k) := h.carry ((Touch.refl [] w).alloc _) (by simp)
  have T := Lib.hid (take_ok hA 4 (by rw [List.length_drop]; omega) (by rw [List.length_drop]; omega))
  have m1 : ((L.drop k).take 4).length = 4 := by rw [List.length_take, List.length_drop]; omega
  have O := fun w => of10 ((L.drop k).take 4) (by omega) w
  rw [(of_four _ m1).1, (of_four _ m1).2.1, (of_four _ m1).2.2.1, (of_four _ m1).2.2.2] at O
  unfold av at *
  have O := Lib.hid O
  have B0 := Lib.hid (BoxV.new w 25 #[.int .u64 0, .int .u64 0])
  have T0 := Lib.hid ((Touch.refl [p] w).alloc (.cells #[.int .u64 0, .int .u64 0] 25))
  clear h hA m1
  generalize num ((L.drop k).take 4) = n at *
  generalize (L.drop k).take 4 = q at *
  go_enter Tryd.func94, Tryd.ntmps94
  go_wp2_with fail
  refine (T.out).mono ?_
  rintro e w1 ⟨rfl, a1, t1⟩
  rw [List.drop_drop] at a1
  have B1 := Lib.hid (B0.out.carry t1 (by simp; omega))
  have T1 := Lib.hid (T0.out.trans t1 (fun b hb => Or.inl hb))
  have A1 := Lib.hid a1
  clear a1 t1 T0 B0
  go_wp2_with fail
  refine (O.out _).mono ?_
  rintro e w2 ⟨rfl, t2⟩
  have C2 := BoxV.new w2 25 #[.int .u64 0, .int .u64 (n : Int)]
  have B2 := (B1.out.carry t2 (by simp)).carry ((Touch.refl [] w2).alloc (.cells #[.int .u64 0, .int .u64 (n : Int)] 25)) (by simp)
  have T2 := Lib.hid ((T1.out.trans t2 (by simp)).alloc (.cells #[.int .u64 0, .int .u64 (n : Int)] 25))
  have A2 := Lib.hid ((A1.out.carry t2 (by simp)).carry ((Touch.refl [] w2).alloc (.cells #[.int .u64 0, .int .u64 (n : Int)] 25)) (by simp))
  have c0 := C2.cell 0
  have c1 := C2.cell 1
  have b0 := B2.cell 0
  have b1 := B2.cell 1
  have fz := B2.fr
  have lb := B2.lt
  have HB := Lib.hid B2
  clear t2 C2 B2 T1 A1
  go_wp2_with fail
  have Z : BoxV _ _ 25 #[.int .u64 0, .int .u64 (n : Int)] := (HB.out.set 0 (.int .u64 0)).set 1 (.int .u64 (n : Int))
  refine bodyPost_ret (ret_box rfl rfl Z Tryd.underlying25 rfl (by kernel_rfl)) rfl ⟨rfl, ?_, ?_⟩
  · have tt : Touch [w.heap.size] (w2.alloc (.cells #[.int .u64 0, .int .u64 (n : Int)] 25)) _ := ((Touch.refl _ _).setCell (a := ⟨w.heap.size, 0, none⟩) (by simp) (.int .u64 0)).setCell (a := ⟨w.heap.size, 1, none⟩) (by simp) (.int .u64 (n : Int))
    exact A2.out.carry tt (by simp; omega)
  · exact (T2.out.setCell (by simp) _).setCell (by simp) _
end

theorem and4 (t : Nat) (h : t < 9223372036854775808) : bits .and .i64 (t : Int) 15 = ((t % 16 : Nat) : Int) := by
  have e1 : (BitVec.ofInt 64 (t : Int)).toNat = t := by rw [BitVec.ofInt_natCast, BitVec.toNat_ofNat]; exact Nat.mod_eq_of_lt (by omega)
  have e2 : (BitVec.ofInt 64 (15 : Int)).toNat = 15 := rfl
  show IntKind.i64.wrap ((BitVec.ofInt 64 (t : Int) &&& BitVec.ofInt 64 (15 : Int)).toNat : Int) = _
  rw [BitVec.toNat_and, e1, e2, show t &&& 15 = t % 16 from Nat.and_two_pow_sub_one_eq_mod _ 4, IntKind.wrap_i64]
  omega
theorem and_bit13 (t : Nat) (h : t ≤ 65535) : (bits .and .i64 (t : Int) 8192 != 0) = decide (t / 8192 % 2 = 1) := by
  have e1 : (BitVec.ofInt 64 (t : Int)).toNat = t := by rw [BitVec.ofInt_natCast, BitVec.toNat_ofNat]; exact Nat.mod_eq_of_lt (by omega)
  have e2 : (BitVec.ofInt 64 (8192 : Int)).toNat = 8192 := rfl
  have e3 : t &&& 8192 = t / 8192 % 2 * 8192 := by
    have k : t.testBit 13 = decide (t / 8192 % 2 = 1) := by rw [Nat.testBit_eq_decide_div_mod_eq]
    apply Nat.eq_of_testBit_eq
    intro i
    rw [Nat.testBit_and, show (8192 : Nat) = 2 ^ 13 from rfl, Nat.testBit_two_pow]
    by_cases hi : 13 = i
    · subst hi
      rcases (show t / 8192 % 2 = 0 ∨ t / 8192 % 2 = 1 by omega) with h0 | h0
      · rw [k, h0]; simp [h0]
      · rw [k, h0]; simp [h0]; decide
    · rcases (show t / 8192 % 2 = 0 ∨ t / 8192 % 2 = 1 by omega) with h0 | h0
      · simp [h0, hi]
      · rw [show t / 2 ^ 13 % 2 = 1 from h0, Nat.one_mul, Nat.testBit_two_pow]; simp [hi]
  have e4 : bits .and .i64 (t : Int) 8192 = ((t / 8192 % 2 * 8192 : Nat) : Int) := by
    show IntKind.i64.wrap ((BitVec.ofInt 64 (t : Int) &&& BitVec.ofInt 64 (8192 : Int)).toNat : Int) = _
    rw [BitVec.toNat_and, e1, e2, e3, IntKind.wrap_i64]
    omega
  rw [e4]
  rcases (show t / 8192 % 2 = 0 ∨ t / 8192 % 2 = 1 by omega) with h0 | h0 <;> simp [h0]

/-- What Parse's function finds: the bytes from a place on, all the bytes, and where the header goes. -/
structure Prs (w : World) (p b1 b2 : Nat) (L : List UInt8) (k : Nat) : Prop where
  rd : At w p (L.drop k)
  s : Box1 w b1 9 (.string (S L))
  h : BoxV w b2 77 #[.int .u64 0, .int .u64 0, .int .u64 0, .int .u64 0, .int .i64 0, .int .i64 0, .int .i64 0, .int .i64 0, .bool false]
  n1 : b1 ≠ p
  n2 : b2 ≠ p
theorem Prs.go {w w' : World} {p b1 b2 : Nat} {L : List UInt8} {k j : Nat} (h : Prs w p b1 b2 L k) (a : At w' p (L.drop j)) (t : Touch [p] w w') : Prs w' p b1 b2 L j :=
  ⟨a, h.s.carry t (by simpa using h.n1), h.h.carry t (by simpa using h.n2), h.n1, h.n2⟩
/-- What it leaves. -/
def Parsed (w : World) (p b2 : Nat) (L : List UInt8) (e : Ending) (w' : World) : Prop :=
  (errP L = 0 → e = .returned (.tuple #[]) ∧ BoxV w' b2 77 (wholeP L).cells ∧ Touch [p, b2] w w') ∧ (errP L ≠ 0 → Fails p w (errP L) e w')

set_option maxHeartbeats 2000000 in
set_option maxRecDepth 100000 in
theorem parse1 {w : World} {p b1 b2 : Nat} {L : List UInt8} (h : Prs w p b1 b2 L 0) (hl : L.length ≤ 100000) :
    Calls Tryd.prog 92 #[.pointer (some ⟨p, 0, none⟩), .pointer (some ⟨b1, 0, none⟩), .pointer (some ⟨b2, 0, none⟩)] w (Parsed w p b2 L) := by
  have hss : (S L).size = L.length := S_size L
  have N := Lib.hid (need_yes)
  have M := Lib.hid (fun k hk w => need_no p k hk w)
  have c1 := h.s.c0
  have H := Lib.hid h
  clear h
  by_cases h20 : L.length < 20
  · have e1 : errP L = 5 := by unfold errP; rw [if_pos h20]
    have d20 : decide (20 ≤ (L.length : Int)) = false := by simp; omega
    have d20' : ¬ (20 ≤ (L.length : Int)) := by omega
    go_enter Tryd.func92, Tryd.ntmps92
    go_wp2_with fail
    refine (M.out 5 (by decide) _).mono ?_
    rintro e w3 ⟨rfl, rfl⟩
    refine ⟨rfl, fun h => absurd (e1.symm.trans h) (by decide), fun _ => ?_⟩
    rw [e1]
    exact ⟨rfl, Touch.refl _ _⟩
  have d20 : decide (20 ≤ (L.length : Int)) = true := by simp; omega
  have d20' : 20 ≤ (L.length : Int) := by omega
  go_enter Tryd.func92, Tryd.ntmps92
  go_wp2_with fail
  refine (N.out _ _ _).mono ?_
  rintro e w0 ⟨rfl, hq⟩
  subst hq
  have S1 : Hid _ := Lib.hid (next8 H.out.rd 0 (by omega) hl)
  go_wp2_with fail
  refine (S1.out).mono ?_
  rintro e w1 ⟨rfl, a1, t1⟩
  have H1 := Lib.hid (H.out.go a1 t1)
  have T1 := Lib.hid t1
  clear a1 t1 c1 H
  have S2 := Lib.hid (next16 H1.out.rd 1 (by omega) hl)
  go_wp2_with fail
  refine (S2.out).mono ?_
  rintro e w2 ⟨rfl, a2, t2⟩
  have H2 := Lib.hid (H1.out.go a2 t2)
  have T2 := Lib.hid (T1.out.trans t2 (fun b hb => Or.inl hb))
  clear a2 t2 H1 T1
  have S3 := Lib.hid (next16 H2.out.rd 2 (by omega) hl)
  go_wp2_with fail
  refine (S3.out).mono ?_
  rintro e w3 ⟨rfl, a3, t3⟩
  have H3 := Lib.hid (H2.out.go a3 t3)
  have T3 := Lib.hid (T2.out.trans t3 (fun b hb => Or.inl hb))
  clear a3 t3 H2 T2
  have S4 := Lib.hid (next8 H3.out.rd 1 (by omega) hl)
  go_wp2_with fail
  refine (S4.out).mono ?_
  rintro e w4 ⟨rfl, a4, t4⟩
  have H4 := Lib.hid (H3.out.go a4 t4)
  have T4 := Lib.hid (T3.out.trans t4 (fun b hb => Or.inl hb))
  clear a4 t4 H3 T3
  have S5 := Lib.hid (take_ok H4.out.rd 2 (by rw [List.length_drop]; omega) (by rw [List.length_drop]; omega))
  go_wp2_with fail
  refine (S5.out).mono ?_
  rintro e w5 ⟨rfl, a5, t5⟩
  rw [List.drop_drop] at a5
  have H5 := Lib.hid (H4.out.go a5 t5)
  have T5 := Lib.hid (T4.out.trans t5 (fun b hb => Or.inl hb))
  clear a5 t5 H4 T4
  have S6 := Lib.hid (address11 H5.out.rd (by omega) hl)
  unfold av at S6
  go_wp2_with fail
  refine (S6.out).mono ?_
  rintro e w6 ⟨rfl, a6, t6⟩
  have H6 := Lib.hid (H5.out.go a6 t6)
  have T6 := Lib.hid (T5.out.trans t6 (fun b hb => Or.inl hb))
  clear a6 t6 H5 T5
  have S7 := Lib.hid (address11 H6.out.rd (by omega) hl)
  unfold av at S7
  go_wp2_with fail
  refine (S7.out).mono ?_
  rintro e w7 ⟨rfl, a7, t7⟩
  have H7 := Lib.hid (H6.out.go a7 t7)
  have T7 := Lib.hid (T6.out.trans t7 (fun b hb => Or.inl hb))
  clear a7 t7 H6 T6 S1 S2 S3 S4 S5 S6 S7
  have hb := byteAt_lt L 0
  have h2 := twoA_le L 2
  have h6' := twoA_le L 6
  have an := and4 (byteAt L 0) (by omega)
  have hst : ((byteAt L 0 : Nat) : Int) % 16 * 4 = ((startP L : Nat) : Int) := by unfold startP; omega
  have hsp : startP L ≤ 60 := by unfold startP; omega
  rw [show ((byteAt L 0 % 16 : Nat) : Int) = ((byteAt L 0 : Nat) : Int) % 16 by omega] at an
  go_wp2_with fail
  have H8 := Lib.hid (H7.out.go (H7.out.rd.carry (((Touch.refl [] w7).alloc (.cells #[.int .u64 0, .int .u64 (num ((L.drop 12).take 4) : Nat)] 25)).alloc (.cells #[.int .u64 0, .int .u64 (num ((L.drop 16).take 4) : Nat)] 25)) (by simp)) (((Touch.refl [p] w7).alloc (.cells #[.int .u64 0, .int .u64 (num ((L.drop 12).take 4) : Nat)] 25)).alloc (.cells #[.int .u64 0, .int .u64 (num ((L.drop 16).take 4) : Nat)] 25)))
  have T8 := Lib.hid ((T7.out.alloc (.cells #[.int .u64 0, .int .u64 (num ((L.drop 12).take 4) : Nat)] 25)).alloc (.cells #[.int .u64 0, .int .u64 (num ((L.drop 16).take 4) : Nat)] 25))
  have X0 : BoxV ((w7.alloc (.cells #[.int .u64 0, .int .u64 (num ((L.drop 12).take 4) : Nat)] 25)).alloc (.cells #[.int .u64 0, .int .u64 (num ((L.drop 16).take 4) : Nat)] 25)) w7.heap.size 25 #[.int .u64 0, .int .u64 (num ((L.drop 12).take 4) : Nat)] := BoxV.of2
  have X1 : BoxV ((w7.alloc (.cells #[.int .u64 0, .int .u64 (num ((L.drop 12).take 4) : Nat)] 25)).alloc (.cells #[.int .u64 0, .int .u64 (num ((L.drop 16).take 4) : Nat)] 25)) (w7.heap.size + 1) 25 #[.int .u64 0, .int .u64 (num ((L.drop 16).take 4) : Nat)] := BoxV.at1
  generalize (w7.alloc (.cells #[.int .u64 0, .int .u64 (num ((L.drop 12).take 4) : Nat)] 25)).alloc (.cells #[.int .u64 0, .int .u64 (num ((L.drop 16).take 4) : Nat)] 25) = w8 at *
  have x0 := X0.cell 0
  have x1 := X0.cell 1
  have y0 := X1.cell 0
  have y1 := X1.cell 1
  clear H7 T7 X0 X1
  have c1 := H8.out.s.c0
  have BH := H8.out.h
  clear H8
  by_cases h22 : byteAt L 0 / 16 ≠ 4
  · have e1 : errP L = 22 := by unfold errP; rw [if_neg h20, if_pos h22]
    have d22 : (((byteAt L 0 : Nat) : Int) / 16 == 4) = false := by simp; omega
    rw [d22]
    refine (M.out 22 (by decide) _).mono ?_
    rintro e w9 ⟨rfl, rfl⟩
    refine ⟨rfl, fun h => absurd (e1.symm.trans h) (by decide), fun _ => ?_⟩
    rw [e1]
    exact ⟨rfl, T8.out⟩
  have d22 : (((byteAt L 0 : Nat) : Int) / 16 == 4) = true := by simp; omega
  rw [d22]
  refine (N.out _ _ _).mono ?_
  rintro e w9 ⟨rfl, hq⟩
  subst hq
  by_cases h23 : ¬ (20 ≤ startP L ∧ startP L ≤ L.length)
  · have e1 : errP L = 23 := by unfold errP; rw [if_neg h20, if_neg h22, if_pos h23]
    have ways : decide (20 ≤ ((startP L : Nat) : Int)) = false ∨ (decide (20 ≤ ((startP L : Nat) : Int)) = true ∧ decide (startP L ≤ L.length) = false) := by simp only [decide_eq_true_eq, decide_eq_false_iff_not]; omega
    rcases ways with d1 | ⟨d1, d2⟩
    all_goals
      go_wp2_with fail
      refine (M.out 23 (by decide) _).mono ?_
      rintro e w10 ⟨rfl, hq⟩
      subst hq
      refine ⟨rfl, fun h => absurd (e1.symm.trans h) (by decide), fun _ => ?_⟩
      rw [e1]
      exact ⟨rfl, T8.out⟩
  have d1 : decide (20 ≤ ((startP L : Nat) : Int)) = true := by simp; omega
  have d2 : decide (startP L ≤ L.length) = true := by simp; omega
  go_wp2_with fail
  refine (N.out _ _ _).mono ?_
  rintro e w10 ⟨rfl, hq⟩
  subst hq
  by_cases h6 : ¬ (startP L ≤ twoA L 2 ∧ twoA L 2 ≤ L.length)
  · have e1 : errP L = 6 := by unfold errP; rw [if_neg h20, if_neg h22, if_neg h23, if_pos h6]
    have ways : decide (startP L ≤ twoA L 2) = false ∨ (decide (startP L ≤ twoA L 2) = true ∧ decide (twoA L 2 ≤ L.length) = false) := by simp only [decide_eq_true_eq, decide_eq_false_iff_not]; omega
    rcases ways with d3 | ⟨d3, d4⟩
    all_goals
      go_wp2_with fail
      refine (M.out 6 (by decide) _).mono ?_
      rintro e w11 ⟨rfl, hq⟩
      subst hq
      refine ⟨rfl, fun h => absurd (e1.symm.trans h) (by decide), fun _ => ?_⟩
      rw [e1]
      exact ⟨rfl, T8.out⟩
  have d3 : decide (startP L ≤ twoA L 2) = true := by simp; omega
  have d4 : decide (twoA L 2 ≤ L.length) = true := by simp; omega
  go_wp2_with fail
  refine (N.out _ _ _).mono ?_
  rintro e w11 ⟨rfl, hq⟩
  subst hq
  have hse : startP L ≤ L.length := by omega
  have s1 : (S L).extract 0 (startP L) = S (L.take (startP L)) := S_take L _
  have SU := Lib.hid (fun w => sum11 (L.take (startP L)) (by rw [List.length_take]; omega) w)
  go_wp2_with fail
  refine (SU.out _).mono ?_
  rintro e w12 ⟨rfl, hq⟩
  subst hq
  by_cases h24 : sumA (L.take (startP L)) ≠ 0
  · have e1 : errP L = 24 := by unfold errP; rw [if_neg h20, if_neg h22, if_neg h23, if_neg h6, if_pos h24]
    have d5 : (sumA (L.take (startP L)) == 0) = false := by simpa using h24
    go_wp2_with fail
    refine (M.out 24 (by decide) _).mono ?_
    rintro e w13 ⟨rfl, hq⟩
    subst hq
    refine ⟨rfl, fun h => absurd (e1.symm.trans h) (by decide), fun _ => ?_⟩
    rw [e1]
    exact ⟨rfl, T8.out⟩
  have d5 : (sumA (L.take (startP L)) == 0) = true := by simpa using h24
  go_wp2_with fail
  refine (N.out _ _ _).mono ?_
  rintro e w13 ⟨rfl, hq⟩
  subst hq
  have e1 : errP L = 0 := by unfold errP; rw [if_neg h20, if_neg h22, if_neg h23, if_neg h6, if_neg h24]
  have q1 := and13 (twoA L 6 : Nat)
  have q2 := and_bit13 (twoA L 6) h6'
  rw [u64n_nat _ (by omega)] at q1
  have r0 := BH.cell 0
  have r1 := BH.cell 1
  have r2 := BH.cell 2
  have r3 := BH.cell 3
  have r4 := BH.cell 4
  have r5 := BH.cell 5
  have r6 := BH.cell 6
  have r7 := BH.cell 7
  have r8 := BH.cell 8
  have fz := BH.fr
  have ltq := BH.lt
  have HB := Lib.hid BH
  clear BH
  go_wp2_with fail
  have F := (HB.out.fill9 (.int .u64 0) (.int .u64 (num ((L.drop 12).take 4) : Nat)) (.int .u64 0) (.int .u64 (num ((L.drop 16).take 4) : Nat)) (.int .i64 (byteAt L 9 : Nat)) (.int .i64 (startP L : Nat)) (.int .i64 (twoA L 2 : Nat)) (.int .i64 (twoA L 6 % 8192 : Nat)) (.bool (decide (twoA L 6 / 8192 % 2 = 1))))
  have G := (touch_fill9 w13 b2 (.int .u64 0) (.int .u64 (num ((L.drop 12).take 4) : Nat)) (.int .u64 0) (.int .u64 (num ((L.drop 16).take 4) : Nat)) (.int .i64 (byteAt L 9 : Nat)) (.int .i64 (startP L : Nat)) (.int .i64 (twoA L 2 : Nat)) (.int .i64 (twoA L 6 % 8192 : Nat)) (.bool (decide (twoA L 6 / 8192 % 2 = 1))))
  first | go_end0 | refine bodyPost_ret (results_none rfl _ _ _) rfl ?_
  exact ⟨fun _ => ⟨rfl, F, (T8.out.mono (S' := [p, b2]) (by simp)).trans (G.mono (S' := [p, b2]) (by simp)) (fun b hb => Or.inl hb)⟩, fun h => absurd e1 h⟩

theorem entP (args : Array Value) (w : World) : (callFunc 92 args).run Tryd.prog w = .ok (.enter 92 args) w := by
  simp [callFunc, Tryd.func92]
  rfl
def zeroC : Array Value := #[.int .u64 0, .int .u64 0, .int .u64 0, .int .u64 0, .int .i64 0, .int .i64 0, .int .i64 0, .int .i64 0, .bool false]
def parW (w : World) (L : List UInt8) : World := ((w.alloc (.cells #[.string (S L)] 9)).alloc (.cells #[.int .u64 0, .int .u64 0, .int .u64 0, .int .u64 0, .int .i64 0, .int .i64 0, .int .i64 0, .int .i64 0, .bool false] 77)).alloc (.cells #[.int .u64 0, .int .u64 0, .int .u64 0, .int .u64 0, .int .i64 0, .int .i64 0, .int .i64 0, .int .i64 0, .bool false] 77)
set_option maxRecDepth 100000 in
set_option maxHeartbeats 1000000 in
theorem parse11 (L : List UInt8) (hl : L.length ≤ 100000) (w : World) :
    Calls Tryd.prog 69 #[.string (S L)] w fun e w' => e = .returned (.tuple #[.agg (hdP L).cells, .int .i64 (errP L)]) ∧ Touch [] w w' := by
  have hmf : ∀ (fn : Fn) (first cap : Array Value) (w : World), (Instr.makeFunc fn first cap).run Tryd.prog w = .ok (.func fn first cap) w := fun _ _ _ _ => rfl
  have hsz : (parW w L).heap.size = w.heap.size + 3 := by unfold parW; simp
  have B0 : Box1 (parW w L) w.heap.size 9 (.string (S L)) := ((Box1.new w 9 (.string (S L))).carry ((Touch.refl [] _).alloc _) (by simp)).carry ((Touch.refl [] _).alloc _) (by simp)
  have B1 : BoxV (parW w L) (w.heap.size + 1) 77 #[.int .u64 0, .int .u64 0, .int .u64 0, .int .u64 0, .int .i64 0, .int .i64 0, .int .i64 0, .int .i64 0, .bool false] := BoxV.at1of3
  have B2 : BoxV (parW w L) (w.heap.size + 2) 77 #[.int .u64 0, .int .u64 0, .int .u64 0, .int .u64 0, .int .i64 0, .int .i64 0, .int .i64 0, .int .i64 0, .bool false] := BoxV.at2
  have c0 := B0.c0
  have TW : Touch [] w (parW w L) := (((Touch.refl [] w).alloc _).alloc _).alloc _
  have tt : Touch [] (parW w L) (tryW (parW w L) (S L)) := (((Touch.refl [] _).alloc _).alloc _).alloc _
  have hat : At (tryW (parW w L) (S L)) (w.heap.size + 4) L := by
    have := (Box1.new ((parW w L).alloc (.cells #[.int .i64 0] 28)) 116 (.string (S L))).carry ((Touch.refl [] _).alloc (.cells #[.pointer (some ⟨(parW w L).heap.size + 1, 0, none⟩)] 82)) (by simp)
    rwa [show ((parW w L).alloc (.cells #[.int .i64 0] 28)).heap.size = w.heap.size + 4 by simp [hsz]] at this
  have PP : Prs (tryW (parW w L) (S L)) (w.heap.size + 4) w.heap.size (w.heap.size + 2) L 0 := ⟨hat, B0.carry tt (by simp), B2.carry tt (by simp), by omega, by omega⟩
  have key := try_any (s := S L) (k := 92) (cap := #[.pointer (some ⟨w.heap.size, 0, none⟩), .pointer (some ⟨w.heap.size + 2, 0, none⟩)]) (w := parW w L) (S := [w.heap.size + 4, w.heap.size + 2])
    (Q := fun er w' => er = errP L ∧ BoxV w' (w.heap.size + 2) 77 (hdP L).cells)
    (by rw [hsz]; intro b hb; simp at hb; omega) entP (by
      rw [hsz]
      refine (parse1 PP hl).mono ?_
      rintro e w' ⟨q1, q2⟩
      by_cases h0 : errP L = 0
      · obtain ⟨rfl, k1, k2⟩ := q1 h0
        refine ⟨k2, Or.inl ⟨rfl, h0.symm, ?_⟩⟩
        unfold hdP
        rw [if_pos h0]
        exact k1
      · obtain ⟨rfl, k1⟩ := q2 h0
        refine ⟨k1.mono (by simp), Or.inr ⟨errP L, rfl, rfl, ?_⟩⟩
        unfold hdP
        rw [if_neg h0]
        exact (B2.carry tt (by simp)).carry k1 (by simp))
  rw [hsz] at key
  have K := Lib.hid key
  have T0 := Lib.hid TW
  have HB1 := Lib.hid B1
  clear key TW tt hat B0 B1 B2 hsz PP
  unfold parW at *
  unfold Hd.cells at *
  generalize hdP L = D at *
  generalize errP L = E at *
  go_enter Tryd.func69, Tryd.ntmps69
  go_wp2_with fail
  refine (K.out).mono ?_
  rintro e w2 ⟨er, w3, rfl, ⟨rfl, q3⟩, t3, t4⟩
  have q4 := q3.carry t4 (by simp)
  have B4 := (HB1.out.carry t3 (by simp)).carry t4 (by simp)
  have TT := Lib.hid ((T0.out.trans t3 (by intro b hb; simp at hb; omega)).trans t4 (by intro b hb; simp at hb; omega))
  have r0 := B4.cell 0
  have r1 := B4.cell 1
  have r2 := B4.cell 2
  have r3 := B4.cell 3
  have r4 := B4.cell 4
  have r5 := B4.cell 5
  have r6 := B4.cell 6
  have r7 := B4.cell 7
  have r8 := B4.cell 8
  have u0 := q4.cell 0
  have u1 := q4.cell 1
  have u2 := q4.cell 2
  have u3 := q4.cell 3
  have u4 := q4.cell 4
  have u5 := q4.cell 5
  have u6 := q4.cell 6
  have u7 := q4.cell 7
  have u8 := q4.cell 8
  have fz := B4.fr
  have ltq := B4.lt
  have HB := Lib.hid B4
  clear B4 q4 q3 t3 t4 K HB1 T0 c0
  go_wp2_with fail
  refine bodyPost_ret (ret_box_tmp rfl rfl (HB.out.fill9 _ _ _ _ _ _ _ _ _) Tryd.underlying77 rfl (by kernel_rfl)) rfl ⟨rfl, TT.out.trans (touch_fill9 w2 (w.heap.size + 1) _ _ _ _ _ _ _ _ _) (by simp)⟩
end Go.Proofs.YtdpaiegojioimaaDoor

/-
  Layer 12 (ipv6): what the headers tell, as functions of bytes; the table of the known extension headers in memory.
-/
namespace Go.Proofs.YtdpaiegojioimaaDoor
open Go.ChangeShapes Go.WideShapes Go.ChangeAt Go.RowKit Go.Deep
set_option linter.unusedVariables false
set_option linter.unusedSimpArgs false

def fol (p : Int) : Bool := p == 0 || p == 43 || p == 44 || p == 60
/-- How long the extension header at the beginning of s is. -/
def len6 (p : Int) (s : List UInt8) : Nat := if p = 44 then 8 else 8 + 8 * byteAt s 1
/-- What a fragment's header sets. -/
def frag (h : Hd) (s : List UInt8) : Hd := if h.proto = 44 then { h with off := (twoA s 2 / 8 : Nat), more := decide (twoA s 2 % 2 = 1) } else h
def step6 (h : Hd) (s : List UInt8) : Hd := { frag h s with proto := (byteAt s 0 : Nat), start := h.start + (len6 h.proto s : Nat) }
def stop6 (h : Hd) : Bool := !fol h.proto || h.off != 0
def walkE : Nat → Hd → List UInt8 → Int
  | 0, h, s => if stop6 h = true then 0 else 4
  | n + 1, h, s => if stop6 h = true then 0 else if s.length < 8 then 23 else if s.length < len6 h.proto s then 23 else walkE n (step6 h s) (s.drop (len6 h.proto s))
def walkH : Nat → Hd → List UInt8 → Hd
  | 0, h, s => h
  | n + 1, h, s => if stop6 h = true then h else if s.length < 8 then h else if s.length < len6 h.proto s then frag h s else walkH n (step6 h s) (s.drop (len6 h.proto s))
theorem walk_stop (n : Nat) (h : Hd) (s : List UInt8) (hs : stop6 h = true) : walkE n h s = 0 ∧ walkH n h s = h := by
  cases n <;> simp [walkE, walkH, hs]
theorem walk_many (h : Hd) (s : List UInt8) (hs : stop6 h = false) : walkE 0 h s = 4 ∧ walkH 0 h s = h := by simp [walkE, walkH, hs]
theorem walk_short (n : Nat) (h : Hd) (s : List UInt8) (hs : stop6 h = false) (hl : s.length < 8) : walkE (n + 1) h s = 23 ∧ walkH (n + 1) h s = h := by simp [walkE, walkH, hs, hl]
theorem walk_long (n : Nat) (h : Hd) (s : List UInt8) (hs : stop6 h = false) (hl : ¬ s.length < 8) (h2 : s.length < len6 h.proto s) : walkE (n + 1) h s = 23 ∧ walkH (n + 1) h s = frag h s := by simp [walkE, walkH, hs, hl, h2]
theorem walk_next (n : Nat) (h : Hd) (s : List UInt8) (hs : stop6 h = false) (hl : ¬ s.length < 8) (h2 : ¬ s.length < len6 h.proto s) : walkE (n + 1) h s = walkE n (step6 h s) (s.drop (len6 h.proto s)) ∧ walkH (n + 1) h s = walkH n (step6 h s) (s.drop (len6 h.proto s)) := by simp [walkE, walkH, hs, hl, h2]

def errB (l : List UInt8) : Int := if l.length < 40 then 5 else if byteAt l 0 / 16 ≠ 6 then 22 else if l.length < 40 + twoA l 4 then 6 else 0
/-- What the header tells by itself. -/
def hdB (l : List UInt8) : Hd := ⟨num ((l.drop 8).take 8), num ((l.drop 16).take 8), num ((l.drop 24).take 8), num ((l.drop 32).take 8), (byteAt l 6 : Nat), 40, 40 + (twoA l 4 : Nat), 0, false⟩
def body6 (l : List UInt8) : List UInt8 := (l.drop 40).take (twoA l 4)
def err6 (l : List UInt8) : Int := if errB l = 0 then walkE 8 (hdB l) (body6 l) else errB l
def hd6 (l : List UInt8) : Hd := if err6 l = 0 then walkH 8 (hdB l) (body6 l) else zeroP
end Go.Proofs.YtdpaiegojioimaaDoor

/-
  Layer 12 (ipv6): the table in memory, Follows; what begin reads.
-/
namespace Go.Proofs.YtdpaiegojioimaaDoor
open Go.ChangeShapes Go.WideShapes Go.ChangeAt Go.RowKit Go.Deep
set_option linter.unusedVariables false
set_option linter.unusedSimpArgs false

/-- The table of the known extension headers, as its initialiser lays it. -/
structure Tab6 (w : World) : Prop where
  c0 : w.cell? ⟨0, 0, none⟩ = some (.int .i64 0)
  c1 : w.cell? ⟨0, 1, none⟩ = some (.int .i64 43)
  c2 : w.cell? ⟨0, 2, none⟩ = some (.int .i64 44)
  c3 : w.cell? ⟨0, 3, none⟩ = some (.int .i64 60)
theorem Tab6.lt {w : World} (h : Tab6 w) : 0 < w.heap.size := cell_lt h.c0
theorem Tab6.carry {S : List Nat} {w w' : World} (h : Tab6 w) (t : Touch S w w') (hS : 0 ∉ S) : Tab6 w' :=
  ⟨(t.cell (a := ⟨0, 0, none⟩) h.lt hS).trans h.c0, (t.cell (a := ⟨0, 1, none⟩) h.lt hS).trans h.c1, (t.cell (a := ⟨0, 2, none⟩) h.lt hS).trans h.c2, (t.cell (a := ⟨0, 3, none⟩) h.lt hS).trans h.c3⟩

set_option maxHeartbeats 1000000 in
theorem follows12 (p : Int) {w : World} (K : Tab6 w) : Calls Tryd.prog 12 #[.int .i64 p] w fun e w' => e = .returned (.bool (fol p)) ∧ w' = w := by
  have k0 := K.c0
  have k1 := K.c1
  have k2 := K.c2
  have k3 := K.c3
  have lt := K.lt
  clear K
  have i0 : ∀ w, (Instr.index 58 (.agg #[.int .i64 0, .int .i64 43, .int .i64 44, .int .i64 60]) (.int .i64 0)).run Tryd.prog w = .ok (.int .i64 0) w := fun w => by kernel_rfl
  have i1 : ∀ w, (Instr.index 58 (.agg #[.int .i64 0, .int .i64 43, .int .i64 44, .int .i64 60]) (.int .i64 1)).run Tryd.prog w = .ok (.int .i64 43) w := fun w => by kernel_rfl
  have i2 : ∀ w, (Instr.index 58 (.agg #[.int .i64 0, .int .i64 43, .int .i64 44, .int .i64 60]) (.int .i64 2)).run Tryd.prog w = .ok (.int .i64 44) w := fun w => by kernel_rfl
  have i3 : ∀ w, (Instr.index 58 (.agg #[.int .i64 0, .int .i64 43, .int .i64 44, .int .i64 60]) (.int .i64 3)).run Tryd.prog w = .ok (.int .i64 60) w := fun w => by kernel_rfl
  go_enter Tryd.func12, Tryd.ntmps12
  go_wp2_with fail
  go_loop [6] (fun i => i = .int .i64 0 ∨ (i = .int .i64 1 ∧ p ≠ 0) ∨ (i = .int .i64 2 ∧ p ≠ 0 ∧ p ≠ 43) ∨ (i = .int .i64 3 ∧ p ≠ 0 ∧ p ≠ 43 ∧ p ≠ 44) ∨ (i = .int .i64 4 ∧ p ≠ 0 ∧ p ≠ 43 ∧ p ≠ 44 ∧ p ≠ 60)) (fun i => 4 - (intOf i).toNat)
  case atStart => exact .inl rfl
  case round =>
    rcases hrel with rfl | ⟨rfl, h0⟩ | ⟨rfl, h0, h1⟩ | ⟨rfl, h0, h1, h2⟩ | ⟨rfl, h0, h1, h2, h3⟩
    · by_cases e : p = 0
      · have d : (p == 0) = true := by simpa using e
        go_wp2_with fail
        go_ret
        exact ⟨by simp [fol, e], rfl⟩
      · have d : (p == 0) = false := by simpa using e
        go_wp2_with fail
        go_round
        case rel => exact .inr (.inl ⟨by go_num, e⟩)
        case measure => simp [intOf]
    · by_cases e : p = 43
      · have d : (p == 43) = true := by simpa using e
        go_wp2_with fail
        go_ret
        exact ⟨by simp [fol, e], rfl⟩
      · have d : (p == 43) = false := by simpa using e
        go_wp2_with fail
        go_round
        case rel => exact .inr (.inr (.inl ⟨by go_num, h0, e⟩))
        case measure => simp [intOf]
    · by_cases e : p = 44
      · have d : (p == 44) = true := by simpa using e
        go_wp2_with fail
        go_ret
        exact ⟨by simp [fol, e], rfl⟩
      · have d : (p == 44) = false := by simpa using e
        go_wp2_with fail
        go_round
        case rel => exact .inr (.inr (.inr (.inl ⟨by go_num, h0, h1, e⟩)))
        case measure => simp [intOf]
    · by_cases e : p = 60
      · have d : (p == 60) = true := by simpa using e
        go_wp2_with fail
        go_ret
        exact ⟨by simp [fol, e], rfl⟩
      · have d : (p == 60) = false := by simpa using e
        go_wp2_with fail
        go_round
        case rel => exact .inr (.inr (.inr (.inr ⟨by go_num, h0, h1, h2, e⟩)))
        case measure => simp [intOf]
    · go_wp2_with fail
      go_ret
      exact ⟨by simp [fol, h0, h1, h2, h3], rfl⟩

theorem refFollows12 (p : Int) (w : World) : Calls Tryd.prog 13 #[.int .i64 p] w fun e w' => e = .returned (.bool (fol p)) ∧ w' = w := by
  by_cases h0 : p = 0
  · subst h0
    go_enter Tryd.func13, Tryd.ntmps13
    go_wp2_with fail
    go_ret
    exact ⟨rfl, rfl⟩
  by_cases h1 : p = 43
  · subst h1
    go_enter Tryd.func13, Tryd.ntmps13
    go_wp2_with fail
    go_ret
    exact ⟨rfl, rfl⟩
  by_cases h2 : p = 44
  · subst h2
    go_enter Tryd.func13, Tryd.ntmps13
    go_wp2_with fail
    go_ret
    exact ⟨rfl, rfl⟩
  by_cases h3 : p = 60
  · subst h3
    go_enter Tryd.func13, Tryd.ntmps13
    go_wp2_with fail
    go_ret
    exact ⟨rfl, rfl⟩
  have d0 : (p == 0) = false := by simpa using h0
  have d1 : (p == 43) = false := by simpa using h1
  have d2 : (p == 44) = false := by simpa using h2
  have d3 : (p == 60) = false := by simpa using h3
  have ef : fol p = false := by simp [fol, h0, h1, h2, h3]
  rw [ef]
  go_enter Tryd.func13, Tryd.ntmps13
  go_wp2_with fail
  go_ret
  exact ⟨rfl, rfl⟩

section
variable {w : World} {p : Nat} {L : List UInt8} {k : Nat}
theorem get8 (h : At w p (L.drop k)) (hk : k < L.length) (hl : L.length ≤ 100000) :
    Calls Tryd.prog 58 #[.pointer (some ⟨p, 0, none⟩)] w (Reads p w (.int .i64 (byteAt L k : Nat)) (L.drop (k + 1))) := by
  rw [List.drop_eq_getElem_cons hk] at h
  have := u8_ok h (by rw [List.length_drop]; omega)
  rwa [← byteAt_in L k hk] at this
theorem get16 (h : At w p (L.drop k)) (hk : k + 2 ≤ L.length) (hl : L.length ≤ 100000) :
    Calls Tryd.prog 60 #[.pointer (some ⟨p, 0, none⟩)] w (Reads p w (.int .i64 (twoA L k : Nat)) (L.drop (k + 2))) :=
  (u16_any h (by rw [List.length_drop]; omega)).mono fun e w' hj => by
    have := hj.1 (by rw [List.length_drop]; omega)
    rwa [List.drop_drop, num_two L k hk] at this
theorem skip (h : At w p (L.drop k)) (n : Nat) (hk : k + n ≤ L.length) (hl : L.length ≤ 100000) :
    Calls Tryd.prog 59 #[.pointer (some ⟨p, 0, none⟩), .int .i64 (n : Int)] w (Reads p w (.string (S ((L.drop k).take n))) (L.drop (k + n))) := by
  have := take_ok h n (by rw [List.length_drop]; omega) (by rw [List.length_drop]; omega)
  rwa [List.drop_drop] at this
theorem of_sixteen (m : List UInt8) (hm : m.length = 16) : hiA m = num (m.take 8) ∧ loA m = num (m.drop 8) ∧ verA m = 6 ∧ okA m = true := by
  refine ⟨?_, ?_, ?_, ?_⟩
  · unfold hiA; rw [if_pos hm]
  · unfold loA; rw [if_neg (by omega), if_pos hm]
  · unfold verA; rw [if_neg (by omega), if_pos hm]
  · unfold okA; simp [hm]
set_option maxRecDepth 100000 in
theorem address12 (h : At w p (L.drop k)) (hk : k + 16 ≤ L.length) (hl : L.length ≤ 100000) :
    Calls Tryd.prog 61 #[.pointer (some ⟨p, 0, none⟩)] w (Reads p w (av (num ((L.drop k).take 8)) (num ((L.drop (k + 8)).take 8))) (L.drop (k + 16))) := by
  have lt := h.lt
  have hA : At (w.alloc (.cells #[.int .u64 0, .int .u64 0] 25)) p (L.drop k) := h.carry ((Touch.refl [] w).alloc _) (by simp)
  have T := Lib.hid (take_ok hA 16 (by rw [List.length_drop]; omega) (by rw [List.length_drop]; omega))
  have m1 : ((L.drop k).take 16).length = 16 := by rw [List.length_take, List.length_drop]; omega
  have O := fun w => of10 ((L.drop k).take 16) (by omega) w
  have q1 : (List.take 8 (List.take 16 (L.drop k))) = (L.drop k).take 8 := by rw [List.take_take]; rfl
  have q2 : (List.drop 8 (List.take 16 (L.drop k))) = (L.drop (k + 8)).take 8 := by rw [List.drop_take, List.drop_drop]
  rw [(of_sixteen _ m1).1, (of_sixteen _ m1).2.1, (of_sixteen _ m1).2.2.1, (of_sixteen _ m1).2.2.2, q1, q2] at O
  unfold av at *
  have O := Lib.hid O
  have B0 := Lib.hid (BoxV.new w 25 #[.int .u64 0, .int .u64 0])
  have T0 := Lib.hid ((Touch.refl [p] w).alloc (.cells #[.int .u64 0, .int .u64 0] 25))
  clear h hA m1 q1 q2
  generalize num ((L.drop k).take 8) = n at *
  generalize num ((L.drop (k + 8)).take 8) = m at *
  generalize (L.drop k).take 16 = q at *
  go_enter Tryd.func61, Tryd.ntmps61
  go_wp2_with fail
  refine (T.out).mono ?_
  rintro e w1 ⟨rfl, a1, t1⟩
  rw [List.drop_drop] at a1
  have B1 := Lib.hid (B0.out.carry t1 (by simp; omega))
  have T1 := Lib.hid (T0.out.trans t1 (fun b hb => Or.inl hb))
  have A1 := Lib.hid a1
  clear a1 t1 T0 B0
  go_wp2_with fail
  refine (O.out _).mono ?_
  rintro e w2 ⟨rfl, t2⟩
  have C2 := BoxV.new w2 25 #[.int .u64 (n : Int), .int .u64 (m : Int)]
  have B2 := (B1.out.carry t2 (by simp)).carry ((Touch.refl [] w2).alloc (.cells #[.int .u64 (n : Int), .int .u64 (m : Int)] 25)) (by simp)
  have T2 := Lib.hid ((T1.out.trans t2 (by simp)).alloc (.cells #[.int .u64 (n : Int), .int .u64 (m : Int)] 25))
  have A2 := Lib.hid ((A1.out.carry t2 (by simp)).carry ((Touch.refl [] w2).alloc (.cells #[.int .u64 (n : Int), .int .u64 (m : Int)] 25)) (by simp))
  have c0 := C2.cell 0
  have c1 := C2.cell 1
  have b0 := B2.cell 0
  have b1 := B2.cell 1
  have fz := B2.fr
  have lb := B2.lt
  have HB := Lib.hid B2
  clear t2 C2 B2 T1 A1
  go_wp2_with fail
  have Z : BoxV _ _ 25 #[.int .u64 (n : Int), .int .u64 (m : Int)] := (HB.out.set 0 (.int .u64 (n : Int))).set 1 (.int .u64 (m : Int))
  refine bodyPost_ret (ret_box rfl rfl Z Tryd.underlying25 rfl (by kernel_rfl)) rfl ⟨rfl, ?_, ?_⟩
  · have tt : Touch [w.heap.size] (w2.alloc (.cells #[.int .u64 (n : Int), .int .u64 (m : Int)] 25)) _ := ((Touch.refl _ _).setCell (a := ⟨w.heap.size, 0, none⟩) (by simp) (.int .u64 (n : Int))).setCell (a := ⟨w.heap.size, 1, none⟩) (by simp) (.int .u64 (m : Int))
    exact A2.out.carry tt (by simp; omega)
  · exact (T2.out.setCell (by simp) _).setCell (by simp) _
end

/-- What begin's function finds: the bytes from a place on, all the bytes, and where the header goes. -/
structure Prs6 (w : World) (p b1 b2 : Nat) (L : List UInt8) (k : Nat) : Prop where
  rd : At w p (L.drop k)
  s : Box1 w b1 9 (.string (S L))
  h : BoxV w b2 27 #[.int .u64 0, .int .u64 0, .int .u64 0, .int .u64 0, .int .i64 0, .int .i64 0, .int .i64 0, .int .i64 0, .bool false]
  n1 : b1 ≠ p
  n2 : b2 ≠ p
theorem Prs6.go {w w' : World} {p b1 b2 : Nat} {L : List UInt8} {k j : Nat} (h : Prs6 w p b1 b2 L k) (a : At w' p (L.drop j)) (t : Touch [p] w w') : Prs6 w' p b1 b2 L j :=
  ⟨a, h.s.carry t (by simpa using h.n1), h.h.carry t (by simpa using h.n2), h.n1, h.n2⟩
/-- What it leaves. -/
def Begun (w : World) (p b2 : Nat) (L : List UInt8) (e : Ending) (w' : World) : Prop :=
  (errB L = 0 → e = .returned (.tuple #[]) ∧ BoxV w' b2 27 (hdB L).cells ∧ Touch [p, b2] w w') ∧ (errB L ≠ 0 → Fails p w (errB L) e w')

set_option maxHeartbeats 2000000 in
set_option maxRecDepth 100000 in
theorem begin1 {w : World} {p b1 b2 : Nat} {L : List UInt8} (h : Prs6 w p b1 b2 L 0) (hl : L.length ≤ 100000) :
    Calls Tryd.prog 56 #[.pointer (some ⟨p, 0, none⟩), .pointer (some ⟨b1, 0, none⟩), .pointer (some ⟨b2, 0, none⟩)] w (Begun w p b2 L) := by
  have hss : (S L).size = L.length := S_size L
  have N := Lib.hid (need_yes)
  have M := Lib.hid (fun k hk w => need_no p k hk w)
  have c1 := h.s.c0
  have H := Lib.hid h
  clear h
  by_cases h40 : L.length < 40
  · have e1 : errB L = 5 := by unfold errB; rw [if_pos h40]
    have d40 : decide (40 ≤ (L.length : Int)) = false := by simp; omega
    have d40' : ¬ (40 ≤ (L.length : Int)) := by omega
    go_enter Tryd.func56, Tryd.ntmps56
    go_wp2_with fail
    refine (M.out 5 (by decide) _).mono ?_
    rintro e w3 ⟨rfl, rfl⟩
    refine ⟨rfl, fun h => absurd (e1.symm.trans h) (by decide), fun _ => ?_⟩
    rw [e1]
    exact ⟨rfl, Touch.refl _ _⟩
  have d40 : decide (40 ≤ (L.length : Int)) = true := by simp; omega
  have d40' : 40 ≤ (L.length : Int) := by omega
  go_enter Tryd.func56, Tryd.ntmps56
  go_wp2_with fail
  refine (N.out _ _ _).mono ?_
  rintro e w0 ⟨rfl, hq⟩
  subst hq
  have S1 : Hid _ := Lib.hid (get8 H.out.rd (by omega) hl)
  go_wp2_with fail
  refine (S1.out).mono ?_
  rintro e w1 ⟨rfl, a1, t1⟩
  have H1 := Lib.hid (H.out.go a1 t1)
  have T1 := Lib.hid t1
  clear a1 t1 c1 H
  have S2 := Lib.hid (skip H1.out.rd 3 (by omega) hl)
  go_wp2_with fail
  refine (S2.out).mono ?_
  rintro e w2 ⟨rfl, a2, t2⟩
  have H2 := Lib.hid (H1.out.go a2 t2)
  have T2 := Lib.hid (T1.out.trans t2 (fun b hb => Or.inl hb))
  clear a2 t2 H1 T1
  have S3 := Lib.hid (get16 H2.out.rd (by omega) hl)
  go_wp2_with fail
  refine (S3.out).mono ?_
  rintro e w3 ⟨rfl, a3, t3⟩
  have H3 := Lib.hid (H2.out.go a3 t3)
  have T3 := Lib.hid (T2.out.trans t3 (fun b hb => Or.inl hb))
  clear a3 t3 H2 T2
  have S4 := Lib.hid (get8 H3.out.rd (by omega) hl)
  go_wp2_with fail
  refine (S4.out).mono ?_
  rintro e w4 ⟨rfl, a4, t4⟩
  have H4 := Lib.hid (H3.out.go a4 t4)
  have T4 := Lib.hid (T3.out.trans t4 (fun b hb => Or.inl hb))
  clear a4 t4 H3 T3
  have S5 := Lib.hid (skip H4.out.rd 1 (by omega) hl)
  go_wp2_with fail
  refine (S5.out).mono ?_
  rintro e w5 ⟨rfl, a5, t5⟩
  have H5 := Lib.hid (H4.out.go a5 t5)
  have T5 := Lib.hid (T4.out.trans t5 (fun b hb => Or.inl hb))
  clear a5 t5 H4 T4
  have S6 := Lib.hid (address12 H5.out.rd (by omega) hl)
  unfold av at S6
  go_wp2_with fail
  refine (S6.out).mono ?_
  rintro e w6 ⟨rfl, a6, t6⟩
  have H6 := Lib.hid (H5.out.go a6 t6)
  have T6 := Lib.hid (T5.out.trans t6 (fun b hb => Or.inl hb))
  clear a6 t6 H5 T5
  have S7 := Lib.hid (address12 H6.out.rd (by omega) hl)
  unfold av at S7
  go_wp2_with fail
  refine (S7.out).mono ?_
  rintro e w7 ⟨rfl, a7, t7⟩
  have H7 := Lib.hid (H6.out.go a7 t7)
  have T7 := Lib.hid (T6.out.trans t7 (fun b hb => Or.inl hb))
  clear a7 t7 H6 T6 S1 S2 S3 S4 S5 S6 S7
  have hb := byteAt_lt L 0
  have h4 := twoA_le L 4
  obtain ⟨n1, hn1⟩ : ∃ n, num ((L.drop 8).take 8) = n := ⟨_, rfl⟩
  obtain ⟨n2, hn2⟩ : ∃ n, num ((L.drop 16).take 8) = n := ⟨_, rfl⟩
  obtain ⟨n3, hn3⟩ : ∃ n, num ((L.drop 24).take 8) = n := ⟨_, rfl⟩
  obtain ⟨n4, hn4⟩ : ∃ n, num ((L.drop 32).take 8) = n := ⟨_, rfl⟩
  have hh : hdB L = ⟨n1, n2, n3, n4, (byteAt L 6 : Nat), 40, 40 + (twoA L 4 : Nat), 0, false⟩ := by unfold hdB; rw [hn1, hn2, hn3, hn4]
  simp only [Nat.reduceAdd, hn1, hn2, hn3, hn4]
  clear hn1 hn2 hn3 hn4
  go_wp2_with fail
  have H8 := Lib.hid (H7.out.go (H7.out.rd.carry (((Touch.refl [] w7).alloc (.cells #[.int .u64 (n1 : Int), .int .u64 (n2 : Int)] 25)).alloc (.cells #[.int .u64 (n3 : Int), .int .u64 (n4 : Int)] 25)) (by simp)) (((Touch.refl [p] w7).alloc (.cells #[.int .u64 (n1 : Int), .int .u64 (n2 : Int)] 25)).alloc (.cells #[.int .u64 (n3 : Int), .int .u64 (n4 : Int)] 25)))
  have T8 := Lib.hid ((T7.out.alloc (.cells #[.int .u64 (n1 : Int), .int .u64 (n2 : Int)] 25)).alloc (.cells #[.int .u64 (n3 : Int), .int .u64 (n4 : Int)] 25))
  have X0 : BoxV ((w7.alloc (.cells #[.int .u64 (n1 : Int), .int .u64 (n2 : Int)] 25)).alloc (.cells #[.int .u64 (n3 : Int), .int .u64 (n4 : Int)] 25)) w7.heap.size 25 #[.int .u64 (n1 : Int), .int .u64 (n2 : Int)] := BoxV.of2
  have X1 : BoxV ((w7.alloc (.cells #[.int .u64 (n1 : Int), .int .u64 (n2 : Int)] 25)).alloc (.cells #[.int .u64 (n3 : Int), .int .u64 (n4 : Int)] 25)) (w7.heap.size + 1) 25 #[.int .u64 (n3 : Int), .int .u64 (n4 : Int)] := BoxV.at1
  generalize (w7.alloc (.cells #[.int .u64 (n1 : Int), .int .u64 (n2 : Int)] 25)).alloc (.cells #[.int .u64 (n3 : Int), .int .u64 (n4 : Int)] 25) = w8 at *
  have x0 := X0.cell 0
  have x1 := X0.cell 1
  have y0 := X1.cell 0
  have y1 := X1.cell 1
  clear H7 T7 X0 X1
  have LF := Lib.hid (left_any H8.out.rd)
  have BH := H8.out.h
  clear H8
  by_cases h22 : byteAt L 0 / 16 ≠ 6
  · have e1 : errB L = 22 := by unfold errB; rw [if_neg h40, if_pos h22]
    have d22 : (((byteAt L 0 : Nat) : Int) / 16 == 6) = false := by simp; omega
    rw [d22]
    refine (M.out 22 (by decide) _).mono ?_
    rintro e w9 ⟨rfl, rfl⟩
    refine ⟨rfl, fun h => absurd (e1.symm.trans h) (by decide), fun _ => ?_⟩
    rw [e1]
    exact ⟨rfl, T8.out⟩
  have d22 : (((byteAt L 0 : Nat) : Int) / 16 == 6) = true := by simp; omega
  rw [d22]
  refine (N.out _ _ _).mono ?_
  rintro e w9 ⟨rfl, hq⟩
  subst hq
  go_wp2_with fail
  refine (LF.out).mono ?_
  rintro e w9 ⟨rfl, hq⟩
  subst hq
  have hdl : (L.drop 40).length = L.length - 40 := List.length_drop
  by_cases h6 : L.length < 40 + twoA L 4
  · have e1 : errB L = 6 := by unfold errB; rw [if_neg h40, if_neg h22, if_pos h6]
    have d6 : decide (twoA L 4 ≤ (L.drop 40).length) = false := by rw [hdl]; simp; omega
    have d6' : ¬ (twoA L 4 ≤ (L.drop 40).length) := by rw [hdl]; omega
    have d6'' : ¬ (twoA L 4 ≤ L.length - 40) := by omega
    go_wp2_with fail
    refine (M.out 6 (by decide) _).mono ?_
    rintro e w11 ⟨rfl, hq⟩
    subst hq
    refine ⟨rfl, fun h => absurd (e1.symm.trans h) (by decide), fun _ => ?_⟩
    rw [e1]
    exact ⟨rfl, T8.out⟩
  have d6 : decide (twoA L 4 ≤ (L.drop 40).length) = true := by rw [hdl]; simp; omega
  have d6' : (twoA L 4 ≤ (L.drop 40).length) := by rw [hdl]; omega
  have d6'' : (twoA L 4 ≤ L.length - 40) := by omega
  go_wp2_with fail
  refine (N.out _ _ _).mono ?_
  rintro e w11 ⟨rfl, hq⟩
  subst hq
  have e1 : errB L = 0 := by unfold errB; rw [if_neg h40, if_neg h22, if_neg h6]
  have r0 := BH.cell 0
  have r1 := BH.cell 1
  have r2 := BH.cell 2
  have r3 := BH.cell 3
  have r4 := BH.cell 4
  have r5 := BH.cell 5
  have r6 := BH.cell 6
  have r7 := BH.cell 7
  have r8 := BH.cell 8
  have fz := BH.fr
  have ltq := BH.lt
  have HB := Lib.hid BH
  clear BH
  go_wp2_with fail
  have F := (HB.out.fill9 (.int .u64 (n1 : Int)) (.int .u64 (n2 : Int)) (.int .u64 (n3 : Int)) (.int .u64 (n4 : Int)) (.int .i64 (byteAt L 6 : Nat)) (.int .i64 40) (.int .i64 (40 + (twoA L 4 : Nat))) (.int .i64 0) (.bool false))
  have G := (touch_fill9 w11 b2 (.int .u64 (n1 : Int)) (.int .u64 (n2 : Int)) (.int .u64 (n3 : Int)) (.int .u64 (n4 : Int)) (.int .i64 (byteAt L 6 : Nat)) (.int .i64 40) (.int .i64 (40 + (twoA L 4 : Nat))) (.int .i64 0) (.bool false))
  first | go_end0 | refine bodyPost_ret (results_none rfl _ _ _) rfl ?_
  rw [Begun, hh]
  exact ⟨fun _ => ⟨rfl, F, (T8.out.mono (S' := [p, b2]) (by simp)).trans (G.mono (S' := [p, b2]) (by simp)) (fun b hb => Or.inl hb)⟩, fun h => absurd e1 h⟩
end Go.Proofs.YtdpaiegojioimaaDoor

/-
  Layer 12 (ipv6): the way through the extension headers.
-/
namespace Go.Proofs.YtdpaiegojioimaaDoor
open Go.ChangeShapes Go.WideShapes Go.ChangeAt Go.RowKit Go.Deep
set_option linter.unusedVariables false
set_option linter.unusedSimpArgs false

theorem and_bit0 (t : Nat) (h : t ≤ 65535) : (bits .and .i64 (t : Int) 1 != 0) = decide (t % 2 = 1) := by
  have e1 : (BitVec.ofInt 64 (t : Int)).toNat = t := by rw [BitVec.ofInt_natCast, BitVec.toNat_ofNat]; exact Nat.mod_eq_of_lt (by omega)
  have e2 : (BitVec.ofInt 64 (1 : Int)).toNat = 1 := rfl
  have e4 : bits .and .i64 (t : Int) 1 = ((t % 2 : Nat) : Int) := by
    show IntKind.i64.wrap ((BitVec.ofInt 64 (t : Int) &&& BitVec.ofInt 64 (1 : Int)).toNat : Int) = _
    rw [BitVec.toNat_and, e1, e2, show t &&& 1 = t % 2 from Nat.and_two_pow_sub_one_eq_mod _ 1, IntKind.wrap_i64]
    omega
  rw [e4]
  rcases (show t % 2 = 0 ∨ t % 2 = 1 by omega) with h0 | h0 <;> simp [h0]

/-- What the way leaves. -/
def TravQ (E : Int) (F : Hd) (p b : Nat) (w : World) (e : Ending) (w' : World) : Prop :=
  (E = 0 → e = .returned (.tuple #[]) ∧ BoxV w' b 27 F.cells) ∧ (E ≠ 0 → e = .panicked [{ v := failV p E, recovered := false }]) ∧ Touch [p, b] w w'
def atStart (h : Hd) (s : Int) : Hd := { h with start := s }

set_option maxHeartbeats 4000000 in
set_option maxRecDepth 100000 in
theorem trav1 {w : World} {p b : Nat} {h : Hd} {s : List UInt8} (ha : At w p s) (hb : BoxV w b 27 h.cells) (K : Tab6 w) (hne : b ≠ p) (p0 : p ≠ 0) (b0 : b ≠ 0) (hoff : h.off = 0) (hst : h.start + s.length = h.size) (hs0 : 0 ≤ h.start) (hsz : h.size ≤ 200000) (hl : s.length ≤ 100000) :
    Calls Tryd.prog 63 #[.pointer (some ⟨p, 0, none⟩), .pointer (some ⟨b, 0, none⟩)] w (TravQ (walkE 8 h s) (walkH 8 h s) p b w) := by
  obtain ⟨E, hE⟩ : ∃ E, walkE 8 h s = E := ⟨_, rfl⟩
  obtain ⟨F, hF⟩ : ∃ F, walkH 8 h s = F := ⟨_, rfl⟩
  have ST : Hid (∃ (k : Nat) (g : Hd) (r : List UInt8), k ≤ 8 ∧ Value.int .i64 0 = .int .i64 (k : Int) ∧ walkE (8 - k) g r = E ∧ walkH (8 - k) g r = F ∧ g.off = 0 ∧ g.start + r.length = g.size ∧ r.length ≤ 100000 ∧ 0 ≤ g.start ∧ g.size ≤ 200000 ∧ At w p r ∧ BoxV w b 27 (atStart g h.start).cells ∧ Tab6 w ∧ Touch [p, b] w w) := Lib.hid ⟨0, h, s, by omega, rfl, hE, hF, hoff, hst, hl, hs0, hsz, ha, hb, K, Touch.refl _ _⟩
  have N := Lib.hid (need_yes)
  have M := Lib.hid (fun k hk w => need_no p k hk w)
  rw [hE, hF]
  clear ha hb K hE hF hoff hst hs0 hsz hl
  go_enter Tryd.func63, Tryd.ntmps63
  go_wp2_with fail
  go_step3
  go_wp2_with fail
  go_step3
  go_wp2_with fail
  go_loopw [3] (fun y wr => ∃ (k : Nat) (g : Hd) (r : List UInt8), k ≤ 8 ∧ y = .int .i64 (k : Int) ∧ walkE (8 - k) g r = E ∧ walkH (8 - k) g r = F ∧ g.off = 0 ∧ g.start + r.length = g.size ∧ r.length ≤ 100000 ∧ 0 ≤ g.start ∧ g.size ≤ 200000 ∧ At wr p r ∧ BoxV wr b 27 (atStart g h.start).cells ∧ Tab6 wr ∧ Touch [p, b] w wr) (fun y _ => 9 - (intOf y).toNat)
  case atStart => exact ST.out
  case round =>
    clear ST
    obtain ⟨k, g, r, hk, rfl, hE, hF, ho, hs, hrl, hg0, hgz, ha, hb, hK, ht⟩ := hrel
    have FW := Lib.hid (follows12 g.proto hK)
    have r4 : wr.cell? ⟨b, 4, none⟩ = some (.int .i64 g.proto) := hb.cell 4
    have ltb := hb.lt
    have HA := Lib.hid ha
    have HB := Lib.hid hb
    have HK := Lib.hid hK
    have HT := Lib.hid ht
    clear ha hb hK ht
    by_cases hf : fol g.proto = true
    · have st : stop6 g = false := by simp [stop6, hf, ho]
      rw [hf] at FW
      by_cases hk8 : k = 8
      · subst hk8
        rw [Nat.sub_self] at hE hF
        rw [(walk_many g r st).1] at hE
        subst hE
        go_wp2_with fail
        refine (FW.out).mono ?_
        rintro e w1 ⟨rfl, hq⟩
        subst hq
        go_wp2_with fail
        refine (M.out 4 (by decide) _).mono ?_
        rintro e w2 ⟨rfl, hq⟩
        subst hq
        exact ⟨rfl, fun h => absurd h (by decide), fun _ => rfl, HT.out⟩
      · have e8 : 8 - k = (7 - k) + 1 := by omega
        have e7 : 8 - (k + 1) = 7 - k := by omega
        rw [e8] at hE hF
        have d8 : decide ((k : Int) < 8) = true := by simp; omega
        have d8' : (k : Int) < 8 := by omega
        have LF := Lib.hid (left_any HA.out)
        by_cases hr8 : r.length < 8
        · rw [(walk_short _ g r st hr8).1] at hE
          subst hE
          have d9 : decide (8 ≤ (r.length : Int)) = false := by simp; omega
          have d9' : ¬ (8 ≤ (r.length : Int)) := by omega
          have d9'' : ¬ (8 ≤ r.length) := by omega
          go_wp2_with fail
          refine (FW.out).mono ?_
          rintro e w1 ⟨rfl, hq⟩
          subst hq
          go_wp2_with fail
          refine (N.out _ _ _).mono ?_
          rintro e w1 ⟨rfl, hq⟩
          subst hq
          go_wp2_with fail
          refine (LF.out).mono ?_
          rintro e w1 ⟨rfl, hq⟩
          subst hq
          go_wp2_with fail
          refine (M.out 23 (by decide) _).mono ?_
          rintro e w2 ⟨rfl, hq⟩
          subst hq
          exact ⟨rfl, fun h => absurd h (by decide), fun _ => rfl, HT.out⟩
        have d9 : decide (8 ≤ (r.length : Int)) = true := by simp; omega
        have d9' : (8 ≤ (r.length : Int)) := by omega
        have d9'' : (8 ≤ r.length) := by omega
        go_wp2_with fail
        refine (FW.out).mono ?_
        rintro e w1 ⟨rfl, hq⟩
        subst hq
        go_wp2_with fail
        refine (N.out _ _ _).mono ?_
        rintro e w1 ⟨rfl, hq⟩
        subst hq
        go_wp2_with fail
        refine (LF.out).mono ?_
        rintro e w1 ⟨rfl, hq⟩
        subst hq
        go_wp2_with fail
        refine (N.out _ _ _).mono ?_
        rintro e w1 ⟨rfl, hq⟩
        subst hq
        have S1 : Hid _ := Lib.hid (get8 (L := r) (k := 0) HA.out (by omega) hrl)
        go_wp2_with fail
        refine (S1.out).mono ?_
        rintro e w1 ⟨rfl, a1, t1⟩
        have B1 := HB.out.carry t1 (by simpa using hne)
        have K1 := HK.out.carry t1 (by simpa using Ne.symm p0)
        have q4 : w1.cell? ⟨b, 4, none⟩ = some (.int .i64 g.proto) := B1.cell 4
        have q4f := B1.fr
        have q4l := B1.lt
        have u2 : Touch [b] w1 (w1.setCell ⟨b, 4, none⟩ (.int .i64 (byteAt r 0 : Nat))) := (Touch.refl [b] w1).setCell (a := ⟨b, 4, none⟩) (by simp) _
        have A2 := Lib.hid (a1.carry u2 (by simpa using Ne.symm hne))
        have B2 := Lib.hid (show BoxV (w1.setCell ⟨b, 4, none⟩ (.int .i64 (byteAt r 0 : Nat))) b 27 ({ atStart g h.start with proto := (byteAt r 0 : Nat) } : Hd).cells from B1.set 4 (.int .i64 (byteAt r 0 : Nat)))
        have K2 := Lib.hid (K1.carry u2 (by simpa using Ne.symm b0))
        have T2 := Lib.hid ((HT.out.trans t1 (by simp)).trans u2 (by simp))
        clear a1 t1 B1 K1 u2 r4 ltb HA HB HK HT S1 LF FW
        have S2 : Hid _ := Lib.hid (get8 A2.out (by omega) hrl)
        go_wp2_with fail
        clear q4 q4f q4l
        generalize w1.setCell ⟨b, 4, none⟩ (.int .i64 (byteAt r 0 : Nat)) = w2 at *
        refine (S2.out).mono ?_
        rintro e w3 ⟨rfl, a3, t3⟩
        have A3 := Lib.hid a3
        have B3 := Lib.hid (B2.out.carry t3 (by simpa using hne))
        have K3 := Lib.hid (K2.out.carry t3 (by simpa using Ne.symm p0))
        have T3 := Lib.hid (T2.out.trans t3 (by simp))
        clear a3 t3 A2 B2 K2 T2 S2
        have S3 : Hid _ := Lib.hid (get16 A3.out (by omega) hrl)
        go_wp2_with fail
        refine (S3.out).mono ?_
        rintro e w4 ⟨rfl, a4, t4⟩
        have A4 := Lib.hid a4
        have B4 := Lib.hid (B3.out.carry t4 (by simpa using hne))
        have K4 := Lib.hid (K3.out.carry t4 (by simpa using Ne.symm p0))
        have T4 := Lib.hid (T3.out.trans t4 (by simp))
        clear a4 t4 A3 B3 K3 T3 S3
        have S4 : Hid _ := Lib.hid (skip A4.out 4 (by omega) hrl)
        go_wp2_with fail
        refine (S4.out).mono ?_
        rintro e w5 ⟨rfl, a5, t5⟩
        have A5 := Lib.hid (show At w5 p (r.drop 8) from a5)
        have B5 := Lib.hid (B4.out.carry t5 (by simpa using hne))
        have K5 := Lib.hid (K4.out.carry t5 (by simpa using Ne.symm p0))
        have T5 := Lib.hid (T4.out.trans t5 (by simp))
        clear a5 t5 A4 B4 K4 T4 S4
        have hd8 : (r.drop 8).length = r.length - 8 := List.length_drop
        have ht2 := twoA_le r 2
        have hb1 := byteAt_lt r 1
        by_cases h44 : g.proto = 44
        · have hln : len6 g.proto r = 8 := by unfold len6; rw [if_pos h44]
          have WN := walk_next (7 - k) g r st hr8 (by rw [hln]; exact hr8)
          rw [WN.1, hln] at hE
          rw [WN.2, hln] at hF
          have d44 : (g.proto == 44) = true := by simpa using h44
          have sp : step6 g r = ⟨g.sh, g.sl, g.dh, g.dl, (byteAt r 0 : Nat), g.start + 8, g.size, (twoA r 2 / 8 : Nat), decide (twoA r 2 % 2 = 1)⟩ := by unfold step6 frag; rw [if_pos h44, hln]; rfl
          have q1 := and_bit0 (twoA r 2) ht2
          have q2 : ((twoA r 2 : Nat) : Int) / 8 = ((twoA r 2 / 8 : Nat) : Int) := by omega
          have BX := B5.out
          have x7 : w5.cell? ⟨b, 7, none⟩ = some (.int .i64 g.off) := BX.cell 7
          have x8 : w5.cell? ⟨b, 8, none⟩ = some (.bool g.more) := BX.cell 8
          have xf := BX.fr
          have xl := BX.lt
          have u6 : Touch [b] w5 ((w5.setCell ⟨b, 7, none⟩ (.int .i64 (twoA r 2 / 8 : Nat))).setCell ⟨b, 8, none⟩ (.bool (decide (twoA r 2 % 2 = 1)))) := ((Touch.refl [b] w5).setCell (a := ⟨b, 7, none⟩) (by simp) _).setCell (a := ⟨b, 8, none⟩) (by simp) _
          have B6 := Lib.hid (show BoxV ((w5.setCell ⟨b, 7, none⟩ (.int .i64 (twoA r 2 / 8 : Nat))).setCell ⟨b, 8, none⟩ (.bool (decide (twoA r 2 % 2 = 1)))) b 27 (⟨g.sh, g.sl, g.dh, g.dl, (byteAt r 0 : Nat), h.start, g.size, (twoA r 2 / 8 : Nat), decide (twoA r 2 % 2 = 1)⟩ : Hd).cells from (BX.set 7 (.int .i64 (twoA r 2 / 8 : Nat))).set 8 (.bool (decide (twoA r 2 % 2 = 1))))
          have A6 := Lib.hid (A5.out.carry u6 (by simpa using Ne.symm hne))
          have K6 := Lib.hid (K5.out.carry u6 (by simpa using Ne.symm b0))
          have T6 := Lib.hid (T5.out.trans u6 (by simp))
          clear BX u6 A5 B5 K5 T5 WN
          generalize decide (twoA r 2 % 2 = 1) = mo at *
          generalize hof : twoA r 2 / 8 = of at *
          have HOF := Lib.hid hof
          clear hof
          go_upto_region 15 with fail
          clear x7 x8 xf xl
          generalize (w5.setCell ⟨b, 7, none⟩ (.int .i64 (of : Nat))).setCell ⟨b, 8, none⟩ (.bool mo) = w6 at *
          have y7 : w6.cell? ⟨b, 7, none⟩ = some (.int .i64 (of : Nat)) := B6.out.cell 7
          have yl := B6.out.lt
          by_cases hz : of = 0
          · have dz : ((of : Int) != 0) = false := by simp [hz]
            have dz' : (of != 0) = false := by simp [hz]
            go_wp2_with fail
            go_roundw
            case rel => exact ⟨k + 1, step6 g r, r.drop 8, by omega, by go_num, by rw [e7]; exact hE, by rw [e7]; exact hF, by rw [sp]; simp [hz], by rw [sp]; simp only; rw [hd8]; omega, by rw [hd8]; omega, by rw [sp]; simp only; omega, by rw [sp]; exact hgz, A6.out, by rw [sp]; exact B6.out, K6.out, T6.out⟩
            case measure => simp [intOf]; omega
          · have dz : ((of : Int) != 0) = true := by simp; omega
            have dz' : (of != 0) = true := by simpa using hz
            have st2 : stop6 (step6 g r) = true := by rw [sp]; simp [stop6]; omega
            rw [(walk_stop (7 - k) _ _ st2).1] at hE
            rw [(walk_stop (7 - k) _ _ st2).2, sp] at hF
            subst hE
            subst hF
            have hzz : g.size - ((r.drop 8).length : Int) = g.start + 8 := by rw [hd8]; omega
            have hzz' : g.size - ((r.length - 8 : Nat) : Int) = g.start + 8 := by omega
            go_upto_region 16 with fail
            have k6 : ∀ x : Cls w6, x.val.cell? ⟨b, 6, none⟩ = some (.int .i64 g.size) := fun x => (B6.out.carry x.property (by simp)).cell 6
            have LX : Hid (∀ x : Cls w6, Calls Tryd.prog 62 #[.pointer (some ⟨p, 0, none⟩)] x.val fun e w' => e = .returned (.int .i64 ((r.drop 8).length : Int)) ∧ x.val = w') := Lib.hid (fun x => (left_any (A6.out.carry x.property (by simp))).mono fun e w' ⟨h1, h2⟩ => ⟨h1, h2.symm⟩)
            refine wp_region_tail (wd := w6) 6 (by kernel_rfl) (by kernel_rfl) ((Touch.refl _ _).drew) ?_
            simp only [List.take_succ_cons, List.take_zero, List.drop_succ_cons, List.drop_zero]
            repeat (first | go_big_quiet_step ((go_at_call 62; with_reducible exact Calls.cls_same (LX.out _))) | quiet_step ((go_at_call 62; with_reducible exact Calls.cls_same (LX.out _))))
            refine wpQuiet_nil ?_
            intro z
            have BZ := B6.out.carry z.property (by simp)
            have z5 : z.val.cell? ⟨b, 5, none⟩ = some (.int .i64 h.start) := BZ.cell 5
            have zf := BZ.fr
            have zl := BZ.lt
            have FB := Lib.hid (BZ.set 5 (.int .i64 (g.start + 8)))
            have FT := Lib.hid (((T6.out.trans z.property (by simp)).setCell (a := ⟨b, 5, none⟩) (Or.inl (by simp)) (.int .i64 (g.start + 8))))
            clear BZ k6 LX
            go_wp2_with fail
            first | go_end0 | refine bodyPost_ret (results_none rfl _ _ _) rfl ?_
            exact ⟨fun _ => ⟨rfl, FB.out⟩, fun h => absurd rfl h, FT.out⟩
        · have hln : len6 g.proto r = 8 + 8 * byteAt r 1 := by unfold len6; rw [if_neg h44]
          have d44 : (g.proto == 44) = false := by simpa using h44
          have LG := Lib.hid (left_any A5.out)
          by_cases hlong : r.length < 8 + 8 * byteAt r 1
          · rw [(walk_long _ g r st hr8 (by rw [hln]; exact hlong)).1] at hE
            subst hE
            have dl : decide (((byteAt r 1 : Nat) : Int) * 8 ≤ ((r.length - 8 : Nat) : Int)) = false := by simp only [decide_eq_false_iff_not]; omega
            go_wp2_with fail
            refine (LG.out).mono ?_
            rintro e w6 ⟨rfl, hq⟩
            subst hq
            go_wp2_with fail
            refine (M.out 23 (by decide) _).mono ?_
            rintro e w2 ⟨rfl, hq⟩
            subst hq
            exact ⟨rfl, fun h => absurd h (by decide), fun _ => rfl, T5.out⟩
          have WN := walk_next (7 - k) g r st hr8 (by rw [hln]; exact hlong)
          rw [WN.1, hln] at hE
          rw [WN.2, hln] at hF
          have sp : step6 g r = ⟨g.sh, g.sl, g.dh, g.dl, (byteAt r 0 : Nat), g.start + ((8 + 8 * byteAt r 1 : Nat) : Int), g.size, g.off, g.more⟩ := by unfold step6 frag; rw [if_neg h44, hln]
          have dl : decide (((byteAt r 1 : Nat) : Int) * 8 ≤ ((r.length - 8 : Nat) : Int)) = true := by simp only [decide_eq_true_eq]; omega
          have S6 := skip A5.out (byteAt r 1 * 8) (by omega) hrl
          rw [show ((byteAt r 1 * 8 : Nat) : Int) = ((byteAt r 1 : Nat) : Int) * 8 by omega] at S6
          have S6 := Lib.hid S6
          go_wp2_with fail
          refine (LG.out).mono ?_
          rintro e w6 ⟨rfl, hq⟩
          subst hq
          go_wp2_with fail
          refine (N.out _ _ _).mono ?_
          rintro e w6 ⟨rfl, hq⟩
          subst hq
          go_wp2_with fail
          refine (S6.out).mono ?_
          rintro e w7 ⟨rfl, a7, t7⟩
          have A7 := Lib.hid (show At w7 p (r.drop (8 + 8 * byteAt r 1)) by rwa [show 8 + byteAt r 1 * 8 = 8 + 8 * byteAt r 1 by omega] at a7)
          have B7 := Lib.hid (B5.out.carry t7 (by simpa using hne))
          have K7 := Lib.hid (K5.out.carry t7 (by simpa using Ne.symm p0))
          have T7 := Lib.hid (T5.out.trans t7 (by simp))
          clear a7 t7 A5 B5 K5 T5 S6 LG
          have hdn : (r.drop (8 + 8 * byteAt r 1)).length = r.length - (8 + 8 * byteAt r 1) := List.length_drop
          clear dl
          go_wp2_with fail
          go_roundw
          case rel => exact ⟨k + 1, step6 g r, r.drop (8 + 8 * byteAt r 1), by omega, by go_num, by rw [e7]; exact hE, by rw [e7]; exact hF, by rw [sp]; exact ho, by rw [sp]; simp only; rw [hdn]; omega, by rw [hdn]; omega, by rw [sp]; simp only; omega, by rw [sp]; exact hgz, A7.out, by rw [sp]; exact B7.out, K7.out, T7.out⟩
          case measure => simp [intOf]; omega
    · have hf' : fol g.proto = false := by simpa using hf
      have st : stop6 g = true := by simp [stop6, hf']
      rw [(walk_stop (8 - k) g r st).1] at hE
      rw [(walk_stop (8 - k) g r st).2] at hF
      subst hE
      subst hF
      rw [hf'] at FW
      have hzz : g.size - (r.length : Int) = g.start := by omega
      go_wp2_with fail
      refine (FW.out).mono ?_
      rintro e w1 ⟨rfl, hq⟩
      subst hq
      clear r4 ltb FW
      go_upto_region 16 with fail
      have k6 : ∀ x : Cls w1, x.val.cell? ⟨b, 6, none⟩ = some (.int .i64 g.size) := fun x => (HB.out.carry x.property (by simp)).cell 6
      have LX : Hid (∀ x : Cls w1, Calls Tryd.prog 62 #[.pointer (some ⟨p, 0, none⟩)] x.val fun e w' => e = .returned (.int .i64 (r.length : Int)) ∧ x.val = w') := Lib.hid (fun x => (left_any (HA.out.carry x.property (by simp))).mono fun e w' ⟨h1, h2⟩ => ⟨h1, h2.symm⟩)
      refine wp_region_tail (wd := w1) 6 (by kernel_rfl) (by kernel_rfl) ((Touch.refl _ _).drew) ?_
      simp only [List.take_succ_cons, List.take_zero, List.drop_succ_cons, List.drop_zero]
      repeat (first | go_big_quiet_step ((go_at_call 62; with_reducible exact Calls.cls_same (LX.out _))) | quiet_step ((go_at_call 62; with_reducible exact Calls.cls_same (LX.out _))))
      refine wpQuiet_nil ?_
      intro z
      have BZ := HB.out.carry z.property (by simp)
      have z5 : z.val.cell? ⟨b, 5, none⟩ = some (.int .i64 h.start) := BZ.cell 5
      have zf := BZ.fr
      have zl := BZ.lt
      have FB := Lib.hid (BZ.set 5 (.int .i64 (g.start)))
      have FT := Lib.hid (((HT.out.trans z.property (by simp)).setCell (a := ⟨b, 5, none⟩) (Or.inl (by simp)) (.int .i64 (g.start))))
      clear BZ k6 LX
      go_wp2_with fail
      first | go_end0 | refine bodyPost_ret (results_none rfl _ _ _) rfl ?_
      exact ⟨fun _ => ⟨rfl, FB.out⟩, fun h => absurd rfl h, FT.out⟩
end Go.Proofs.YtdpaiegojioimaaDoor

/-
  Layer 12 (ipv6): begin, traverse and Parse.
-/
namespace Go.Proofs.YtdpaiegojioimaaDoor
open Go.ChangeShapes Go.WideShapes Go.ChangeAt Go.RowKit Go.Deep
set_option linter.unusedVariables false
set_option linter.unusedSimpArgs false

def hdZ (L : List UInt8) : Hd := if errB L = 0 then hdB L else zeroP
theorem entB (args : Array Value) (w : World) : (callFunc 56 args).run Tryd.prog w = .ok (.enter 56 args) w := by
  simp [callFunc, Tryd.func56]
  rfl
theorem entT (args : Array Value) (w : World) : (callFunc 63 args).run Tryd.prog w = .ok (.enter 63 args) w := by
  simp [callFunc, Tryd.func63]
  rfl
def parW6 (w : World) (L : List UInt8) : World := ((w.alloc (.cells #[.string (S L)] 9)).alloc (.cells #[.int .u64 0, .int .u64 0, .int .u64 0, .int .u64 0, .int .i64 0, .int .i64 0, .int .i64 0, .int .i64 0, .bool false] 27)).alloc (.cells #[.int .u64 0, .int .u64 0, .int .u64 0, .int .u64 0, .int .i64 0, .int .i64 0, .int .i64 0, .int .i64 0, .bool false] 27)
set_option maxRecDepth 100000 in
set_option maxHeartbeats 2000000 in
theorem begin12 (L : List UInt8) (hl : L.length ≤ 100000) (w : World) :
    Calls Tryd.prog 27 #[.string (S L)] w fun e w' => e = .returned (.tuple #[.agg (hdZ L).cells, .int .i64 (errB L)]) ∧ Touch [] w w' := by
  have hmf : ∀ (fn : Fn) (first cap : Array Value) (w : World), (Instr.makeFunc fn first cap).run Tryd.prog w = .ok (.func fn first cap) w := fun _ _ _ _ => rfl
  have hsz : (parW6 w L).heap.size = w.heap.size + 3 := by unfold parW6; simp
  have B0 : Box1 (parW6 w L) w.heap.size 9 (.string (S L)) := ((Box1.new w 9 (.string (S L))).carry ((Touch.refl [] _).alloc _) (by simp)).carry ((Touch.refl [] _).alloc _) (by simp)
  have B1 : BoxV (parW6 w L) (w.heap.size + 1) 27 #[.int .u64 0, .int .u64 0, .int .u64 0, .int .u64 0, .int .i64 0, .int .i64 0, .int .i64 0, .int .i64 0, .bool false] := BoxV.at1of3
  have B2 : BoxV (parW6 w L) (w.heap.size + 2) 27 #[.int .u64 0, .int .u64 0, .int .u64 0, .int .u64 0, .int .i64 0, .int .i64 0, .int .i64 0, .int .i64 0, .bool false] := BoxV.at2
  have c0 := B0.c0
  have TW : Touch [] w (parW6 w L) := (((Touch.refl [] w).alloc _).alloc _).alloc _
  have tt : Touch [] (parW6 w L) (tryW (parW6 w L) (S L)) := (((Touch.refl [] _).alloc _).alloc _).alloc _
  have hat : At (tryW (parW6 w L) (S L)) (w.heap.size + 4) L := by
    have := (Box1.new ((parW6 w L).alloc (.cells #[.int .i64 0] 28)) 116 (.string (S L))).carry ((Touch.refl [] _).alloc (.cells #[.pointer (some ⟨(parW6 w L).heap.size + 1, 0, none⟩)] 82)) (by simp)
    rwa [show ((parW6 w L).alloc (.cells #[.int .i64 0] 28)).heap.size = w.heap.size + 4 by simp [hsz]] at this
  have PP : Prs6 (tryW (parW6 w L) (S L)) (w.heap.size + 4) w.heap.size (w.heap.size + 2) L 0 := ⟨hat, B0.carry tt (by simp), B2.carry tt (by simp), by omega, by omega⟩
  have key := try_any (s := S L) (k := 56) (cap := #[.pointer (some ⟨w.heap.size, 0, none⟩), .pointer (some ⟨w.heap.size + 2, 0, none⟩)]) (w := parW6 w L) (S := [w.heap.size + 4, w.heap.size + 2])
    (Q := fun er w' => er = errB L ∧ BoxV w' (w.heap.size + 2) 27 (hdZ L).cells)
    (by rw [hsz]; intro b hb; simp at hb; omega) entB (by
      rw [hsz]
      refine (begin1 PP hl).mono ?_
      rintro e w' ⟨q1, q2⟩
      by_cases h0 : errB L = 0
      · obtain ⟨rfl, k1, k2⟩ := q1 h0
        refine ⟨k2, Or.inl ⟨rfl, h0.symm, ?_⟩⟩
        unfold hdZ
        rw [if_pos h0]
        exact k1
      · obtain ⟨rfl, k1⟩ := q2 h0
        refine ⟨k1.mono (by simp), Or.inr ⟨errB L, rfl, rfl, ?_⟩⟩
        unfold hdZ
        rw [if_neg h0]
        exact (B2.carry tt (by simp)).carry k1 (by simp))
  rw [hsz] at key
  have K := Lib.hid key
  have T0 := Lib.hid TW
  have HB1 := Lib.hid B1
  clear key TW tt hat B0 B1 B2 hsz PP
  unfold parW6 at *
  unfold Hd.cells at *
  generalize hdZ L = D at *
  generalize errB L = E at *
  go_enter Tryd.func27, Tryd.ntmps27
  go_wp2_with fail
  refine (K.out).mono ?_
  rintro e w2 ⟨er, w3, rfl, ⟨rfl, q3⟩, t3, t4⟩
  have q4 := q3.carry t4 (by simp)
  have B4 := (HB1.out.carry t3 (by simp)).carry t4 (by simp)
  have TT := Lib.hid ((T0.out.trans t3 (by intro b hb; simp at hb; omega)).trans t4 (by intro b hb; simp at hb; omega))
  have r0 := B4.cell 0
  have r1 := B4.cell 1
  have r2 := B4.cell 2
  have r3 := B4.cell 3
  have r4 := B4.cell 4
  have r5 := B4.cell 5
  have r6 := B4.cell 6
  have r7 := B4.cell 7
  have r8 := B4.cell 8
  have u0 := q4.cell 0
  have u1 := q4.cell 1
  have u2 := q4.cell 2
  have u3 := q4.cell 3
  have u4 := q4.cell 4
  have u5 := q4.cell 5
  have u6 := q4.cell 6
  have u7 := q4.cell 7
  have u8 := q4.cell 8
  have fz := B4.fr
  have ltq := B4.lt
  have HB := Lib.hid B4
  clear B4 q4 q3 t3 t4 K HB1 T0 c0
  go_wp2_with fail
  refine bodyPost_ret (ret_box_tmp rfl rfl (HB.out.fill9 _ _ _ _ _ _ _ _ _) Tryd.underlying27 rfl (by kernel_rfl)) rfl ⟨rfl, TT.out.trans (touch_fill9 w2 (w.heap.size + 1) _ _ _ _ _ _ _ _ _) (by simp)⟩

def travH (h : Hd) (s : List UInt8) : Hd := if walkE 8 h s = 0 then walkH 8 h s else zeroP
def trvW (w : World) (h : Hd) : World := (w.alloc (.cells h.cells 27)).alloc (.cells #[.int .u64 0, .int .u64 0, .int .u64 0, .int .u64 0, .int .i64 0, .int .i64 0, .int .i64 0, .int .i64 0, .bool false] 27)
set_option maxRecDepth 100000 in
set_option maxHeartbeats 4000000 in
theorem traverse12 (h : Hd) (s : List UInt8) {w : World} (K : Tab6 w) (hoff : h.off = 0) (hst : h.start + s.length = h.size) (hs0 : 0 ≤ h.start) (hsz : h.size ≤ 200000) (hl : s.length ≤ 100000) :
    Calls Tryd.prog 28 #[.agg h.cells, .string (S s)] w fun e w' => e = .returned (.tuple #[.agg (travH h s).cells, .int .i64 (walkE 8 h s)]) ∧ Touch [] w w' := by
  have hmf : ∀ (fn : Fn) (first cap : Array Value) (w : World), (Instr.makeFunc fn first cap).run Tryd.prog w = .ok (.func fn first cap) w := fun _ _ _ _ => rfl
  have hz : (trvW w h).heap.size = w.heap.size + 2 := by unfold trvW; simp
  have hk := K.lt
  have B0 : BoxV (trvW w h) w.heap.size 27 h.cells := BoxV.of2
  have B1 : BoxV (trvW w h) (w.heap.size + 1) 27 #[.int .u64 0, .int .u64 0, .int .u64 0, .int .u64 0, .int .i64 0, .int .i64 0, .int .i64 0, .int .i64 0, .bool false] := BoxV.at1
  have TW : Touch [] w (trvW w h) := ((Touch.refl [] w).alloc _).alloc _
  have tt : Touch [] (trvW w h) (tryW (trvW w h) (S s)) := (((Touch.refl [] _).alloc _).alloc _).alloc _
  have hat : At (tryW (trvW w h) (S s)) (w.heap.size + 3) s := by
    have := (Box1.new ((trvW w h).alloc (.cells #[.int .i64 0] 28)) 116 (.string (S s))).carry ((Touch.refl [] _).alloc (.cells #[.pointer (some ⟨(trvW w h).heap.size + 1, 0, none⟩)] 82)) (by simp)
    rwa [show ((trvW w h).alloc (.cells #[.int .i64 0] 28)).heap.size = w.heap.size + 3 by simp [hz]] at this
  have key := try_any (s := S s) (k := 63) (cap := #[.pointer (some ⟨w.heap.size, 0, none⟩)]) (w := trvW w h) (S := [w.heap.size + 3, w.heap.size])
    (Q := fun er w' => er = walkE 8 h s ∧ (walkE 8 h s = 0 → BoxV w' w.heap.size 27 (walkH 8 h s).cells))
    (by rw [hz]; intro b hb; simp at hb; omega) entT (by
      rw [hz]
      refine (trav1 hat (B0.carry tt (by simp)) ((K.carry TW (by simp)).carry tt (by simp)) (by omega) (by omega) (by omega) hoff hst hs0 hsz hl).mono ?_
      rintro e w' ⟨q1, q2, q3⟩
      by_cases h0 : walkE 8 h s = 0
      · obtain ⟨rfl, k1⟩ := q1 h0
        exact ⟨q3, Or.inl ⟨rfl, h0.symm, fun _ => k1⟩⟩
      · have := q2 h0
        exact ⟨q3, Or.inr ⟨walkE 8 h s, this, rfl, fun h1 => absurd h1 h0⟩⟩)
  rw [hz] at key
  have KE := Lib.hid key
  have T0 := Lib.hid TW
  have HB1 := Lib.hid B1
  clear key TW tt hat B0 B1 hz K hoff hst hs0 hsz hl hk
  unfold travH
  generalize walkE 8 h s = E at *
  generalize walkH 8 h s = D at *
  by_cases h0 : E = 0
  · rw [if_pos h0]
    have HQ : Hid _ := Lib.hid h0
    rw [h0]
    unfold trvW at *
    unfold Hd.cells at *
    clear h0
    go_enter Tryd.func28, Tryd.ntmps28
    go_wp2_with fail
    refine (KE.out).mono ?_
    rintro e w2 ⟨er, w3, rfl, ⟨he, q3'⟩, t3, t4⟩
    obtain rfl : er = 0 := he.trans HQ.out
    have q3 := q3' HQ.out
    have q4 := q3.carry t4 (by simp)
    have B4 := (HB1.out.carry t3 (by simp)).carry t4 (by simp)
    have TT := Lib.hid ((T0.out.trans t3 (by intro b hb; simp at hb; omega)).trans t4 (by intro b hb; simp at hb; omega))
    have r0 := B4.cell 0
    have r1 := B4.cell 1
    have r2 := B4.cell 2
    have r3 := B4.cell 3
    have r4 := B4.cell 4
    have r5 := B4.cell 5
    have r6 := B4.cell 6
    have r7 := B4.cell 7
    have r8 := B4.cell 8
    have u0 := q4.cell 0
    have u1 := q4.cell 1
    have u2 := q4.cell 2
    have u3 := q4.cell 3
    have u4 := q4.cell 4
    have u5 := q4.cell 5
    have u6 := q4.cell 6
    have u7 := q4.cell 7
    have u8 := q4.cell 8
    have fz := B4.fr
    have ltq := B4.lt
    have HB := Lib.hid B4
    clear B4 q4 q3 q3' t3 t4 KE HB1 T0 he HQ
    go_wp2_with fail
    refine bodyPost_ret (ret_box_tmp rfl rfl (HB.out.fill9 _ _ _ _ _ _ _ _ _) Tryd.underlying27 rfl (by kernel_rfl)) rfl ⟨rfl, TT.out.trans (touch_fill9 w2 (w.heap.size + 1) _ _ _ _ _ _ _ _ _) (by simp)⟩
  · rw [if_neg h0]
    have d0 : (E != 0) = true := by simpa using h0
    unfold trvW at *
    unfold zeroP Hd.cells at *
    go_enter Tryd.func28, Tryd.ntmps28
    go_wp2_with fail
    refine (KE.out).mono ?_
    rintro e w2 ⟨er, w3, rfl, ⟨he, q3'⟩, t3, t4⟩
    subst he
    have B4 := (HB1.out.carry t3 (by simp)).carry t4 (by simp)
    have TT := Lib.hid ((T0.out.trans t3 (by intro b hb; simp at hb; omega)).trans t4 (by intro b hb; simp at hb; omega))
    have r0 := B4.cell 0
    have r1 := B4.cell 1
    have r2 := B4.cell 2
    have r3 := B4.cell 3
    have r4 := B4.cell 4
    have r5 := B4.cell 5
    have r6 := B4.cell 6
    have r7 := B4.cell 7
    have r8 := B4.cell 8
    have fz := B4.fr
    have ltq := B4.lt
    have HB := Lib.hid B4
    clear B4 q3' t3 t4 KE HB1 T0
    go_wp2_with fail
    refine bodyPost_ret (ret_box_tmp rfl rfl (HB.out.fill9 (.int .u64 0) (.int .u64 0) (.int .u64 0) (.int .u64 0) (.int .i64 0) (.int .i64 0) (.int .i64 0) (.int .i64 0) (.bool false)) Tryd.underlying27 rfl (by kernel_rfl)) rfl ⟨rfl, TT.out.trans (touch_fill9 w2 (w.heap.size + 1) (.int .u64 0) (.int .u64 0) (.int .u64 0) (.int .u64 0) (.int .i64 0) (.int .i64 0) (.int .i64 0) (.int .i64 0) (.bool false)) (by simp)⟩

theorem body_length (L : List UInt8) (h : errB L = 0) : (body6 L).length = twoA L 4 ∧ 40 ≤ L.length ∧ 40 + twoA L 4 ≤ L.length := by
  unfold errB at h
  split at h
  · cases h
  · split at h
    · cases h
    · split at h
      · cases h
      · unfold body6
        rw [List.length_take, List.length_drop]
        omega
set_option maxRecDepth 100000 in
set_option maxHeartbeats 4000000 in
theorem parse12 (L : List UInt8) (hl : L.length ≤ 100000) {w : World} (K : Tab6 w) :
    Calls Tryd.prog 10 #[.string (S L)] w fun e w' => e = .returned (.tuple #[.agg (hd6 L).cells, .int .i64 (err6 L)]) ∧ Touch [] w w' := by
  have hss : (S L).size = L.length := S_size L
  have BG := begin12 L hl (w.alloc (.cells #[.int .u64 0, .int .u64 0, .int .u64 0, .int .u64 0, .int .i64 0, .int .i64 0, .int .i64 0, .int .i64 0, .bool false] 27))
  have B0 := Lib.hid (BoxV.new w 27 #[.int .u64 0, .int .u64 0, .int .u64 0, .int .u64 0, .int .i64 0, .int .i64 0, .int .i64 0, .int .i64 0, .bool false])
  have T0 := Lib.hid ((Touch.refl [] w).alloc (.cells #[.int .u64 0, .int .u64 0, .int .u64 0, .int .u64 0, .int .i64 0, .int .i64 0, .int .i64 0, .int .i64 0, .bool false] 27))
  have K0 := Lib.hid (K.carry T0.out (by simp))
  clear K
  by_cases h0 : errB L = 0
  · obtain ⟨n1, n2, n3⟩ := body_length L h0
    have ez : hdZ L = hdB L := by unfold hdZ; rw [if_pos h0]
    have e6 : err6 L = walkE 8 (hdB L) (body6 L) := by unfold err6; rw [if_pos h0]
    have eh : hd6 L = travH (hdB L) (body6 L) := by unfold hd6 travH; rw [e6]
    rw [e6, eh]
    rw [ez, h0] at BG
    have hof : (hdB L).off = 0 := rfl
    have hst : (hdB L).start = 40 := rfl
    have hsz : (hdB L).size = 40 + (twoA L 4 : Nat) := rfl
    have h4 := twoA_le L 4
    have s1 : (S L).extract 40 (40 + twoA L 4) = S (body6 L) := by rw [S_slice L 40 _ n3]; unfold body6; rw [Nat.add_sub_cancel_left]
    have TV : Hid (∀ w, Tab6 w → Calls Tryd.prog 28 #[.agg (hdB L).cells, .string (S (body6 L))] w fun e w' => e = .returned (.tuple #[.agg (travH (hdB L) (body6 L)).cells, .int .i64 (walkE 8 (hdB L) (body6 L))]) ∧ Touch [] w w') := Lib.hid (fun w K => traverse12 (hdB L) (body6 L) K hof (by rw [hst, hsz, n1]) (by rw [hst]; omega) (by rw [hsz]; omega) (by omega))
    have hsz' : (hdB L).size = 40 + (twoA L 4 : Nat) := hsz
    generalize walkE 8 (hdB L) (body6 L) = E at *
    generalize travH (hdB L) (body6 L) = D at *
    generalize body6 L = bd at *
    generalize hdB L = h at *
    generalize twoA L 4 = t4 at *
    obtain ⟨sh, sl, dh, dl, pr, st, sz, of, mo⟩ := h
    simp only at hsz hst hof hsz'
    subst hsz
    unfold Hd.cells at *
    simp only at BG TV
    have BG := Lib.hid BG
    have hi1 : (40 : Int) + (t4 : Int) ≤ (L.length : Int) := by omega
    have hi2 : (40 : Int) ≤ 40 + (t4 : Int) := by omega
    have hi3 : ((40 : Int) + (t4 : Int)).toNat = 40 + t4 := by omega
    clear e6 eh ez h0 hst hof hsz' n1
    go_enter Tryd.func10, Tryd.ntmps10
    go_wp2_with fail
    refine (BG.out).mono ?_
    rintro e w1 ⟨rfl, t1⟩
    have T1 := Lib.hid ((T0.out.trans t1 (by simp)).alloc (.cells #[.int .u64 (sh : Int), .int .u64 (sl : Int), .int .u64 (dh : Int), .int .u64 (dl : Int), .int .i64 pr, .int .i64 st, .int .i64 (40 + (t4 : Int)), .int .i64 of, .bool mo] 27))
    have B1 := Lib.hid (B0.out.carry (t1.alloc (.cells #[.int .u64 (sh : Int), .int .u64 (sl : Int), .int .u64 (dh : Int), .int .u64 (dl : Int), .int .i64 pr, .int .i64 st, .int .i64 (40 + (t4 : Int)), .int .i64 of, .bool mo] 27)) (by simp))
    have C1 := Lib.hid (BoxV.new w1 27 #[.int .u64 (sh : Int), .int .u64 (sl : Int), .int .u64 (dh : Int), .int .u64 (dl : Int), .int .i64 pr, .int .i64 st, .int .i64 (40 + (t4 : Int)), .int .i64 of, .bool mo])
    have K1 := Lib.hid (K0.out.carry (t1.alloc (.cells #[.int .u64 (sh : Int), .int .u64 (sl : Int), .int .u64 (dh : Int), .int .u64 (dl : Int), .int .i64 pr, .int .i64 st, .int .i64 (40 + (t4 : Int)), .int .i64 of, .bool mo] 27)) (by simp))
    clear t1 T0 B0 K0 BG
    go_upto_region 4 with fail
    generalize w1.alloc (.cells #[.int .u64 (sh : Int), .int .u64 (sl : Int), .int .u64 (dh : Int), .int .u64 (dl : Int), .int .i64 pr, .int .i64 st, .int .i64 (40 + (t4 : Int)), .int .i64 of, .bool mo] 27) = w2 at *
    have k0 : ∀ x : Cls w2, x.val.cell? ⟨w1.heap.size, 0, none⟩ = some (.int .u64 (sh : Int)) := fun x => (C1.out.carry x.property (by simp)).cell 0
    have k1 : ∀ x : Cls w2, x.val.cell? ⟨w1.heap.size, 1, none⟩ = some (.int .u64 (sl : Int)) := fun x => (C1.out.carry x.property (by simp)).cell 1
    have k2 : ∀ x : Cls w2, x.val.cell? ⟨w1.heap.size, 2, none⟩ = some (.int .u64 (dh : Int)) := fun x => (C1.out.carry x.property (by simp)).cell 2
    have k3 : ∀ x : Cls w2, x.val.cell? ⟨w1.heap.size, 3, none⟩ = some (.int .u64 (dl : Int)) := fun x => (C1.out.carry x.property (by simp)).cell 3
    have k4 : ∀ x : Cls w2, x.val.cell? ⟨w1.heap.size, 4, none⟩ = some (.int .i64 pr) := fun x => (C1.out.carry x.property (by simp)).cell 4
    have k5 : ∀ x : Cls w2, x.val.cell? ⟨w1.heap.size, 5, none⟩ = some (.int .i64 st) := fun x => (C1.out.carry x.property (by simp)).cell 5
    have k6 : ∀ x : Cls w2, x.val.cell? ⟨w1.heap.size, 6, none⟩ = some (.int .i64 (40 + (t4 : Int))) := fun x => (C1.out.carry x.property (by simp)).cell 6
    have k7 : ∀ x : Cls w2, x.val.cell? ⟨w1.heap.size, 7, none⟩ = some (.int .i64 of) := fun x => (C1.out.carry x.property (by simp)).cell 7
    have k8 : ∀ x : Cls w2, x.val.cell? ⟨w1.heap.size, 8, none⟩ = some (.bool mo) := fun x => (C1.out.carry x.property (by simp)).cell 8
    have TX : Hid (∀ x : Cls w2, Calls Tryd.prog 28 #[.agg #[.int .u64 (sh : Int), .int .u64 (sl : Int), .int .u64 (dh : Int), .int .u64 (dl : Int), .int .i64 pr, .int .i64 st, .int .i64 (40 + (t4 : Int)), .int .i64 of, .bool mo], .string (S bd)] x.val fun e w' => e = .returned (.tuple #[.agg #[.int .u64 (D.sh : Int), .int .u64 (D.sl : Int), .int .u64 (D.dh : Int), .int .u64 (D.dl : Int), .int .i64 D.proto, .int .i64 D.start, .int .i64 D.size, .int .i64 D.off, .bool D.more], .int .i64 E]) ∧ Touch [] x.val w') := Lib.hid (fun x => TV.out _ (K1.out.carry x.property (by simp)))
    refine wp_region_tail (wd := w2) 8 (by kernel_rfl) (by kernel_rfl) ((Touch.refl _ _).drew) ?_
    simp only [List.take_succ_cons, List.take_zero, List.drop_succ_cons, List.drop_zero]
    repeat (first | go_big_quiet_step ((go_at_call 28; with_reducible exact Calls.cls_at (TX.out _))) | quiet_step ((go_at_call 28; with_reducible exact Calls.cls_at (TX.out _))))
    refine wpQuiet_nil ?_
    intro z
    have B4 := B1.out.carry z.property (by simp)
    have TT := Lib.hid (T1.out.trans z.property (by simp))
    have r0 := B4.cell 0
    have r1 := B4.cell 1
    have r2 := B4.cell 2
    have r3 := B4.cell 3
    have r4 := B4.cell 4
    have r5 := B4.cell 5
    have r6 := B4.cell 6
    have r7 := B4.cell 7
    have r8 := B4.cell 8
    have fz := B4.fr
    have ltq := B4.lt
    have HB := Lib.hid B4
    clear B4 B1 T1 C1 K1 TX TV k0 k1 k2 k3 k4 k5 k6 k7 k8
    go_wp2_with fail
    refine bodyPost_ret (ret_box_tmp rfl rfl (HB.out.fill9 _ _ _ _ _ _ _ _ _) Tryd.underlying27 rfl (by kernel_rfl)) rfl ⟨rfl, TT.out.trans (touch_fill9 z.val w.heap.size _ _ _ _ _ _ _ _ _) (by simp)⟩
  · have ez : hdZ L = zeroP := by unfold hdZ; rw [if_neg h0]
    have e6 : err6 L = errB L := by unfold err6; rw [if_neg h0]
    have eh : hd6 L = zeroP := by unfold hd6; rw [e6, if_neg h0]
    have d0 : (errB L != 0) = true := by simpa using h0
    rw [e6, eh]
    rw [ez] at BG
    generalize errB L = E at *
    unfold zeroP Hd.cells at *
    simp only at BG
    have BG := Lib.hid BG
    clear e6 eh ez
    go_enter Tryd.func10, Tryd.ntmps10
    go_wp2_with fail
    refine (BG.out).mono ?_
    rintro e w1 ⟨rfl, t1⟩
    have B4 := B0.out.carry (t1.alloc (.cells #[.int .u64 0, .int .u64 0, .int .u64 0, .int .u64 0, .int .i64 0, .int .i64 0, .int .i64 0, .int .i64 0, .bool false] 27)) (by simp)
    have TT := Lib.hid ((T0.out.trans t1 (by simp)).alloc (.cells #[.int .u64 0, .int .u64 0, .int .u64 0, .int .u64 0, .int .i64 0, .int .i64 0, .int .i64 0, .int .i64 0, .bool false] 27))
    have r0 := B4.cell 0
    have r1 := B4.cell 1
    have r2 := B4.cell 2
    have r3 := B4.cell 3
    have r4 := B4.cell 4
    have r5 := B4.cell 5
    have r6 := B4.cell 6
    have r7 := B4.cell 7
    have r8 := B4.cell 8
    have fz := B4.fr
    have ltq := B4.lt
    have HB := Lib.hid B4
    clear t1 B4 B0 T0 K0 BG
    go_wp2_with fail
    refine bodyPost_ret (ret_box_tmp rfl rfl (HB.out.fill9 (.int .u64 0) (.int .u64 0) (.int .u64 0) (.int .u64 0) (.int .i64 0) (.int .i64 0) (.int .i64 0) (.int .i64 0) (.bool false)) Tryd.underlying27 rfl (by kernel_rfl)) rfl ⟨rfl, TT.out.trans (touch_fill9 (w1.alloc (.cells #[.int .u64 0, .int .u64 0, .int .u64 0, .int .u64 0, .int .i64 0, .int .i64 0, .int .i64 0, .int .i64 0, .bool false] 27)) w.heap.size (.int .u64 0) (.int .u64 0) (.int .u64 0) (.int .u64 0) (.int .i64 0) (.int .i64 0) (.int .i64 0) (.int .i64 0) (.bool false)) (by simp)⟩
end Go.Proofs.YtdpaiegojioimaaDoor

/-
  Layer 12 (ipv6): the reference's way through the extension headers, and its Parse.
-/
namespace Go.Proofs.YtdpaiegojioimaaDoor
open Go.ChangeShapes Go.WideShapes Go.ChangeAt Go.RowKit Go.Deep
set_option linter.unusedVariables false
set_option linter.unusedSimpArgs false

theorem ix_at (l : List UInt8) (i : Nat) (h : i < l.length) (w : World) : (Instr.index 9 (.string (S l)) (.int .i64 (i : Int))).run Tryd.prog w = .ok (.int .u8 ((byteAt l i : Nat) : Int)) w := by
  have := ix_str l i h w
  rwa [← byteAt_in l i h] at this
def folW (w : World) (h : Hd) : World := (w.alloc (.cells h.cells 31)).alloc (.cells #[.int .u64 0, .int .u64 0, .int .u64 0, .int .u64 0, .int .i64 0, .int .i64 0, .int .i64 0, .int .i64 0, .bool false] 31)

set_option maxRecDepth 100000 in
set_option maxHeartbeats 4000000 in
theorem refFollow12 : ∀ (n : Nat), n ≤ 8 → ∀ (h : Hd) (s : List UInt8) (w : World), 0 ≤ h.start → h.start + s.length ≤ 400000 → s.length ≤ 100000 →
    Calls Tryd.prog 30 #[.agg h.cells, .string (S s), .int .i64 (8 - (n : Int))] w fun e w' => e = .returned (.tuple #[.agg (walkH n h s).cells, .int .i64 (walkE n h s)]) ∧ Touch [] w w' := by
  intro n
  induction n with
  | zero =>
    intro _ h s w hs0 hs1 hl
    have FW := Lib.hid (fun w => refFollows12 h.proto w)
    have B0 : BoxV (folW w h) w.heap.size 31 h.cells := BoxV.of2
    have B1 : BoxV (folW w h) (w.heap.size + 1) 31 #[.int .u64 0, .int .u64 0, .int .u64 0, .int .u64 0, .int .i64 0, .int .i64 0, .int .i64 0, .int .i64 0, .bool false] := BoxV.at1
    have TT := Lib.hid (show Touch [] w (folW w h) from ((Touch.refl [] w).alloc _).alloc _)
    have a0 := B0.cell 0
    have a1 := B0.cell 1
    have a2 := B0.cell 2
    have a3 := B0.cell 3
    have a4 := B0.cell 4
    have a5 := B0.cell 5
    have a6 := B0.cell 6
    have a7 := B0.cell 7
    have a8 := B0.cell 8
    have c0 := B1.cell 0
    have c1 := B1.cell 1
    have c2 := B1.cell 2
    have c3 := B1.cell 3
    have c4 := B1.cell 4
    have c5 := B1.cell 5
    have c6 := B1.cell 6
    have c7 := B1.cell 7
    have c8 := B1.cell 8
    have f1 := B1.fr
    have l0 := B0.lt
    have l1 := B1.lt
    have HB := Lib.hid B1
    clear B0 B1
    obtain ⟨e1, e2⟩ : walkE 0 h s = (if stop6 h = true then 0 else 4) ∧ walkH 0 h s = h := ⟨rfl, rfl⟩
    rw [e1, e2]
    clear e1 e2
    unfold folW at *
    unfold Hd.cells at *
    by_cases hf : fol h.proto = true
    · by_cases ho : h.off = 0
      · have st : stop6 h = false := by simp [stop6, hf, ho]
        rw [st, if_neg (by decide)]
        rw [hf] at FW
        have dO : (h.off != 0) = false := by simpa using ho
        clear ho
        go_enter Tryd.func30, Tryd.ntmps30
        go_upto_region 1 with fail
        generalize (w.alloc (.cells #[.int .u64 (h.sh : Int), .int .u64 (h.sl : Int), .int .u64 (h.dh : Int), .int .u64 (h.dl : Int), .int .i64 h.proto, .int .i64 h.start, .int .i64 h.size, .int .i64 h.off, .bool h.more] 31)).alloc (.cells #[.int .u64 0, .int .u64 0, .int .u64 0, .int .u64 0, .int .i64 0, .int .i64 0, .int .i64 0, .int .i64 0, .bool false] 31) = w0 at *
        go_wp2_with fail
        refine (FW.out _).mono ?_
        rintro e w0 ⟨rfl, hq⟩
        subst hq
        go_wp2_with fail
        refine bodyPost_ret (ret_box_tmp rfl rfl (HB.out.fill9 (.int .u64 (h.sh : Int)) (.int .u64 (h.sl : Int)) (.int .u64 (h.dh : Int)) (.int .u64 (h.dl : Int)) (.int .i64 h.proto) (.int .i64 h.start) (.int .i64 h.size) (.int .i64 h.off) (.bool h.more)) Tryd.underlying31 rfl (by kernel_rfl)) rfl ⟨rfl, TT.out.trans (touch_fill9 w0 (w.heap.size + 1) (.int .u64 (h.sh : Int)) (.int .u64 (h.sl : Int)) (.int .u64 (h.dh : Int)) (.int .u64 (h.dl : Int)) (.int .i64 h.proto) (.int .i64 h.start) (.int .i64 h.size) (.int .i64 h.off) (.bool h.more)) (by simp)⟩
      · have st : stop6 h = true := by simp [stop6, hf, ho]
        rw [st, if_pos rfl]
        rw [hf] at FW
        have dO : (h.off != 0) = true := by simpa using ho
        go_enter Tryd.func30, Tryd.ntmps30
        go_upto_region 1 with fail
        generalize (w.alloc (.cells #[.int .u64 (h.sh : Int), .int .u64 (h.sl : Int), .int .u64 (h.dh : Int), .int .u64 (h.dl : Int), .int .i64 h.proto, .int .i64 h.start, .int .i64 h.size, .int .i64 h.off, .bool h.more] 31)).alloc (.cells #[.int .u64 0, .int .u64 0, .int .u64 0, .int .u64 0, .int .i64 0, .int .i64 0, .int .i64 0, .int .i64 0, .bool false] 31) = w0 at *
        go_wp2_with fail
        refine (FW.out _).mono ?_
        rintro e w0 ⟨rfl, hq⟩
        subst hq
        go_wp2_with fail
        refine bodyPost_ret (ret_box_tmp rfl rfl (HB.out.fill9 (.int .u64 (h.sh : Int)) (.int .u64 (h.sl : Int)) (.int .u64 (h.dh : Int)) (.int .u64 (h.dl : Int)) (.int .i64 h.proto) (.int .i64 h.start) (.int .i64 h.size) (.int .i64 h.off) (.bool h.more)) Tryd.underlying31 rfl (by kernel_rfl)) rfl ⟨rfl, TT.out.trans (touch_fill9 w0 (w.heap.size + 1) (.int .u64 (h.sh : Int)) (.int .u64 (h.sl : Int)) (.int .u64 (h.dh : Int)) (.int .u64 (h.dl : Int)) (.int .i64 h.proto) (.int .i64 h.start) (.int .i64 h.size) (.int .i64 h.off) (.bool h.more)) (by simp)⟩
    · have hf' : fol h.proto = false := by simpa using hf
      have st : stop6 h = true := by simp [stop6, hf']
      rw [st, if_pos rfl]
      rw [hf'] at FW
      go_enter Tryd.func30, Tryd.ntmps30
      go_upto_region 1 with fail
      generalize (w.alloc (.cells #[.int .u64 (h.sh : Int), .int .u64 (h.sl : Int), .int .u64 (h.dh : Int), .int .u64 (h.dl : Int), .int .i64 h.proto, .int .i64 h.start, .int .i64 h.size, .int .i64 h.off, .bool h.more] 31)).alloc (.cells #[.int .u64 0, .int .u64 0, .int .u64 0, .int .u64 0, .int .i64 0, .int .i64 0, .int .i64 0, .int .i64 0, .bool false] 31) = w0 at *
      go_wp2_with fail
      refine (FW.out _).mono ?_
      rintro e w0 ⟨rfl, hq⟩
      subst hq
      go_wp2_with fail
      refine bodyPost_ret (ret_box_tmp rfl rfl (HB.out.fill9 (.int .u64 (h.sh : Int)) (.int .u64 (h.sl : Int)) (.int .u64 (h.dh : Int)) (.int .u64 (h.dl : Int)) (.int .i64 h.proto) (.int .i64 h.start) (.int .i64 h.size) (.int .i64 h.off) (.bool h.more)) Tryd.underlying31 rfl (by kernel_rfl)) rfl ⟨rfl, TT.out.trans (touch_fill9 w0 (w.heap.size + 1) (.int .u64 (h.sh : Int)) (.int .u64 (h.sl : Int)) (.int .u64 (h.dh : Int)) (.int .u64 (h.dl : Int)) (.int .i64 h.proto) (.int .i64 h.start) (.int .i64 h.size) (.int .i64 h.off) (.bool h.more)) (by simp)⟩
  | succ n ih =>
    intro hn h s w hs0 hs1 hl
    have IH := Lib.hid (ih (by omega))
    clear ih
    have FW := Lib.hid (fun w => refFollows12 h.proto w)
    have hss : (S s).size = s.length := S_size s
    have B0 : BoxV (folW w h) w.heap.size 31 h.cells := BoxV.of2
    have B1 : BoxV (folW w h) (w.heap.size + 1) 31 #[.int .u64 0, .int .u64 0, .int .u64 0, .int .u64 0, .int .i64 0, .int .i64 0, .int .i64 0, .int .i64 0, .bool false] := BoxV.at1
    have TT := Lib.hid (show Touch [] w (folW w h) from ((Touch.refl [] w).alloc _).alloc _)
    have a0 := B0.cell 0
    have a1 := B0.cell 1
    have a2 := B0.cell 2
    have a3 := B0.cell 3
    have a4 := B0.cell 4
    have a5 := B0.cell 5
    have a6 := B0.cell 6
    have a7 := B0.cell 7
    have a8 := B0.cell 8
    have c0 := B1.cell 0
    have c1 := B1.cell 1
    have c2 := B1.cell 2
    have c3 := B1.cell 3
    have c4 := B1.cell 4
    have c5 := B1.cell 5
    have c6 := B1.cell 6
    have c7 := B1.cell 7
    have c8 := B1.cell 8
    have f0 := B0.fr
    have f1 := B1.fr
    have l0 := B0.lt
    have l1 := B1.lt
    have HB := Lib.hid B1
    have HA := Lib.hid B0
    clear B0 B1
    rw [show (8 : Int) - ((n + 1 : Nat) : Int) = 7 - (n : Int) by omega]
    have d8 : ((7 - (n : Int)) == 8) = false := by simp; omega
    by_cases hst : stop6 h = true
    · rw [(walk_stop _ h s hst).1, (walk_stop _ h s hst).2]
      unfold folW at *
      unfold Hd.cells at *
      by_cases hf : fol h.proto = true
      · have dO : (h.off != 0) = true := by simpa [stop6, hf] using hst
        rw [hf] at FW
        go_enter Tryd.func30, Tryd.ntmps30
        go_upto_region 1 with fail
        generalize (w.alloc (.cells #[.int .u64 (h.sh : Int), .int .u64 (h.sl : Int), .int .u64 (h.dh : Int), .int .u64 (h.dl : Int), .int .i64 h.proto, .int .i64 h.start, .int .i64 h.size, .int .i64 h.off, .bool h.more] 31)).alloc (.cells #[.int .u64 0, .int .u64 0, .int .u64 0, .int .u64 0, .int .i64 0, .int .i64 0, .int .i64 0, .int .i64 0, .bool false] 31) = w0 at *
        go_wp2_with fail
        refine (FW.out _).mono ?_
        rintro e w0 ⟨rfl, hq⟩
        subst hq
        go_wp2_with fail
        refine bodyPost_ret (ret_box_tmp rfl rfl (HB.out.fill9 (.int .u64 (h.sh : Int)) (.int .u64 (h.sl : Int)) (.int .u64 (h.dh : Int)) (.int .u64 (h.dl : Int)) (.int .i64 h.proto) (.int .i64 h.start) (.int .i64 h.size) (.int .i64 h.off) (.bool h.more)) Tryd.underlying31 rfl (by kernel_rfl)) rfl ⟨rfl, TT.out.trans (touch_fill9 w0 (w.heap.size + 1) (.int .u64 (h.sh : Int)) (.int .u64 (h.sl : Int)) (.int .u64 (h.dh : Int)) (.int .u64 (h.dl : Int)) (.int .i64 h.proto) (.int .i64 h.start) (.int .i64 h.size) (.int .i64 h.off) (.bool h.more)) (by simp)⟩
      · have hf' : fol h.proto = false := by simpa using hf
        rw [hf'] at FW
        go_enter Tryd.func30, Tryd.ntmps30
        go_upto_region 1 with fail
        generalize (w.alloc (.cells #[.int .u64 (h.sh : Int), .int .u64 (h.sl : Int), .int .u64 (h.dh : Int), .int .u64 (h.dl : Int), .int .i64 h.proto, .int .i64 h.start, .int .i64 h.size, .int .i64 h.off, .bool h.more] 31)).alloc (.cells #[.int .u64 0, .int .u64 0, .int .u64 0, .int .u64 0, .int .i64 0, .int .i64 0, .int .i64 0, .int .i64 0, .bool false] 31) = w0 at *
        go_wp2_with fail
        refine (FW.out _).mono ?_
        rintro e w0 ⟨rfl, hq⟩
        subst hq
        go_wp2_with fail
        refine bodyPost_ret (ret_box_tmp rfl rfl (HB.out.fill9 (.int .u64 (h.sh : Int)) (.int .u64 (h.sl : Int)) (.int .u64 (h.dh : Int)) (.int .u64 (h.dl : Int)) (.int .i64 h.proto) (.int .i64 h.start) (.int .i64 h.size) (.int .i64 h.off) (.bool h.more)) Tryd.underlying31 rfl (by kernel_rfl)) rfl ⟨rfl, TT.out.trans (touch_fill9 w0 (w.heap.size + 1) (.int .u64 (h.sh : Int)) (.int .u64 (h.sl : Int)) (.int .u64 (h.dh : Int)) (.int .u64 (h.dl : Int)) (.int .i64 h.proto) (.int .i64 h.start) (.int .i64 h.size) (.int .i64 h.off) (.bool h.more)) (by simp)⟩
    have hst' : stop6 h = false := by simpa using hst
    have hf : fol h.proto = true := by
      cases hc : fol h.proto
      · simp [stop6, hc] at hst'
      · rfl
    have ho : h.off = 0 := by simpa [stop6, hf] using hst'
    have dO : (h.off != 0) = false := by simpa using ho
    rw [hf] at FW
    clear hst hf
    by_cases hs8 : s.length < 8
    · rw [(walk_short n h s hst' hs8).1, (walk_short n h s hst' hs8).2]
      have d : decide ((s.length : Int) < 8) = true := by simp; omega
      unfold folW at *
      unfold Hd.cells at *
      clear ho
      go_enter Tryd.func30, Tryd.ntmps30
      go_upto_region 1 with fail
      generalize (w.alloc (.cells #[.int .u64 (h.sh : Int), .int .u64 (h.sl : Int), .int .u64 (h.dh : Int), .int .u64 (h.dl : Int), .int .i64 h.proto, .int .i64 h.start, .int .i64 h.size, .int .i64 h.off, .bool h.more] 31)).alloc (.cells #[.int .u64 0, .int .u64 0, .int .u64 0, .int .u64 0, .int .i64 0, .int .i64 0, .int .i64 0, .int .i64 0, .bool false] 31) = w0 at *
      go_wp2_with fail
      refine (FW.out _).mono ?_
      rintro e w0 ⟨rfl, hq⟩
      subst hq
      go_wp2_with fail
      refine bodyPost_ret (ret_box_tmp rfl rfl (HB.out.fill9 (.int .u64 (h.sh : Int)) (.int .u64 (h.sl : Int)) (.int .u64 (h.dh : Int)) (.int .u64 (h.dl : Int)) (.int .i64 h.proto) (.int .i64 h.start) (.int .i64 h.size) (.int .i64 h.off) (.bool h.more)) Tryd.underlying31 rfl (by kernel_rfl)) rfl ⟨rfl, TT.out.trans (touch_fill9 w0 (w.heap.size + 1) (.int .u64 (h.sh : Int)) (.int .u64 (h.sl : Int)) (.int .u64 (h.dh : Int)) (.int .u64 (h.dl : Int)) (.int .i64 h.proto) (.int .i64 h.start) (.int .i64 h.size) (.int .i64 h.off) (.bool h.more)) (by simp)⟩
    have d : decide ((s.length : Int) < 8) = false := by simp; omega
    have hx1 : ∀ w : World, (Instr.index 9 (.string (S s)) (.int .i64 1)).run Tryd.prog w = .ok (.int .u8 ((byteAt s 1 : Nat) : Int)) w := fun w => ix_at s 1 (by omega) w
    have hx3 : ∀ w : World, (Instr.index 9 (.string (S s)) (.int .i64 3)).run Tryd.prog w = .ok (.int .u8 ((byteAt s 3 : Nat) : Int)) w := fun w => ix_at s 3 (by omega) w
    have hx0 : ∀ w : World, (Instr.index 9 (.string (S s)) (.int .i64 0)).run Tryd.prog w = .ok (.int .u8 ((byteAt s 0 : Nat) : Int)) w := fun w => ix_at s 0 (by omega) w
    have hb0 := byteAt_lt s 0
    have hb1 := byteAt_lt s 1
    have hb3 := byteAt_lt s 3
    have ht2 := twoA_le s 2
    have TW : Hid (∀ w, Calls Tryd.prog 29 #[.string (S s), .int .i64 2] w fun e w' => e = .returned (.int .i64 (twoA s 2 : Nat)) ∧ w' = w) := Lib.hid (fun w => two11 s 2 hl (by omega) w)
    by_cases h44 : h.proto = 44
    · have hln : len6 h.proto s = 8 := by unfold len6; rw [if_pos h44]
      obtain ⟨W1, W2⟩ := walk_next n h s hst' hs8 (by rw [hln]; exact hs8)
      rw [hln] at W1 W2
      have sp : step6 h s = ⟨h.sh, h.sl, h.dh, h.dl, (byteAt s 0 : Nat), h.start + 8, h.size, (twoA s 2 / 8 : Nat), decide (twoA s 2 % 2 = 1)⟩ := by unfold step6 frag; rw [if_pos h44, hln]; rfl
      have d44 : (h.proto == 44) = true := by simpa using h44
      have dg : decide ((s.length : Int) < 8) = false := d
      have q3 : (((byteAt s 3 : Nat) : Int) % 2 == 1) = decide (twoA s 2 % 2 = 1) := by
        have e : twoA s 2 % 2 = byteAt s 3 % 2 := by rw [show twoA s 2 = byteAt s 2 * 256 + byteAt s 3 from rfl]; omega
        rw [e]
        rcases (show byteAt s 3 % 2 = 0 ∨ byteAt s 3 % 2 = 1 by omega) with h0 | h0
        · rw [show ((byteAt s 3 : Nat) : Int) % 2 = 0 by omega, h0]; rfl
        · rw [show ((byteAt s 3 : Nat) : Int) % 2 = 1 by omega, h0]; rfl
      have q2 : ((twoA s 2 : Nat) : Int) / 8 = ((twoA s 2 / 8 : Nat) : Int) := by omega
      have sd : (S s).extract 8 s.length = S (s.drop 8) := S_drop s 8
      have hdl : (s.drop 8).length = s.length - 8 := List.length_drop
      have RC : Hid (∀ w, Calls Tryd.prog 30 #[.agg (step6 h s).cells, .string (S (s.drop 8)), .int .i64 (8 - (n : Int))] w fun e w' => e = .returned (.tuple #[.agg (walkH (n + 1) h s).cells, .int .i64 (walkE (n + 1) h s)]) ∧ Touch [] w w') := Lib.hid (fun w => by
        rw [W1, W2]
        exact IH.out (step6 h s) (s.drop 8) w (by rw [sp]; simp only; omega) (by rw [sp]; simp only; rw [hdl]; omega) (by rw [hdl]; omega))
      rw [sp, show (8 : Int) - (n : Int) = 7 - (n : Int) + 1 by omega] at RC
      generalize walkE (n + 1) h s = E at *
      generalize walkH (n + 1) h s = D at *
      have hi4 : 8 ≤ s.length := by omega
      have hi5 : (8 : Int) ≤ (s.length : Int) := by omega
      generalize decide (twoA s 2 % 2 = 1) = mo at *
      generalize twoA s 2 / 8 = of at *
      unfold folW at *
      unfold Hd.cells at *
      simp only at RC
      clear W1 W2 sp ho hst' IH h44 hs8
      go_enter Tryd.func30, Tryd.ntmps30
      go_upto_region 1 with fail
      generalize (w.alloc (.cells #[.int .u64 (h.sh : Int), .int .u64 (h.sl : Int), .int .u64 (h.dh : Int), .int .u64 (h.dl : Int), .int .i64 h.proto, .int .i64 h.start, .int .i64 h.size, .int .i64 h.off, .bool h.more] 31)).alloc (.cells #[.int .u64 0, .int .u64 0, .int .u64 0, .int .u64 0, .int .i64 0, .int .i64 0, .int .i64 0, .int .i64 0, .bool false] 31) = w0 at *
      go_wp2_with fail
      refine (FW.out _).mono ?_
      rintro e w0 ⟨rfl, hq⟩
      subst hq
      go_wp2_with fail
      refine (TW.out _).mono ?_
      rintro e w0 ⟨rfl, hq⟩
      subst hq
      go_upto_region 16 with fail
      have tw : Touch [w.heap.size] w0 ((((w0.setCell ⟨w.heap.size, 7, none⟩ (.int .i64 (of : Nat))).setCell ⟨w.heap.size, 8, none⟩ (.bool mo)).setCell ⟨w.heap.size, 4, none⟩ (.int .i64 (byteAt s 0 : Nat))).setCell ⟨w.heap.size, 5, none⟩ (.int .i64 (h.start + 8))) := (((((Touch.refl [w.heap.size] w0).setCell (a := ⟨w.heap.size, 7, none⟩) (by simp) (.int .i64 (of : Nat))).setCell (a := ⟨w.heap.size, 8, none⟩) (by simp) (.bool mo)).setCell (a := ⟨w.heap.size, 4, none⟩) (by simp) (.int .i64 (byteAt s 0 : Nat))).setCell (a := ⟨w.heap.size, 5, none⟩) (by simp) (.int .i64 (h.start + 8)))
      have BW : BoxV ((((w0.setCell ⟨w.heap.size, 7, none⟩ (.int .i64 (of : Nat))).setCell ⟨w.heap.size, 8, none⟩ (.bool mo)).setCell ⟨w.heap.size, 4, none⟩ (.int .i64 (byteAt s 0 : Nat))).setCell ⟨w.heap.size, 5, none⟩ (.int .i64 (h.start + 8))) w.heap.size 31 #[.int .u64 (h.sh : Int), .int .u64 (h.sl : Int), .int .u64 (h.dh : Int), .int .u64 (h.dl : Int), .int .i64 (byteAt s 0 : Nat), .int .i64 (h.start + 8), .int .i64 h.size, .int .i64 (of : Nat), .bool mo] := ((((HA.out.set 7 (.int .i64 (of : Nat))).set 8 (.bool mo)).set 4 (.int .i64 (byteAt s 0 : Nat))).set 5 (.int .i64 (h.start + 8)))
      have CW := HB.out.carry tw (by simp)
      have TW1 := Lib.hid (TT.out.trans tw (by simp))
      clear tw HA HB TT a0 c0 a1 c1 a2 c2 a3 c3 a4 c4 a5 c5 a6 c6 a7 c7 a8 c8 f0 f1 l0 l1
      generalize ((((w0.setCell ⟨w.heap.size, 7, none⟩ (.int .i64 (of : Nat))).setCell ⟨w.heap.size, 8, none⟩ (.bool mo)).setCell ⟨w.heap.size, 4, none⟩ (.int .i64 (byteAt s 0 : Nat))).setCell ⟨w.heap.size, 5, none⟩ (.int .i64 (h.start + 8))) = w1 at *
      have k0 : ∀ x : Cls w1, x.val.cell? ⟨w.heap.size, 0, none⟩ = some (.int .u64 (h.sh : Int)) := fun x => (BW.carry x.property (by simp)).cell 0
      have k1 : ∀ x : Cls w1, x.val.cell? ⟨w.heap.size, 1, none⟩ = some (.int .u64 (h.sl : Int)) := fun x => (BW.carry x.property (by simp)).cell 1
      have k2 : ∀ x : Cls w1, x.val.cell? ⟨w.heap.size, 2, none⟩ = some (.int .u64 (h.dh : Int)) := fun x => (BW.carry x.property (by simp)).cell 2
      have k3 : ∀ x : Cls w1, x.val.cell? ⟨w.heap.size, 3, none⟩ = some (.int .u64 (h.dl : Int)) := fun x => (BW.carry x.property (by simp)).cell 3
      have k4 : ∀ x : Cls w1, x.val.cell? ⟨w.heap.size, 4, none⟩ = some (.int .i64 (byteAt s 0 : Nat)) := fun x => (BW.carry x.property (by simp)).cell 4
      have k5 : ∀ x : Cls w1, x.val.cell? ⟨w.heap.size, 5, none⟩ = some (.int .i64 (h.start + 8)) := fun x => (BW.carry x.property (by simp)).cell 5
      have k6 : ∀ x : Cls w1, x.val.cell? ⟨w.heap.size, 6, none⟩ = some (.int .i64 h.size) := fun x => (BW.carry x.property (by simp)).cell 6
      have k7 : ∀ x : Cls w1, x.val.cell? ⟨w.heap.size, 7, none⟩ = some (.int .i64 (of : Nat)) := fun x => (BW.carry x.property (by simp)).cell 7
      have k8 : ∀ x : Cls w1, x.val.cell? ⟨w.heap.size, 8, none⟩ = some (.bool mo) := fun x => (BW.carry x.property (by simp)).cell 8
      have HC := Lib.hid CW
      clear CW
      refine wp_region_tail (wd := w1) 9 (by kernel_rfl) (by kernel_rfl) ((Touch.refl _ _).drew) ?_
      simp only [List.take_succ_cons, List.take_zero, List.drop_succ_cons, List.drop_zero]
      repeat (first | go_big_quiet_step ((go_at_call 30; with_reducible exact Calls.cls_at (RC.out _))) | quiet_step ((go_at_call 30; with_reducible exact Calls.cls_at (RC.out _))))
      refine wpQuiet_nil ?_
      intro z
      have B4 := HC.out.carry z.property (by simp)
      have T4 := Lib.hid (TW1.out.trans z.property (by simp))
      have r0 := B4.cell 0
      have r1 := B4.cell 1
      have r2 := B4.cell 2
      have r3 := B4.cell 3
      have r4 := B4.cell 4
      have r5 := B4.cell 5
      have r6 := B4.cell 6
      have r7 := B4.cell 7
      have r8 := B4.cell 8
      have fz := B4.fr
      have ltq := B4.lt
      have HB4 := Lib.hid B4
      clear B4 BW HC TW1 RC k0 k1 k2 k3 k4 k5 k6 k7 k8
      go_wp2_with fail
      refine bodyPost_ret (ret_box_tmp rfl rfl (HB4.out.fill9 (.int .u64 (D.sh : Int)) (.int .u64 (D.sl : Int)) (.int .u64 (D.dh : Int)) (.int .u64 (D.dl : Int)) (.int .i64 D.proto) (.int .i64 D.start) (.int .i64 D.size) (.int .i64 D.off) (.bool D.more)) Tryd.underlying31 rfl (by kernel_rfl)) rfl ⟨rfl, T4.out.trans (touch_fill9 z.val (w.heap.size + 1) (.int .u64 (D.sh : Int)) (.int .u64 (D.sl : Int)) (.int .u64 (D.dh : Int)) (.int .u64 (D.dl : Int)) (.int .i64 D.proto) (.int .i64 D.start) (.int .i64 D.size) (.int .i64 D.off) (.bool D.more)) (by simp)⟩
    · have hln : len6 h.proto s = 8 + 8 * byteAt s 1 := by unfold len6; rw [if_neg h44]
      have d44 : (h.proto == 44) = false := by simpa using h44
      by_cases hlong : s.length < 8 + 8 * byteAt s 1
      · have efr : frag h s = h := by unfold frag; rw [if_neg h44]
        rw [(walk_long n h s hst' hs8 (by rw [hln]; exact hlong)).1, (walk_long n h s hst' hs8 (by rw [hln]; exact hlong)).2, efr]
        have dl : decide ((s.length : Int) < 8 + 8 * ((byteAt s 1 : Nat) : Int)) = true := by simp only [decide_eq_true_eq]; omega
        unfold folW at *
        unfold Hd.cells at *
        clear ho hst' IH h44 hs8 efr
        go_enter Tryd.func30, Tryd.ntmps30
        go_upto_region 1 with fail
        generalize (w.alloc (.cells #[.int .u64 (h.sh : Int), .int .u64 (h.sl : Int), .int .u64 (h.dh : Int), .int .u64 (h.dl : Int), .int .i64 h.proto, .int .i64 h.start, .int .i64 h.size, .int .i64 h.off, .bool h.more] 31)).alloc (.cells #[.int .u64 0, .int .u64 0, .int .u64 0, .int .u64 0, .int .i64 0, .int .i64 0, .int .i64 0, .int .i64 0, .bool false] 31) = w0 at *
        go_wp2_with fail
        refine (FW.out _).mono ?_
        rintro e w0 ⟨rfl, hq⟩
        subst hq
        go_wp2_with fail
        refine bodyPost_ret (ret_box_tmp rfl rfl (HB.out.fill9 (.int .u64 (h.sh : Int)) (.int .u64 (h.sl : Int)) (.int .u64 (h.dh : Int)) (.int .u64 (h.dl : Int)) (.int .i64 h.proto) (.int .i64 h.start) (.int .i64 h.size) (.int .i64 h.off) (.bool h.more)) Tryd.underlying31 rfl (by kernel_rfl)) rfl ⟨rfl, TT.out.trans (touch_fill9 w0 (w.heap.size + 1) (.int .u64 (h.sh : Int)) (.int .u64 (h.sl : Int)) (.int .u64 (h.dh : Int)) (.int .u64 (h.dl : Int)) (.int .i64 h.proto) (.int .i64 h.start) (.int .i64 h.size) (.int .i64 h.off) (.bool h.more)) (by simp)⟩
      obtain ⟨W1, W2⟩ := walk_next n h s hst' hs8 (by rw [hln]; exact hlong)
      rw [hln] at W1 W2
      have sp : step6 h s = ⟨h.sh, h.sl, h.dh, h.dl, (byteAt s 0 : Nat), h.start + (8 + 8 * ((byteAt s 1 : Nat) : Int)), h.size, h.off, h.more⟩ := by unfold step6 frag; rw [if_neg h44, hln]; first | done | rfl | (congr 1; omega)
      have dl : decide ((s.length : Int) < 8 + 8 * ((byteAt s 1 : Nat) : Int)) = false := by simp only [decide_eq_false_iff_not]; omega
      have sd : (S s).extract (8 + 8 * byteAt s 1) s.length = S (s.drop (8 + 8 * byteAt s 1)) := S_drop s _
      have hdl : (s.drop (8 + 8 * byteAt s 1)).length = s.length - (8 + 8 * byteAt s 1) := List.length_drop
      have RC : Hid (∀ w, Calls Tryd.prog 30 #[.agg (step6 h s).cells, .string (S (s.drop (8 + 8 * byteAt s 1))), .int .i64 (8 - (n : Int))] w fun e w' => e = .returned (.tuple #[.agg (walkH (n + 1) h s).cells, .int .i64 (walkE (n + 1) h s)]) ∧ Touch [] w w') := Lib.hid (fun w => by
        rw [W1, W2]
        exact IH.out (step6 h s) (s.drop (8 + 8 * byteAt s 1)) w (by rw [sp]; simp only; omega) (by rw [sp]; simp only; rw [hdl]; omega) (by rw [hdl]; omega))
      rw [sp, show (8 : Int) - (n : Int) = 7 - (n : Int) + 1 by omega] at RC
      have hi1 : 8 + 8 * ((byteAt s 1 : Nat) : Int) ≤ (s.length : Int) := by omega
      have hi3 : (8 + 8 * ((byteAt s 1 : Nat) : Int)).toNat = 8 + 8 * byteAt s 1 := by omega
      have hi4 : 8 + 8 * byteAt s 1 ≤ s.length := by omega
      generalize walkE (n + 1) h s = E at *
      generalize walkH (n + 1) h s = D at *
      unfold folW at *
      unfold Hd.cells at *
      simp only at RC
      clear W1 W2 sp ho hst' IH h44 hs8
      go_enter Tryd.func30, Tryd.ntmps30
      go_upto_region 1 with fail
      generalize (w.alloc (.cells #[.int .u64 (h.sh : Int), .int .u64 (h.sl : Int), .int .u64 (h.dh : Int), .int .u64 (h.dl : Int), .int .i64 h.proto, .int .i64 h.start, .int .i64 h.size, .int .i64 h.off, .bool h.more] 31)).alloc (.cells #[.int .u64 0, .int .u64 0, .int .u64 0, .int .u64 0, .int .i64 0, .int .i64 0, .int .i64 0, .int .i64 0, .bool false] 31) = w0 at *
      go_wp2_with fail
      refine (FW.out _).mono ?_
      rintro e w0 ⟨rfl, hq⟩
      subst hq
      go_upto_region 16 with fail
      have tw : Touch [w.heap.size] w0 ((w0.setCell ⟨w.heap.size, 4, none⟩ (.int .i64 (byteAt s 0 : Nat))).setCell ⟨w.heap.size, 5, none⟩ (.int .i64 (h.start + (8 + 8 * ((byteAt s 1 : Nat) : Int))))) := (((Touch.refl [w.heap.size] w0).setCell (a := ⟨w.heap.size, 4, none⟩) (by simp) (.int .i64 (byteAt s 0 : Nat))).setCell (a := ⟨w.heap.size, 5, none⟩) (by simp) (.int .i64 (h.start + (8 + 8 * ((byteAt s 1 : Nat) : Int)))))
      have BW : BoxV ((w0.setCell ⟨w.heap.size, 4, none⟩ (.int .i64 (byteAt s 0 : Nat))).setCell ⟨w.heap.size, 5, none⟩ (.int .i64 (h.start + (8 + 8 * ((byteAt s 1 : Nat) : Int))))) w.heap.size 31 #[.int .u64 (h.sh : Int), .int .u64 (h.sl : Int), .int .u64 (h.dh : Int), .int .u64 (h.dl : Int), .int .i64 (byteAt s 0 : Nat), .int .i64 (h.start + (8 + 8 * ((byteAt s 1 : Nat) : Int))), .int .i64 h.size, .int .i64 h.off, .bool h.more] := ((HA.out.set 4 (.int .i64 (byteAt s 0 : Nat))).set 5 (.int .i64 (h.start + (8 + 8 * ((byteAt s 1 : Nat) : Int)))))
      have CW := HB.out.carry tw (by simp)
      have TW1 := Lib.hid (TT.out.trans tw (by simp))
      clear tw HA HB TT a0 c0 a1 c1 a2 c2 a3 c3 a4 c4 a5 c5 a6 c6 a7 c7 a8 c8 f0 f1 l0 l1
      generalize ((w0.setCell ⟨w.heap.size, 4, none⟩ (.int .i64 (byteAt s 0 : Nat))).setCell ⟨w.heap.size, 5, none⟩ (.int .i64 (h.start + (8 + 8 * ((byteAt s 1 : Nat) : Int))))) = w1 at *
      have k0 : ∀ x : Cls w1, x.val.cell? ⟨w.heap.size, 0, none⟩ = some (.int .u64 (h.sh : Int)) := fun x => (BW.carry x.property (by simp)).cell 0
      have k1 : ∀ x : Cls w1, x.val.cell? ⟨w.heap.size, 1, none⟩ = some (.int .u64 (h.sl : Int)) := fun x => (BW.carry x.property (by simp)).cell 1
      have k2 : ∀ x : Cls w1, x.val.cell? ⟨w.heap.size, 2, none⟩ = some (.int .u64 (h.dh : Int)) := fun x => (BW.carry x.property (by simp)).cell 2
      have k3 : ∀ x : Cls w1, x.val.cell? ⟨w.heap.size, 3, none⟩ = some (.int .u64 (h.dl : Int)) := fun x => (BW.carry x.property (by simp)).cell 3
      have k4 : ∀ x : Cls w1, x.val.cell? ⟨w.heap.size, 4, none⟩ = some (.int .i64 (byteAt s 0 : Nat)) := fun x => (BW.carry x.property (by simp)).cell 4
      have k5 : ∀ x : Cls w1, x.val.cell? ⟨w.heap.size, 5, none⟩ = some (.int .i64 (h.start + (8 + 8 * ((byteAt s 1 : Nat) : Int)))) := fun x => (BW.carry x.property (by simp)).cell 5
      have k6 : ∀ x : Cls w1, x.val.cell? ⟨w.heap.size, 6, none⟩ = some (.int .i64 h.size) := fun x => (BW.carry x.property (by simp)).cell 6
      have k7 : ∀ x : Cls w1, x.val.cell? ⟨w.heap.size, 7, none⟩ = some (.int .i64 h.off) := fun x => (BW.carry x.property (by simp)).cell 7
      have k8 : ∀ x : Cls w1, x.val.cell? ⟨w.heap.size, 8, none⟩ = some (.bool h.more) := fun x => (BW.carry x.property (by simp)).cell 8
      have HC := Lib.hid CW
      clear CW
      refine wp_region_tail (wd := w1) 9 (by kernel_rfl) (by kernel_rfl) ((Touch.refl _ _).drew) ?_
      simp only [List.take_succ_cons, List.take_zero, List.drop_succ_cons, List.drop_zero]
      repeat (first | go_big_quiet_step ((go_at_call 30; with_reducible exact Calls.cls_at (RC.out _))) | quiet_step ((go_at_call 30; with_reducible exact Calls.cls_at (RC.out _))))
      refine wpQuiet_nil ?_
      intro z
      have B4 := HC.out.carry z.property (by simp)
      have T4 := Lib.hid (TW1.out.trans z.property (by simp))
      have r0 := B4.cell 0
      have r1 := B4.cell 1
      have r2 := B4.cell 2
      have r3 := B4.cell 3
      have r4 := B4.cell 4
      have r5 := B4.cell 5
      have r6 := B4.cell 6
      have r7 := B4.cell 7
      have r8 := B4.cell 8
      have fz := B4.fr
      have ltq := B4.lt
      have HB4 := Lib.hid B4
      clear B4 BW HC TW1 RC k0 k1 k2 k3 k4 k5 k6 k7 k8
      go_wp2_with fail
      refine bodyPost_ret (ret_box_tmp rfl rfl (HB4.out.fill9 (.int .u64 (D.sh : Int)) (.int .u64 (D.sl : Int)) (.int .u64 (D.dh : Int)) (.int .u64 (D.dl : Int)) (.int .i64 D.proto) (.int .i64 D.start) (.int .i64 D.size) (.int .i64 D.off) (.bool D.more)) Tryd.underlying31 rfl (by kernel_rfl)) rfl ⟨rfl, T4.out.trans (touch_fill9 z.val (w.heap.size + 1) (.int .u64 (D.sh : Int)) (.int .u64 (D.sl : Int)) (.int .u64 (D.dh : Int)) (.int .u64 (D.dl : Int)) (.int .i64 D.proto) (.int .i64 D.start) (.int .i64 D.size) (.int .i64 D.off) (.bool D.more)) (by simp)⟩
end Go.Proofs.YtdpaiegojioimaaDoor

/-
  Regions that draw their order, whose operations make new memory alone and may hand back fresh pointers: each operation by itself, in whatever state in which what it waits for has been done.
-/
namespace Go.Proofs.YtdpaiegojioimaaDoor
open Go.ChangeShapes Go.WideShapes Go.ChangeAt Go.RowKit Go.Deep
set_option linter.unusedVariables false

/-- A predicate on a value and a world that new memory does not disturb. -/
def Stab (φ : Value → World → Prop) : Prop := ∀ v w w', φ v w → Touch [] w w' → φ v w'
/-- What an operation has led to. -/
def RunsTo (P : Program) (φ : Value → World → Prop) (w : World) : Result Next → Prop
  | .ok (.value v) w' => φ v w' ∧ Touch [] w w'
  | .ok (.enter f args) w' => Touch [] w w' ∧ Calls P f args w' fun e w'' => ∃ v, e = .returned v ∧ φ v w'' ∧ Touch [] w' w''
  | _ => False
def Does (P : Program) (ops : Array Oper) (φ : Value → World → Prop) (o : Oper) (a : Act) (w : World) : Prop :=
  Region.wanted o (yielded ops a.tmps) = true ∧ RunsTo P φ w ((execOp a.eval o).run P w)

section
variable {P : Program} {ops : Array Oper} {Q : Exit → Act → World → Prop}
theorem Does.wpOp {i : Nat} {o : Oper} {a : Act} {w : World} {φ : Value → World → Prop} {K : Act → World → Prop} (hi : ops[i]? = some o) (h : Does P ops φ o a w) (hK : ∀ v w', φ v w' → Touch [] w w' → K (a.put o.dst v) w') :
    wpOp P ops Q i K a w := by
  unfold Go.wpOp
  simp only [hi]
  rw [if_pos h.1]
  left
  have h2 := h.2
  unfold Oper.wp
  generalize (execOp a.eval o).run P w = r at *
  cases r with
  | ok n w' =>
    cases n with
    | value v => exact hK v w' h2.1 h2.2
    | enter f args =>
      obtain ⟨t, hc⟩ := h2
      show Calls P f args w' _
      exact hc.mono fun e w'' ⟨v, he, hφ, t'⟩ => by subst he; exact hK v w'' hφ (t.trans t' (by simp))
    | _ => exact h2.elim
  | halt x w' => exact h2.elim

/-- The slots into which the region does not write are as they were. -/
def Known (ops : Array Oper) (a0 a : Act) : Prop := a.defers = a0.defers ∧ a.tmps.size = a0.tmps.size ∧ ∀ t : Nat, (∀ (j : Nat) (o : Oper), ops[j]? = some o → o.dst ≠ some t) → a.tmps[t]? = a0.tmps[t]?
/-- What operation j has left. -/
def Has (ops : Array Oper) (Φ : Nat → Value → World → Prop) (a : Act) (w : World) (j : Nat) : Prop := ∀ (o : Oper) (d : Tmp), ops[j]? = some o → o.dst = some d → ∃ v, a.tmps[d]? = some v ∧ Φ j v w

theorem all_listed {listed : Array Bool} (hacy : ∀ (i : Nat) (o : Oper) (e : Edge), ops[i]? = some o → e ∈ o.after → Region.binds .any e = true → e.on < i) (hs : listed.size = ops.size) (h0 : Region.ready .any ops listed = []) :
    ∀ i, i < ops.size → listed.getD i false = true := by
  intro i
  induction i using Nat.strongRecOn with
  | _ i ih =>
    intro hi
    have hil : i < listed.size := by omega
    by_cases hl : listed.getD i true = false
    · exfalso
      have hm : i ∈ Region.ready .any ops listed := by
        refine mem_ready.2 ⟨hl, ops[i], Array.getElem?_eq_getElem hi, fun e he hb => ?_⟩
        have hlt := hacy i _ e (Array.getElem?_eq_getElem hi) he hb
        exact ih e.on hlt (by omega)
      rw [h0] at hm
      cases hm
    · simp only [Array.getD_eq_getD_getElem?, Array.getElem?_eq_getElem hil, Option.getD_some] at hl ⊢
      cases hx : listed[i]
      · exact absurd hx hl
      · rfl
theorem none_ready {listed : Array Bool} (h : ∀ i, i < ops.size → listed.getD i false = true) : Region.ready .any ops listed = [] := by
  rw [List.eq_nil_iff_forall_not_mem]
  intro j hj
  obtain ⟨h1, o, ho, _⟩ := mem_ready.1 hj
  have hlt : j < ops.size := (Array.getElem?_eq_some_iff.1 ho).1
  have h2 := h j hlt
  simp only [Array.getD_eq_getD_getElem?] at h1 h2
  cases hx : listed[j]? with
  | none => rw [hx] at h2; simp at h2
  | some b => rw [hx] at h1 h2; simp at h1 h2; rw [h1] at h2; cases h2

theorem wpAny_phi {a0 : Act} {wd : World} {Φ : Nat → Value → World → Prop} (hst : ∀ j, Stab (Φ j)) (hdst : ∀ (i j : Nat) (o o' : Oper) (d : Tmp), ops[i]? = some o → ops[j]? = some o' → o.dst = some d → o'.dst = some d → i = j)
    (hin : ∀ (i : Nat) (o : Oper) (d : Tmp), ops[i]? = some o → o.dst = some d → d < a0.tmps.size) (hacy : ∀ (i : Nat) (o : Oper) (e : Edge), ops[i]? = some o → e ∈ o.after → Region.binds .any e = true → e.on < i)
    (hop : ∀ (i : Nat) (o : Oper), ops[i]? = some o → ∀ a w, Touch [] wd w → Known ops a0 a → (∀ e ∈ o.after, Region.binds .any e = true → Has ops Φ a w e.on) → Does P ops (Φ i) o a w)
    (hend : ∀ a w, Touch [] wd w → Known ops a0 a → (∀ j, j < ops.size → Has ops Φ a w j) → Q .normal a w) :
    ∀ (fuel : Nat) (listed : Array Bool) (a : Act) (w : World), listed.size = ops.size → listed.toList.count false ≤ fuel → Touch [] wd w → Known ops a0 a → (∀ j, listed.getD j false = true → Has ops Φ a w j) → wpAny P .any ops Q fuel listed a w := by
  intro fuel
  induction fuel with
  | zero =>
    intro listed a w hs hc ht hk hh
    have hall : ∀ i, i < ops.size → listed.getD i false = true := by
      intro i hi
      have hil : i < listed.size := by omega
      have h0 : listed.toList.count false = 0 := by omega
      rw [List.count_eq_zero] at h0
      simp only [Array.getD_eq_getD_getElem?, Array.getElem?_eq_getElem hil, Option.getD_some]
      cases hx : listed[i]
      · exact absurd (by rw [← hx]; simp) h0
      · rfl
    exact ⟨none_ready hall, hend a w ht hk fun j hj => hh j (hall j hj)⟩
  | succ fuel ih =>
    intro listed a w hs hc ht hk hh
    refine ⟨fun h0 => hend a w ht hk fun j hj => hh j (all_listed hacy hs h0 j hj), fun i hi => ?_⟩
    obtain ⟨hun, o, ho, hall⟩ := mem_ready.1 hi
    have hlt : i < ops.size := (Array.getElem?_eq_some_iff.1 ho).1
    have hil : i < listed.size := by omega
    have hif : listed[i] = false := by simpa [Array.getD_eq_getD_getElem?, Array.getElem?_eq_getElem hil] using hun
    refine Does.wpOp ho (hop i o ho a w ht hk fun e he hb => hh e.on (hall e he hb)) fun v w' hφ t => ?_
    refine ih _ _ _ (by simpa using hs) ?_ (ht.trans t (by simp)) ?_ ?_
    · rw [Array.toList_setIfInBounds, List.count_set (by simpa using hil)]
      have : listed.toList[i]'(by simpa using hil) = false := by simpa using hif
      rw [this]
      have hpos : 0 < listed.toList.count false := List.count_pos_iff.2 (by rw [← this]; simp)
      have e1 : (if (false == false) = true then 1 else 0 : Nat) = 1 := rfl
      have e2 : (if (true == false) = true then 1 else 0 : Nat) = 0 := rfl
      rw [e1, e2]
      omega
    · obtain ⟨k1, k2, k3⟩ := hk
      cases hd : o.dst with
      | none => exact ⟨k1, k2, k3⟩
      | some d =>
        refine ⟨k1, by simp [Act.put, k2], fun q hq => ?_⟩
        have hne : d ≠ q := fun e => hq i o ho (by rw [hd, e])
        simp only [Act.put]
        rw [Array.getElem?_setIfInBounds_ne hne]
        exact k3 q hq
    · intro j hj o' d' ho' hd'
      by_cases e : j = i
      · subst e
        obtain rfl : o = o' := by rw [ho] at ho'; simpa using ho'
        refine ⟨v, ?_, hφ⟩
        rw [hd']
        have := hin j o d' ho hd'
        simp [Act.put, hk.2.1, this]
      · have hjl : listed.getD j false = true := by
          simp only [Array.getD_eq_getD_getElem?] at hj ⊢
          rwa [Array.getElem?_setIfInBounds_ne (fun h => e h.symm)] at hj
        obtain ⟨u, hu, hΦ⟩ := hh j hjl o' d' ho' hd'
        refine ⟨u, ?_, hst j u w w' hΦ t⟩
        cases hd : o.dst with
        | none => exact hu
        | some d =>
          have hne : d ≠ d' := fun e2 => e (hdst j i o' o d' ho' ho hd' (by rw [hd, e2]))
          simp only [Act.put]
          rw [Array.getElem?_setIfInBounds_ne hne]
          exact hu

/-- The conditions on a region's slots and edges, as one Bool. -/
def phiB (ops : Array Oper) (n : Nat) : Bool :=
  (List.range ops.size).all fun i => match ops[i]? with
    | none => true
    | some o => (o.after.all fun e => !Region.binds .any e || decide (e.on < i)) && (match o.dst with
      | none => true
      | some d => decide (d < n) && (List.range ops.size).all fun j => (j == i) || (match ops[j]? with | none => true | some o' => o'.dst != some d))
theorem phiB_spec {n : Nat} (h : phiB ops n = true) :
    (∀ (i j : Nat) (o o' : Oper) (d : Tmp), ops[i]? = some o → ops[j]? = some o' → o.dst = some d → o'.dst = some d → i = j) ∧ (∀ (i : Nat) (o : Oper) (d : Tmp), ops[i]? = some o → o.dst = some d → d < n) ∧ (∀ (i : Nat) (o : Oper) (e : Edge), ops[i]? = some o → e ∈ o.after → Region.binds .any e = true → e.on < i) := by
  unfold phiB at h
  rw [List.all_eq_true] at h
  have key : ∀ (i : Nat) (o : Oper), ops[i]? = some o → (o.after.all fun e => !Region.binds .any e || decide (e.on < i)) = true ∧ (match o.dst with
      | none => true
      | some d => decide (d < n) && (List.range ops.size).all fun j => (j == i) || (match ops[j]? with | none => true | some o' => o'.dst != some d)) = true := fun i o ho => by
    have := h i (List.mem_range.2 (Array.getElem?_eq_some_iff.1 ho).1)
    simp only [ho, Bool.and_eq_true] at this
    exact this
  refine ⟨fun i j o o' d ho ho' hd hd' => ?_, fun i o d ho hd => ?_, fun i o e ho he hb => ?_⟩
  · have := (key i o ho).2
    simp only [hd, Bool.and_eq_true, List.all_eq_true] at this
    have := this.2 j (List.mem_range.2 (Array.getElem?_eq_some_iff.1 ho').1)
    simp only [ho', hd', Bool.or_eq_true, beq_iff_eq, bne_self_eq_false, Bool.false_eq_true, or_false] at this
    exact this.symm
  · have := (key i o ho).2
    simp only [hd, Bool.and_eq_true, decide_eq_true_eq] at this
    exact this.1
  · have := (key i o ho).1
    rw [Array.all_eq_true'] at this
    have := this e he
    simpa [hb] using this

/-- A region that draws its order, by what each operation leaves. -/
theorem wp_region_phi {id : Nat} {a0 : Act} {w wd : World} {Φ : Nat → Value → World → Prop} (hm : P.follows .mixedOrders = true) (hB : phiB ops a0.tmps.size = true) (hw : Touch [] wd w.drew) (hst : ∀ j, Stab (Φ j))
    (hop : ∀ (i : Nat) (o : Oper), ops[i]? = some o → ∀ a w, Touch [] wd w → Known ops a0 a → (∀ e ∈ o.after, Region.binds .any e = true → Has ops Φ a w e.on) → Does P ops (Φ i) o a w)
    (hend : ∀ a w, Touch [] wd w → Known ops a0 a → (∀ j, j < ops.size → Has ops Φ a w j) → Q .normal a w) : (Code.region id ops true).wp P Q a0 w := by
  obtain ⟨h1, h2, h3⟩ := phiB_spec hB
  refine wp_region_any hm (wpAny_phi hst h1 h2 h3 hop hend ops.size (Array.replicate ops.size false) a0 _ (by simp) (by simp) hw ⟨rfl, rfl, fun _ _ => rfl⟩ (fun j hj => ?_))
  simp only [Array.getD_eq_getD_getElem?] at hj
  rcases Nat.lt_or_ge j ops.size with hlt | hge
  · simp [hlt] at hj
  · simp [Array.getElem?_eq_none (show (Array.replicate ops.size false).size ≤ j by simpa using hge)] at hj
end
end Go.Proofs.YtdpaiegojioimaaDoor

/-
  Regions that draw their order, of this form: operations that read or call what makes new memory alone; new blocks, each for a variable of its own; then a forced tail (the stores into them). One walk in the order of the text, whichever order is drawn.
-/
namespace Go.Proofs.YtdpaiegojioimaaDoor
open Go.ChangeShapes Go.WideShapes Go.ChangeAt Go.RowKit Go.Deep
set_option linter.unusedVariables false

/-- A new block among a region's operations: which operation, the slot that it fills, its type, its cells. -/
structure Alc where
  idx : Nat
  dst : Tmp
  ty : TypeId
  zero : Array Value
def ptrV (b : Nat) : Value := .pointer (some ⟨b, 0, none⟩)

section
variable {P : Program} {ops : Array Oper} {Q : Exit → Act → World → Prop}

theorem exec_same {o : Oper} {a b : Act} (hs : ∀ cs c, o.op ≠ .select cs c) (h : ∀ t ∈ o.looksAt ops, a.tmps[t]? = b.tmps[t]?) : execOp a.eval o = execOp b.eval o :=
  execOp_congr o hs fun x hx => by
    cases x with
    | tmp t =>
      have := h t (List.mem_append_left _ (List.mem_filterMap.2 ⟨.tmp t, by simpa using hx, rfl⟩))
      simp [Act.eval, this]
    | _ => rfl

def dsts (l : List Oper) : List Tmp := l.filterMap (·.dst)
theorem put_ne (a : Act) (dst : Option Tmp) (v : Value) (t : Nat) (h : dst ≠ some t) : (a.put dst v).tmps[t]? = a.tmps[t]? := by
  cases dst with
  | none => rfl
  | some d => simp only [Act.put]; exact Array.getElem?_setIfInBounds_ne (fun e => h (by rw [e]))
theorem put_eq (a : Act) (d : Tmp) (v : Value) (h : d < a.tmps.size) : (a.put (some d) v).tmps[d]? = some v := by simp [Act.put, h]
theorem put_size (a : Act) (dst : Option Tmp) (v : Value) : (a.put dst v).tmps.size = a.tmps.size := by cases dst <;> simp [Act.put]
theorem put_defers (a : Act) (dst : Option Tmp) (v : Value) : (a.put dst v).defers = a.defers := by cases dst <;> rfl

/-- What a walk in the order of the text says of each operation. -/
theorem walk_at {C : World → Prop} {aF : Act} : ∀ (l : List Oper) (a : Act), (∀ o ∈ l, o.guard = none) → (dsts l).Nodup → (∀ d ∈ dsts l, d < a.tmps.size) → wpQuiet P ops C (fun a' => a' = aF) l a →
    (a.defers = aF.defers ∧ a.tmps.size = aF.tmps.size ∧ ∀ t, t ∉ dsts l → a.tmps[t]? = aF.tmps[t]?) ∧
    ∀ (j : Nat) (o : Oper), l[j]? = some o → ∃ (aj : Act) (v : Value), (∀ t, t ∉ dsts (l.drop j) → aj.tmps[t]? = aF.tmps[t]?) ∧ (∀ w, C w → o.quietAt P aj C w v) ∧ ∀ d, o.dst = some d → aF.tmps[d]? = some v
  | [], a, _, _, _, h => by
    have h : a = aF := h
    subst h
    exact ⟨⟨rfl, rfl, fun _ _ => rfl⟩, fun j o ho => by simp at ho⟩
  | o :: l, a, hg, hn, hb, h => by
    have hw : Region.wanted o (yielded ops a.tmps) = true := by unfold Region.wanted; rw [hg o (by simp)]
    simp only [wpQuiet, hw, if_true] at h
    obtain ⟨v, h1, h2⟩ := h
    have hn' : (dsts l).Nodup := by
      unfold dsts at hn ⊢
      cases hd : o.dst with
      | none => simpa [hd] using hn
      | some d => simp only [List.filterMap_cons, hd] at hn; exact (List.nodup_cons.1 hn).2
    have hsub : ∀ d ∈ dsts l, d ∈ dsts (o :: l) := by
      intro d hd
      unfold dsts at hd ⊢
      cases ho : o.dst with
      | none => simpa [ho] using hd
      | some e => simp only [List.filterMap_cons, ho]; exact List.mem_cons_of_mem _ hd
    have hself : ∀ d, o.dst = some d → d ∈ dsts (o :: l) ∧ d ∉ dsts l := by
      intro d hd
      unfold dsts at hn ⊢
      simp only [List.filterMap_cons, hd] at hn ⊢
      exact ⟨List.mem_cons_self, (List.nodup_cons.1 hn).1⟩
    obtain ⟨⟨i1, i2, i3⟩, ih⟩ := walk_at l (a.put o.dst v) (fun o' ho' => hg o' (List.mem_cons_of_mem _ ho')) hn' (fun d hd => by rw [put_size]; exact hb d (hsub d hd)) h2
    have first : a.defers = aF.defers ∧ a.tmps.size = aF.tmps.size ∧ ∀ t, t ∉ dsts (o :: l) → a.tmps[t]? = aF.tmps[t]? := by
      refine ⟨by rw [← i1, put_defers], by rw [← i2, put_size], fun t ht => ?_⟩
      rw [← i3 t (fun hm => ht (hsub t hm)), put_ne]
      intro e
      exact ht (hself t e).1
    refine ⟨first, fun j o' ho' => ?_⟩
    cases j with
    | zero =>
      simp only [List.getElem?_cons_zero, Option.some.injEq] at ho'
      subst ho'
      refine ⟨a, v, first.2.2, h1, fun d hd => ?_⟩
      rw [← i3 d (hself d hd).2, hd]
      exact put_eq a d v (hb d (hself d hd).1)
    | succ j => exact ih j o' (by simpa using ho')

/-- The conditions on such a region, as one Bool: n operations that read or call, then the new blocks K, then the tail. -/
def freshB (ops : Array Oper) (n N size : Nat) (K : List (Nat × Tmp)) : Bool :=
  Region.noSelect ops && decide (n ≤ N) && decide (N < ops.size) &&
  ((List.range N).all fun i => match ops[i]? with
    | none => false
    | some o => o.guard.isNone && (o.after.all fun e => !Region.binds .any e || decide (e.on < i)) && (match o.dst with | none => decide (i < n) | some d => decide (d < size)) &&
      (decide (n ≤ i) || (o.looksAt ops).all fun t => (List.range N).all fun j => match ops[j]? with
        | none => true
        | some o' => (o'.dst != some t) || (decide (j < i) && decide (j < n) && Region.waitsFor .any ops i j)) &&
      ((List.range N).all fun j => (j == i) || (match ops[j]? with | none => true | some o' => (o.dst == none) || (o'.dst != o.dst))) &&
      (decide (i < n) || (K.any fun k => k.1 == i && o.dst == some k.2))) &&
  (K.all fun k => decide (n ≤ k.1) && decide (k.1 < N)) &&
  decide (dsts (ops.toList.take n)).Nodup &&
  (Region.sinkB .any ops N && Region.chainB .any ops N) &&
  Region.seqB .any ops (ops.size - N) N ((Array.range ops.size).map fun i => decide (i < N))

theorem wanted_of {o : Oper} {a : Act} (h : o.guard = none) : Region.wanted o (yielded ops a.tmps) = true := by unfold Region.wanted; rw [h]
theorem getD_of {s : Array Bool} {i : Nat} (hi : i < s.size) (b : Bool) : s.getD i b = s[i] := by simp [hi]

theorem all_heads {N : Nat} {s : Array Bool} (hacy : ∀ (i : Nat) (o : Oper), i < N → ops[i]? = some o → ∀ e ∈ o.after, Region.binds .any e = true → e.on < i) (hN : N ≤ ops.size) (hs : s.size = ops.size) (h0 : Region.ready .any ops s = []) :
    ∀ i, i < N → s.getD i false = true := by
  intro i
  induction i using Nat.strongRecOn with
  | _ i ih =>
    intro hi
    have hil : i < s.size := by omega
    have hio : i < ops.size := by omega
    by_cases hl : s.getD i true = false
    · exfalso
      have hm : i ∈ Region.ready .any ops s := by
        refine mem_ready.2 ⟨hl, ops[i], Array.getElem?_eq_getElem hio, fun e he hb => ?_⟩
        have hlt := hacy i _ hi (Array.getElem?_eq_getElem hio) e he hb
        exact ih e.on hlt (by omega)
      rw [h0] at hm
      cases hm
    · rw [getD_of hil] at hl ⊢
      cases hx : s[i]
      · exact absurd hx hl
      · rfl
end
end Go.Proofs.YtdpaiegojioimaaDoor
