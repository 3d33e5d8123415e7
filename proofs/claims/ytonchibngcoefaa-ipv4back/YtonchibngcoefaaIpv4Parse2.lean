/-
  Layer 11 (ipv4): what Parse's own functions read.
-/
import Derived.Test.YtonchibngcoefaaIpv4Parse
namespace Go.Proofs.Ytonchibngcoefaa
open Go.ChangeShapes Go.WideShapes Go.ChangeAt Go.RowKit Go.Deep
set_option linter.unusedVariables false
set_option linter.unusedSimpArgs false

theorem num_two (L : List UInt8) (k : Nat) (h : k + 2 ≤ L.length) : num ((L.drop k).take 2) = twoA L k := by
  have e : (L.drop k).take 2 = [L[k], L[k + 1]] := by
    apply List.ext_getElem
    · rw [List.length_take, List.length_drop]; simp; omega
    · intro i h1 h2
      simp at h2
      rcases (show i = 0 ∨ i = 1 by omega) with rfl | rfl <;> simp
  rw [e]
  unfold twoA
  rw [byteAt_in L k (by omega), byteAt_in L (k + 1) (by omega)]
  simp [num]
section
variable {w : World} {p : Nat} {L : List UInt8} {k : Nat}
set_option maxRecDepth 100000 in
theorem next16 (h : At w p (L.drop k)) (n : Nat) (hn : k + n + 2 ≤ L.length) (hl : L.length ≤ 100000) :
    Calls Try.prog 56 #[.pointer (some ⟨p, 0, none⟩), .int .i64 (n : Int), .func (.func 29) #[] #[]] w (Reads p w (.int .i64 (twoA L (k + n) : Nat)) (L.drop (k + n + 2))) := by
  have T := Lib.hid (take_ok h n (by rw [List.length_drop]; omega) (by rw [List.length_drop]; omega))
  clear h
  go_enter Try.func56, Try.ntmps56
  go_wp2_with fail
  refine (T.out).mono ?_
  rintro e w1 ⟨rfl, a1, t1⟩
  rw [List.drop_drop] at a1
  have U := Lib.hid (u16_any a1 (by rw [List.length_drop]; omega))
  have T1 := Lib.hid t1
  clear a1 t1
  go_wp2_with fail
  refine (U.out).mono ?_
  intro e w2 hj
  obtain ⟨rfl, a2, t2⟩ := hj.1 (by rw [List.length_drop]; omega)
  rw [List.drop_drop] at a2
  rw [num_two L (k + n) (by omega)]
  have F := Lib.hid (And.intro a2 (T1.out.trans t2 (fun b hb => Or.inl hb)))
  clear a2 t2 hj
  go_wp2_with fail
  go_ret
  exact ⟨rfl, F.out⟩
set_option maxRecDepth 100000 in
theorem next8 (h : At w p (L.drop k)) (n : Nat) (hn : k + n + 1 ≤ L.length) (hl : L.length ≤ 100000) :
    Calls Try.prog 56 #[.pointer (some ⟨p, 0, none⟩), .int .i64 (n : Int), .func (.func 32) #[] #[]] w (Reads p w (.int .i64 (byteAt L (k + n) : Nat)) (L.drop (k + n + 1))) := by
  have T := Lib.hid (take_ok h n (by rw [List.length_drop]; omega) (by rw [List.length_drop]; omega))
  clear h
  go_enter Try.func56, Try.ntmps56
  go_wp2_with fail
  refine (T.out).mono ?_
  rintro e w1 ⟨rfl, a1, t1⟩
  rw [List.drop_drop] at a1
  rw [List.drop_eq_getElem_cons (show k + n < L.length by omega)] at a1
  have U := Lib.hid (u8_ok a1 (by rw [List.length_drop]; omega))
  rw [← byteAt_in L (k + n) (by omega)] at U
  have T1 := Lib.hid t1
  clear a1 t1
  go_wp2_with fail
  refine (U.out).mono ?_
  rintro e w2 ⟨rfl, a2, t2⟩
  have F := Lib.hid (And.intro a2 (T1.out.trans t2 (fun b hb => Or.inl hb)))
  clear a2 t2
  go_wp2_with fail
  go_ret
  exact ⟨rfl, F.out⟩
theorem of_four (m : List UInt8) (hm : m.length = 4) : hiA m = 0 ∧ loA m = num m ∧ verA m = 4 ∧ okA m = true := by
  refine ⟨?_, ?_, ?_, ?_⟩
  · unfold hiA; rw [if_neg (by omega)]
  · unfold loA; rw [if_pos hm]
  · unfold verA; rw [if_pos hm]
  · unfold okA; simp [hm]
set_option maxRecDepth 100000 in
theorem address11 (h : At w p (L.drop k)) (hk : k + 4 ≤ L.length) (hl : L.length ≤ 100000) :
    Calls Try.prog 57 #[.pointer (some ⟨p, 0, none⟩)] w (Reads p w (av 0 (num ((L.drop k).take 4))) (L.drop (k + 4))) := by
  have lt := h.lt
  have hA : At (w.alloc (.cells #[.int .u64 0, .int .u64 0] 44)) p (L.drop k) := h.carry ((Touch.refl [] w).alloc _) (by simp)
  have T := Lib.hid (take_ok hA 4 (by rw [List.length_drop]; omega) (by rw [List.length_drop]; omega))
  have m1 : ((L.drop k).take 4).length = 4 := by rw [List.length_take, List.length_drop]; omega
  have O := fun w => of10 ((L.drop k).take 4) (by omega) w
  rw [(of_four _ m1).1, (of_four _ m1).2.1, (of_four _ m1).2.2.1, (of_four _ m1).2.2.2] at O
  unfold av at *
  have O := Lib.hid O
  have B0 := Lib.hid (BoxV.new w 44 #[.int .u64 0, .int .u64 0])
  have T0 := Lib.hid ((Touch.refl [p] w).alloc (.cells #[.int .u64 0, .int .u64 0] 44))
  clear h hA m1
  generalize num ((L.drop k).take 4) = n at *
  generalize (L.drop k).take 4 = q at *
  go_enter Try.func57, Try.ntmps57
  go_wp2_with fail
  refine (T.out).mono ?_
  rintro e w1 ⟨rfl, a1, t1⟩
  rw [List.drop_drop] at a1
  have B1 := Lib.hid (B0.out.carry t1 (by simp; omega))
  have T1 := Lib.hid (T0.out.trans t1 (fun b hb => Or.inl hb))
  have A1 := Lib.hid a1
  clear a1 t1 T0 B0
  go_wp2_with fail
  refine (O.out _).mono ?_
  rintro e w2 ⟨rfl, t2⟩
  have C2 := BoxV.new w2 44 #[.int .u64 0, .int .u64 (n : Int)]
  have B2 := (B1.out.carry t2 (by simp)).carry ((Touch.refl [] w2).alloc (.cells #[.int .u64 0, .int .u64 (n : Int)] 44)) (by simp)
  have T2 := Lib.hid ((T1.out.trans t2 (by simp)).alloc (.cells #[.int .u64 0, .int .u64 (n : Int)] 44))
  have A2 := Lib.hid ((A1.out.carry t2 (by simp)).carry ((Touch.refl [] w2).alloc (.cells #[.int .u64 0, .int .u64 (n : Int)] 44)) (by simp))
  have c0 := C2.cell 0
  have c1 := C2.cell 1
  have b0 := B2.cell 0
  have b1 := B2.cell 1
  have fz := B2.fr
  have lb := B2.lt
  have HB := Lib.hid B2
  clear t2 C2 B2 T1 A1
  go_wp2_with fail
  have Z : BoxV _ _ 44 #[.int .u64 0, .int .u64 (n : Int)] := (HB.out.set 0 (.int .u64 0)).set 1 (.int .u64 (n : Int))
  refine bodyPost_ret (ret_box rfl rfl Z Try.underlying44 rfl (by kernel_rfl)) rfl ⟨rfl, ?_, ?_⟩
  · have tt : Touch [w.heap.size] (w2.alloc (.cells #[.int .u64 0, .int .u64 (n : Int)] 44)) _ := ((Touch.refl _ _).setCell (a := ⟨w.heap.size, 0, none⟩) (by simp) (.int .u64 0)).setCell (a := ⟨w.heap.size, 1, none⟩) (by simp) (.int .u64 (n : Int))
    exact A2.out.carry tt (by simp; omega)
  · exact (T2.out.setCell (by simp) _).setCell (by simp) _
end

theorem and4 (t : Nat) (h : t < 9223372036854775808) : bits .and .i64 (t : Int) 15 = ((t % 16 : Nat) : Int) := by
  have e1 : (BitVec.ofInt 64 (t : Int)).toNat = t := by rw [BitVec.ofInt_natCast, BitVec.toNat_ofNat]; exact Nat.mod_eq_of_lt (by omega)
  have e2 : (BitVec.ofInt 64 (15 : Int)).toNat = 15 := rfl
  show IntKind.i64.wrap ((BitVec.ofInt 64 (t : Int) &&& BitVec.ofInt 64 (15 : Int)).toNat : Int) = _
  rw [BitVec.toNat_and, e1, e2, show t &&& 15 = t % 16 from Nat.and_two_pow_sub_one_eq_mod _ 4, IntKind.wrap_i64]
  omega
theorem and_bit13 (t : Nat) (h : t ≤ 65535) : (bits .and .i64 (t : Int) 8192 != 0) = decide (t / 8192 % 2 = 1) := by
  have e1 : (BitVec.ofInt 64 (t : Int)).toNat = t := by rw [BitVec.ofInt_natCast, BitVec.toNat_ofNat]; exact Nat.mod_eq_of_lt (by omega)
  have e2 : (BitVec.ofInt 64 (8192 : Int)).toNat = 8192 := rfl
  have e3 : t &&& 8192 = t / 8192 % 2 * 8192 := by
    have k : t.testBit 13 = decide (t / 8192 % 2 = 1) := by rw [Nat.testBit_eq_decide_div_mod_eq]
    apply Nat.eq_of_testBit_eq
    intro i
    rw [Nat.testBit_and, show (8192 : Nat) = 2 ^ 13 from rfl, Nat.testBit_two_pow]
    by_cases hi : 13 = i
    · subst hi
      rcases (show t / 8192 % 2 = 0 ∨ t / 8192 % 2 = 1 by omega) with h0 | h0
      · rw [k, h0]; simp [h0]
      · rw [k, h0]; simp [h0]; decide
    · rcases (show t / 8192 % 2 = 0 ∨ t / 8192 % 2 = 1 by omega) with h0 | h0
      · simp [h0, hi]
      · rw [show t / 2 ^ 13 % 2 = 1 from h0, Nat.one_mul, Nat.testBit_two_pow]; simp [hi]
  have e4 : bits .and .i64 (t : Int) 8192 = ((t / 8192 % 2 * 8192 : Nat) : Int) := by
    show IntKind.i64.wrap ((BitVec.ofInt 64 (t : Int) &&& BitVec.ofInt 64 (8192 : Int)).toNat : Int) = _
    rw [BitVec.toNat_and, e1, e2, e3, IntKind.wrap_i64]
    omega
  rw [e4]
  rcases (show t / 8192 % 2 = 0 ∨ t / 8192 % 2 = 1 by omega) with h0 | h0 <;> simp [h0]

/-- What Parse's function finds: the bytes from a place on, all the bytes, and where the header goes. -/
structure Prs (w : World) (p b1 b2 : Nat) (L : List UInt8) (k : Nat) : Prop where
  rd : At w p (L.drop k)
  s : Box1 w b1 9 (.string (S L))
  h : BoxV w b2 51 #[.int .u64 0, .int .u64 0, .int .u64 0, .int .u64 0, .int .i64 0, .int .i64 0, .int .i64 0, .int .i64 0, .bool false]
  n1 : b1 ≠ p
  n2 : b2 ≠ p
theorem Prs.go {w w' : World} {p b1 b2 : Nat} {L : List UInt8} {k j : Nat} (h : Prs w p b1 b2 L k) (a : At w' p (L.drop j)) (t : Touch [p] w w') : Prs w' p b1 b2 L j :=
  ⟨a, h.s.carry t (by simpa using h.n1), h.h.carry t (by simpa using h.n2), h.n1, h.n2⟩
/-- What it leaves. -/
def Parsed (w : World) (p b2 : Nat) (L : List UInt8) (e : Ending) (w' : World) : Prop :=
  (errP L = 0 → e = .returned (.tuple #[]) ∧ BoxV w' b2 51 (wholeP L).cells ∧ Touch [p, b2] w w') ∧ (errP L ≠ 0 → Fails p w (errP L) e w')

set_option maxHeartbeats 2000000 in
set_option maxRecDepth 100000 in
theorem parse1 {w : World} {p b1 b2 : Nat} {L : List UInt8} (h : Prs w p b1 b2 L 0) (hl : L.length ≤ 100000) :
    Calls Try.prog 55 #[.pointer (some ⟨p, 0, none⟩), .pointer (some ⟨b1, 0, none⟩), .pointer (some ⟨b2, 0, none⟩)] w (Parsed w p b2 L) := by
  have hss : (S L).size = L.length := S_size L
  have N := Lib.hid (need_yes)
  have M := Lib.hid (fun k hk w => need_no p k hk w)
  have c1 := h.s.c0
  have H := Lib.hid h
  clear h
  by_cases h20 : L.length < 20
  · have e1 : errP L = 5 := by unfold errP; rw [if_pos h20]
    have d20 : decide (20 ≤ (L.length : Int)) = false := by simp; omega
    have d20' : ¬ (20 ≤ (L.length : Int)) := by omega
    go_enter Try.func55, Try.ntmps55
    go_wp2_with fail
    refine (M.out 5 (by decide) _).mono ?_
    rintro e w3 ⟨rfl, rfl⟩
    refine ⟨rfl, fun h => absurd (e1.symm.trans h) (by decide), fun _ => ?_⟩
    rw [e1]
    exact ⟨rfl, Touch.refl _ _⟩
  have d20 : decide (20 ≤ (L.length : Int)) = true := by simp; omega
  have d20' : 20 ≤ (L.length : Int) := by omega
  go_enter Try.func55, Try.ntmps55
  go_wp2_with fail
  refine (N.out _ _ _).mono ?_
  rintro e w0 ⟨rfl, hq⟩
  subst hq
  have S1 : Hid _ := Lib.hid (next8 H.out.rd 0 (by omega) hl)
  go_wp2_with fail
  refine (S1.out).mono ?_
  rintro e w1 ⟨rfl, a1, t1⟩
  have H1 := Lib.hid (H.out.go a1 t1)
  have T1 := Lib.hid t1
  clear a1 t1 c1 H
  have S2 := Lib.hid (next16 H1.out.rd 1 (by omega) hl)
  go_wp2_with fail
  refine (S2.out).mono ?_
  rintro e w2 ⟨rfl, a2, t2⟩
  have H2 := Lib.hid (H1.out.go a2 t2)
  have T2 := Lib.hid (T1.out.trans t2 (fun b hb => Or.inl hb))
  clear a2 t2 H1 T1
  have S3 := Lib.hid (next16 H2.out.rd 2 (by omega) hl)
  go_wp2_with fail
  refine (S3.out).mono ?_
  rintro e w3 ⟨rfl, a3, t3⟩
  have H3 := Lib.hid (H2.out.go a3 t3)
  have T3 := Lib.hid (T2.out.trans t3 (fun b hb => Or.inl hb))
  clear a3 t3 H2 T2
  have S4 := Lib.hid (next8 H3.out.rd 1 (by omega) hl)
  go_wp2_with fail
  refine (S4.out).mono ?_
  rintro e w4 ⟨rfl, a4, t4⟩
  have H4 := Lib.hid (H3.out.go a4 t4)
  have T4 := Lib.hid (T3.out.trans t4 (fun b hb => Or.inl hb))
  clear a4 t4 H3 T3
  have S5 := Lib.hid (take_ok H4.out.rd 2 (by rw [List.length_drop]; omega) (by rw [List.length_drop]; omega))
  go_wp2_with fail
  refine (S5.out).mono ?_
  rintro e w5 ⟨rfl, a5, t5⟩
  rw [List.drop_drop] at a5
  have H5 := Lib.hid (H4.out.go a5 t5)
  have T5 := Lib.hid (T4.out.trans t5 (fun b hb => Or.inl hb))
  clear a5 t5 H4 T4
  have S6 := Lib.hid (address11 H5.out.rd (by omega) hl)
  unfold av at S6
  go_wp2_with fail
  refine (S6.out).mono ?_
  rintro e w6 ⟨rfl, a6, t6⟩
  have H6 := Lib.hid (H5.out.go a6 t6)
  have T6 := Lib.hid (T5.out.trans t6 (fun b hb => Or.inl hb))
  clear a6 t6 H5 T5
  have S7 := Lib.hid (address11 H6.out.rd (by omega) hl)
  unfold av at S7
  go_wp2_with fail
  refine (S7.out).mono ?_
  rintro e w7 ⟨rfl, a7, t7⟩
  have H7 := Lib.hid (H6.out.go a7 t7)
  have T7 := Lib.hid (T6.out.trans t7 (fun b hb => Or.inl hb))
  clear a7 t7 H6 T6 S1 S2 S3 S4 S5 S6 S7
  have hb := byteAt_lt L 0
  have h2 := twoA_le L 2
  have h6' := twoA_le L 6
  have an := and4 (byteAt L 0) (by omega)
  have hst : ((byteAt L 0 : Nat) : Int) % 16 * 4 = ((startP L : Nat) : Int) := by unfold startP; omega
  have hsp : startP L ≤ 60 := by unfold startP; omega
  rw [show ((byteAt L 0 % 16 : Nat) : Int) = ((byteAt L 0 : Nat) : Int) % 16 by omega] at an
  go_wp2_with fail
  have H8 := Lib.hid (H7.out.go (H7.out.rd.carry (((Touch.refl [] w7).alloc (.cells #[.int .u64 0, .int .u64 (num ((L.drop 12).take 4) : Nat)] 44)).alloc (.cells #[.int .u64 0, .int .u64 (num ((L.drop 16).take 4) : Nat)] 44)) (by simp)) (((Touch.refl [p] w7).alloc (.cells #[.int .u64 0, .int .u64 (num ((L.drop 12).take 4) : Nat)] 44)).alloc (.cells #[.int .u64 0, .int .u64 (num ((L.drop 16).take 4) : Nat)] 44)))
  have T8 := Lib.hid ((T7.out.alloc (.cells #[.int .u64 0, .int .u64 (num ((L.drop 12).take 4) : Nat)] 44)).alloc (.cells #[.int .u64 0, .int .u64 (num ((L.drop 16).take 4) : Nat)] 44))
  have X0 : BoxV ((w7.alloc (.cells #[.int .u64 0, .int .u64 (num ((L.drop 12).take 4) : Nat)] 44)).alloc (.cells #[.int .u64 0, .int .u64 (num ((L.drop 16).take 4) : Nat)] 44)) w7.heap.size 44 #[.int .u64 0, .int .u64 (num ((L.drop 12).take 4) : Nat)] := BoxV.of2
  have X1 : BoxV ((w7.alloc (.cells #[.int .u64 0, .int .u64 (num ((L.drop 12).take 4) : Nat)] 44)).alloc (.cells #[.int .u64 0, .int .u64 (num ((L.drop 16).take 4) : Nat)] 44)) (w7.heap.size + 1) 44 #[.int .u64 0, .int .u64 (num ((L.drop 16).take 4) : Nat)] := BoxV.at1
  generalize (w7.alloc (.cells #[.int .u64 0, .int .u64 (num ((L.drop 12).take 4) : Nat)] 44)).alloc (.cells #[.int .u64 0, .int .u64 (num ((L.drop 16).take 4) : Nat)] 44) = w8 at *
  have x0 := X0.cell 0
  have x1 := X0.cell 1
  have y0 := X1.cell 0
  have y1 := X1.cell 1
  clear H7 T7 X0 X1
  have c1 := H8.out.s.c0
  have BH := H8.out.h
  clear H8
  by_cases h22 : byteAt L 0 / 16 ≠ 4
  · have e1 : errP L = 22 := by unfold errP; rw [if_neg h20, if_pos h22]
    have d22 : (((byteAt L 0 : Nat) : Int) / 16 == 4) = false := by simp; omega
    rw [d22]
    refine (M.out 22 (by decide) _).mono ?_
    rintro e w9 ⟨rfl, rfl⟩
    refine ⟨rfl, fun h => absurd (e1.symm.trans h) (by decide), fun _ => ?_⟩
    rw [e1]
    exact ⟨rfl, T8.out⟩
  have d22 : (((byteAt L 0 : Nat) : Int) / 16 == 4) = true := by simp; omega
  rw [d22]
  refine (N.out _ _ _).mono ?_
  rintro e w9 ⟨rfl, hq⟩
  subst hq
  by_cases h23 : ¬ (20 ≤ startP L ∧ startP L ≤ L.length)
  · have e1 : errP L = 23 := by unfold errP; rw [if_neg h20, if_neg h22, if_pos h23]
    have ways : decide (20 ≤ ((startP L : Nat) : Int)) = false ∨ (decide (20 ≤ ((startP L : Nat) : Int)) = true ∧ decide (startP L ≤ L.length) = false) := by simp only [decide_eq_true_eq, decide_eq_false_iff_not]; omega
    rcases ways with d1 | ⟨d1, d2⟩
    all_goals
      go_wp2_with fail
      refine (M.out 23 (by decide) _).mono ?_
      rintro e w10 ⟨rfl, hq⟩
      subst hq
      refine ⟨rfl, fun h => absurd (e1.symm.trans h) (by decide), fun _ => ?_⟩
      rw [e1]
      exact ⟨rfl, T8.out⟩
  have d1 : decide (20 ≤ ((startP L : Nat) : Int)) = true := by simp; omega
  have d2 : decide (startP L ≤ L.length) = true := by simp; omega
  go_wp2_with fail
  refine (N.out _ _ _).mono ?_
  rintro e w10 ⟨rfl, hq⟩
  subst hq
  by_cases h6 : ¬ (startP L ≤ twoA L 2 ∧ twoA L 2 ≤ L.length)
  · have e1 : errP L = 6 := by unfold errP; rw [if_neg h20, if_neg h22, if_neg h23, if_pos h6]
    have ways : decide (startP L ≤ twoA L 2) = false ∨ (decide (startP L ≤ twoA L 2) = true ∧ decide (twoA L 2 ≤ L.length) = false) := by simp only [decide_eq_true_eq, decide_eq_false_iff_not]; omega
    rcases ways with d3 | ⟨d3, d4⟩
    all_goals
      go_wp2_with fail
      refine (M.out 6 (by decide) _).mono ?_
      rintro e w11 ⟨rfl, hq⟩
      subst hq
      refine ⟨rfl, fun h => absurd (e1.symm.trans h) (by decide), fun _ => ?_⟩
      rw [e1]
      exact ⟨rfl, T8.out⟩
  have d3 : decide (startP L ≤ twoA L 2) = true := by simp; omega
  have d4 : decide (twoA L 2 ≤ L.length) = true := by simp; omega
  go_wp2_with fail
  refine (N.out _ _ _).mono ?_
  rintro e w11 ⟨rfl, hq⟩
  subst hq
  have hse : startP L ≤ L.length := by omega
  have s1 : (S L).extract 0 (startP L) = S (L.take (startP L)) := S_take L _
  have SU := Lib.hid (fun w => sum11 (L.take (startP L)) (by rw [List.length_take]; omega) w)
  go_wp2_with fail
  refine (SU.out _).mono ?_
  rintro e w12 ⟨rfl, hq⟩
  subst hq
  by_cases h24 : sumA (L.take (startP L)) ≠ 0
  · have e1 : errP L = 24 := by unfold errP; rw [if_neg h20, if_neg h22, if_neg h23, if_neg h6, if_pos h24]
    have d5 : (sumA (L.take (startP L)) == 0) = false := by simpa using h24
    go_wp2_with fail
    refine (M.out 24 (by decide) _).mono ?_
    rintro e w13 ⟨rfl, hq⟩
    subst hq
    refine ⟨rfl, fun h => absurd (e1.symm.trans h) (by decide), fun _ => ?_⟩
    rw [e1]
    exact ⟨rfl, T8.out⟩
  have d5 : (sumA (L.take (startP L)) == 0) = true := by simpa using h24
  go_wp2_with fail
  refine (N.out _ _ _).mono ?_
  rintro e w13 ⟨rfl, hq⟩
  subst hq
  have e1 : errP L = 0 := by unfold errP; rw [if_neg h20, if_neg h22, if_neg h23, if_neg h6, if_neg h24]
  have q1 := and13 (twoA L 6 : Nat)
  have q2 := and_bit13 (twoA L 6) h6'
  rw [u64n_nat _ (by omega)] at q1
  have r0 := BH.cell 0
  have r1 := BH.cell 1
  have r2 := BH.cell 2
  have r3 := BH.cell 3
  have r4 := BH.cell 4
  have r5 := BH.cell 5
  have r6 := BH.cell 6
  have r7 := BH.cell 7
  have r8 := BH.cell 8
  have fz := BH.fr
  have ltq := BH.lt
  have HB := Lib.hid BH
  clear BH
  go_wp2_with fail
  have F := (HB.out.fill9 (.int .u64 0) (.int .u64 (num ((L.drop 12).take 4) : Nat)) (.int .u64 0) (.int .u64 (num ((L.drop 16).take 4) : Nat)) (.int .i64 (byteAt L 9 : Nat)) (.int .i64 (startP L : Nat)) (.int .i64 (twoA L 2 : Nat)) (.int .i64 (twoA L 6 % 8192 : Nat)) (.bool (decide (twoA L 6 / 8192 % 2 = 1))))
  have G := (touch_fill9 w13 b2 (.int .u64 0) (.int .u64 (num ((L.drop 12).take 4) : Nat)) (.int .u64 0) (.int .u64 (num ((L.drop 16).take 4) : Nat)) (.int .i64 (byteAt L 9 : Nat)) (.int .i64 (startP L : Nat)) (.int .i64 (twoA L 2 : Nat)) (.int .i64 (twoA L 6 % 8192 : Nat)) (.bool (decide (twoA L 6 / 8192 % 2 = 1))))
  first | go_end0 | refine bodyPost_ret (results_none rfl _ _ _) rfl ?_
  exact ⟨fun _ => ⟨rfl, F, (T8.out.mono (S' := [p, b2]) (by simp)).trans (G.mono (S' := [p, b2]) (by simp)) (fun b hb => Or.inl hb)⟩, fun h => absurd e1 h⟩

theorem entP (args : Array Value) (w : World) : (callFunc 55 args).run Try.prog w = .ok (.enter 55 args) w := by
  simp [callFunc, Try.func55]
  rfl
def zeroC : Array Value := #[.int .u64 0, .int .u64 0, .int .u64 0, .int .u64 0, .int .i64 0, .int .i64 0, .int .i64 0, .int .i64 0, .bool false]
def parW (w : World) (L : List UInt8) : World := ((w.alloc (.cells #[.string (S L)] 9)).alloc (.cells #[.int .u64 0, .int .u64 0, .int .u64 0, .int .u64 0, .int .i64 0, .int .i64 0, .int .i64 0, .int .i64 0, .bool false] 51)).alloc (.cells #[.int .u64 0, .int .u64 0, .int .u64 0, .int .u64 0, .int .i64 0, .int .i64 0, .int .i64 0, .int .i64 0, .bool false] 51)
set_option maxRecDepth 100000 in
set_option maxHeartbeats 1000000 in
theorem parse11 (L : List UInt8) (hl : L.length ≤ 100000) (w : World) :
    Calls Try.prog 22 #[.string (S L)] w fun e w' => e = .returned (.tuple #[.agg (hdP L).cells, .int .i64 (errP L)]) ∧ Touch [] w w' := by
  have hmf : ∀ (fn : Fn) (first cap : Array Value) (w : World), (Instr.makeFunc fn first cap).run Try.prog w = .ok (.func fn first cap) w := fun _ _ _ _ => rfl
  have hsz : (parW w L).heap.size = w.heap.size + 3 := by unfold parW; simp
  have B0 : Box1 (parW w L) w.heap.size 9 (.string (S L)) := ((Box1.new w 9 (.string (S L))).carry ((Touch.refl [] _).alloc _) (by simp)).carry ((Touch.refl [] _).alloc _) (by simp)
  have B1 : BoxV (parW w L) (w.heap.size + 1) 51 #[.int .u64 0, .int .u64 0, .int .u64 0, .int .u64 0, .int .i64 0, .int .i64 0, .int .i64 0, .int .i64 0, .bool false] := BoxV.at1of3
  have B2 : BoxV (parW w L) (w.heap.size + 2) 51 #[.int .u64 0, .int .u64 0, .int .u64 0, .int .u64 0, .int .i64 0, .int .i64 0, .int .i64 0, .int .i64 0, .bool false] := BoxV.at2
  have c0 := B0.c0
  have TW : Touch [] w (parW w L) := (((Touch.refl [] w).alloc _).alloc _).alloc _
  have tt : Touch [] (parW w L) (tryW (parW w L) (S L)) := (((Touch.refl [] _).alloc _).alloc _).alloc _
  have hat : At (tryW (parW w L) (S L)) (w.heap.size + 4) L := by
    have := (Box1.new ((parW w L).alloc (.cells #[.int .i64 0] 26)) 67 (.string (S L))).carry ((Touch.refl [] _).alloc (.cells #[.pointer (some ⟨(parW w L).heap.size + 1, 0, none⟩)] 28)) (by simp)
    rwa [show ((parW w L).alloc (.cells #[.int .i64 0] 26)).heap.size = w.heap.size + 4 by simp [hsz]] at this
  have PP : Prs (tryW (parW w L) (S L)) (w.heap.size + 4) w.heap.size (w.heap.size + 2) L 0 := ⟨hat, B0.carry tt (by simp), B2.carry tt (by simp), by omega, by omega⟩
  have key := try_any (s := S L) (k := 55) (cap := #[.pointer (some ⟨w.heap.size, 0, none⟩), .pointer (some ⟨w.heap.size + 2, 0, none⟩)]) (w := parW w L) (S := [w.heap.size + 4, w.heap.size + 2])
    (Q := fun er w' => er = errP L ∧ BoxV w' (w.heap.size + 2) 51 (hdP L).cells)
    (by rw [hsz]; intro b hb; simp at hb; omega) entP (by
      rw [hsz]
      refine (parse1 PP hl).mono ?_
      rintro e w' ⟨q1, q2⟩
      by_cases h0 : errP L = 0
      · obtain ⟨rfl, k1, k2⟩ := q1 h0
        refine ⟨k2, Or.inl ⟨rfl, h0.symm, ?_⟩⟩
        unfold hdP
        rw [if_pos h0]
        exact k1
      · obtain ⟨rfl, k1⟩ := q2 h0
        refine ⟨k1.mono (by simp), Or.inr ⟨errP L, rfl, rfl, ?_⟩⟩
        unfold hdP
        rw [if_neg h0]
        exact (B2.carry tt (by simp)).carry k1 (by simp))
  rw [hsz] at key
  have K := Lib.hid key
  have T0 := Lib.hid TW
  have HB1 := Lib.hid B1
  clear key TW tt hat B0 B1 B2 hsz PP
  unfold parW at *
  unfold Hd.cells at *
  generalize hdP L = D at *
  generalize errP L = E at *
  go_enter Try.func22, Try.ntmps22
  go_wp2_with fail
  refine (K.out).mono ?_
  rintro e w2 ⟨er, w3, rfl, ⟨rfl, q3⟩, t3, t4⟩
  have q4 := q3.carry t4 (by simp)
  have B4 := (HB1.out.carry t3 (by simp)).carry t4 (by simp)
  have TT := Lib.hid ((T0.out.trans t3 (by intro b hb; simp at hb; omega)).trans t4 (by intro b hb; simp at hb; omega))
  have r0 := B4.cell 0
  have r1 := B4.cell 1
  have r2 := B4.cell 2
  have r3 := B4.cell 3
  have r4 := B4.cell 4
  have r5 := B4.cell 5
  have r6 := B4.cell 6
  have r7 := B4.cell 7
  have r8 := B4.cell 8
  have u0 := q4.cell 0
  have u1 := q4.cell 1
  have u2 := q4.cell 2
  have u3 := q4.cell 3
  have u4 := q4.cell 4
  have u5 := q4.cell 5
  have u6 := q4.cell 6
  have u7 := q4.cell 7
  have u8 := q4.cell 8
  have fz := B4.fr
  have ltq := B4.lt
  have HB := Lib.hid B4
  clear B4 q4 q3 t3 t4 K HB1 T0 c0
  go_wp2_with fail
  refine bodyPost_ret (ret_box_tmp rfl rfl (HB.out.fill9 _ _ _ _ _ _ _ _ _) Try.underlying51 rfl (by kernel_rfl)) rfl ⟨rfl, TT.out.trans (touch_fill9 w2 (w.heap.size + 1) _ _ _ _ _ _ _ _ _) (by simp)⟩
end Go.Proofs.Ytonchibngcoefaa
