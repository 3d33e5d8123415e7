/-
  ReplyBack: for every reply and every shift the law on reply's Put, Get and Shift returns true. No conditions.
-/
import Derived.Test.YtfeeaokeomcafaaReplyShift
import Derived.Test.YtfeeaokeomcafaaReplyOpen
import Derived.Test.YtfeeaokeomcafaaInts
import Derived.Lib.SmallJoins
namespace Go.Proofs.Ytfeeaokeomcafaa
open Go.ChangeShapes Go.WideShapes Go.ChangeAt Go.RowKit Go.Deep Go.Joins
set_option linter.unusedVariables false
set_option linter.unusedSimpArgs false

theorem u8P_be (n : Int) (h0 : 0 ≤ n) (h1 : n ≤ 255) (m : List UInt8) : u8P (be (u64n n) 1 ++ m) = .ok (n.toNat, m) := by
  have e : be (u64n n) 1 = [UInt8.ofNat (u64n n / 256 ^ 0)] := rfl
  rw [e]
  simp only [List.cons_append, List.nil_append, u8P, Except.ok.injEq, Prod.mk.injEq, and_true]
  unfold u64n
  simp
  omega
theorem varP_B (n : Int) (h : fitI n) (m : List UInt8) : varP (varB (zz n) ++ m) = .ok (n, m) := by
  obtain ⟨q1, q2, q3⟩ := var_read (zz n) (zz_lt n h) m
  unfold varP
  rw [if_pos q1, q2, q3, unzz_zz]
theorem u32P_be (s : Nat) (h : s < 4294967296) (m : List UInt8) : u32P (be s 4 ++ m) = .ok (s, m) := by
  have hl := be_length s 4
  unfold u32P
  rw [if_pos (by rw [List.length_append]; omega), List.take_left' hl, List.drop_left' hl, num_be s 4 (by omega)]
theorem statP_B (s : Nat → Int) (h : ∀ k, fitI (s k)) (m : List UInt8) : ∃ t : Nat → Int, statP (statB s 6 ++ m) = .ok (t, m) ∧ t 0 = s 0 ∧ t 1 = s 1 ∧ t 2 = s 2 ∧ t 3 = s 3 ∧ t 4 = s 4 ∧ t 5 = s 5 := by
  have e : statB s 6 ++ m = varB (zz (s 0)) ++ (varB (zz (s 1)) ++ (varB (zz (s 2)) ++ (varB (zz (s 3)) ++ (varB (zz (s 4)) ++ (varB (zz (s 5)) ++ m))))) := by
    simp [statB, List.append_assoc]
  rw [e]
  unfold statP
  simp only [varP_B _ (h 0), varP_B _ (h 1), varP_B _ (h 2), varP_B _ (h 3), varP_B _ (h 4), varP_B _ (h 5)]
  exact ⟨_, rfl, rfl, rfl, rfl, rfl, rfl, rfl⟩
structure SameRep (r s : Rep) : Prop where
  op : r.op = s.op
  err : r.err = s.err
  ver : r.ver = s.ver
  cnt : r.cnt = s.cnt
  sum : r.sum = s.sum
  st : r.st 0 = s.st 0 ∧ r.st 1 = s.st 1 ∧ r.st 2 = s.st 2 ∧ r.st 3 = s.st 3 ∧ r.st 4 = s.st 4 ∧ r.st 5 = s.st 5
theorem SameRep.cells {r s : Rep} (h : SameRep r s) : r.cells = s.cells := by
  obtain ⟨h0, h1, h2, h3, h4, h5⟩ := h.st
  unfold Rep.cells
  rw [h.op, h.err, h.ver, h.cnt, h.sum, h0, h1, h2, h3, h4, h5]
theorem SameRep.bytes {r s : Rep} (h : SameRep r s) : r.bytes = s.bytes := by
  obtain ⟨h0, h1, h2, h3, h4, h5⟩ := h.st
  unfold Rep.bytes Rep.headB
  simp only [statB]
  rw [h.op, h.err, h.ver, h.cnt, h.sum, h0, h1, h2, h3, h4, h5]
theorem SameRep.by {r s : Rep} (h : SameRep r s) (y : Int) : SameRep (r.by y) (s.by y) := ⟨h.op, h.err, by unfold Rep.by; simp only; rw [h.ver], h.cnt, h.sum, h.st⟩
theorem get_back (r : Rep) (h : r.Ok) (ho : 0 ≤ r.op ∧ r.op ≤ 255) (he : 0 ≤ r.err ∧ r.err ≤ 255) : getE r.bytes = 0 ∧ SameRep (getR r.bytes) r := by
  obtain ⟨t, ht, t0, t1, t2, t3, t4, t5⟩ := statP_B r.st h.st []
  have e : r.bytes = be (u64n r.op) 1 ++ (be (u64n r.err) 1 ++ (varB (zz r.ver) ++ (varB (zz r.cnt) ++ (be r.sum 4 ++ (statB r.st 6 ++ []))))) := by
    unfold Rep.bytes Rep.headB
    simp [List.append_assoc]
  have hg : getP r.bytes = .ok ⟨(r.op.toNat : Int), (r.err.toNat : Int), r.ver, r.cnt, r.sum, t⟩ := by
    rw [e]
    unfold getP
    simp only [u8P_be r.op ho.1 ho.2, u8P_be r.err he.1 he.2, varP_B r.ver h.ver, varP_B r.cnt h.cnt, u32P_be r.sum h.sum, ht, if_true]
  unfold getE getR
  rw [hg]
  refine ⟨rfl, ⟨by simp only; omega, by simp only; omega, rfl, rfl, rfl, t0, t1, t2, t3, t4, t5⟩⟩
theorem bytes_len (r : Rep) (h : r.Ok) : r.bytes.length ≤ 1000 := by
  have h1 := r.headB_length h
  have h2 := statB_length r.st h.st 6
  unfold Rep.bytes
  rw [List.length_append]
  omega
theorem by_by (r : Rep) (y : Int) : SameRep ((r.by y).by (-y)) r := ⟨rfl, rfl, by unfold Rep.by; simp only; omega, rfl, rfl, rfl, rfl, rfl, rfl, rfl, rfl⟩
theorem by_zero (r : Rep) : SameRep (r.by 0) r := ⟨rfl, rfl, by unfold Rep.by; simp only; omega, rfl, rfl, rfl, rfl, rfl, rfl, rfl, rfl⟩
theorem shift_in (r : Rep) (h : r.Ok) (ho : 0 ≤ r.op ∧ r.op ≤ 255) (he : 0 ≤ r.err ∧ r.err ≤ 255) (y : Int) (hc : canShift r.ver y) : shiftB r.bytes y = (r.by y).bytes := by
  obtain ⟨_, hs⟩ := get_back r h ho he
  unfold shiftB
  rw [hs.ver]
  by_cases hy : y = 0
  · subst hy
    rw [if_neg (fun h => h.2 rfl)]
    exact (by_zero r).bytes.symm
  · rw [if_pos ⟨hc, hy⟩]
    exact (hs.by y).bytes
theorem shift_out (r : Rep) (h : r.Ok) (ho : 0 ≤ r.op ∧ r.op ≤ 255) (he : 0 ≤ r.err ∧ r.err ≤ 255) (y : Int) (hc : ¬ canShift r.ver y) : shiftB r.bytes y = r.bytes := by
  obtain ⟨_, hs⟩ := get_back r h ho he
  unfold shiftB
  rw [hs.ver, if_neg (fun h => hc h.1)]

set_option maxHeartbeats 4000000 in
set_option maxRecDepth 100000 in
theorem replyBack_out (r : Rep) (h : r.Ok) (y : Int) (w : World) (hb : ¬ (0 ≤ r.op ∧ r.op ≤ 255 ∧ 0 ≤ r.err ∧ r.err ≤ 255)) :
    Calls Try.prog 10 #[.agg r.cells, .int .i32 y] w fun e w' => e = .returned (.bool true) ∧ Below w.heap.size w w' := by
  have LV := Lib.hid (fun w => lives39 w)
  unfold Rep.cells
  have T0 := Lib.hid ((Touch.refl [] w).alloc (.cells #[.int .i64 r.op, .int .i64 r.err, .int .i64 r.ver, .int .i64 r.cnt, .int .u32 (r.sum : Int), .int .i64 (r.st 0), .int .i64 (r.st 1), .int .i64 (r.st 2), .int .i64 (r.st 3), .int .i64 (r.st 4), .int .i64 (r.st 5)] 78))
  have ways : decide (r.op < 0) = true ∨ (decide (r.op < 0) = false ∧ decide (255 < r.op) = true) ∨ (decide (r.op < 0) = false ∧ decide (255 < r.op) = false ∧ decide (r.err < 0) = true) ∨
      (decide (r.op < 0) = false ∧ decide (255 < r.op) = false ∧ decide (r.err < 0) = false ∧ decide (255 < r.err) = true) := by
    simp only [decide_eq_true_eq, decide_eq_false_iff_not]
    omega
  clear hb h
  rcases ways with d1 | ⟨d1, d2⟩ | ⟨d1, d2, d3⟩ | ⟨d1, d2, d3, d4⟩
  all_goals
    go_enter Try.func10, Try.ntmps10
    go_wp2_with fail
    refine (LV.out _).mono ?_
    rintro e w1 ⟨rfl, t1⟩
    go_wp2_with fail
    go_ret
    exact ⟨rfl, (T0.out.trans t1 (by simp)).below (by simp) (Nat.le_refl _)⟩

set_option maxHeartbeats 8000000 in
set_option maxRecDepth 100000 in
theorem replyBack_in (r : Rep) (h : r.Ok) (y : Int) (hy : -2147483648 ≤ y ∧ y ≤ 2147483647) (w : World) (hb : 0 ≤ r.op ∧ r.op ≤ 255 ∧ 0 ≤ r.err ∧ r.err ≤ 255) :
    Calls Try.prog 10 #[.agg r.cells, .int .i32 y] w fun e w' => e = .returned (.bool true) ∧ Below w.heap.size w w' := by
  have LV := Lib.hid (fun w => lives39 w)
  have hv := h.ver
  unfold fitI at hv
  have P1 := Lib.hid (fun w => replyPut r h w)
  obtain ⟨ge, gs⟩ := get_back r h ⟨hb.1, hb.2.1⟩ ⟨hb.2.2.1, hb.2.2.2⟩
  have G1 := Lib.hid (fun w => replyGet r.bytes (by have := bytes_len r h; omega) w)
  rw [ge, gs.cells] at G1
  have H1 := Lib.hid (fun w => replyShift r.bytes (by have := bytes_len r h; omega) y w)
  have d1 : decide (r.op < 0) = false := by simp; omega
  have d2 : decide (255 < r.op) = false := by simp; omega
  have d3 : decide (r.err < 0) = false := by simp; omega
  have d4 : decide (255 < r.err) = false := by simp; omega
  have f1 : IntKind.i64.wrap y = y := by rw [IntKind.wrap_i64]; omega
  have es : ((S r.bytes).toList == (S r.bytes).toList) = true := by simp
  have X0 := Lib.hid (BoxV.new w 78 #[.int .i64 r.op, .int .i64 r.err, .int .i64 r.ver, .int .i64 r.cnt, .int .u32 (r.sum : Int), .int .i64 (r.st 0), .int .i64 (r.st 1), .int .i64 (r.st 2), .int .i64 (r.st 3), .int .i64 (r.st 4), .int .i64 (r.st 5)])
  have T0 := Lib.hid ((Touch.refl [] w).alloc (.cells #[.int .i64 r.op, .int .i64 r.err, .int .i64 r.ver, .int .i64 r.cnt, .int .u32 (r.sum : Int), .int .i64 (r.st 0), .int .i64 (r.st 1), .int .i64 (r.st 2), .int .i64 (r.st 3), .int .i64 (r.st 4), .int .i64 (r.st 5)] 78))
  by_cases hr : 1 ≤ r.ver ∧ r.ver ≤ 2147483648
  · have hc : canShift r.ver y := by unfold canShift; omega
    rw [shift_in r h ⟨hb.1, hb.2.1⟩ ⟨hb.2.2.1, hb.2.2.2⟩ y hc] at H1
    have hby := by_ok r h y hc
    obtain ⟨ge2, gs2⟩ := get_back (r.by y) hby ⟨hb.1, hb.2.1⟩ ⟨hb.2.2.1, hb.2.2.2⟩
    have G2 := Lib.hid (fun w => replyGet (r.by y).bytes (by have := bytes_len _ hby; omega) w)
    rw [ge2, gs2.cells] at G2
    have H2 := Lib.hid (fun w => replyShift (r.by y).bytes (by have := bytes_len _ hby; omega) (-y) w)
    have f2 : IntKind.i64.wrap (r.ver + y) = r.ver + y := by rw [IntKind.wrap_i64]; omega
    have f3 : IntKind.i64.wrap (-y) = -y := by rw [IntKind.wrap_i64]; omega
    have d5 : decide (r.ver < 1) = false := by simp; omega
    have d6 : decide (2147483648 < r.ver) = false := by simp; omega
    have d9 : (r.ver + y != r.ver + y) = false := by simp
    have back : (1 ≤ r.ver + y ∧ r.ver + y ≤ 2147483648) → shiftB (r.by y).bytes (-y) = r.bytes := fun hq => by
      rw [shift_in (r.by y) hby ⟨hb.1, hb.2.1⟩ ⟨hb.2.2.1, hb.2.2.2⟩ (-y) (by unfold canShift Rep.by; simp only; omega)]
      exact (by_by r y).bytes
    have ways : decide (r.ver + y < 1) = true ∨ (decide (r.ver + y < 1) = false ∧ decide (2147483648 < r.ver + y) = true) ∨ (decide (r.ver + y < 1) = false ∧ decide (2147483648 < r.ver + y) = false ∧ shiftB (r.by y).bytes (-y) = r.bytes) := by
      rcases (show (r.ver + y < 1) ∨ (¬ (r.ver + y < 1) ∧ 2147483648 < r.ver + y) ∨ (1 ≤ r.ver + y ∧ r.ver + y ≤ 2147483648) by omega) with q | q | q
      · left; simpa using q
      · right; left; simp; omega
      · right; right; exact ⟨by simp; omega, by simp; omega, back q⟩
    clear h gs gs2 ge ge2 hc hby hb hy hr back hv
    generalize shiftB (r.by y).bytes (-y) = B3 at *
    generalize (r.by y).bytes = B2 at *
    generalize r.bytes = B1 at *
    unfold Rep.by at *
    unfold Rep.cells at *
    simp only at G2
    rcases ways with d7 | ⟨d7, d8⟩ | ⟨d7, d8, hB⟩
    all_goals
      (try subst hB)
      go_enter Try.func10, Try.ntmps10
      go_wp2_with fail
      refine (P1.out _).mono ?_
      rintro e w1 ⟨rfl, t1⟩
      have X1 := Lib.hid (X0.out.carry t1 (by simp))
      have T1 := Lib.hid (T0.out.trans t1 (by simp))
      clear t1 X0 T0
      go_wp2_with fail
      refine (G1.out _).mono ?_
      rintro e w2 ⟨rfl, t2⟩
      have X2 := Lib.hid (X1.out.carry t2 (by simp))
      have T2 := Lib.hid (T1.out.trans t2 (by simp))
      clear t2 X1 T1
      have lt2 := X2.out.lt
      have c0 := X2.out.cell 0
      have c1 := X2.out.cell 1
      have c2 := X2.out.cell 2
      have c3 := X2.out.cell 3
      have c4 := X2.out.cell 4
      have c5 := X2.out.cell 5
      have c6 := X2.out.cell 6
      have c7 := X2.out.cell 7
      have c8 := X2.out.cell 8
      have c9 := X2.out.cell 9
      have c10 := X2.out.cell 10
      go_wp2_with fail
      refine (H1.out _).mono ?_
      rintro e w3 ⟨rfl, t3⟩
      have X3 := Lib.hid ((X2.out.carry ((Touch.refl [] _).alloc (.cells #[.int .i64 r.op, .int .i64 r.err, .int .i64 r.ver, .int .i64 r.cnt, .int .u32 (r.sum : Int), .int .i64 (r.st 0), .int .i64 (r.st 1), .int .i64 (r.st 2), .int .i64 (r.st 3), .int .i64 (r.st 4), .int .i64 (r.st 5)] 78)) (by simp)).carry t3 (by simp))
      have T3 := Lib.hid ((T2.out.alloc (.cells #[.int .i64 r.op, .int .i64 r.err, .int .i64 r.ver, .int .i64 r.cnt, .int .u32 (r.sum : Int), .int .i64 (r.st 0), .int .i64 (r.st 1), .int .i64 (r.st 2), .int .i64 (r.st 3), .int .i64 (r.st 4), .int .i64 (r.st 5)] 78)).trans t3 (by simp))
      clear t3 X2 T2 lt2 c0 c1 c2 c3 c4 c5 c6 c7 c8 c9 c10
      go_wp2_with fail
      refine (G2.out _).mono ?_
      rintro e w4 ⟨rfl, t4⟩
      have X4 := Lib.hid (X3.out.carry t4 (by simp))
      have T4 := Lib.hid ((T3.out.trans t4 (by simp)).alloc (.cells #[.int .i64 r.op, .int .i64 r.err, .int .i64 (r.ver + y), .int .i64 r.cnt, .int .u32 (r.sum : Int), .int .i64 (r.st 0), .int .i64 (r.st 1), .int .i64 (r.st 2), .int .i64 (r.st 3), .int .i64 (r.st 4), .int .i64 (r.st 5)] 78))
      have lt4 := X4.out.lt
      have c2 := X4.out.cell 2
      clear t4 X3 T3
      go_wp2_with fail
      try (refine (H2.out _).mono ?_; rintro e w5 ⟨rfl, t5⟩; replace T4 := Lib.hid (T4.out.trans t5 (by simp)); clear t5; go_wp2_with fail)
      refine (LV.out _).mono ?_
      rintro e w6 ⟨rfl, t6⟩
      go_wp2_with fail
      go_ret
      exact ⟨rfl, (T4.out.trans t6 (by simp)).below (by simp) (Nat.le_refl _)⟩
  · have hc : ¬ canShift r.ver y := by unfold canShift; omega
    rw [shift_out r h ⟨hb.1, hb.2.1⟩ ⟨hb.2.2.1, hb.2.2.2⟩ y hc] at H1
    have ways : decide (r.ver < 1) = true ∨ (decide (r.ver < 1) = false ∧ decide (2147483648 < r.ver) = true) := by
      simp only [decide_eq_true_eq, decide_eq_false_iff_not]
      omega
    clear h gs ge hc hb hy hr hv
    generalize r.bytes = B1 at *
    unfold Rep.cells at *
    rcases ways with d5 | ⟨d5, d6⟩
    all_goals
      go_enter Try.func10, Try.ntmps10
      go_wp2_with fail
      refine (P1.out _).mono ?_
      rintro e w1 ⟨rfl, t1⟩
      have X1 := Lib.hid (X0.out.carry t1 (by simp))
      have T1 := Lib.hid (T0.out.trans t1 (by simp))
      clear t1 X0 T0
      go_wp2_with fail
      refine (G1.out _).mono ?_
      rintro e w2 ⟨rfl, t2⟩
      have X2 := Lib.hid (X1.out.carry t2 (by simp))
      have T2 := Lib.hid (T1.out.trans t2 (by simp))
      clear t2 X1 T1
      have lt2 := X2.out.lt
      have c0 := X2.out.cell 0
      have c1 := X2.out.cell 1
      have c2 := X2.out.cell 2
      have c3 := X2.out.cell 3
      have c4 := X2.out.cell 4
      have c5 := X2.out.cell 5
      have c6 := X2.out.cell 6
      have c7 := X2.out.cell 7
      have c8 := X2.out.cell 8
      have c9 := X2.out.cell 9
      have c10 := X2.out.cell 10
      go_wp2_with fail
      refine (H1.out _).mono ?_
      rintro e w3 ⟨rfl, t3⟩
      have X3 := Lib.hid ((X2.out.carry ((Touch.refl [] _).alloc (.cells #[.int .i64 r.op, .int .i64 r.err, .int .i64 r.ver, .int .i64 r.cnt, .int .u32 (r.sum : Int), .int .i64 (r.st 0), .int .i64 (r.st 1), .int .i64 (r.st 2), .int .i64 (r.st 3), .int .i64 (r.st 4), .int .i64 (r.st 5)] 78)) (by simp)).carry t3 (by simp))
      have T3 := Lib.hid ((T2.out.alloc (.cells #[.int .i64 r.op, .int .i64 r.err, .int .i64 r.ver, .int .i64 r.cnt, .int .u32 (r.sum : Int), .int .i64 (r.st 0), .int .i64 (r.st 1), .int .i64 (r.st 2), .int .i64 (r.st 3), .int .i64 (r.st 4), .int .i64 (r.st 5)] 78)).trans t3 (by simp))
      clear t3 X2 T2 lt2 c0 c1 c2 c3 c4 c5 c6 c7 c8 c9 c10
      go_wp2_with fail
      refine (G1.out _).mono ?_
      rintro e w4 ⟨rfl, t4⟩
      have X4 := Lib.hid (X3.out.carry t4 (by simp))
      have T4 := Lib.hid ((T3.out.trans t4 (by simp)).alloc (.cells #[.int .i64 r.op, .int .i64 r.err, .int .i64 r.ver, .int .i64 r.cnt, .int .u32 (r.sum : Int), .int .i64 (r.st 0), .int .i64 (r.st 1), .int .i64 (r.st 2), .int .i64 (r.st 3), .int .i64 (r.st 4), .int .i64 (r.st 5)] 78))
      have lt4 := X4.out.lt
      have c2 := X4.out.cell 2
      clear t4 X3 T3
      go_wp2_with fail
      refine (LV.out _).mono ?_
      rintro e w6 ⟨rfl, t6⟩
      go_wp2_with fail
      go_ret
      exact ⟨rfl, (T4.out.trans t6 (by simp)).below (by simp) (Nat.le_refl _)⟩

theorem i32_in {n : Int} (h : (Lit.int .i32 n).wf = true) : -2147483648 ≤ n ∧ n ≤ 2147483647 := by
  simpa [Lit.wf, IntKind.min, IntKind.max, IntKind.signed, IntKind.bits] using h
set_option maxRecDepth 100000 in
theorem replyBack_calls : LawCalls Try.prog 10 Try.f10 := by
  intro H enc W base args ds p hval hA hlt
  rw [Try.params10] at hA hval
  obtain ⟨v0, vs0, d0, ds0, p0, q0, hargs, rfl, rfl, h0, r0⟩ := trodAll_cons hA
  obtain ⟨v1, vs1, d1, ds1, p1, q1, rfl, rfl, rfl, h1, r1⟩ := trodAll_cons r0
  obtain ⟨rfl, rfl, rfl⟩ := trodAll_nil r1
  obtain rfl : args = #[v0, v1] := by cases args; simp_all
  obtain ⟨r, rfl, hr⟩ := open_reply (hval 0 78 v0 rfl rfl) h0
  obtain ⟨y, rfl, rfl, rfl, wy⟩ := open_int Try.underlying21 (hval 1 21 v1 rfl rfl) h1
  by_cases hb : 0 ≤ r.op ∧ r.op ≤ 255 ∧ 0 ≤ r.err ∧ r.err ≤ 255
  · exact replyBack_in r hr y (i32_in wy) W hb
  · exact replyBack_out r hr y W hb
set_option maxRecDepth 100000 in
theorem replyBack_lifted (os : Os) (started : os.Started) (H : Type) (enc : TypeId × Value → H) :
    ReturnsInHanded {} Try.checked os 10 .any (Rows.replyBackSpec.pre6 enc Try.prog Try.f10 Rows.replyBackRow.domain false) (Rows.replyBackSpec.post enc Try.prog Try.f10 false true false false) := by
  refine returnsInHanded_of_change (C := Try.checked) own started (by kernel_rfl) Try.func10
    (ChangeSpec.witness6 (enc := enc) (C := Try.checked) false ⟨#[], #[.agg #[.int .i64 0, .int .i64 0, .int .i64 0, .int .i64 0, .int .u32 0, .int .i64 0, .int .i64 0, .int .i64 0, .int .i64 0, .int .i64 0, .int .i64 0], .int .i32 0], []⟩ 8 (by kernel_rfl) (by kernel_rfl) (by kernel_rfl) (by kernel_rfl)) ?_
  intro W base args ds gs before hval hW _ _
  exact law_contract laidOut (by kernel_rfl) rfl rfl boolType (fun ds h => by match ds, h with | [_, _], _ => rfl) replyBack_calls W base args ds gs before hval hW

theorem replyBack_holds : Rows.ReplyBackSaid :=
  OpenClaim.holds_of_wide 10 Try.f10 rfl rfl rfl rfl rfl rfl rfl ⟨rfl, rfl, rfl, rfl, rfl⟩ rfl rfl rfl rfl rfl (by kernel_rfl) Try.func10 (by kernel_rfl)
    (of_decide_eq_true (by kernel_rfl)) (by unfold Func.isWrapper; first | (rw [if_pos (by decide +kernel)]; kernel_rfl) | (rw [if_neg (by decide +kernel)]; exact ⟨rfl, rfl⟩))
    (fun os started H enc _ => replyBack_lifted os started H enc)
#print axioms replyBack_holds
end Go.Proofs.Ytfeeaokeomcafaa
