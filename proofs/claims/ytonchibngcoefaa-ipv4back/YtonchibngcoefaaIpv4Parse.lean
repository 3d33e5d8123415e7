/-
  Layer 11 (ipv4): what Parse tells; the reference's Parse.
-/
import Derived.Test.YtonchibngcoefaaIpv4Pack
namespace Go.Proofs.Ytonchibngcoefaa
open Go.ChangeShapes Go.WideShapes Go.ChangeAt Go.RowKit Go.Deep
set_option linter.unusedVariables false
set_option linter.unusedSimpArgs false

def startP (l : List UInt8) : Nat := byteAt l 0 % 16 * 4
def errP (l : List UInt8) : Int :=
  if l.length < 20 then 5 else if byteAt l 0 / 16 ≠ 4 then 22 else if ¬ (20 ≤ startP l ∧ startP l ≤ l.length) then 23
  else if ¬ (startP l ≤ twoA l 2 ∧ twoA l 2 ≤ l.length) then 6 else if sumA (l.take (startP l)) ≠ 0 then 24 else 0
def zeroP : Hd := ⟨0, 0, 0, 0, 0, 0, 0, 0, false⟩
def wholeP (l : List UInt8) : Hd := ⟨0, num ((l.drop 12).take 4), 0, num ((l.drop 16).take 4), (byteAt l 9 : Nat), (startP l : Nat), (twoA l 2 : Nat), (twoA l 6 % 8192 : Nat), decide (twoA l 6 / 8192 % 2 = 1)⟩
def hdP (l : List UInt8) : Hd := if errP l = 0 then wholeP l else zeroP
theorem S_slice (l : List UInt8) (a b : Nat) (h : b ≤ l.length) : (S l).extract a b = S ((l.drop a).take (b - a)) := by
  unfold S
  rw [ByteArray.extract_mk]
/-- The world behind 9 stores. -/
def fill9 (w : World) (b : Nat) (v0 v1 v2 v3 v4 v5 v6 v7 v8 : Value) : World := (((((((((w).setCell ⟨b, 0, none⟩ v0).setCell ⟨b, 1, none⟩ v1).setCell ⟨b, 2, none⟩ v2).setCell ⟨b, 3, none⟩ v3).setCell ⟨b, 4, none⟩ v4).setCell ⟨b, 5, none⟩ v5).setCell ⟨b, 6, none⟩ v6).setCell ⟨b, 7, none⟩ v7).setCell ⟨b, 8, none⟩ v8
theorem BoxV.fill9 {w : World} {b : Nat} {T : TypeId} {z0 z1 z2 z3 z4 z5 z6 z7 z8 : Value} (h : BoxV w b T #[z0, z1, z2, z3, z4, z5, z6, z7, z8]) (v0 v1 v2 v3 v4 v5 v6 v7 v8 : Value) : BoxV (fill9 w b v0 v1 v2 v3 v4 v5 v6 v7 v8) b T #[v0, v1, v2, v3, v4, v5, v6, v7, v8] := by
  have h1 : BoxV ((w).setCell ⟨b, 0, none⟩ v0) b T #[v0, z1, z2, z3, z4, z5, z6, z7, z8] := h.set 0 v0
  have h2 : BoxV (((w).setCell ⟨b, 0, none⟩ v0).setCell ⟨b, 1, none⟩ v1) b T #[v0, v1, z2, z3, z4, z5, z6, z7, z8] := h1.set 1 v1
  have h3 : BoxV ((((w).setCell ⟨b, 0, none⟩ v0).setCell ⟨b, 1, none⟩ v1).setCell ⟨b, 2, none⟩ v2) b T #[v0, v1, v2, z3, z4, z5, z6, z7, z8] := h2.set 2 v2
  have h4 : BoxV (((((w).setCell ⟨b, 0, none⟩ v0).setCell ⟨b, 1, none⟩ v1).setCell ⟨b, 2, none⟩ v2).setCell ⟨b, 3, none⟩ v3) b T #[v0, v1, v2, v3, z4, z5, z6, z7, z8] := h3.set 3 v3
  have h5 : BoxV ((((((w).setCell ⟨b, 0, none⟩ v0).setCell ⟨b, 1, none⟩ v1).setCell ⟨b, 2, none⟩ v2).setCell ⟨b, 3, none⟩ v3).setCell ⟨b, 4, none⟩ v4) b T #[v0, v1, v2, v3, v4, z5, z6, z7, z8] := h4.set 4 v4
  have h6 : BoxV (((((((w).setCell ⟨b, 0, none⟩ v0).setCell ⟨b, 1, none⟩ v1).setCell ⟨b, 2, none⟩ v2).setCell ⟨b, 3, none⟩ v3).setCell ⟨b, 4, none⟩ v4).setCell ⟨b, 5, none⟩ v5) b T #[v0, v1, v2, v3, v4, v5, z6, z7, z8] := h5.set 5 v5
  have h7 : BoxV ((((((((w).setCell ⟨b, 0, none⟩ v0).setCell ⟨b, 1, none⟩ v1).setCell ⟨b, 2, none⟩ v2).setCell ⟨b, 3, none⟩ v3).setCell ⟨b, 4, none⟩ v4).setCell ⟨b, 5, none⟩ v5).setCell ⟨b, 6, none⟩ v6) b T #[v0, v1, v2, v3, v4, v5, v6, z7, z8] := h6.set 6 v6
  have h8 : BoxV (((((((((w).setCell ⟨b, 0, none⟩ v0).setCell ⟨b, 1, none⟩ v1).setCell ⟨b, 2, none⟩ v2).setCell ⟨b, 3, none⟩ v3).setCell ⟨b, 4, none⟩ v4).setCell ⟨b, 5, none⟩ v5).setCell ⟨b, 6, none⟩ v6).setCell ⟨b, 7, none⟩ v7) b T #[v0, v1, v2, v3, v4, v5, v6, v7, z8] := h7.set 7 v7
  have h9 : BoxV ((((((((((w).setCell ⟨b, 0, none⟩ v0).setCell ⟨b, 1, none⟩ v1).setCell ⟨b, 2, none⟩ v2).setCell ⟨b, 3, none⟩ v3).setCell ⟨b, 4, none⟩ v4).setCell ⟨b, 5, none⟩ v5).setCell ⟨b, 6, none⟩ v6).setCell ⟨b, 7, none⟩ v7).setCell ⟨b, 8, none⟩ v8) b T #[v0, v1, v2, v3, v4, v5, v6, v7, v8] := h8.set 8 v8
  exact h9
theorem touch_fill9 (w : World) (b : Nat) (v0 v1 v2 v3 v4 v5 v6 v7 v8 : Value) : Touch [b] w (fill9 w b v0 v1 v2 v3 v4 v5 v6 v7 v8) :=
  (((((((((Touch.refl [b] w).setCell (a := ⟨b, 0, none⟩) (.inl (List.mem_singleton.2 rfl)) v0).setCell (a := ⟨b, 1, none⟩) (.inl (List.mem_singleton.2 rfl)) v1).setCell (a := ⟨b, 2, none⟩) (.inl (List.mem_singleton.2 rfl)) v2).setCell (a := ⟨b, 3, none⟩) (.inl (List.mem_singleton.2 rfl)) v3).setCell (a := ⟨b, 4, none⟩) (.inl (List.mem_singleton.2 rfl)) v4).setCell (a := ⟨b, 5, none⟩) (.inl (List.mem_singleton.2 rfl)) v5).setCell (a := ⟨b, 6, none⟩) (.inl (List.mem_singleton.2 rfl)) v6).setCell (a := ⟨b, 7, none⟩) (.inl (List.mem_singleton.2 rfl)) v7).setCell (a := ⟨b, 8, none⟩) (.inl (List.mem_singleton.2 rfl)) v8
theorem ret_box_tmp {P : Program} {fn : Func} {s u : Tmp} {t : TypeId} {tmps : Array Value} {w : World} {b : Nat} {T : TypeId} {cs : Array Value} {d : TypeDesc} (h : fn.results = #[.cell s t, .tmp u]) (hx : tmps.getD s undef = .pointer (some ⟨b, 0, none⟩)) (hB : BoxV w b T cs)
    (hu : P.underlying t = some d) (hd : d.isRow = true) (hi : (P.info? t).map (·.size) = some cs.size) : (results fn tmps).run P w = .ok (.tuple #[.agg cs, tmps.getD u undef]) w := by
  have L := run_loadVar_mid (P := P) w b 0 t cs.toList d hB.range hu hd (by simpa using hi)
  rw [Array.toArray_toList] at L
  have hx' : tmps[s]?.getD undef = .pointer (some ⟨b, 0, none⟩) := by simpa using hx
  simp [results, h, hx', asAddr, L]
theorem two11T (l : List UInt8) (i : Nat) (hl : l.length ≤ 100000) (hi : i ≤ 200000) (w : World) : Calls Try.prog 58 #[.string (S l), .int .i64 (i : Int)] w fun e w' => e = .returned (.int .i64 (twoA l i : Nat)) ∧ Touch [] w w' :=
  (two11 l i hl hi w).mono fun e w' ⟨h1, h2⟩ => ⟨h1, by rw [h2]; exact Touch.refl _ _⟩

set_option maxHeartbeats 2000000 in
set_option maxRecDepth 100000 in
theorem refParse11 (l : List UInt8) (hl : l.length ≤ 100000) (w : World) :
    Calls Try.prog 23 #[.string (S l)] w fun e w' => e = .returned (.tuple #[.agg (hdP l).cells, .int .i64 (errP l)]) ∧ Touch [] w w' := by
  have hss : (S l).size = l.length := S_size l
  have BR := Lib.hid (BoxV.new w 54 #[.int .u64 0, .int .u64 0, .int .u64 0, .int .u64 0, .int .i64 0, .int .i64 0, .int .i64 0, .int .i64 0, .bool false])
  have T0 := Lib.hid ((Touch.refl [] w).alloc (.cells #[.int .u64 0, .int .u64 0, .int .u64 0, .int .u64 0, .int .i64 0, .int .i64 0, .int .i64 0, .int .i64 0, .bool false] 54))
  by_cases h20 : l.length < 20
  · have e1 : errP l = 5 := by unfold errP; rw [if_pos h20]
    have e2 : hdP l = zeroP := by unfold hdP; rw [e1, if_neg (by decide)]
    rw [e1, e2]
    have d20 : decide ((l.length : Int) < 20) = true := by simp; omega
    unfold zeroP Hd.cells
    clear e1 e2 h20
    go_enter Try.func23, Try.ntmps23
    go_wp2_with fail
    refine bodyPost_ret (v := .tuple #[.agg #[.int .u64 0, .int .u64 0, .int .u64 0, .int .u64 0, .int .i64 0, .int .i64 0, .int .i64 0, .int .i64 0, .bool false], .int .i64 5]) (by simp [results, Try.results23, go_sem]) rfl ⟨rfl, (Touch.refl _ _).alloc _⟩
  have d20 : decide ((l.length : Int) < 20) = false := by simp; omega
  have hx0 : ∀ w : World, (Instr.index 9 (.string (S l)) (.int .i64 0)).run Try.prog w = .ok (.int .u8 ((byteAt l 0 : Nat) : Int)) w := fun w => by
    have := ix_str l 0 (by omega) w
    rwa [← byteAt_in l 0 (by omega)] at this
  have hb0 := byteAt_lt l 0
  by_cases h22 : byteAt l 0 / 16 ≠ 4
  · have e1 : errP l = 22 := by unfold errP; rw [if_neg h20, if_pos h22]
    have e2 : hdP l = zeroP := by unfold hdP; rw [e1, if_neg (by decide)]
    rw [e1, e2]
    have d22 : (((byteAt l 0 : Nat) : Int) / 16 != 4) = true := by simp; omega
    generalize byteAt l 0 = b0 at *
    unfold zeroP Hd.cells
    clear e1 e2 h20 h22
    go_enter Try.func23, Try.ntmps23
    go_wp2_with fail
    refine bodyPost_ret (v := .tuple #[.agg #[.int .u64 0, .int .u64 0, .int .u64 0, .int .u64 0, .int .i64 0, .int .i64 0, .int .i64 0, .int .i64 0, .bool false], .int .i64 22]) (by simp [results, Try.results23, go_sem]) rfl ⟨rfl, (Touch.refl _ _).alloc _⟩
  have d22 : (((byteAt l 0 : Nat) : Int) / 16 != 4) = false := by simp; omega
  have TW : Hid (∀ w, Calls Try.prog 58 #[.string (S l), .int .i64 2] w fun e w' => e = .returned (.int .i64 (twoA l 2 : Nat)) ∧ Touch [] w w') := Lib.hid (fun w => two11T l 2 hl (by omega) w)
  have hst : 4 * (((byteAt l 0 : Nat) : Int) % 16) = ((startP l : Nat) : Int) := by unfold startP; omega
  have ht2 := twoA_le l 2
  by_cases h23 : ¬ (20 ≤ startP l ∧ startP l ≤ l.length)
  · have e1 : errP l = 23 := by unfold errP; rw [if_neg h20, if_neg h22, if_pos h23]
    have e2 : hdP l = zeroP := by unfold hdP; rw [e1, if_neg (by decide)]
    rw [e1, e2]
    have ways : decide (((startP l : Nat) : Int) < 20) = true ∨ (decide (((startP l : Nat) : Int) < 20) = false ∧ decide (l.length < startP l) = true) := by simp only [decide_eq_true_eq, decide_eq_false_iff_not]; omega
    have hsp : startP l ≤ 60 := by unfold startP; omega
    generalize startP l = st at *
    generalize twoA l 2 = t2 at *
    generalize byteAt l 0 = b0 at *
    unfold zeroP Hd.cells
    clear e1 e2 h20 h22 h23
    rcases ways with d1 | ⟨d1, d2⟩
    all_goals
      go_enter Try.func23, Try.ntmps23
      go_upto_region 5 with fail
      generalize w.alloc (.cells #[.int .u64 0, .int .u64 0, .int .u64 0, .int .u64 0, .int .i64 0, .int .i64 0, .int .i64 0, .int .i64 0, .bool false] 54) = w1 at *
      refine wp_region_cls (wd := w1) (by kernel_rfl) (by kernel_rfl) ((Touch.refl _ _).drew) ?_
      repeat (first | go_big_quiet_step ((go_at_call 58; with_reducible exact Calls.cls_at (TW.out _))) | quiet_step ((go_at_call 58; with_reducible exact Calls.cls_at (TW.out _))))
      refine wpQuiet_nil ?_
      rintro _ ⟨y, rfl⟩
      have TY := Lib.hid (T0.out.trans y.property (by simp))
      have BQ := BR.out.carry y.property (by simp)
      generalize y.val = w2 at *
      have fz := BQ.fr
      have r0 := BQ.cell 0
      have r1 := BQ.cell 1
      have r2 := BQ.cell 2
      have r3 := BQ.cell 3
      have r4 := BQ.cell 4
      have r5 := BQ.cell 5
      have r6 := BQ.cell 6
      have r7 := BQ.cell 7
      have r8 := BQ.cell 8
      have ltq := BQ.lt
      have HB := Lib.hid BQ
      clear BQ
      go_wp2_with fail
      refine bodyPost_ret (ret_box_tmp rfl rfl (HB.out.fill9 (.int .u64 0) (.int .u64 0) (.int .u64 0) (.int .u64 0) (.int .i64 0) (.int .i64 0) (.int .i64 0) (.int .i64 0) (.bool false)) Try.underlying54 rfl (by kernel_rfl)) rfl ⟨rfl, TY.out.trans (touch_fill9 w2 w.heap.size (.int .u64 0) (.int .u64 0) (.int .u64 0) (.int .u64 0) (.int .i64 0) (.int .i64 0) (.int .i64 0) (.int .i64 0) (.bool false)) (by simp)⟩
  have hsp : startP l ≤ 60 := by unfold startP; omega
  have d1 : decide (((startP l : Nat) : Int) < 20) = false := by simp; omega
  have d2 : decide (l.length < startP l) = false := by simp; omega
  by_cases h6 : ¬ (startP l ≤ twoA l 2 ∧ twoA l 2 ≤ l.length)
  · have e1 : errP l = 6 := by unfold errP; rw [if_neg h20, if_neg h22, if_neg h23, if_pos h6]
    have e2 : hdP l = zeroP := by unfold hdP; rw [e1, if_neg (by decide)]
    rw [e1, e2]
    have ways : decide (twoA l 2 < startP l) = true ∨ (decide (twoA l 2 < startP l) = false ∧ decide (l.length < twoA l 2) = true) := by simp only [decide_eq_true_eq, decide_eq_false_iff_not]; omega
    generalize startP l = st at *
    generalize twoA l 2 = t2 at *
    generalize byteAt l 0 = b0 at *
    unfold zeroP Hd.cells
    clear e1 e2 h20 h22 h23 h6
    rcases ways with d3 | ⟨d3, d4⟩
    all_goals
      go_enter Try.func23, Try.ntmps23
      go_upto_region 5 with fail
      generalize w.alloc (.cells #[.int .u64 0, .int .u64 0, .int .u64 0, .int .u64 0, .int .i64 0, .int .i64 0, .int .i64 0, .int .i64 0, .bool false] 54) = w1 at *
      refine wp_region_cls (wd := w1) (by kernel_rfl) (by kernel_rfl) ((Touch.refl _ _).drew) ?_
      repeat (first | go_big_quiet_step ((go_at_call 58; with_reducible exact Calls.cls_at (TW.out _))) | quiet_step ((go_at_call 58; with_reducible exact Calls.cls_at (TW.out _))))
      refine wpQuiet_nil ?_
      rintro _ ⟨y, rfl⟩
      have TY := Lib.hid (T0.out.trans y.property (by simp))
      have BQ := BR.out.carry y.property (by simp)
      generalize y.val = w2 at *
      have fz := BQ.fr
      have r0 := BQ.cell 0
      have r1 := BQ.cell 1
      have r2 := BQ.cell 2
      have r3 := BQ.cell 3
      have r4 := BQ.cell 4
      have r5 := BQ.cell 5
      have r6 := BQ.cell 6
      have r7 := BQ.cell 7
      have r8 := BQ.cell 8
      have ltq := BQ.lt
      have HB := Lib.hid BQ
      clear BQ
      go_wp2_with fail
      refine bodyPost_ret (ret_box_tmp rfl rfl (HB.out.fill9 (.int .u64 0) (.int .u64 0) (.int .u64 0) (.int .u64 0) (.int .i64 0) (.int .i64 0) (.int .i64 0) (.int .i64 0) (.bool false)) Try.underlying54 rfl (by kernel_rfl)) rfl ⟨rfl, TY.out.trans (touch_fill9 w2 w.heap.size (.int .u64 0) (.int .u64 0) (.int .u64 0) (.int .u64 0) (.int .i64 0) (.int .i64 0) (.int .i64 0) (.int .i64 0) (.bool false)) (by simp)⟩
  have d3 : decide (twoA l 2 < startP l) = false := by simp; omega
  have d4 : decide (l.length < twoA l 2) = false := by simp; omega
  have s1 : (S l).extract 0 (startP l) = S (l.take (startP l)) := S_take l _
  have SU := Lib.hid (fun w => refSum11 (l.take (startP l)) (by rw [List.length_take]; omega) w)
  have hse : startP l ≤ l.length := by omega
  by_cases h24 : sumA (l.take (startP l)) ≠ 0
  · have e1 : errP l = 24 := by unfold errP; rw [if_neg h20, if_neg h22, if_neg h23, if_neg h6, if_pos h24]
    have e2 : hdP l = zeroP := by unfold hdP; rw [e1, if_neg (by decide)]
    rw [e1, e2]
    have d5 : (sumA (l.take (startP l)) != 0) = true := by simpa using h24
    generalize sumA (l.take (startP l)) = sm at *
    generalize l.take (startP l) = lt' at *
    generalize startP l = st at *
    generalize twoA l 2 = t2 at *
    generalize byteAt l 0 = b0 at *
    unfold zeroP Hd.cells
    clear e1 e2 h20 h22 h23 h6 h24
    go_enter Try.func23, Try.ntmps23
    go_upto_region 5 with fail
    generalize w.alloc (.cells #[.int .u64 0, .int .u64 0, .int .u64 0, .int .u64 0, .int .i64 0, .int .i64 0, .int .i64 0, .int .i64 0, .bool false] 54) = w1 at *
    refine wp_region_cls (wd := w1) (by kernel_rfl) (by kernel_rfl) ((Touch.refl _ _).drew) ?_
    repeat (first | go_big_quiet_step ((go_at_call 58; with_reducible exact Calls.cls_at (TW.out _))) | quiet_step ((go_at_call 58; with_reducible exact Calls.cls_at (TW.out _))))
    refine wpQuiet_nil ?_
    rintro _ ⟨y, rfl⟩
    have TY := Lib.hid (T0.out.trans y.property (by simp))
    have BQ := BR.out.carry y.property (by simp)
    generalize y.val = w2 at *
    go_wp2_with fail
    refine (SU.out _).mono ?_
    rintro e w2 ⟨rfl, rfl⟩
    have fz := BQ.fr
    have r0 := BQ.cell 0
    have r1 := BQ.cell 1
    have r2 := BQ.cell 2
    have r3 := BQ.cell 3
    have r4 := BQ.cell 4
    have r5 := BQ.cell 5
    have r6 := BQ.cell 6
    have r7 := BQ.cell 7
    have r8 := BQ.cell 8
    have ltq := BQ.lt
    have HB := Lib.hid BQ
    clear BQ
    go_wp2_with fail
    refine bodyPost_ret (ret_box_tmp rfl rfl (HB.out.fill9 (.int .u64 0) (.int .u64 0) (.int .u64 0) (.int .u64 0) (.int .i64 0) (.int .i64 0) (.int .i64 0) (.int .i64 0) (.bool false)) Try.underlying54 rfl (by kernel_rfl)) rfl ⟨rfl, TY.out.trans (touch_fill9 w2 w.heap.size (.int .u64 0) (.int .u64 0) (.int .u64 0) (.int .u64 0) (.int .i64 0) (.int .i64 0) (.int .i64 0) (.int .i64 0) (.bool false)) (by simp)⟩
  have e1 : errP l = 0 := by unfold errP; rw [if_neg h20, if_neg h22, if_neg h23, if_neg h6, if_neg h24]
  have e2 : hdP l = wholeP l := by unfold hdP; rw [if_pos e1]
  rw [e1, e2]
  have d5 : (sumA (l.take (startP l)) != 0) = false := by simpa using h24
  have hx9 : ∀ w : World, (Instr.index 9 (.string (S l)) (.int .i64 9)).run Try.prog w = .ok (.int .u8 ((byteAt l 9 : Nat) : Int)) w := fun w => by
    have := ix_str l 9 (by omega) w
    rwa [← byteAt_in l 9 (by omega)] at this
  have hb9 := byteAt_lt l 9
  have TW6 : Hid (∀ w, Calls Try.prog 58 #[.string (S l), .int .i64 6] w fun e w' => e = .returned (.int .i64 (twoA l 6 : Nat)) ∧ w' = w) := Lib.hid (fun w => two11 l 6 hl (by omega) w)
  have ht6 := twoA_le l 6
  have s12 : (S l).extract 12 16 = S ((l.drop 12).take 4) := S_slice l 12 16 (by omega)
  have s16 : (S l).extract 16 20 = S ((l.drop 16).take 4) := S_slice l 16 20 (by omega)
  have m1 : ((l.drop 12).take 4).length = 4 := by rw [List.length_take, List.length_drop]; omega
  have m2 : ((l.drop 16).take 4).length = 4 := by rw [List.length_take, List.length_drop]; omega
  have of4 : ∀ m : List UInt8, m.length = 4 → hiA m = 0 ∧ loA m = num m ∧ verA m = 4 ∧ okA m = true := by
    intro m hm
    refine ⟨?_, ?_, ?_, ?_⟩
    · unfold hiA; rw [if_neg (by omega)]
    · unfold loA; rw [if_pos hm]
    · unfold verA; rw [if_pos hm]
    · unfold okA; simp [hm]
  have O1 := fun w => refOf10 ((l.drop 12).take 4) (by omega) w
  have O2 := fun w => refOf10 ((l.drop 16).take 4) (by omega) w
  rw [(of4 _ m1).1, (of4 _ m1).2.1, (of4 _ m1).2.2.1, (of4 _ m1).2.2.2] at O1
  rw [(of4 _ m2).1, (of4 _ m2).2.1, (of4 _ m2).2.2.1, (of4 _ m2).2.2.2] at O2
  unfold wholeP av Hd.cells at *
  have w6 : ((twoA l 6 : Nat) : Int) % 8192 = ((twoA l 6 % 8192 : Nat) : Int) := by omega
  have w7 : (((twoA l 6 : Nat) : Int) / 8192 % 2 == 1) = decide (twoA l 6 / 8192 % 2 = 1) := by
    rw [show ((twoA l 6 : Nat) : Int) / 8192 % 2 = ((twoA l 6 / 8192 % 2 : Nat) : Int) by omega]
    by_cases h : twoA l 6 / 8192 % 2 = 1
    · simp [h]
    · rw [decide_eq_false h]; simp; omega
  have O1 := Lib.hid O1
  have O2 := Lib.hid O2
  generalize num ((l.drop 12).take 4) = n1 at *
  generalize num ((l.drop 16).take 4) = n2 at *
  generalize (l.drop 12).take 4 = q12 at *
  generalize (l.drop 16).take 4 = q16 at *
  generalize decide (twoA l 6 / 8192 % 2 = 1) = mo at *
  generalize twoA l 6 % 8192 = o6 at *
  generalize twoA l 6 = t6 at *
  generalize sumA (l.take (startP l)) = sm at *
  generalize l.take (startP l) = lt' at *
  generalize byteAt l 9 = b9 at *
  generalize startP l = st at *
  generalize twoA l 2 = t2 at *
  generalize byteAt l 0 = b0 at *
  have hl20 : 20 ≤ l.length := by omega
  have hl16 : 16 ≤ l.length := by omega
  have hi20 : (20 : Int) ≤ (l.length : Int) := by omega
  have hi16 : (16 : Int) ≤ (l.length : Int) := by omega
  clear e1 e2 h20 h22 h23 h6 h24 m1 m2 of4
  go_enter Try.func23, Try.ntmps23
  go_upto_region 5 with fail
  generalize w.alloc (.cells #[.int .u64 0, .int .u64 0, .int .u64 0, .int .u64 0, .int .i64 0, .int .i64 0, .int .i64 0, .int .i64 0, .bool false] 54) = w1 at *
  refine wp_region_cls (wd := w1) (by kernel_rfl) (by kernel_rfl) ((Touch.refl _ _).drew) ?_
  repeat (first | go_big_quiet_step ((go_at_call 58; with_reducible exact Calls.cls_at (TW.out _))) | quiet_step ((go_at_call 58; with_reducible exact Calls.cls_at (TW.out _))))
  refine wpQuiet_nil ?_
  rintro _ ⟨y, rfl⟩
  have TY := Lib.hid (T0.out.trans y.property (by simp))
  have BQ := Lib.hid (BR.out.carry y.property (by simp))
  generalize y.val = w2 at *
  go_wp2_with fail
  refine (SU.out _).mono ?_
  rintro e w2 ⟨rfl, rfl⟩
  go_wp2_with fail
  refine (O1.out _).mono ?_
  rintro e w3 ⟨rfl, t3⟩
  have T3 := Lib.hid ((TY.out.trans t3 (by simp)).alloc (.cells #[.int .u64 0, .int .u64 (n1 : Int)] 44))
  have B3 := Lib.hid (BQ.out.carry (t3.alloc (.cells #[.int .u64 0, .int .u64 (n1 : Int)] 44)) (by simp))
  have X3 := Lib.hid (BoxV.new w3 44 #[.int .u64 0, .int .u64 (n1 : Int)])
  clear t3 TY BQ
  go_wp2_with fail
  refine (O2.out _).mono ?_
  rintro e w4 ⟨rfl, t4⟩
  have T4 := Lib.hid ((T3.out.trans t4 (by simp)).alloc (.cells #[.int .u64 0, .int .u64 (n2 : Int)] 44))
  have B4 := Lib.hid (B3.out.carry (t4.alloc (.cells #[.int .u64 0, .int .u64 (n2 : Int)] 44)) (by simp))
  have X4 := Lib.hid (X3.out.carry (t4.alloc (.cells #[.int .u64 0, .int .u64 (n2 : Int)] 44)) (by simp))
  have Y4 := Lib.hid (BoxV.new w4 44 #[.int .u64 0, .int .u64 (n2 : Int)])
  clear t4 T3 B3 X3
  go_wp2_with fail
  refine (TW6.out _).mono ?_
  rintro e w5 ⟨rfl, hq⟩
  subst hq
  go_upto_region 15 with fail
  generalize w4.alloc (.cells #[.int .u64 0, .int .u64 (n2 : Int)] 44) = w6' at *
  have a0 : ∀ x : Cls w6', x.val.cell? ⟨w3.heap.size, 0, none⟩ = some (.int .u64 0) := fun x => (X4.out.carry x.property (by simp)).cell 0
  have a1 : ∀ x : Cls w6', x.val.cell? ⟨w3.heap.size, 1, none⟩ = some (.int .u64 (n1 : Int)) := fun x => (X4.out.carry x.property (by simp)).cell 1
  have c0 : ∀ x : Cls w6', x.val.cell? ⟨w4.heap.size, 0, none⟩ = some (.int .u64 0) := fun x => (Y4.out.carry x.property (by simp)).cell 0
  have c1 : ∀ x : Cls w6', x.val.cell? ⟨w4.heap.size, 1, none⟩ = some (.int .u64 (n2 : Int)) := fun x => (Y4.out.carry x.property (by simp)).cell 1
  refine wp_region_tail (wd := w6') 14 (by kernel_rfl) (by kernel_rfl) ((Touch.refl _ _).drew) ?_
  simp only [List.take_succ_cons, List.take_zero, List.drop_succ_cons, List.drop_zero]
  repeat (first | go_big_quiet_step (fail) | quiet_step (fail))
  refine wpQuiet_nil ?_
  intro z
  have BZ := B4.out.carry z.property (by simp)
  have fz := BZ.fr
  have r0 := BZ.cell 0
  have r1 := BZ.cell 1
  have r2 := BZ.cell 2
  have r3 := BZ.cell 3
  have r4 := BZ.cell 4
  have r5 := BZ.cell 5
  have r6 := BZ.cell 6
  have r7 := BZ.cell 7
  have r8 := BZ.cell 8
  have ltq := BZ.lt
  have HB := Lib.hid BZ
  have TZ := Lib.hid (T4.out.trans z.property (by simp))
  clear BZ a0 a1 c0 c1
  go_wp2_with fail
  refine bodyPost_ret (ret_box_tmp rfl rfl (HB.out.fill9 (.int .u64 0) (.int .u64 (n1 : Int)) (.int .u64 0) (.int .u64 (n2 : Int)) (.int .i64 (b9 : Int)) (.int .i64 (st : Int)) (.int .i64 (t2 : Int)) (.int .i64 (o6 : Int)) (.bool mo)) Try.underlying54 rfl (by kernel_rfl)) rfl ⟨rfl, TZ.out.trans (touch_fill9 z.val w.heap.size (.int .u64 0) (.int .u64 (n1 : Int)) (.int .u64 0) (.int .u64 (n2 : Int)) (.int .i64 (b9 : Int)) (.int .i64 (st : Int)) (.int .i64 (t2 : Int)) (.int .i64 (o6 : Int)) (.bool mo)) (by simp)⟩
end Go.Proofs.Ytonchibngcoefaa
