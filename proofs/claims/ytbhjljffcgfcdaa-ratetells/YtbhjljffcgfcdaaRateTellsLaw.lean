/-
  RateTells: for every link, share, length and time the law on rate's table returns true. No conditions.
-/
import Derived.Test.YtbhjljffcgfcdaaRate3
import Derived.Test.YtbhjljffcgfcdaaInts
import Derived.Lib.SmallJoins
namespace Go.Proofs.Ytbhjljffcgfcdaa
open Go.ChangeShapes Go.WideShapes Go.ChangeAt Go.RowKit Go.Deep Go.Joins
set_option linter.unusedVariables false

theorem calls_touch {P : Program} {f : FuncId} {args : Array Value} {w : World} {v : Value} (h : Calls P f args w fun e w' => e = .returned v ∧ Below w.heap.size w w') : Calls P f args w fun e w' => e = .returned v ∧ Touch [] w w' :=
  h.mono fun _ _ ⟨he, hb⟩ => ⟨he, Touch.ofBelow hb⟩
theorem calls_same {P : Program} {f : FuncId} {args : Array Value} {w : World} {v : Value} (h : Calls P f args w fun e w' => e = .returned v ∧ w = w') : Calls P f args w fun e w' => e = .returned v ∧ Touch [] w w' :=
  h.mono fun _ _ ⟨he, hb⟩ => ⟨he, hb ▸ Touch.refl _ _⟩
/-- Exact and its reference, whatever they are given. -/
theorem exact_ways (tpb units n : Int) (hn : fit64 n) : ∃ r, (∀ w, Calls Try.prog 24 #[.int .i64 tpb, .int .i64 units, .int .i64 n] w fun e w' => e = .returned (.int .i64 r) ∧ Touch [] w w') ∧
    (∀ w, Calls Try.prog 25 #[.int .i64 tpb, .int .i64 units, .int .i64 n] w fun e w' => e = .returned (.int .i64 r) ∧ Touch [] w w') ∧ (okRate tpb units → r = timeV tpb units (cellsV n)) := by
  by_cases h : okRate tpb units
  · exact ⟨_, fun w => calls_touch (exact_yes n w h), fun w => calls_same (refExact_yes n w h hn), fun _ => rfl⟩
  · exact ⟨0, fun w => calls_touch (exact_no n w h), fun w => calls_same (refExact_no n w h), fun k => absurd k h⟩

set_option maxHeartbeats 2000000 in
set_option maxRecDepth 100000 in
theorem rateTells_walk (tpb units n t : Int) (wd : World) (hn : fit64 n) (ht : fit64 t) :
    Calls Try.prog 6 #[.int .i64 tpb, .int .i64 units, .agg #[.int .i64 n, .int .i64 t]] wd fun e w' => e = .returned (.bool true) ∧ Below wd.heap.size wd w' := by
  obtain ⟨r, E1, E2, hr⟩ := exact_ways tpb units n hn
  have C1 := Lib.hid (fun w => calls_same (cells_any n w))
  have C2 := Lib.hid (fun w => calls_same (refCells_any n w hn))
  have E1 := Lib.hid E1
  have E2 := Lib.hid E2
  have HR := Lib.hid hr
  have L := Lib.hid (fun w => calls_touch (rateLives_any w))
  clear hr
  have q1 : (cellsV n != cellsV n) = false := by simp
  have q2 : (r != r) = false := by simp
  have bx := Box2.new wd 33 (.int .i64 n) (.int .i64 t)
  have T0 := (Touch.refl [] wd).alloc (.cells #[.int .i64 n, .int .i64 t] 33)
  by_cases h : okRate tpb units
  · have N := Lib.hid (new4_yes (wd.alloc (.cells #[.int .i64 n, .int .i64 t] 33)) h)
    have hrr := HR.out h
    have R := Lib.hid (fun w => calls_same (right4_yes w h))
    have RB := Lib.hid (fun w => calls_same (refBytes_yes t w h ht))
    have HH := Lib.hid h
    have q3 : (bytesV tpb units t == bytesV tpb units t) = true := by simp
    have q4 : (r == r) = true := by simp
    have BX := Lib.hid bx
    have TT := Lib.hid T0
    clear bx T0 h
    subst hrr
    go_enter Try.func6, Try.ntmps6
    go_wp2_with fail
    refine (N.out).mono ?_
    rintro e w1 ⟨rfl, h1, b1⟩
    have T1 := Touch.ofBelow (S := []) b1
    have bx1 := BX.out.carry T1 (by simp)
    have T2 := TT.out.trans T1 (by simp)
    have k0 : ∀ x : Cls w1, x.val.cell? ⟨wd.heap.size, 0, none⟩ = some (.int .i64 n) := fun x => (bx1.carry x.property (by simp)).c0
    have k1 : ∀ x : Cls w1, x.val.cell? ⟨wd.heap.size, 1, none⟩ = some (.int .i64 t) := fun x => (bx1.carry x.property (by simp)).c1
    have TM := Lib.hid (fun x : Cls w1 => time_any (h1.carry x.property (by simp)) n)
    have BY := Lib.hid (fun x : Cls w1 => bytes_any (h1.carry x.property (by simp)) HH.out t)
    rw [show (wd.alloc (.cells #[.int .i64 n, .int .i64 t] 33)).heap.size = wd.heap.size + 1 by simp] at TM BY
    have TT2 := Lib.hid T2
    have H1 := Lib.hid h1
    clear b1 T1 bx1 T2 h1 HR
    generalize timeV tpb units (cellsV n) = r at *
    generalize bytesV tpb units t = B at *
    generalize cellsV n = c at *
    go_upto_region 2 with fail
    refine wp_region_cls (wd := w1) (by kernel_rfl) (by kernel_rfl) ((Touch.refl _ _).drew) ?_
    repeat (first | go_big_quiet_step ((first | (go_at_call 22; exact Calls.cls_at (C1.out _)) | (go_at_call 23; exact Calls.cls_at (C2.out _)) | (go_at_call 24; exact Calls.cls_at (E1.out _)) | (go_at_call 25; exact Calls.cls_at (E2.out _)))) | quiet_step ((first | (go_at_call 22; exact Calls.cls_at (C1.out _)) | (go_at_call 23; exact Calls.cls_at (C2.out _)) | (go_at_call 24; exact Calls.cls_at (E1.out _)) | (go_at_call 25; exact Calls.cls_at (E2.out _)))))
    refine wpQuiet_nil ?_
    rintro _ ⟨y, rfl⟩
    go_wp2_with fail
    refine (R.out _).mono ?_
    rintro e w3 ⟨rfl, t3⟩
    go_upto_region 6 with fail
    have TY := Lib.hid (y.property.trans t3 (by simp))
    clear t3
    generalize y.val = wy at *
    refine wp_region_cls (wd := w1) (by kernel_rfl) (by kernel_rfl) (TY.out.drew) ?_
    repeat (first | go_big_quiet_step ((first | (go_at_call 27; exact Calls.cls_at (TM.out _)) | (go_at_call 25; exact Calls.cls_at (E2.out _)) | (go_at_call 28; exact Calls.cls_at (BY.out _)) | (go_at_call 30; exact Calls.cls_at (RB.out _)) | (go_at_call 29; exact Calls.cls_at (L.out _)))) | quiet_step ((first | (go_at_call 27; exact Calls.cls_at (TM.out _)) | (go_at_call 25; exact Calls.cls_at (E2.out _)) | (go_at_call 28; exact Calls.cls_at (BY.out _)) | (go_at_call 30; exact Calls.cls_at (RB.out _)) | (go_at_call 29; exact Calls.cls_at (L.out _)))))
    refine wpQuiet_nil ?_
    rintro _ ⟨z, rfl⟩
    go_wp2_with fail
    go_ret
    exact ⟨rfl, (TT2.out.trans z.property (by simp)).below (by simp) (Nat.le_refl _)⟩
  · have N := Lib.hid (new4_no (wd.alloc (.cells #[.int .i64 n, .int .i64 t] 33)) h)
    have R := Lib.hid (fun w => calls_same (right4_no w h))
    clear h HR
    have BX := Lib.hid bx
    have TT := Lib.hid T0
    clear bx T0
    go_enter Try.func6, Try.ntmps6
    go_wp2_with fail
    refine (N.out).mono ?_
    rintro e w1 ⟨rfl, rfl⟩
    go_upto_region 2 with fail
    generalize wd.alloc (.cells #[.int .i64 n, .int .i64 t] 33) = w1 at *
    have k0 : ∀ x : Cls w1, x.val.cell? ⟨wd.heap.size, 0, none⟩ = some (.int .i64 n) := fun x => (BX.out.carry x.property (by simp)).c0
    generalize cellsV n = c at *
    refine wp_region_cls (wd := w1) (by kernel_rfl) (by kernel_rfl) ((Touch.refl _ _).drew) ?_
    repeat (first | go_big_quiet_step ((first | (go_at_call 22; exact Calls.cls_at (C1.out _)) | (go_at_call 23; exact Calls.cls_at (C2.out _)) | (go_at_call 24; exact Calls.cls_at (E1.out _)) | (go_at_call 25; exact Calls.cls_at (E2.out _)))) | quiet_step ((first | (go_at_call 22; exact Calls.cls_at (C1.out _)) | (go_at_call 23; exact Calls.cls_at (C2.out _)) | (go_at_call 24; exact Calls.cls_at (E1.out _)) | (go_at_call 25; exact Calls.cls_at (E2.out _)))))
    refine wpQuiet_nil ?_
    rintro _ ⟨y, rfl⟩
    have by1 := BX.out.carry y.property (by simp)
    have e0 := by1.c0
    have e1 := by1.c1
    have TY := Lib.hid (TT.out.trans y.property (by simp))
    have le := by1.lt
    clear k0 by1
    generalize y.val = wy at *
    go_wp2_with fail
    refine (R.out _).mono ?_
    rintro e w3 ⟨rfl, t3⟩
    have e0 := (t3.cell (a := ⟨wd.heap.size, 0, none⟩) le (by simp)).trans e0
    have e1 := (t3.cell (a := ⟨wd.heap.size, 1, none⟩) le (by simp)).trans e1
    have T3 := Lib.hid (TY.out.trans t3 (by simp))
    have l3 : wd.heap.size < w3.heap.size := Nat.lt_of_lt_of_le le t3.size
    clear t3
    go_wp2_with fail
    refine (time_nil _ _).mono ?_
    rintro e w' ⟨rfl, rfl⟩
    go_wp2_with fail
    refine (bytes_nil _ _).mono ?_
    rintro e w4 ⟨rfl, t4⟩
    have T4 := Lib.hid (T3.out.trans t4 (by simp))
    clear t4
    go_wp2_with fail
    refine (L.out _).mono ?_
    rintro e w5 ⟨rfl, t5⟩
    have T5 := Lib.hid (T4.out.trans t5 (by simp))
    clear t5
    go_wp2_with fail
    go_ret
    exact ⟨rfl, T5.out.below (by simp) (Nat.le_refl _)⟩

set_option maxRecDepth 100000 in
theorem rateTells_calls : LawCalls Try.prog 6 Try.f6 := by
  intro H enc W base args ds p hval hA hlt
  rw [Try.params6] at hA hval
  obtain ⟨v0, vs0, d0, ds0, p0, q0, hargs, rfl, rfl, h0, r0⟩ := trodAll_cons hA
  obtain ⟨v1, vs1, d1, ds1, p1, q1, rfl, rfl, rfl, h1, r1⟩ := trodAll_cons r0
  obtain ⟨v2, vs2, d2, ds2, p2, q2, rfl, rfl, rfl, h2, r2⟩ := trodAll_cons r1
  obtain ⟨rfl, rfl, rfl⟩ := trodAll_nil r2
  obtain rfl : args = #[v0, v1, v2] := by cases args; simp_all
  obtain ⟨a, rfl, rfl, rfl, wa⟩ := open_int Try.underlying3 (hval 0 3 v0 rfl rfl) h0
  obtain ⟨b, rfl, rfl, rfl, wb⟩ := open_int Try.underlying3 (hval 1 3 v1 rfl rfl) h1
  obtain ⟨cs, rfl, hsz, hcs⟩ := open_ints_array Try.underlying33 Try.underlying3 (by kernel_rfl) (hval 2 33 v2 rfl rfl) h2
  obtain ⟨x, hx, fx⟩ := hcs 0 (by omega)
  obtain ⟨y, hy, fy⟩ := hcs 1 (by omega)
  have hC : Try.prog.cellsOf 33 = 2 := by kernel_rfl
  obtain ⟨c0, c1, rfl⟩ := array2 (hsz.trans hC)
  simp at hx hy
  subst hx hy
  exact rateTells_walk a b x y W fx fy

set_option maxRecDepth 100000 in
theorem rateTells_lifted (os : Os) (started : os.Started) (H : Type) (enc : TypeId × Value → H) :
    ReturnsInHanded {} Try.checked os 6 .any (Rows.rateTellsSpec.pre6 enc Try.prog Try.f6 Rows.rateTellsRow.domain false) (Rows.rateTellsSpec.post enc Try.prog Try.f6 false true false false) := by
  refine returnsInHanded_of_change (C := Try.checked) own started (by kernel_rfl) Try.func6
    (ChangeSpec.witness6 (enc := enc) (C := Try.checked) false ⟨#[], #[.int .i64 0, .int .i64 0, .agg #[.int .i64 0, .int .i64 0]], []⟩ 8 (by kernel_rfl) (by kernel_rfl) (by kernel_rfl) (by kernel_rfl)) ?_
  intro W base args ds gs before hval hW _ _
  exact law_contract laidOut (by kernel_rfl) rfl rfl boolType (fun ds h => by match ds, h with | [_, _, _], _ => rfl) rateTells_calls W base args ds gs before hval hW

theorem rateTells_holds : Rows.RateTellsSaid :=
  OpenClaim.holds_of_wide 6 Try.f6 rfl rfl rfl rfl rfl rfl rfl ⟨rfl, rfl, rfl, rfl, rfl⟩ rfl rfl rfl rfl rfl (by kernel_rfl) Try.func6 (by kernel_rfl)
    (of_decide_eq_true (by kernel_rfl)) (by unfold Func.isWrapper; first | (rw [if_pos (by decide +kernel)]; kernel_rfl) | (rw [if_neg (by decide +kernel)]; exact ⟨rfl, rfl⟩))
    (fun os started H enc _ => rateTells_lifted os started H enc)
#print axioms rateTells_holds
end Go.Proofs.Ytbhjljffcgfcdaa
