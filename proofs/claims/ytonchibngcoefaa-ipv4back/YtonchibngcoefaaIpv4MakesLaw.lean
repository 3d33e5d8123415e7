/-
  Ipv4Makes: for every header and every payload the law on ipv4's Make returns true. No conditions.
-/
import Derived.Test.YtonchibngcoefaaIpv4Pack
import Derived.Lib.SmallJoins
namespace Go.Proofs.Ytonchibngcoefaa
open Go.ChangeShapes Go.WideShapes Go.ChangeAt Go.RowKit Go.Deep Go.Joins
set_option linter.unusedVariables false
set_option linter.unusedSimpArgs false

def noH : Hd := ⟨0, 0, 0, 0, 0, 0, 0, 0, false⟩
theorem noH_ok : noH.Ok := ⟨by unfold noH; simp, by unfold noH; simp, by unfold noH; simp, by unfold noH; simp⟩
theorem noH_pack : packA noH [] = [69, 0, 0, 20, 0, 0, 0, 0, 0, 0, 186, 235, 0, 0, 0, 0, 0, 0, 0, 0] := by decide +kernel

set_option maxHeartbeats 1000000 in
theorem ipv4Lives (w : World) : Calls Try.prog 21 #[] w fun e w' => e = .returned (.bool true) ∧ Touch [] w w' := by
  have M : Hid (∀ w, Calls Try.prog 26 #[.agg #[.int .u64 0, .int .u64 0, .int .u64 0, .int .u64 0, .int .i64 0, .int .i64 0, .int .i64 0, .int .i64 0, .bool false], .string ⟨#[]⟩] w fun e w' => e = .returned (.string (S (packA noH []))) ∧ Touch [] w w') := Lib.hid (fun w => make11 noH noH_ok [] (by simp) w)
  obtain ⟨X, hX⟩ : ∃ X, packA noH [] = X := ⟨_, rfl⟩
  have e := noH_pack
  rw [hX] at e M
  have hss : (S X).size = 20 := by rw [e]; rfl
  have s1 : (S X).extract 0 4 = ⟨#[69, 0, 0, 20]⟩ := by rw [e]; rfl
  have s2 : (S X).extract 10 12 = ⟨#[186, 235]⟩ := by rw [e]; rfl
  clear e hX
  go_enter Try.func21, Try.ntmps21
  go_wp2_with fail
  refine (M.out _).mono ?_
  rintro e w1 ⟨rfl, t1⟩
  have T1 := Lib.hid t1
  clear t1
  go_wp2_with fail
  go_ret
  exact ⟨rfl, T1.out⟩

set_option maxHeartbeats 1000000 in
theorem ipv4Makes_walk (h : Hd) (ok : h.Ok) (l : List UInt8) (hl : l.length ≤ 9223372036854775807) (w : World) :
    Calls Try.prog 6 #[.agg h.cells, .string (S l)] w fun e w' => e = .returned (.bool true) ∧ Below w.heap.size w w' := by
  have LV := Lib.hid (fun w => ipv4Lives w)
  have hss : (S l).size = l.length := S_size l
  have T0 := Lib.hid ((Touch.refl [] w).alloc (.cells h.cells 51))
  have X0 := Lib.hid (BoxV.new w 51 h.cells)
  by_cases h7 : l.length ≤ 70000
  · have d7 : decide (70000 < (l.length : Int)) = false := by simp; omega
    have M1 := Lib.hid (fun w => make11 h ok l (by omega) w)
    have M2 := Lib.hid (fun w => refMake11 h ok l (by omega) w)
    generalize packA h l = R at *
    unfold Hd.cells at *
    clear ok
    rcases (show l.length ≤ 200 ∨ (200 < l.length ∧ 65515 < l.length) ∨ (200 < l.length ∧ l.length ≤ 65515) by omega) with h2 | ⟨h2, h6⟩ | ⟨h2, h6⟩
    · have d2 : decide (200 < (l.length : Int)) = false := by simp; omega
      clear h2 h7
      go_enter Try.func6, Try.ntmps6
      go_upto_region 3 with fail
      generalize w.alloc (.cells #[.int .u64 (h.sh : Int), .int .u64 (h.sl : Int), .int .u64 (h.dh : Int), .int .u64 (h.dl : Int), .int .i64 h.proto, .int .i64 h.start, .int .i64 h.size, .int .i64 h.off, .bool h.more] 51) = w1 at *
      have k0 : ∀ x : Cls w1, x.val.cell? ⟨w.heap.size, 0, none⟩ = some (.int .u64 (h.sh : Int)) := fun x => (X0.out.carry x.property (by simp)).cell 0
      have k1 : ∀ x : Cls w1, x.val.cell? ⟨w.heap.size, 1, none⟩ = some (.int .u64 (h.sl : Int)) := fun x => (X0.out.carry x.property (by simp)).cell 1
      have k2 : ∀ x : Cls w1, x.val.cell? ⟨w.heap.size, 2, none⟩ = some (.int .u64 (h.dh : Int)) := fun x => (X0.out.carry x.property (by simp)).cell 2
      have k3 : ∀ x : Cls w1, x.val.cell? ⟨w.heap.size, 3, none⟩ = some (.int .u64 (h.dl : Int)) := fun x => (X0.out.carry x.property (by simp)).cell 3
      have k4 : ∀ x : Cls w1, x.val.cell? ⟨w.heap.size, 4, none⟩ = some (.int .i64 h.proto) := fun x => (X0.out.carry x.property (by simp)).cell 4
      have k5 : ∀ x : Cls w1, x.val.cell? ⟨w.heap.size, 5, none⟩ = some (.int .i64 h.start) := fun x => (X0.out.carry x.property (by simp)).cell 5
      have k6 : ∀ x : Cls w1, x.val.cell? ⟨w.heap.size, 6, none⟩ = some (.int .i64 h.size) := fun x => (X0.out.carry x.property (by simp)).cell 6
      have k7 : ∀ x : Cls w1, x.val.cell? ⟨w.heap.size, 7, none⟩ = some (.int .i64 h.off) := fun x => (X0.out.carry x.property (by simp)).cell 7
      have k8 : ∀ x : Cls w1, x.val.cell? ⟨w.heap.size, 8, none⟩ = some (.bool h.more) := fun x => (X0.out.carry x.property (by simp)).cell 8
      refine wp_region_cls (wd := w1) (by kernel_rfl) (by kernel_rfl) ((Touch.refl _ _).drew) ?_
      repeat (first | go_big_quiet_step ((first | (go_at_call 26; first | with_reducible exact Calls.cls_at (M1.out _)) | (go_at_call 27; first | with_reducible exact Calls.cls_at (M2.out _)) | (go_at_call 21; first | with_reducible exact Calls.cls_at (LV.out _)))) | quiet_step ((first | (go_at_call 26; first | with_reducible exact Calls.cls_at (M1.out _)) | (go_at_call 27; first | with_reducible exact Calls.cls_at (M2.out _)) | (go_at_call 21; first | with_reducible exact Calls.cls_at (LV.out _)))))
      refine wpQuiet_nil ?_
      rintro _ ⟨y, rfl⟩
      go_wp2_with fail
      go_ret
      exact ⟨rfl, (T0.out.trans y.property (by simp)).below (by simp) (Nat.le_refl _)⟩
    · have d2 : decide (200 < (l.length : Int)) = true := by simp; omega
      have d6 : decide ((l.length : Int) ≤ 65515) = false := by simp; omega
      clear h2 h6 h7
      go_enter Try.func6, Try.ntmps6
      go_upto_region 3 with fail
      generalize w.alloc (.cells #[.int .u64 (h.sh : Int), .int .u64 (h.sl : Int), .int .u64 (h.dh : Int), .int .u64 (h.dl : Int), .int .i64 h.proto, .int .i64 h.start, .int .i64 h.size, .int .i64 h.off, .bool h.more] 51) = w1 at *
      have k0 : ∀ x : Cls w1, x.val.cell? ⟨w.heap.size, 0, none⟩ = some (.int .u64 (h.sh : Int)) := fun x => (X0.out.carry x.property (by simp)).cell 0
      have k1 : ∀ x : Cls w1, x.val.cell? ⟨w.heap.size, 1, none⟩ = some (.int .u64 (h.sl : Int)) := fun x => (X0.out.carry x.property (by simp)).cell 1
      have k2 : ∀ x : Cls w1, x.val.cell? ⟨w.heap.size, 2, none⟩ = some (.int .u64 (h.dh : Int)) := fun x => (X0.out.carry x.property (by simp)).cell 2
      have k3 : ∀ x : Cls w1, x.val.cell? ⟨w.heap.size, 3, none⟩ = some (.int .u64 (h.dl : Int)) := fun x => (X0.out.carry x.property (by simp)).cell 3
      have k4 : ∀ x : Cls w1, x.val.cell? ⟨w.heap.size, 4, none⟩ = some (.int .i64 h.proto) := fun x => (X0.out.carry x.property (by simp)).cell 4
      have k5 : ∀ x : Cls w1, x.val.cell? ⟨w.heap.size, 5, none⟩ = some (.int .i64 h.start) := fun x => (X0.out.carry x.property (by simp)).cell 5
      have k6 : ∀ x : Cls w1, x.val.cell? ⟨w.heap.size, 6, none⟩ = some (.int .i64 h.size) := fun x => (X0.out.carry x.property (by simp)).cell 6
      have k7 : ∀ x : Cls w1, x.val.cell? ⟨w.heap.size, 7, none⟩ = some (.int .i64 h.off) := fun x => (X0.out.carry x.property (by simp)).cell 7
      have k8 : ∀ x : Cls w1, x.val.cell? ⟨w.heap.size, 8, none⟩ = some (.bool h.more) := fun x => (X0.out.carry x.property (by simp)).cell 8
      refine wp_region_cls (wd := w1) (by kernel_rfl) (by kernel_rfl) ((Touch.refl _ _).drew) ?_
      repeat (first | go_big_quiet_step ((first | (go_at_call 26; first | with_reducible exact Calls.cls_at (M1.out _)) | (go_at_call 27; first | with_reducible exact Calls.cls_at (M2.out _)) | (go_at_call 21; first | with_reducible exact Calls.cls_at (LV.out _)))) | quiet_step ((first | (go_at_call 26; first | with_reducible exact Calls.cls_at (M1.out _)) | (go_at_call 27; first | with_reducible exact Calls.cls_at (M2.out _)) | (go_at_call 21; first | with_reducible exact Calls.cls_at (LV.out _)))))
      refine wpQuiet_nil ?_
      rintro _ ⟨y, rfl⟩
      go_wp2_with fail
      go_ret
      exact ⟨rfl, (T0.out.trans y.property (by simp)).below (by simp) (Nat.le_refl _)⟩
    · have d2 : decide (200 < (l.length : Int)) = true := by simp; omega
      have d6 : decide ((l.length : Int) ≤ 65515) = true := by simp; omega
      clear h2 h6 h7
      go_enter Try.func6, Try.ntmps6
      go_wp2_with fail
      refine (LV.out _).mono ?_
      rintro e w1 ⟨rfl, t1⟩
      have T1 := Lib.hid (T0.out.trans t1 (by simp))
      clear t1
      go_wp2_with fail
      go_ret
      exact ⟨rfl, T1.out.below (by simp) (Nat.le_refl _)⟩
  · have d7 : decide (70000 < (l.length : Int)) = true := by simp; omega
    have d2 : decide (200 < (l.length : Int)) = true := by simp; omega
    have d6 : decide ((l.length : Int) ≤ 65515) = false := by simp; omega
    unfold Hd.cells at *
    clear h7 ok
    go_enter Try.func6, Try.ntmps6
    go_wp2_with fail
    refine (LV.out _).mono ?_
    rintro e w1 ⟨rfl, t1⟩
    have T1 := Lib.hid (T0.out.trans t1 (by simp))
    clear t1
    go_wp2_with fail
    go_ret
    exact ⟨rfl, T1.out.below (by simp) (Nat.le_refl _)⟩

section
variable {H : Type} {enc : TypeId × Value → H} {w : World} {base : Nat} {sp : Nat → Bool}
theorem field_of {P : Program} {t : TypeId} {fs : Array Field} {n : Nat} {cs : List Value} {x : DataW H × List MemPlace} (he : P.underlying t = some (.struct fs)) (hx : DataW.trod enc P w base sp true n t cs = some x) (j : Nat) (f : Field) (hj : fs[j]? = some f) :
    ∃ m y, DataW.trod enc P w base sp true m f.type ((cs.drop f.offset).take (P.cellsOf f.type)) = some y := by
  obtain ⟨xs, m, _, _, _, hl, hf⟩ := DataW.trod_struct he hx
  have hlt : j < fs.size := (Array.getElem?_eq_some_iff.1 hj).1
  have := hf j f hj
  rw [List.getElem?_eq_getElem (by omega)] at this
  exact ⟨m, _, this⟩
theorem arr9 {cs : Array Value} (h : cs.size = 9) : ∃ a0 a1 a2 a3 a4 a5 a6 a7 a8, cs = #[a0, a1, a2, a3, a4, a5, a6, a7, a8] := by
  obtain ⟨l⟩ := cs
  match l, h with
  | [a0, a1, a2, a3, a4, a5, a6, a7, a8], _ => exact ⟨a0, a1, a2, a3, a4, a5, a6, a7, a8, rfl⟩
set_option maxRecDepth 100000 in
/-- A header that came in by value. -/
theorem open_header {v : Value} {d : DataW H} {p : List MemPlace} {r : Reach} {b0 : Nat} (hv : Value.okWide Try.prog w r b0 51 v) (h : DataW.Trod enc Try.prog w base sp true 51 v d p) :
    ∃ q : Hd, v = .agg q.cells ∧ q.Ok := by
  have c3 : Try.prog.cellsOf 3 = 1 := by kernel_rfl
  have c4 : Try.prog.cellsOf 4 = 1 := by kernel_rfl
  have c30 : Try.prog.cellsOf 30 = 1 := by kernel_rfl
  have c44 : Try.prog.cellsOf 44 = 2 := by kernel_rfl
  obtain ⟨cs, rfl, hsz⟩ := okWide_struct Try.underlying51 hv
  obtain ⟨a0, a1, a2, a3, a4, a5, a6, a7, a8, rfl⟩ := arr9 (hsz.trans (by kernel_rfl))
  obtain ⟨fuel, hf⟩ := h
  have hcs : (Value.agg #[a0, a1, a2, a3, a4, a5, a6, a7, a8]).cells.toList = [a0, a1, a2, a3, a4, a5, a6, a7, a8] := rfl
  rw [hcs] at hf
  obtain ⟨m0, y0, h0⟩ := field_of Try.underlying51 hf 0 _ rfl
  obtain ⟨m1, y1, h1⟩ := field_of Try.underlying51 hf 1 _ rfl
  obtain ⟨m2, y2, h2⟩ := field_of Try.underlying51 hf 2 _ rfl
  obtain ⟨m3, y3, h3⟩ := field_of Try.underlying51 hf 3 _ rfl
  obtain ⟨m4, y4, h4⟩ := field_of Try.underlying51 hf 4 _ rfl
  obtain ⟨m5, y5, h5⟩ := field_of Try.underlying51 hf 5 _ rfl
  obtain ⟨m6, y6, h6⟩ := field_of Try.underlying51 hf 6 _ rfl
  simp [c3, c4, c44] at h0 h1 h2 h3 h4 h5 h6
  obtain ⟨n0, z0, k0⟩ := field_of Try.underlying44 h0 0 _ rfl
  obtain ⟨n1, z1, k1⟩ := field_of Try.underlying44 h0 1 _ rfl
  obtain ⟨n2, z2, k2⟩ := field_of Try.underlying44 h1 0 _ rfl
  obtain ⟨n3, z3, k3⟩ := field_of Try.underlying44 h1 1 _ rfl
  simp [c30] at k0 k1 k2 k3
  obtain ⟨b0, rfl, w0⟩ := cell_int Try.underlying30 k0
  obtain ⟨b1, rfl, w1⟩ := cell_int Try.underlying30 k1
  obtain ⟨b2, rfl, w2⟩ := cell_int Try.underlying30 k2
  obtain ⟨b3, rfl, w3⟩ := cell_int Try.underlying30 k3
  obtain ⟨b4, rfl, w4⟩ := cell_int Try.underlying3 h2
  obtain ⟨b5, rfl, w5⟩ := cell_int Try.underlying3 h3
  obtain ⟨b6, rfl, w6⟩ := cell_int Try.underlying3 h4
  obtain ⟨b7, rfl, w7⟩ := cell_int Try.underlying3 h5
  obtain ⟨b8, rfl⟩ := cell_bool boolType h6
  have u0 := u64_in w0
  have u1 := u64_in w1
  have u2 := u64_in w2
  have u3 := u64_in w3
  obtain ⟨x0, rfl⟩ := Int.eq_ofNat_of_zero_le u0.1
  obtain ⟨x1, rfl⟩ := Int.eq_ofNat_of_zero_le u1.1
  obtain ⟨x2, rfl⟩ := Int.eq_ofNat_of_zero_le u2.1
  obtain ⟨x3, rfl⟩ := Int.eq_ofNat_of_zero_le u3.1
  exact ⟨⟨x0, x1, x2, x3, b4, b5, b6, b7, b8⟩, rfl, ⟨by simp only; omega, by simp only; omega, i64_in w4, i64_in w7⟩⟩
end

set_option maxRecDepth 100000 in
theorem ipv4Makes_calls : LawCalls Try.prog 6 Try.f6 := by
  intro H enc W base args ds p hval hA hlt
  rw [Try.params6] at hA hval
  obtain ⟨v0, vs0, d0, ds0, p0, q0, hargs, rfl, rfl, h0, r0⟩ := trodAll_cons hA
  obtain ⟨v1, vs1, d1, ds1, p1, q1, rfl, rfl, rfl, h1, r1⟩ := trodAll_cons r0
  obtain ⟨rfl, rfl, rfl⟩ := trodAll_nil r1
  obtain rfl : args = #[v0, v1] := by cases args; simp_all
  obtain ⟨q, rfl, hq⟩ := open_header (hval 0 51 v0 rfl rfl) h0
  obtain ⟨s, rfl, rfl, rfl, hs⟩ := Go.ChangeMaps.open_string Try.underlying9 (hval 1 9 v1 rfl rfl) h1
  have es : s = S s.data.toList := by unfold S; simp
  have hz : s.data.toList.length = s.size := by simp
  rw [es]
  exact ipv4Makes_walk q hq s.data.toList (by unfold maxLen at hs; omega) W

set_option maxRecDepth 100000 in
theorem ipv4Makes_lifted (os : Os) (started : os.Started) (H : Type) (enc : TypeId × Value → H) :
    ReturnsInHanded {} Try.checked os 6 .any (Rows.ipv4MakesSpec.pre6 enc Try.prog Try.f6 Rows.ipv4MakesRow.domain false) (Rows.ipv4MakesSpec.post enc Try.prog Try.f6 false true false false) := by
  refine returnsInHanded_of_change (C := Try.checked) own started (by kernel_rfl) Try.func6
    (ChangeSpec.witness6 (enc := enc) (C := Try.checked) false ⟨#[], #[.agg #[.int .u64 0, .int .u64 0, .int .u64 0, .int .u64 0, .int .i64 0, .int .i64 0, .int .i64 0, .int .i64 0, .bool false], .string ⟨#[]⟩], []⟩ 8 (by kernel_rfl) (by kernel_rfl) (by kernel_rfl) (by kernel_rfl)) ?_
  intro W base args ds gs before hval hW _ _
  exact law_contract laidOut (by kernel_rfl) rfl rfl boolType (fun ds h => by match ds, h with | [_, _], _ => rfl) ipv4Makes_calls W base args ds gs before hval hW

theorem ipv4Makes_holds : Rows.Ipv4MakesSaid :=
  OpenClaim.holds_of_wide 6 Try.f6 rfl rfl rfl rfl rfl rfl rfl ⟨rfl, rfl, rfl, rfl, rfl⟩ rfl rfl rfl rfl rfl (by kernel_rfl) Try.func6 (by kernel_rfl)
    (of_decide_eq_true (by kernel_rfl)) (by unfold Func.isWrapper; first | (rw [if_pos (by decide +kernel)]; kernel_rfl) | (rw [if_neg (by decide +kernel)]; exact ⟨rfl, rfl⟩))
    (fun os started H enc _ => ipv4Makes_lifted os started H enc)
#print axioms ipv4Makes_holds
end Go.Proofs.Ytonchibngcoefaa
