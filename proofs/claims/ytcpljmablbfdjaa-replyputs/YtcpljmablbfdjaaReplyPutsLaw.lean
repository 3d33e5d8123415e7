/-
  ReplyPuts: for every reply the law on reply's Put and Bad returns true. No conditions.
-/
import Derived.Test.YtcpljmablbfdjaaReplyRef
import Derived.Lib.SmallJoins
namespace Go.Proofs.Ytcpljmablbfdjaa
open Go.ChangeShapes Go.WideShapes Go.ChangeAt Go.RowKit Go.Deep Go.Joins
set_option linter.unusedVariables false

section
variable {H : Type} {enc : TypeId × Value → H} {w : World} {base : Nat} {sp : Nat → Bool}
theorem field_at {P : Program} {t : TypeId} {fs : Array Field} {n : Nat} {cs : List Value} {x : DataW H × List MemPlace} (he : P.underlying t = some (.struct fs)) (hx : DataW.trod enc P w base sp true n t cs = some x) (j : Nat) (f : Field) (hj : fs[j]? = some f) :
    ∃ m y, DataW.trod enc P w base sp true m f.type ((cs.drop f.offset).take (P.cellsOf f.type)) = some y := by
  obtain ⟨xs, m, _, _, _, hl, hf⟩ := DataW.trod_struct he hx
  have hlt : j < fs.size := (Array.getElem?_eq_some_iff.1 hj).1
  have := hf j f hj
  rw [List.getElem?_eq_getElem (by omega)] at this
  exact ⟨m, _, this⟩
theorem u32_in {n : Int} (h : (Lit.int .u32 n).wf = true) : 0 ≤ n ∧ n ≤ 4294967295 := by
  simpa [Lit.wf, IntKind.min, IntKind.max, IntKind.signed, IntKind.bits] using h
theorem array11 {cs : Array Value} (h : cs.size = 11) : ∃ a0 a1 a2 a3 a4 a5 a6 a7 a8 a9 a10, cs = #[a0, a1, a2, a3, a4, a5, a6, a7, a8, a9, a10] := by
  obtain ⟨l⟩ := cs
  match l, h with
  | [a0, a1, a2, a3, a4, a5, a6, a7, a8, a9, a10], _ => exact ⟨a0, a1, a2, a3, a4, a5, a6, a7, a8, a9, a10, rfl⟩
set_option maxRecDepth 100000 in
/-- A reply that came in by value. -/
theorem open_reply {v : Value} {d : DataW H} {p : List MemPlace} {r : Reach} {b0 : Nat} (hv : Value.okWide Try.prog w r b0 78 v) (h : DataW.Trod enc Try.prog w base sp true 78 v d p) :
    ∃ q : Rep, v = .agg q.cells ∧ q.Ok := by
  have hC : Try.prog.cellsOf 78 = 11 := by kernel_rfl
  have c3 : Try.prog.cellsOf 3 = 1 := by kernel_rfl
  have c26 : Try.prog.cellsOf 26 = 1 := by kernel_rfl
  have c74 : Try.prog.cellsOf 74 = 1 := by kernel_rfl
  have c76 : Try.prog.cellsOf 76 = 6 := by kernel_rfl
  obtain ⟨cs, rfl, hsz⟩ := okWide_struct Try.underlying78 hv
  obtain ⟨a0, a1, a2, a3, a4, a5, a6, a7, a8, a9, a10, rfl⟩ := array11 (hsz.trans hC)
  obtain ⟨fuel, hf⟩ := h
  have hcs : (Value.agg #[a0, a1, a2, a3, a4, a5, a6, a7, a8, a9, a10]).cells.toList = [a0, a1, a2, a3, a4, a5, a6, a7, a8, a9, a10] := rfl
  rw [hcs] at hf
  obtain ⟨m0, y0, h0⟩ := field_at Try.underlying78 hf 0 _ rfl
  obtain ⟨m1, y1, h1⟩ := field_at Try.underlying78 hf 1 _ rfl
  obtain ⟨m2, y2, h2⟩ := field_at Try.underlying78 hf 2 _ rfl
  obtain ⟨m3, y3, h3⟩ := field_at Try.underlying78 hf 3 _ rfl
  obtain ⟨m4, y4, h4⟩ := field_at Try.underlying78 hf 4 _ rfl
  obtain ⟨m5, y5, h5⟩ := field_at Try.underlying78 hf 5 _ rfl
  simp [c3, c26, c74, c76] at h0 h1 h2 h3 h4 h5
  obtain ⟨n5, z5, k5⟩ := field_at Try.underlying76 h5 0 _ rfl
  obtain ⟨n6, z6, k6⟩ := field_at Try.underlying76 h5 1 _ rfl
  obtain ⟨n7, z7, k7⟩ := field_at Try.underlying76 h5 2 _ rfl
  obtain ⟨n8, z8, k8⟩ := field_at Try.underlying76 h5 3 _ rfl
  obtain ⟨n9, z9, k9⟩ := field_at Try.underlying76 h5 4 _ rfl
  obtain ⟨n10, z10, k10⟩ := field_at Try.underlying76 h5 5 _ rfl
  simp [c3] at k5 k6 k7 k8 k9 k10
  obtain ⟨b0, rfl, w0⟩ := cell_int Try.underlying3 h0
  obtain ⟨b1, rfl, w1⟩ := cell_int Try.underlying26 h1
  obtain ⟨b2, rfl, w2⟩ := cell_int Try.underlying3 h2
  obtain ⟨b3, rfl, w3⟩ := cell_int Try.underlying3 h3
  obtain ⟨b4, rfl, w4⟩ := cell_int Try.underlying74 h4
  obtain ⟨b5, rfl, w5⟩ := cell_int Try.underlying3 k5
  obtain ⟨b6, rfl, w6⟩ := cell_int Try.underlying3 k6
  obtain ⟨b7, rfl, w7⟩ := cell_int Try.underlying3 k7
  obtain ⟨b8, rfl, w8⟩ := cell_int Try.underlying3 k8
  obtain ⟨b9, rfl, w9⟩ := cell_int Try.underlying3 k9
  obtain ⟨b10, rfl, w10⟩ := cell_int Try.underlying3 k10
  have q4 := u32_in w4
  refine ⟨⟨b0, b1, b2, b3, b4.toNat, fun k => if k = 0 then b5 else if k = 1 then b6 else if k = 2 then b7 else if k = 3 then b8 else if k = 4 then b9 else b10⟩, ?_, ⟨i64_in w0, i64_in w1, i64_in w2, i64_in w3, by simp only; omega, fun k => ?_⟩⟩
  · simp [Rep.cells, Int.toNat_of_nonneg q4.1]
  · simp only
    split
    · exact i64_in w5
    · split
      · exact i64_in w6
      · split
        · exact i64_in w7
        · split
          · exact i64_in w8
          · split
            · exact i64_in w9
            · exact i64_in w10
end

set_option maxHeartbeats 2000000 in
set_option maxRecDepth 100000 in
theorem replyPuts_walk (r : Rep) (h : r.Ok) (w : World) :
    Calls Try.prog 9 #[.agg r.cells] w fun e w' => e = .returned (.bool true) ∧ Below w.heap.size w w' := by
  have hbox := Lib.hid (fun w' (t : Touch [] (w.alloc (.cells r.cells 78)) w') => r.boxed t)
  have P1 := Lib.hid (fun w => replyPut r h w)
  have P2 := Lib.hid (fun w => refPut39 r h w)
  have B1 := Lib.hid (fun w => bad39 r.err h.err w)
  have B2 := Lib.hid (fun w => refPut39 (badRep r.err) (badRep_ok _ h.err) w)
  have L := Lib.hid lives39
  have TW := Lib.hid ((Touch.refl [] w).alloc (.cells r.cells 78))
  have e1 : ((S r.bytes).toList == (S r.bytes).toList) = true := by simp
  have e2 : ((S (badRep r.err).bytes).toList == (S (badRep r.err).bytes).toList) = true := by simp
  generalize (badRep r.err).bytes = BB at *
  generalize r.bytes = B at *
  unfold badRep Rep.cells at B2
  simp only at B2
  clear h
  unfold Rep.cells at hbox TW P1 P2 ⊢
  generalize hwb : w.alloc (.cells #[.int .i64 r.op, .int .i64 r.err, .int .i64 r.ver, .int .i64 r.cnt, .int .u32 (r.sum : Int), .int .i64 (r.st 0), .int .i64 (r.st 1), .int .i64 (r.st 2), .int .i64 (r.st 3), .int .i64 (r.st 4), .int .i64 (r.st 5)] 78) = wb at *
  have k0 : ∀ x : Cls wb, x.val.cell? ⟨w.heap.size, 0, none⟩ = some (.int .i64 r.op) := fun x => hbox.out x.val x.property 0 (by omega)
  have k1 : ∀ x : Cls wb, x.val.cell? ⟨w.heap.size, 1, none⟩ = some (.int .i64 r.err) := fun x => hbox.out x.val x.property 1 (by omega)
  have k2 : ∀ x : Cls wb, x.val.cell? ⟨w.heap.size, 2, none⟩ = some (.int .i64 r.ver) := fun x => hbox.out x.val x.property 2 (by omega)
  have k3 : ∀ x : Cls wb, x.val.cell? ⟨w.heap.size, 3, none⟩ = some (.int .i64 r.cnt) := fun x => hbox.out x.val x.property 3 (by omega)
  have k4 : ∀ x : Cls wb, x.val.cell? ⟨w.heap.size, 4, none⟩ = some (.int .u32 (r.sum : Int)) := fun x => hbox.out x.val x.property 4 (by omega)
  have k5 : ∀ x : Cls wb, x.val.cell? ⟨w.heap.size, 5, none⟩ = some (.int .i64 (r.st 0)) := fun x => hbox.out x.val x.property 5 (by omega)
  have k6 : ∀ x : Cls wb, x.val.cell? ⟨w.heap.size, 6, none⟩ = some (.int .i64 (r.st 1)) := fun x => hbox.out x.val x.property 6 (by omega)
  have k7 : ∀ x : Cls wb, x.val.cell? ⟨w.heap.size, 7, none⟩ = some (.int .i64 (r.st 2)) := fun x => hbox.out x.val x.property 7 (by omega)
  have k8 : ∀ x : Cls wb, x.val.cell? ⟨w.heap.size, 8, none⟩ = some (.int .i64 (r.st 3)) := fun x => hbox.out x.val x.property 8 (by omega)
  have k9 : ∀ x : Cls wb, x.val.cell? ⟨w.heap.size, 9, none⟩ = some (.int .i64 (r.st 4)) := fun x => hbox.out x.val x.property 9 (by omega)
  have k10 : ∀ x : Cls wb, x.val.cell? ⟨w.heap.size, 10, none⟩ = some (.int .i64 (r.st 5)) := fun x => hbox.out x.val x.property 10 (by omega)
  go_enter Try.func9, Try.ntmps9
  go_upto_region 1 with fail
  refine wp_region_cls (wd := wb) (by kernel_rfl) (by kernel_rfl) ((Touch.refl _ _).drew) ?_
  repeat (first | go_big_quiet_step ((first | (go_at_call 50; exact Calls.cls_at (P1.out _)) | (go_at_call 51; first | with_reducible exact Calls.cls_at (P2.out _) | with_reducible exact Calls.cls_at (B2.out _)) | (go_at_call 52; exact Calls.cls_at (B1.out _)) | (go_at_call 53; exact Calls.cls_at (L.out _)))) | quiet_step ((first | (go_at_call 50; exact Calls.cls_at (P1.out _)) | (go_at_call 51; first | with_reducible exact Calls.cls_at (P2.out _) | with_reducible exact Calls.cls_at (B2.out _)) | (go_at_call 52; exact Calls.cls_at (B1.out _)) | (go_at_call 53; exact Calls.cls_at (L.out _)))))
  refine wpQuiet_nil ?_
  rintro _ ⟨y, rfl⟩
  go_wp2_with fail
  go_ret
  exact ⟨rfl, (TW.out.trans y.property (by simp)).below (by simp) (Nat.le_refl _)⟩

set_option maxRecDepth 100000 in
theorem replyPuts_calls : LawCalls Try.prog 9 Try.f9 := by
  intro H enc W base args ds p hval hA hlt
  rw [Try.params9] at hA hval
  obtain ⟨v0, vs0, d0, ds0, p0, q0, hargs, rfl, rfl, h0, r0⟩ := trodAll_cons hA
  obtain ⟨rfl, rfl, rfl⟩ := trodAll_nil r0
  obtain rfl : args = #[v0] := by cases args; simp_all
  obtain ⟨r, rfl, hr⟩ := open_reply (hval 0 78 v0 rfl rfl) h0
  exact replyPuts_walk r hr W
set_option maxRecDepth 100000 in
theorem replyPuts_lifted (os : Os) (started : os.Started) (H : Type) (enc : TypeId × Value → H) :
    ReturnsInHanded {} Try.checked os 9 .any (Rows.replyPutsSpec.pre6 enc Try.prog Try.f9 Rows.replyPutsRow.domain false) (Rows.replyPutsSpec.post enc Try.prog Try.f9 false true false false) := by
  refine returnsInHanded_of_change (C := Try.checked) own started (by kernel_rfl) Try.func9
    (ChangeSpec.witness6 (enc := enc) (C := Try.checked) false ⟨#[], #[.agg #[.int .i64 0, .int .i64 0, .int .i64 0, .int .i64 0, .int .u32 0, .int .i64 0, .int .i64 0, .int .i64 0, .int .i64 0, .int .i64 0, .int .i64 0]], []⟩ 8 (by kernel_rfl) (by kernel_rfl) (by kernel_rfl) (by kernel_rfl)) ?_
  intro W base args ds gs before hval hW _ _
  exact law_contract laidOut (by kernel_rfl) rfl rfl boolType (fun ds h => by match ds, h with | [_], _ => rfl) replyPuts_calls W base args ds gs before hval hW

theorem replyPuts_holds : Rows.ReplyPutsSaid :=
  OpenClaim.holds_of_wide 9 Try.f9 rfl rfl rfl rfl rfl rfl rfl ⟨rfl, rfl, rfl, rfl, rfl⟩ rfl rfl rfl rfl rfl (by kernel_rfl) Try.func9 (by kernel_rfl)
    (of_decide_eq_true (by kernel_rfl)) (by unfold Func.isWrapper; first | (rw [if_pos (by decide +kernel)]; kernel_rfl) | (rw [if_neg (by decide +kernel)]; exact ⟨rfl, rfl⟩))
    (fun os started H enc _ => replyPuts_lifted os started H enc)
#print axioms replyPuts_holds
end Go.Proofs.Ytcpljmablbfdjaa
