/-
  FlowKeys: for all keys and every size the law on flow's Right, Least, Make and Less returns true, where ipv6.known holds what its initialiser lays. No other conditions.
-/
import Derived.Test.YtdpaiegojioimaaDoorAllF
import Derived.Test.YtdpaiegojioimaaDoorAllE
namespace Go.Proofs.YtdpaiegojioimaaDoor
open Go.ChangeShapes Go.WideShapes Go.ChangeAt Go.RowKit Go.Deep Go.Joins
set_option linter.unusedVariables false
set_option linter.unusedSimpArgs false

section
variable {H : Type} {enc : TypeId × Value → H} {w : World} {base : Nat} {sp : Nat → Bool}
theorem list8 {cs : List Value} (h : cs.length = 8) : ∃ a0 a1 a2 a3 a4 a5 a6 a7, cs = [a0, a1, a2, a3, a4, a5, a6, a7] := by
  match cs, h with
  | [a0, a1, a2, a3, a4, a5, a6, a7], _ => exact ⟨a0, a1, a2, a3, a4, a5, a6, a7, rfl⟩
set_option maxRecDepth 100000 in
/-- The cells of a key that came in by value. -/
theorem key_cells {n : Nat} {cs : List Value} {x : DataW H × List MemPlace} (hl : cs.length = 8) (hf : DataW.trod enc Tryd.prog w base sp true n 41 cs = some x) : ∃ q : Ky, cs = q.cells.toList ∧ q.Ok := by
  have c3 : Tryd.prog.cellsOf 3 = 1 := by kernel_rfl
  have c30 : Tryd.prog.cellsOf 23 = 1 := by kernel_rfl
  have c44 : Tryd.prog.cellsOf 25 = 2 := by kernel_rfl
  obtain ⟨a0, a1, a2, a3, a4, a5, a6, a7, rfl⟩ := list8 hl
  obtain ⟨m0, y0, h0⟩ := field6 Tryd.underlying41 hf 0 _ rfl
  obtain ⟨m1, y1, h1⟩ := field6 Tryd.underlying41 hf 1 _ rfl
  obtain ⟨m2, y2, h2⟩ := field6 Tryd.underlying41 hf 2 _ rfl
  obtain ⟨m3, y3, h3⟩ := field6 Tryd.underlying41 hf 3 _ rfl
  obtain ⟨m4, y4, h4⟩ := field6 Tryd.underlying41 hf 4 _ rfl
  obtain ⟨m5, y5, h5⟩ := field6 Tryd.underlying41 hf 5 _ rfl
  simp [c3, c44] at h0 h1 h2 h3 h4 h5
  obtain ⟨n0, z0, k0⟩ := field6 Tryd.underlying25 h1 0 _ rfl
  obtain ⟨n1, z1, k1⟩ := field6 Tryd.underlying25 h1 1 _ rfl
  obtain ⟨n2, z2, k2⟩ := field6 Tryd.underlying25 h2 0 _ rfl
  obtain ⟨n3, z3, k3⟩ := field6 Tryd.underlying25 h2 1 _ rfl
  simp [c30] at k0 k1 k2 k3
  obtain ⟨b0, rfl, w0⟩ := cell_int Tryd.underlying23 k0
  obtain ⟨b1, rfl, w1⟩ := cell_int Tryd.underlying23 k1
  obtain ⟨b2, rfl, w2⟩ := cell_int Tryd.underlying23 k2
  obtain ⟨b3, rfl, w3⟩ := cell_int Tryd.underlying23 k3
  obtain ⟨b4, rfl, w4⟩ := cell_int Tryd.underlying3 h0
  obtain ⟨b5, rfl, w5⟩ := cell_int Tryd.underlying3 h3
  obtain ⟨b6, rfl, w6⟩ := cell_int Tryd.underlying3 h4
  obtain ⟨b7, rfl, w7⟩ := cell_int Tryd.underlying3 h5
  have u0 := u64_in w0
  have u1 := u64_in w1
  have u2 := u64_in w2
  have u3 := u64_in w3
  obtain ⟨x0, rfl⟩ := Int.eq_ofNat_of_zero_le u0.1
  obtain ⟨x1, rfl⟩ := Int.eq_ofNat_of_zero_le u1.1
  obtain ⟨x2, rfl⟩ := Int.eq_ofNat_of_zero_le u2.1
  obtain ⟨x3, rfl⟩ := Int.eq_ofNat_of_zero_le u3.1
  exact ⟨⟨b4, x0, x1, x2, x3, b5, b6, b7⟩, rfl, ⟨by simp only; omega, by simp only; omega, by simp only; omega, by simp only; omega, i64_in w5, i64_in w6, i64_in w7⟩⟩
set_option maxRecDepth 100000 in
theorem open_key {v : Value} {d : DataW H} {p : List MemPlace} {r : Reach} {b0 : Nat} (hv : Value.okWide Tryd.prog w r b0 41 v) (h : DataW.Trod enc Tryd.prog w base sp true 41 v d p) : ∃ q : Ky, v = .agg q.cells ∧ q.Ok := by
  obtain ⟨cs, rfl, hsz⟩ := okWide_struct Tryd.underlying41 hv
  obtain ⟨fuel, hf⟩ := h
  have hcs : (Value.agg cs).cells.toList = cs.toList := rfl
  rw [hcs] at hf
  obtain ⟨q, hq, ok⟩ := key_cells (by have := hsz.trans (show _ = 8 by kernel_rfl); simpa using this) hf
  exact ⟨q, by rw [Array.toList_inj.1 hq], ok⟩
end

set_option maxRecDepth 100000 in
set_option maxHeartbeats 8000000 in
theorem flowKeys_walk (a b : Ky) (oka : a.Ok) (okb : b.Ok) (sz : Int) (hsz : -9223372036854775808 ≤ sz ∧ sz ≤ 9223372036854775807) {w : World} (K : Tab6 w) :
    Calls Tryd.prog 7 #[.agg a.cells, .agg b.cells, .int .i64 sz] w fun e w' => e = .returned (.bool true) ∧ Below w.heap.size w w' := by
  have T0 := Lib.hid (((Touch.refl [] w).alloc (.cells a.cells 41)).alloc (.cells b.cells 41))
  have B0 : BoxV ((w.alloc (.cells a.cells 41)).alloc (.cells b.cells 41)) w.heap.size 41 a.cells := BoxV.of2
  have B1 : BoxV ((w.alloc (.cells a.cells 41)).alloc (.cells b.cells 41)) (w.heap.size + 1) 41 b.cells := BoxV.at1
  have C1 := Lib.hid (fun w (K : Tab6 w) => right14 a K)
  have C2 := Lib.hid (fun w => refRight14 a w)
  have C3 := Lib.hid (fun w (K : Tab6 w) => leastAny14 a K)
  have C4 := Lib.hid (fun w => refLeast14 a w)
  have C5 := Lib.hid (fun w (K : Tab6 w) => make14 a oka sz hsz K)
  have C6 := Lib.hid (fun w => refMake14 a oka sz hsz w)
  have C7 := Lib.hid (fun w => less14 a b w)
  have C8 := Lib.hid (fun w => refLess14 a b w)
  have C9 := Lib.hid (fun w (K : Tab6 w) => flowLives K)
  have HK := Lib.hid (K.carry T0.out (by simp))
  unfold Ky.cells at *
  generalize rightK a = r at *
  generalize leastK a = le at *
  generalize makeK a sz = mk at *
  generalize lessK a b = ls at *
  clear K hsz oka okb
  have er : (r == r) = true := by cases r <;> rfl
  have el : (ls == ls) = true := by cases ls <;> rfl
  go_enter Tryd.func7, Tryd.ntmps7
  go_upto_region 1 with fail
  generalize hw2 : (w.alloc _).alloc _ = w2 at *
  clear hw2
  have ka := fun x : Cls w2 => B0.carry x.property (by simp)
  have kb := fun x : Cls w2 => B1.carry x.property (by simp)
  have a0 := fun x : Cls w2 => (ka x).key.1
  have a1 := fun x : Cls w2 => (ka x).key.2.1
  have a2 := fun x : Cls w2 => (ka x).key.2.2.1
  have a3 := fun x : Cls w2 => (ka x).key.2.2.2.1
  have a4 := fun x : Cls w2 => (ka x).key.2.2.2.2.1
  have a5 := fun x : Cls w2 => (ka x).key.2.2.2.2.2.1
  have a6 := fun x : Cls w2 => (ka x).key.2.2.2.2.2.2.1
  have a7 := fun x : Cls w2 => (ka x).key.2.2.2.2.2.2.2
  have b0 := fun x : Cls w2 => (kb x).key.1
  have b1 := fun x : Cls w2 => (kb x).key.2.1
  have b2 := fun x : Cls w2 => (kb x).key.2.2.1
  have b3 := fun x : Cls w2 => (kb x).key.2.2.2.1
  have b4 := fun x : Cls w2 => (kb x).key.2.2.2.2.1
  have b5 := fun x : Cls w2 => (kb x).key.2.2.2.2.2.1
  have b6 := fun x : Cls w2 => (kb x).key.2.2.2.2.2.2.1
  have b7 := fun x : Cls w2 => (kb x).key.2.2.2.2.2.2.2
  clear ka kb B0 B1
  refine wp_region_cls (wd := w2) (by kernel_rfl) (by kernel_rfl) ((Touch.refl _ _).drew) ?_
  repeat (first | go_big_quiet_step ((first | (go_at_call 19; with_reducible exact Calls.cls_at (C1.out _ (HK.out.carry (Cls.property _) (by simp)))) | (go_at_call 20; with_reducible exact Calls.cls_at (C2.out _)) | (go_at_call 21; with_reducible exact Calls.cls_at (C3.out _ (HK.out.carry (Cls.property _) (by simp)))) | (go_at_call 22; with_reducible exact Calls.cls_at (C4.out _)) | (go_at_call 23; with_reducible exact Calls.cls_at (C5.out _ (HK.out.carry (Cls.property _) (by simp)))) | (go_at_call 24; with_reducible exact Calls.cls_at (C6.out _)) | (go_at_call 25; with_reducible exact Calls.cls_at (C7.out _)) | (go_at_call 26; with_reducible exact Calls.cls_at (C8.out _)) | (go_at_call 16; with_reducible exact Calls.cls_at (C9.out _ (HK.out.carry (Cls.property _) (by simp)))))) | quiet_step ((first | (go_at_call 19; with_reducible exact Calls.cls_at (C1.out _ (HK.out.carry (Cls.property _) (by simp)))) | (go_at_call 20; with_reducible exact Calls.cls_at (C2.out _)) | (go_at_call 21; with_reducible exact Calls.cls_at (C3.out _ (HK.out.carry (Cls.property _) (by simp)))) | (go_at_call 22; with_reducible exact Calls.cls_at (C4.out _)) | (go_at_call 23; with_reducible exact Calls.cls_at (C5.out _ (HK.out.carry (Cls.property _) (by simp)))) | (go_at_call 24; with_reducible exact Calls.cls_at (C6.out _)) | (go_at_call 25; with_reducible exact Calls.cls_at (C7.out _)) | (go_at_call 26; with_reducible exact Calls.cls_at (C8.out _)) | (go_at_call 16; with_reducible exact Calls.cls_at (C9.out _ (HK.out.carry (Cls.property _) (by simp)))))))
  refine wpQuiet_nil ?_
  rintro _ ⟨y, rfl⟩
  have hb : Below w.heap.size w y.val := (T0.out.trans y.property (by simp)).below (by simp) (Nat.le_refl _)
  have HB := Lib.hid hb
  clear hb a0 a1 a2 a3 a4 a5 a6 a7 b0 b1 b2 b3 b4 b5 b6 b7
  go_wp2_with fail
  go_ret
  exact ⟨rfl, HB.out⟩

set_option maxRecDepth 100000 in
theorem flowKeys_calls : LawCallsK Tryd.prog 7 Tryd.f7 := by
  intro H enc W base args ds p hK hval hA hlt
  rw [Tryd.params7] at hA hval
  obtain ⟨v0, vs0, d0, ds0, p0, q0, hargs, rfl, rfl, h0, r0⟩ := trodAll_cons hA
  obtain ⟨v1, vs1, d1, ds1, p1, q1, rfl, rfl, rfl, h1, r1⟩ := trodAll_cons r0
  obtain ⟨v2, vs2, d2, ds2, p2, q2, rfl, rfl, rfl, h2, r2⟩ := trodAll_cons r1
  obtain ⟨rfl, rfl, rfl⟩ := trodAll_nil r2
  obtain rfl : args = #[v0, v1, v2] := by cases args; simp_all
  obtain ⟨a, rfl, oka⟩ := open_key (hval 0 41 v0 rfl rfl) h0
  obtain ⟨b, rfl, okb⟩ := open_key (hval 1 41 v1 rfl rfl) h1
  obtain ⟨sz, rfl, rfl, rfl, ws⟩ := open_int Tryd.underlying3 (hval 2 3 v2 rfl rfl) h2
  exact flowKeys_walk a b oka okb sz (i64_in ws) hK

set_option maxRecDepth 100000 in
theorem flowKeys_lifted (os : Os) (started : os.Started) (H : Type) (enc : TypeId × Value → H) :
    ReturnsInHanded {} Tryd.checked os 7 .any (fun w args => (Rows.flowKeysSpec.pre enc Tryd.prog Tryd.f7 [] false w args ∧ laidMetH Tryd.prog laid1 w) ∧ sizedMet enc Tryd.prog Tryd.f7 (OpenSpec.ofChange Rows.flowKeysSpec) false w args)
      (Rows.flowKeysSpec.post enc Tryd.prog Tryd.f7 false true false false) := by
  refine returnsInHanded_of_change_and (C := Tryd.checked) (X := fun w _ => laidMetH Tryd.prog laid1 w) (fun _ _ _ hh h => h.of_heap hh) own started (by kernel_rfl) Tryd.func7
    (ChangeSpec.witness_shaped (enc := enc) (C := Tryd.checked) (os := os) (X := fun w _ => laidMetH Tryd.prog laid1 w) false (World.doorLaid Tryd.prog 14 os) #[.agg #[.int .i64 0, .int .u64 0, .int .u64 0, .int .u64 0, .int .u64 0, .int .i64 0, .int .i64 0, .int .i64 0], .agg #[.int .i64 0, .int .u64 0, .int .u64 0, .int .u64 0, .int .u64 0, .int .i64 0, .int .i64 0, .int .i64 0], .int .i64 0] 8 rfl (World.shaped_of_RefB (by kernel_rfl) (by kernel_rfl)) (by kernel_rfl) (by kernel_rfl) (by kernel_rfl) (door_met os _)) ?_
  intro W base args ds gs before hval hW _ _ hL _
  exact law_contractK laidOut (by kernel_rfl) rfl rfl boolType (fun ds h => by match ds, h with | [_, _, _], _ => rfl) flowKeys_calls W (known_of_laid hL) base args ds gs before hval hW

theorem flowKeys_over : Rows.FlowKeysSaid :=
  OpenClaim.holds_of_wide 7 Tryd.f7 rfl rfl rfl rfl rfl rfl rfl ⟨rfl, rfl, rfl, rfl, rfl⟩ rfl rfl rfl rfl rfl (by kernel_rfl) Tryd.func7 (by kernel_rfl)
    (of_decide_eq_true (by kernel_rfl)) (by unfold Func.isWrapper; first | (rw [if_pos (by decide +kernel)]; kernel_rfl) | (rw [if_neg (by decide +kernel)]; exact ⟨rfl, rfl⟩))
    (fun os started H enc _ => flowKeys_lifted os started H enc)

theorem flowKeys_holds : Rows.FlowKeysCardSaid :=
  Claim7.holds_tied_plain_at .later [] [.data] true Rows.flowKeysCard.stood.harness true
    flowKeys_over (fun _ h => by cases h) (by kernel_rfl) (fun _ h => by cases h) flowKeys_row_tie rfl ⟨rfl, rfl⟩ (by kernel_rfl) rfl
    (fun f fn hf hfn => by
      obtain rfl : f = 7 := Option.some.inj ((show Tryd.prog.funcNamed "flashlock/flashlocklaw14.FlowKeys" = some 7 by kernel_rfl).symm.trans hf) |>.symm
      obtain rfl : fn = Tryd.f7 := (Option.some.inj (Tryd.func7.symm.trans hfn)).symm
      exact ⟨by kernel_rfl, fun j t ht => by
        rw [Tryd.params7] at ht
        have hm := Array.mem_of_getElem? ht
        have hall : (Tryd.f7.params.toList.all fun u => !Tryd.prog.wantsStandIn u) = true := by kernel_rfl
        have hm' : t ∈ Tryd.f7.params.toList := by rw [Tryd.params7]; simpa using hm
        exact (show Tryd.prog.wantsStandIn t = false by simpa using List.all_eq_true.1 hall t hm')⟩)
    (by kernel_rfl)
#print axioms flowKeys_holds
end Go.Proofs.YtdpaiegojioimaaDoor
