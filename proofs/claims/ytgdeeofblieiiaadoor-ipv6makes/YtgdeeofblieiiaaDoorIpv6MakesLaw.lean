/-
  Ipv6Makes: for every header, every list of headers that follow and every payload the law on ipv6's Make returns true, where ipv6.known holds what its initialiser lays. No other conditions.
-/
import Derived.Test.YtgdeeofblieiiaaDoorAllD
namespace Go.Proofs.YtgdeeofblieiiaaDoor
open Go.ChangeShapes Go.WideShapes Go.ChangeAt Go.RowKit Go.Deep Go.Joins
set_option linter.unusedVariables false
set_option linter.unusedSimpArgs false

set_option maxHeartbeats 2000000 in
set_option maxRecDepth 100000 in
theorem ipv6Makes_walk (h : Hd) (ok : h.Ok6) {A : Option Addr} {n cap : Nat} {X : Nat → Int} (pay : List UInt8) {w : World} (K : Tab6 w) (hX : IntCells w w.heap.size A n X) (hn : n ≤ 9223372036854775807) (hp : pay.length ≤ 9223372036854775807) :
    Calls Tryd.prog 4 #[.agg h.cells, .slice A n cap, .string (S pay)] w fun e w' => e = .returned (.bool true) ∧ Below w.heap.size w w' := by
  have hss : (S pay).size = pay.length := S_size pay
  have T0 := Lib.hid ((Touch.refl [] w).alloc (.cells h.cells 27))
  have X0 := Lib.hid (BoxV.new w 27 h.cells)
  have LV := Lib.hid (ipv6Lives (K.carry T0.out (by simp)))
  by_cases h12 : 12 < n
  · have d12 : decide (12 < (n : Int)) = true := by simp; omega
    unfold Hd.cells at *
    clear K hX ok
    go_enter Tryd.func4, Tryd.ntmps4
    go_wp2_with fail
    refine (LV.out).mono ?_
    rintro e w2 ⟨rfl, t2⟩
    have T2 := Lib.hid (T0.out.trans t2 (by simp))
    clear t2
    go_wp2_with fail
    go_ret
    exact ⟨rfl, T2.out.below (by simp) (Nat.le_refl _)⟩
  have d12 : decide (12 < (n : Int)) = false := by simp; omega
  by_cases h7 : 70000 < pay.length
  · have d2 : decide (200 < (pay.length : Int)) = true := by simp; omega
    have d6 : decide ((pay.length : Int) ≤ 65471) = false := by simp; omega
    have d7 : decide (70000 < (pay.length : Int)) = true := by simp; omega
    unfold Hd.cells at *
    clear K hX ok
    go_enter Tryd.func4, Tryd.ntmps4
    go_wp2_with fail
    refine (LV.out).mono ?_
    rintro e w2 ⟨rfl, t2⟩
    have T2 := Lib.hid (T0.out.trans t2 (by simp))
    clear t2
    go_wp2_with fail
    go_ret
    exact ⟨rfl, T2.out.below (by simp) (Nat.le_refl _)⟩
  have d7 : decide (70000 < (pay.length : Int)) = false := by simp; omega
  by_cases hmid : 200 < pay.length ∧ pay.length ≤ 65471
  · have d2 : decide (200 < (pay.length : Int)) = true := by simp; omega
    have d6 : decide ((pay.length : Int) ≤ 65471) = true := by simp; omega
    unfold Hd.cells at *
    clear K hX ok
    go_enter Tryd.func4, Tryd.ntmps4
    go_wp2_with fail
    refine (LV.out).mono ?_
    rintro e w2 ⟨rfl, t2⟩
    have T2 := Lib.hid (T0.out.trans t2 (by simp))
    clear t2
    go_wp2_with fail
    go_ret
    exact ⟨rfl, T2.out.below (by simp) (Nat.le_refl _)⟩
  have ways : decide (200 < (pay.length : Int)) = false ∨ (decide (200 < (pay.length : Int)) = true ∧ decide ((pay.length : Int) ≤ 65471) = false) := by simp only [decide_eq_true_eq, decide_eq_false_iff_not]; omega
  have hX1 := ints_touch hX T0.out
  have K1 := K.carry T0.out (by simp)
  have M1 : Hid (∀ x : Cls (w.alloc (.cells h.cells 27)), Calls Tryd.prog 14 #[.agg h.cells, .slice A n cap, .string (S pay)] x.val fun e w' => e = .returned (.string (S (pack6 h (upto X n) pay))) ∧ Touch [] x.val w') := Lib.hid (fun x => make12 h ok pay (K1.carry x.property (by simp)) (ints_touch hX1 x.property) hn hp)
  have R1 : Hid (∀ x : Cls (w.alloc (.cells h.cells 27)), Calls Tryd.prog 15 #[.agg h.cells, .slice A n cap, .string (S pay)] x.val fun e w' => e = .returned (.string (S (pack6 h (upto X n) pay))) ∧ Touch [] x.val w') := Lib.hid (fun x => refMake12 h ok pay (ints_touch hX1 x.property) hn hp)
  have L1 : Hid (∀ x : Cls (w.alloc (.cells h.cells 27)), Calls Tryd.prog 9 #[] x.val fun e w' => e = .returned (.bool true) ∧ Touch [] x.val w') := Lib.hid (fun x => ipv6Lives (K1.carry x.property (by simp)))
  generalize pack6 h (upto X n) pay = R at *
  clear ok hX hX1 K K1 h12 h7 hmid LV
  unfold Hd.cells at *
  rcases ways with d2 | ⟨d2, d6⟩
  all_goals
      go_enter Tryd.func4, Tryd.ntmps4
      go_upto_region 3 with fail
      generalize w.alloc (.cells #[.int .u64 (h.sh : Int), .int .u64 (h.sl : Int), .int .u64 (h.dh : Int), .int .u64 (h.dl : Int), .int .i64 h.proto, .int .i64 h.start, .int .i64 h.size, .int .i64 h.off, .bool h.more] 27) = w1 at *
      have k0 : ∀ x : Cls w1, x.val.cell? ⟨w.heap.size, 0, none⟩ = some (.int .u64 (h.sh : Int)) := fun x => (X0.out.carry x.property (by simp)).cell 0
      have k1 : ∀ x : Cls w1, x.val.cell? ⟨w.heap.size, 1, none⟩ = some (.int .u64 (h.sl : Int)) := fun x => (X0.out.carry x.property (by simp)).cell 1
      have k2 : ∀ x : Cls w1, x.val.cell? ⟨w.heap.size, 2, none⟩ = some (.int .u64 (h.dh : Int)) := fun x => (X0.out.carry x.property (by simp)).cell 2
      have k3 : ∀ x : Cls w1, x.val.cell? ⟨w.heap.size, 3, none⟩ = some (.int .u64 (h.dl : Int)) := fun x => (X0.out.carry x.property (by simp)).cell 3
      have k4 : ∀ x : Cls w1, x.val.cell? ⟨w.heap.size, 4, none⟩ = some (.int .i64 h.proto) := fun x => (X0.out.carry x.property (by simp)).cell 4
      have k5 : ∀ x : Cls w1, x.val.cell? ⟨w.heap.size, 5, none⟩ = some (.int .i64 h.start) := fun x => (X0.out.carry x.property (by simp)).cell 5
      have k6 : ∀ x : Cls w1, x.val.cell? ⟨w.heap.size, 6, none⟩ = some (.int .i64 h.size) := fun x => (X0.out.carry x.property (by simp)).cell 6
      have k7 : ∀ x : Cls w1, x.val.cell? ⟨w.heap.size, 7, none⟩ = some (.int .i64 h.off) := fun x => (X0.out.carry x.property (by simp)).cell 7
      have k8 : ∀ x : Cls w1, x.val.cell? ⟨w.heap.size, 8, none⟩ = some (.bool h.more) := fun x => (X0.out.carry x.property (by simp)).cell 8
      have MX := M1
      have RX := R1
      have LX := L1
      refine wp_region_cls (wd := w1) (by kernel_rfl) (by kernel_rfl) ((Touch.refl _ _).drew) ?_
      repeat (first | go_big_quiet_step ((first | (go_at_call 14; with_reducible exact Calls.cls_at (MX.out _)) | (go_at_call 15; with_reducible exact Calls.cls_at (RX.out _)) | (go_at_call 9; with_reducible exact Calls.cls_at (LX.out _)))) | quiet_step ((first | (go_at_call 14; with_reducible exact Calls.cls_at (MX.out _)) | (go_at_call 15; with_reducible exact Calls.cls_at (RX.out _)) | (go_at_call 9; with_reducible exact Calls.cls_at (LX.out _)))))
      refine wpQuiet_nil ?_
      rintro _ ⟨y, rfl⟩
      go_wp2_with fail
      go_ret
      exact ⟨rfl, (T0.out.trans y.property (by simp)).below (by simp) (Nat.le_refl _)⟩

set_option maxRecDepth 100000 in
theorem ipv6Makes_calls : LawCallsK Tryd.prog 4 Tryd.f4 := by
  intro H enc W base args ds p hK hval hA hlt
  rw [Tryd.params4] at hA hval
  obtain ⟨v0, vs0, d0, ds0, p0, q0, hargs, rfl, rfl, h0, r0⟩ := trodAll_cons hA
  obtain ⟨v1, vs1, d1, ds1, p1, q1, rfl, rfl, rfl, h1, r1⟩ := trodAll_cons r0
  obtain ⟨v2, vs2, d2, ds2, p2, q2, rfl, rfl, rfl, h2, r2⟩ := trodAll_cons r1
  obtain ⟨rfl, rfl, rfl⟩ := trodAll_nil r2
  obtain rfl : args = #[v0, v1, v2] := by cases args; simp_all
  obtain ⟨q, rfl, hq, _, _⟩ := open_header6 (hval 0 27 v0 rfl rfl) h0
  obtain ⟨A, n, cap, X, rfl, hnc, hcm, hX, _⟩ := int_cells (hval 1 36 v1 rfl rfl) h1
  obtain ⟨s, rfl, rfl, rfl, hs⟩ := Go.ChangeMaps.open_string Tryd.underlying9 (hval 2 9 v2 rfl rfl) h2
  have es : s = S s.data.toList := by unfold S; simp
  have hz : s.data.toList.length = s.size := by simp
  rw [es]
  exact ipv6Makes_walk q hq s.data.toList hK hX (by omega) (by unfold maxLen at hs; omega)

set_option maxRecDepth 100000 in
theorem ipv6Makes_lifted (os : Os) (started : os.Started) (H : Type) (enc : TypeId × Value → H) :
    ReturnsInHanded {} Tryd.checked os 4 .any (fun w args => (Rows.ipv6MakesSpec.pre enc Tryd.prog Tryd.f4 [] false w args ∧ laidMetH Tryd.prog laid1 w) ∧ sizedMet enc Tryd.prog Tryd.f4 (OpenSpec.ofChange Rows.ipv6MakesSpec) false w args)
      (Rows.ipv6MakesSpec.post enc Tryd.prog Tryd.f4 false true false false) := by
  refine returnsInHanded_of_change_and (C := Tryd.checked) (X := fun w _ => laidMetH Tryd.prog laid1 w) (fun _ _ _ hh h => h.of_heap hh) own started (by kernel_rfl) Tryd.func4
    (ChangeSpec.witness_shaped (enc := enc) (C := Tryd.checked) (os := os) (X := fun w _ => laidMetH Tryd.prog laid1 w) false (World.doorLaid Tryd.prog 14 os) #[.agg #[.int .u64 0, .int .u64 0, .int .u64 0, .int .u64 0, .int .i64 0, .int .i64 0, .int .i64 0, .int .i64 0, .bool false], .slice none 0 0, .string ⟨#[]⟩] 8 rfl (World.shaped_of_RefB (by kernel_rfl) (by kernel_rfl)) (by kernel_rfl) (by kernel_rfl) (by kernel_rfl) (door_met os _)) ?_
  intro W base args ds gs before hval hW _ _ hL _
  exact law_contractK laidOut (by kernel_rfl) rfl rfl boolType (fun ds h => by match ds, h with | [_, _, _], _ => rfl) ipv6Makes_calls W (known_of_laid hL) base args ds gs before hval hW

theorem ipv6Makes_over : Rows.Ipv6MakesSaid :=
  OpenClaim.holds_of_wide 4 Tryd.f4 rfl rfl rfl rfl rfl rfl rfl ⟨rfl, rfl, rfl, rfl, rfl⟩ rfl rfl rfl rfl rfl (by kernel_rfl) Tryd.func4 (by kernel_rfl)
    (of_decide_eq_true (by kernel_rfl)) (by unfold Func.isWrapper; first | (rw [if_pos (by decide +kernel)]; kernel_rfl) | (rw [if_neg (by decide +kernel)]; exact ⟨rfl, rfl⟩))
    (fun os started H enc _ => ipv6Makes_lifted os started H enc)

theorem ipv6Makes_holds : Rows.Ipv6MakesCardSaid :=
  Claim7.holds_tied_plain_at .later [] [.data] true Rows.ipv6MakesCard.stood.harness true
    ipv6Makes_over (fun _ h => by cases h) (by kernel_rfl) (fun _ h => by cases h) ipv6Makes_row_tie rfl ⟨rfl, rfl⟩ (by kernel_rfl) rfl
    (fun f fn hf hfn => by
      obtain rfl : f = 4 := Option.some.inj ((show Tryd.prog.funcNamed "flashlock/flashlocklaw12.Ipv6Makes" = some 4 by kernel_rfl).symm.trans hf) |>.symm
      obtain rfl : fn = Tryd.f4 := (Option.some.inj (Tryd.func4.symm.trans hfn)).symm
      exact ⟨by kernel_rfl, fun j t ht => by
        rw [Tryd.params4] at ht
        have hm := Array.mem_of_getElem? ht
        have hall : (Tryd.f4.params.toList.all fun u => !Tryd.prog.wantsStandIn u) = true := by kernel_rfl
        have hm' : t ∈ Tryd.f4.params.toList := by rw [Tryd.params4]; simpa using hm
        exact (show Tryd.prog.wantsStandIn t = false by simpa using List.all_eq_true.1 hall t hm')⟩)
    (by kernel_rfl)
#print axioms ipv6Makes_holds
end Go.Proofs.YtgdeeofblieiiaaDoor
