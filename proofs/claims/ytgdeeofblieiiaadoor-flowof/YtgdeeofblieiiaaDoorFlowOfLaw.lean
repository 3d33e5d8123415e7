/-
  FlowOf: for every string the law on flow's Of returns true, where ipv6.known holds what its initialiser lays. No other conditions.
-/
import Derived.Test.YtgdeeofblieiiaaDoorAllE
import Derived.Test.YtgdeeofblieiiaaDoorAllD
namespace Go.Proofs.YtgdeeofblieiiaaDoor
open Go.ChangeShapes Go.WideShapes Go.ChangeAt Go.RowKit Go.Deep Go.Joins
set_option linter.unusedVariables false
set_option linter.unusedSimpArgs false

theorem least17 : leastV 17 = 8 := rfl
theorem within_yes (n h : Int) (h1 : 0 ≤ n) (h2 : n ≤ h) (w : World) : Calls Tryd.prog 42 #[.int .i64 n, .int .i64 h] w fun e w' => e = .returned (.bool true) ∧ w' = w := by
  have d1 : decide (0 ≤ n) = true := by simpa using h1
  have d2 : decide (n ≤ h) = true := by simpa using h2
  clear h1 h2
  go_enter Tryd.func42, Tryd.ntmps42
  go_wp2_with fail
  go_ret
  exact ⟨rfl, rfl⟩
theorem rightPorts17 (w : World) : Calls Tryd.prog 43 #[.agg #[.int .i64 4, .int .u64 0, .int .u64 0, .int .u64 0, .int .u64 0, .int .i64 17, .int .i64 0, .int .i64 0]] w fun e w' => e = .returned (.bool true) ∧ Touch [] w w' := by
  have HH : Hid (∀ w, Calls Tryd.prog 70 #[.int .i64 17] w fun e w' => e = .returned (.bool true) ∧ w' = w) := Lib.hid (fun w => has_any 17 w)
  have WI := Lib.hid (fun w => within_yes 0 65535 (by decide) (by decide) w)
  have T0 := Lib.hid ((Touch.refl [] w).alloc (.cells #[.int .i64 4, .int .u64 0, .int .u64 0, .int .u64 0, .int .u64 0, .int .i64 17, .int .i64 0, .int .i64 0] 41))
  go_enter Tryd.func43, Tryd.ntmps43
  go_wp2_with fail
  refine (HH.out _).mono ?_
  rintro e w1 ⟨rfl, hq⟩
  subst hq
  go_wp2_with fail
  refine (WI.out _).mono ?_
  rintro e w1 ⟨rfl, hq⟩
  subst hq
  go_wp2_with fail
  refine (WI.out _).mono ?_
  rintro e w1 ⟨rfl, hq⟩
  subst hq
  go_wp2_with fail
  go_ret
  exact ⟨rfl, T0.out⟩
theorem right17 (w : World) : Calls Tryd.prog 19 #[.agg #[.int .i64 4, .int .u64 0, .int .u64 0, .int .u64 0, .int .u64 0, .int .i64 17, .int .i64 0, .int .i64 0]] w fun e w' => e = .returned (.bool true) ∧ Touch [] w w' := by
  have R1 : Hid (∀ w, Calls Tryd.prog 41 #[.int .i64 4, .agg #[.int .u64 0, .int .u64 0]] w fun e w' => e = .returned (.bool true) ∧ Touch [] w w') := Lib.hid (fun w => right10 4 0 0 w)
  have R2 := Lib.hid (fun w => rightPorts17 w)
  have WI := Lib.hid (fun w => within_yes 17 255 (by decide) (by decide) w)
  have T0 := Lib.hid ((Touch.refl [] w).alloc (.cells #[.int .i64 4, .int .u64 0, .int .u64 0, .int .u64 0, .int .u64 0, .int .i64 17, .int .i64 0, .int .i64 0] 41))
  have B0 := Lib.hid (BoxV.new w 41 #[.int .i64 4, .int .u64 0, .int .u64 0, .int .u64 0, .int .u64 0, .int .i64 17, .int .i64 0, .int .i64 0])
  go_enter Tryd.func19, Tryd.ntmps19
  go_wp2_with fail
  refine (R1.out _).mono ?_
  rintro e w1 ⟨rfl, t1⟩
  have H1 := Lib.hid (B0.out.carry t1 (by simp))
  have T1 := Lib.hid (T0.out.trans t1 (by simp))
  have c0 := H1.out.cell 0
  have c3 := H1.out.cell 3
  have c4 := H1.out.cell 4
  have l1 := H1.out.lt
  clear t1
  go_wp2_with fail
  refine (R1.out _).mono ?_
  rintro e w2 ⟨rfl, t2⟩
  have H2 := Lib.hid (H1.out.carry t2 (by simp))
  have T2 := Lib.hid (T1.out.trans t2 (by simp))
  clear c0 c3 c4 l1 t2
  have c0 := H2.out.cell 0
  have c1 := H2.out.cell 1
  have c2 := H2.out.cell 2
  have c3 := H2.out.cell 3
  have c4 := H2.out.cell 4
  have c5 := H2.out.cell 5
  have c6 := H2.out.cell 6
  have c7 := H2.out.cell 7
  have l2 := H2.out.lt
  go_wp2_with fail
  refine (WI.out _).mono ?_
  rintro e w2 ⟨rfl, hq⟩
  subst hq
  go_wp2_with fail
  refine (R2.out _).mono ?_
  rintro e w3 ⟨rfl, t3⟩
  have T3 := Lib.hid (T2.out.trans t3 (by simp))
  clear t3
  go_wp2_with fail
  go_ret
  exact ⟨rfl, T3.out⟩
theorem headLen4 (w : World) : Calls Tryd.prog 45 #[.int .i64 4] w fun e w' => e = .returned (.int .i64 20) ∧ Touch [] w w' := by
  go_enter Tryd.func45, Tryd.ntmps45
  go_wp2_with fail
  go_ret
  exact ⟨rfl, Touch.refl _ _⟩
set_option maxRecDepth 100000 in
theorem least14 (w : World) : Calls Tryd.prog 21 #[.agg #[.int .i64 4, .int .u64 0, .int .u64 0, .int .u64 0, .int .u64 0, .int .i64 17, .int .i64 0, .int .i64 0]] w fun e w' => e = .returned (.int .i64 28) ∧ Touch [] w w' := by
  have R := Lib.hid (fun w => right17 w)
  have HL := Lib.hid (fun w => headLen4 w)
  have LE : Hid (∀ w, Calls Tryd.prog 46 #[.int .i64 17] w fun e w' => e = .returned (.int .i64 8) ∧ Touch [] w w') := Lib.hid (fun w => (least_any 17 w).mono fun e w' ⟨h1, h2⟩ => ⟨h1, by rw [h2]; exact Touch.refl _ _⟩)
  have T0 := Lib.hid ((Touch.refl [] w).alloc (.cells #[.int .i64 4, .int .u64 0, .int .u64 0, .int .u64 0, .int .u64 0, .int .i64 17, .int .i64 0, .int .i64 0] 41))
  have B0 := Lib.hid (BoxV.new w 41 #[.int .i64 4, .int .u64 0, .int .u64 0, .int .u64 0, .int .u64 0, .int .i64 17, .int .i64 0, .int .i64 0])
  go_enter Tryd.func21, Tryd.ntmps21
  go_wp2_with fail
  refine (R.out _).mono ?_
  rintro e w1 ⟨rfl, t1⟩
  have H1 := Lib.hid (B0.out.carry t1 (by simp))
  have T1 := Lib.hid (T0.out.trans t1 (by simp))
  clear t1
  go_upto_region 3 with fail
  have k0 : ∀ x : Cls w1, x.val.cell? ⟨w.heap.size, 0, none⟩ = some (.int .i64 4) := fun x => (H1.out.carry x.property (by simp)).cell 0
  have k5 : ∀ x : Cls w1, x.val.cell? ⟨w.heap.size, 5, none⟩ = some (.int .i64 17) := fun x => (H1.out.carry x.property (by simp)).cell 5
  refine wp_region_cls (wd := w1) (by kernel_rfl) (by kernel_rfl) ((Touch.refl _ _).drew) ?_
  repeat (first | go_big_quiet_step ((first | (go_at_call 45; with_reducible exact Calls.cls_at (HL.out _)) | (go_at_call 46; with_reducible exact Calls.cls_at (LE.out _)))) | quiet_step ((first | (go_at_call 45; with_reducible exact Calls.cls_at (HL.out _)) | (go_at_call 46; with_reducible exact Calls.cls_at (LE.out _)))))
  refine wpQuiet_nil ?_
  rintro _ ⟨y, rfl⟩
  go_wp2_with fail
  go_ret
  exact ⟨rfl, T1.out.trans y.property (by simp)⟩
set_option maxRecDepth 100000 in
theorem flowLives {w : World} (K : Tab6 w) : Calls Tryd.prog 16 #[] w fun e w' => e = .returned (.bool true) ∧ Touch [] w w' := by
  have O : Hid (Calls Tryd.prog 17 #[.string ⟨#[]⟩] w fun e w' => e = .returned (.tuple #[.agg #[.int .i64 0, .int .u64 0, .int .u64 0, .int .u64 0, .int .u64 0, .int .i64 0, .int .i64 0, .int .i64 0], .int .i64 5]) ∧ Touch [] w w') := Lib.hid (of14 [] (by decide) K)
  have LE := Lib.hid (fun w => least14 w)
  clear K
  go_enter Tryd.func16, Tryd.ntmps16
  go_wp2_with fail
  refine (O.out).mono ?_
  rintro e w1 ⟨rfl, t1⟩
  have T1 := Lib.hid (t1.alloc (.cells #[.int .i64 0, .int .u64 0, .int .u64 0, .int .u64 0, .int .u64 0, .int .i64 0, .int .i64 0, .int .i64 0] 41))
  clear t1
  go_wp2_with fail
  refine (LE.out _).mono ?_
  rintro e w2 ⟨rfl, t2⟩
  have T2 := Lib.hid (T1.out.trans t2 (by simp))
  clear t2
  go_wp2_with fail
  go_ret
  exact ⟨rfl, T2.out⟩

set_option maxHeartbeats 1000000 in
theorem flowOf_walk (l : List UInt8) (hl : l.length ≤ 9223372036854775807) {w : World} (K : Tab6 w) :
    Calls Tryd.prog 6 #[.string (S l)] w fun e w' => e = .returned (.bool true) ∧ Below w.heap.size w w' := by
  have hss : (S l).size = l.length := S_size l
  by_cases h4 : l.length ≤ 400
  · have d4 : decide (400 < (l.length : Int)) = false := by simp; omega
    have P1 := Lib.hid (of14 l (by omega) K)
    have P2 := Lib.hid (fun w => refOf14 l (by omega) w)
    have HK := Lib.hid K
    have ways : (errO l == 0) = true ∨ ((errO l == 0) = false ∧ keyO l = zeroK) := by
      by_cases h : errO l = 0
      · exact .inl (by simpa using h)
      · exact .inr ⟨by simpa using h, by unfold keyO; rw [if_pos h]⟩
    clear K
    rcases ways with dE | ⟨dE, hk⟩
    · unfold Ky.cells at *
      generalize keyO l = k at *
      generalize errO l = E at *
      go_enter Tryd.func6, Tryd.ntmps6
      go_wp2_with fail
      refine (P1.out).mono ?_
      rintro e w1 ⟨rfl, t1⟩
      have T1 := Lib.hid (t1.alloc (.cells #[.int .i64 k.ver, .int .u64 (k.sh : Int), .int .u64 (k.sl : Int), .int .u64 (k.dh : Int), .int .u64 (k.dl : Int), .int .i64 k.proto, .int .i64 k.sp, .int .i64 k.dp] 41))
      have B1 := Lib.hid (BoxV.new w1 41 #[.int .i64 k.ver, .int .u64 (k.sh : Int), .int .u64 (k.sl : Int), .int .u64 (k.dh : Int), .int .u64 (k.dl : Int), .int .i64 k.proto, .int .i64 k.sp, .int .i64 k.dp])
      clear t1
      go_wp2_with fail
      refine (P2.out _).mono ?_
      rintro e w2 ⟨rfl, t2⟩
      have B2 := (B1.out.carry (t2.alloc (.cells #[.int .i64 k.ver, .int .u64 (k.sh : Int), .int .u64 (k.sl : Int), .int .u64 (k.dh : Int), .int .u64 (k.dl : Int), .int .i64 k.proto, .int .i64 k.sp, .int .i64 k.dp] 41)) (by simp))
      have C2 := (BoxV.new w2 41 #[.int .i64 k.ver, .int .u64 (k.sh : Int), .int .u64 (k.sl : Int), .int .u64 (k.dh : Int), .int .u64 (k.dl : Int), .int .i64 k.proto, .int .i64 k.sp, .int .i64 k.dp])
      have T2 := Lib.hid ((T1.out.trans t2 (by simp)).alloc (.cells #[.int .i64 k.ver, .int .u64 (k.sh : Int), .int .u64 (k.sl : Int), .int .u64 (k.dh : Int), .int .u64 (k.dl : Int), .int .i64 k.proto, .int .i64 k.sp, .int .i64 k.dp] 41))
      have LV := Lib.hid (flowLives (HK.out.carry T2.out (by simp)))
      clear t2 T1 B1
      go_upto_region 5 with fail
      generalize w2.alloc (.cells #[.int .i64 k.ver, .int .u64 (k.sh : Int), .int .u64 (k.sl : Int), .int .u64 (k.dh : Int), .int .u64 (k.dl : Int), .int .i64 k.proto, .int .i64 k.sp, .int .i64 k.dp] 41) = w5 at *
      have k0 := B2.cell 0
      have k1 := B2.cell 1
      have k2 := B2.cell 2
      have k3 := B2.cell 3
      have k4 := B2.cell 4
      have k5 := B2.cell 5
      have k6 := B2.cell 6
      have k7 := B2.cell 7
      have j0 := C2.cell 0
      have j1 := C2.cell 1
      have j2 := C2.cell 2
      have j3 := C2.cell 3
      have j4 := C2.cell 4
      have j5 := C2.cell 5
      have j6 := C2.cell 6
      have j7 := C2.cell 7
      clear B2 C2
      go_wp2_with fail
      refine (LV.out).mono ?_
      rintro e w6 ⟨rfl, t6⟩
      have T6 := Lib.hid (T2.out.trans t6 (by simp))
      clear t6
      go_wp2_with fail
      go_ret
      exact ⟨rfl, T6.out.below (by simp) (Nat.le_refl _)⟩
    · rw [hk] at P1 P2
      unfold zeroK Ky.cells at *
      generalize errO l = E at *
      clear hk
      go_enter Tryd.func6, Tryd.ntmps6
      go_wp2_with fail
      refine (P1.out).mono ?_
      rintro e w1 ⟨rfl, t1⟩
      have T1 := Lib.hid (t1.alloc (.cells #[.int .i64 0, .int .u64 0, .int .u64 0, .int .u64 0, .int .u64 0, .int .i64 0, .int .i64 0, .int .i64 0] 41))
      have B1 := Lib.hid (BoxV.new w1 41 #[.int .i64 0, .int .u64 0, .int .u64 0, .int .u64 0, .int .u64 0, .int .i64 0, .int .i64 0, .int .i64 0])
      clear t1
      go_wp2_with fail
      refine (P2.out _).mono ?_
      rintro e w2 ⟨rfl, t2⟩
      have B2 := (B1.out.carry (t2.alloc (.cells #[.int .i64 0, .int .u64 0, .int .u64 0, .int .u64 0, .int .u64 0, .int .i64 0, .int .i64 0, .int .i64 0] 41)) (by simp))
      have C2 := (BoxV.new w2 41 #[.int .i64 0, .int .u64 0, .int .u64 0, .int .u64 0, .int .u64 0, .int .i64 0, .int .i64 0, .int .i64 0])
      have T2 := Lib.hid ((T1.out.trans t2 (by simp)).alloc (.cells #[.int .i64 0, .int .u64 0, .int .u64 0, .int .u64 0, .int .u64 0, .int .i64 0, .int .i64 0, .int .i64 0] 41))
      have LV := Lib.hid (flowLives (HK.out.carry T2.out (by simp)))
      clear t2 T1 B1
      go_upto_region 5 with fail
      generalize w2.alloc (.cells #[.int .i64 0, .int .u64 0, .int .u64 0, .int .u64 0, .int .u64 0, .int .i64 0, .int .i64 0, .int .i64 0] 41) = w5 at *
      have k0 := B2.cell 0
      have k1 := B2.cell 1
      have k2 := B2.cell 2
      have k3 := B2.cell 3
      have k4 := B2.cell 4
      have k5 := B2.cell 5
      have k6 := B2.cell 6
      have k7 := B2.cell 7
      have j0 := C2.cell 0
      have j1 := C2.cell 1
      have j2 := C2.cell 2
      have j3 := C2.cell 3
      have j4 := C2.cell 4
      have j5 := C2.cell 5
      have j6 := C2.cell 6
      have j7 := C2.cell 7
      clear B2 C2
      go_wp2_with fail
      refine (LV.out).mono ?_
      rintro e w6 ⟨rfl, t6⟩
      have T6 := Lib.hid (T2.out.trans t6 (by simp))
      clear t6
      go_wp2_with fail
      go_ret
      exact ⟨rfl, T6.out.below (by simp) (Nat.le_refl _)⟩
  · have d4 : decide (400 < (l.length : Int)) = true := by simp; omega
    have LV := Lib.hid (flowLives K)
    clear K
    go_enter Tryd.func6, Tryd.ntmps6
    go_wp2_with fail
    refine (LV.out).mono ?_
    rintro e w1 ⟨rfl, t1⟩
    have T1 := Lib.hid t1
    clear t1
    go_wp2_with fail
    go_ret
    exact ⟨rfl, T1.out.below (by simp) (Nat.le_refl _)⟩

set_option maxRecDepth 100000 in
theorem flowOf_calls : LawCallsK Tryd.prog 6 Tryd.f6 := by
  intro H enc W base args ds p hK hval hA hlt
  rw [Tryd.params6] at hA hval
  obtain ⟨v0, vs0, d0, ds0, p0, q0, hargs, rfl, rfl, h0, r0⟩ := trodAll_cons hA
  obtain ⟨rfl, rfl, rfl⟩ := trodAll_nil r0
  obtain rfl : args = #[v0] := by cases args; simp_all
  obtain ⟨s, rfl, rfl, rfl, hs⟩ := Go.ChangeMaps.open_string Tryd.underlying9 (hval 0 9 v0 rfl rfl) h0
  have es : s = S s.data.toList := by unfold S; simp
  have hz : s.data.toList.length = s.size := by simp
  rw [es]
  exact flowOf_walk s.data.toList (by unfold maxLen at hs; omega) hK

set_option maxRecDepth 100000 in
theorem flowOf_lifted (os : Os) (started : os.Started) (H : Type) (enc : TypeId × Value → H) :
    ReturnsInHanded {} Tryd.checked os 6 .any (fun w args => (Rows.flowOfSpec.pre enc Tryd.prog Tryd.f6 [] false w args ∧ laidMetH Tryd.prog laid1 w) ∧ sizedMet enc Tryd.prog Tryd.f6 (OpenSpec.ofChange Rows.flowOfSpec) false w args)
      (Rows.flowOfSpec.post enc Tryd.prog Tryd.f6 false true false false) := by
  refine returnsInHanded_of_change_and (C := Tryd.checked) (X := fun w _ => laidMetH Tryd.prog laid1 w) (fun _ _ _ hh h => h.of_heap hh) own started (by kernel_rfl) Tryd.func6
    (ChangeSpec.witness_shaped (enc := enc) (C := Tryd.checked) (os := os) (X := fun w _ => laidMetH Tryd.prog laid1 w) false (World.doorLaid Tryd.prog 14 os) #[.string ⟨#[]⟩] 8 rfl (World.shaped_of_RefB (by kernel_rfl) (by kernel_rfl)) (by kernel_rfl) (by kernel_rfl) (by kernel_rfl) (door_met os _)) ?_
  intro W base args ds gs before hval hW _ _ hL _
  exact law_contractK laidOut (by kernel_rfl) rfl rfl boolType (fun ds h => by match ds, h with | [_], _ => rfl) flowOf_calls W (known_of_laid hL) base args ds gs before hval hW

theorem flowOf_over : Rows.FlowOfSaid :=
  OpenClaim.holds_of_wide 6 Tryd.f6 rfl rfl rfl rfl rfl rfl rfl ⟨rfl, rfl, rfl, rfl, rfl⟩ rfl rfl rfl rfl rfl (by kernel_rfl) Tryd.func6 (by kernel_rfl)
    (of_decide_eq_true (by kernel_rfl)) (by unfold Func.isWrapper; first | (rw [if_pos (by decide +kernel)]; kernel_rfl) | (rw [if_neg (by decide +kernel)]; exact ⟨rfl, rfl⟩))
    (fun os started H enc _ => flowOf_lifted os started H enc)

theorem flowOf_holds : Rows.FlowOfCardSaid :=
  Claim7.holds_tied_plain_at .later [] [.data] true Rows.flowOfCard.stood.harness true
    flowOf_over (fun _ h => by cases h) (by kernel_rfl) (fun _ h => by cases h) flowOf_row_tie rfl ⟨rfl, rfl⟩ (by kernel_rfl) rfl
    (fun f fn hf hfn => by
      obtain rfl : f = 6 := Option.some.inj ((show Tryd.prog.funcNamed "flashlock/flashlocklaw14.FlowOf" = some 6 by kernel_rfl).symm.trans hf) |>.symm
      obtain rfl : fn = Tryd.f6 := (Option.some.inj (Tryd.func6.symm.trans hfn)).symm
      exact ⟨by kernel_rfl, fun j t ht => by
        rw [Tryd.params6] at ht
        have hm := Array.mem_of_getElem? ht
        have hall : (Tryd.f6.params.toList.all fun u => !Tryd.prog.wantsStandIn u) = true := by kernel_rfl
        have hm' : t ∈ Tryd.f6.params.toList := by rw [Tryd.params6]; simpa using hm
        exact (show Tryd.prog.wantsStandIn t = false by simpa using List.all_eq_true.1 hall t hm')⟩)
    (by kernel_rfl)
#print axioms flowOf_holds
end Go.Proofs.YtgdeeofblieiiaaDoor
