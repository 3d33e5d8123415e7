/-
  Ipv6Tells: for every string and every number the law on ipv6's Parse and Follows returns true, where ipv6.known holds what its initialiser lays. No other conditions.
-/
import Derived.Test.YtgdeeofblieiiaaDoorAllD
namespace Go.Proofs.YtgdeeofblieiiaaDoor
open Go.ChangeShapes Go.WideShapes Go.ChangeAt Go.RowKit Go.Deep Go.Joins
set_option linter.unusedVariables false
set_option linter.unusedSimpArgs false

set_option maxHeartbeats 1000000 in
theorem ipv6Tells_walk (l : List UInt8) (hl : l.length ≤ 9223372036854775807) (pr : Int) {w : World} (K : Tab6 w) :
    Calls Tryd.prog 3 #[.string (S l), .int .i64 pr] w fun e w' => e = .returned (.bool true) ∧ Below w.heap.size w w' := by
  have hss : (S l).size = l.length := S_size l
  by_cases h4 : l.length ≤ 400
  · have d4 : decide (400 < (l.length : Int)) = false := by simp; omega
    have P1 := Lib.hid (parse12 l (by omega) K)
    have P2 := Lib.hid (fun w => refParse12 l (by omega) w)
    have HK := Lib.hid K
    have S2 := Lib.hid (fun w => refFollows12 pr w)
    have S1 := Lib.hid (fun (w : World) (K : Tab6 w) => follows12 pr K)
    generalize fol pr = fp at *
    unfold Hd.cells at *
    generalize hd6 l = h at *
    generalize err6 l = E at *
    clear K
    go_enter Tryd.func3, Tryd.ntmps3
    go_wp2_with fail
    refine (P1.out).mono ?_
    rintro e w1 ⟨rfl, t1⟩
    have T1 := Lib.hid (t1.alloc (.cells h.cells 27))
    have B1 := Lib.hid (BoxV.new w1 27 h.cells)
    clear t1
    go_wp2_with fail
    refine (P2.out _).mono ?_
    rintro e w2 ⟨rfl, t2⟩
    have B2 := Lib.hid (B1.out.carry (t2.alloc (.cells h.cells 31)) (by simp))
    have C2 := Lib.hid (BoxV.new w2 31 h.cells)
    have T2 := Lib.hid ((T1.out.trans t2 (by simp)).alloc (.cells h.cells 31))
    clear t2 T1 B1
    have K2 := Lib.hid (HK.out.carry T2.out (by simp))
    have S3 := Lib.hid (S1.out _ K2.out)
    have LV := Lib.hid (ipv6Lives K2.out)
    unfold Hd.cells at *
    go_upto_region 5 with fail
    generalize w2.alloc (.cells #[.int .u64 (h.sh : Int), .int .u64 (h.sl : Int), .int .u64 (h.dh : Int), .int .u64 (h.dl : Int), .int .i64 h.proto, .int .i64 h.start, .int .i64 h.size, .int .i64 h.off, .bool h.more] 31) = w5 at *
    have k0 := B2.out.cell 0
    have k1 := B2.out.cell 1
    have k2 := B2.out.cell 2
    have k3 := B2.out.cell 3
    have k4 := B2.out.cell 4
    have k5 := B2.out.cell 5
    have k6 := B2.out.cell 6
    have k7 := B2.out.cell 7
    have k8 := B2.out.cell 8
    have j0 := C2.out.cell 0
    have j1 := C2.out.cell 1
    have j2 := C2.out.cell 2
    have j3 := C2.out.cell 3
    have j4 := C2.out.cell 4
    have j5 := C2.out.cell 5
    have j6 := C2.out.cell 6
    have j7 := C2.out.cell 7
    have j8 := C2.out.cell 8
    go_wp2_with fail
    refine (S3.out).mono ?_
    rintro e w6 ⟨rfl, hq⟩
    subst hq
    go_wp2_with fail
    refine (S2.out _).mono ?_
    rintro e w6 ⟨rfl, hq⟩
    subst hq
    go_wp2_with fail
    refine (LV.out).mono ?_
    rintro e w6 ⟨rfl, t6⟩
    have T6 := Lib.hid (T2.out.trans t6 (by simp))
    clear t6
    go_wp2_with fail
    go_ret
    exact ⟨rfl, T6.out.below (by simp) (Nat.le_refl _)⟩
  · have d4 : decide (400 < (l.length : Int)) = true := by simp; omega
    have LV := Lib.hid (ipv6Lives K)
    clear K
    go_enter Tryd.func3, Tryd.ntmps3
    go_wp2_with fail
    refine (LV.out).mono ?_
    rintro e w1 ⟨rfl, t1⟩
    have T1 := Lib.hid t1
    clear t1
    go_wp2_with fail
    go_ret
    exact ⟨rfl, T1.out.below (by simp) (Nat.le_refl _)⟩

set_option maxRecDepth 100000 in
theorem ipv6Tells_calls : LawCallsK Tryd.prog 3 Tryd.f3 := by
  intro H enc W base args ds p hK hval hA hlt
  rw [Tryd.params3] at hA hval
  obtain ⟨v0, vs0, d0, ds0, p0, q0, hargs, rfl, rfl, h0, r0⟩ := trodAll_cons hA
  obtain ⟨v1, vs1, d1, ds1, p1, q1, rfl, rfl, rfl, h1, r1⟩ := trodAll_cons r0
  obtain ⟨rfl, rfl, rfl⟩ := trodAll_nil r1
  obtain rfl : args = #[v0, v1] := by cases args; simp_all
  obtain ⟨s, rfl, rfl, rfl, hs⟩ := Go.ChangeMaps.open_string Tryd.underlying9 (hval 0 9 v0 rfl rfl) h0
  obtain ⟨n, rfl, rfl, rfl, hn⟩ := open_int Tryd.underlying3 (hval 1 3 v1 rfl rfl) h1
  have es : s = S s.data.toList := by unfold S; simp
  have hz : s.data.toList.length = s.size := by simp
  rw [es]
  exact ipv6Tells_walk s.data.toList (by unfold maxLen at hs; omega) n hK

set_option maxRecDepth 100000 in
theorem ipv6Tells_lifted (os : Os) (started : os.Started) (H : Type) (enc : TypeId × Value → H) :
    ReturnsInHanded {} Tryd.checked os 3 .any (fun w args => (Rows.ipv6TellsSpec.pre enc Tryd.prog Tryd.f3 [] false w args ∧ laidMetH Tryd.prog laid1 w) ∧ sizedMet enc Tryd.prog Tryd.f3 (OpenSpec.ofChange Rows.ipv6TellsSpec) false w args)
      (Rows.ipv6TellsSpec.post enc Tryd.prog Tryd.f3 false true false false) := by
  refine returnsInHanded_of_change_and (C := Tryd.checked) (X := fun w _ => laidMetH Tryd.prog laid1 w) (fun _ _ _ hh h => h.of_heap hh) own started (by kernel_rfl) Tryd.func3
    (ChangeSpec.witness_shaped (enc := enc) (C := Tryd.checked) (os := os) (X := fun w _ => laidMetH Tryd.prog laid1 w) false (World.doorLaid Tryd.prog 14 os) #[.string ⟨#[]⟩, .int .i64 0] 8 rfl (World.shaped_of_RefB (by kernel_rfl) (by kernel_rfl)) (by kernel_rfl) (by kernel_rfl) (by kernel_rfl) (door_met os _)) ?_
  intro W base args ds gs before hval hW _ _ hL _
  exact law_contractK laidOut (by kernel_rfl) rfl rfl boolType (fun ds h => by match ds, h with | [_, _], _ => rfl) ipv6Tells_calls W (known_of_laid hL) base args ds gs before hval hW

theorem ipv6Tells_over : Rows.Ipv6TellsSaid :=
  OpenClaim.holds_of_wide 3 Tryd.f3 rfl rfl rfl rfl rfl rfl rfl ⟨rfl, rfl, rfl, rfl, rfl⟩ rfl rfl rfl rfl rfl (by kernel_rfl) Tryd.func3 (by kernel_rfl)
    (of_decide_eq_true (by kernel_rfl)) (by unfold Func.isWrapper; first | (rw [if_pos (by decide +kernel)]; kernel_rfl) | (rw [if_neg (by decide +kernel)]; exact ⟨rfl, rfl⟩))
    (fun os started H enc _ => ipv6Tells_lifted os started H enc)

theorem ipv6Tells_holds : Rows.Ipv6TellsCardSaid :=
  Claim7.holds_tied_plain_at .later [] [.data] true Rows.ipv6TellsCard.stood.harness true
    ipv6Tells_over (fun _ h => by cases h) (by kernel_rfl) (fun _ h => by cases h) ipv6Tells_row_tie rfl ⟨rfl, rfl⟩ (by kernel_rfl) rfl
    (fun f fn hf hfn => by
      obtain rfl : f = 3 := Option.some.inj ((show Tryd.prog.funcNamed "flashlock/flashlocklaw12.Ipv6Tells" = some 3 by kernel_rfl).symm.trans hf) |>.symm
      obtain rfl : fn = Tryd.f3 := (Option.some.inj (Tryd.func3.symm.trans hfn)).symm
      exact ⟨by kernel_rfl, fun j t ht => by
        rw [Tryd.params3] at ht
        have hm := Array.mem_of_getElem? ht
        have hall : (Tryd.f3.params.toList.all fun u => !Tryd.prog.wantsStandIn u) = true := by kernel_rfl
        have hm' : t ∈ Tryd.f3.params.toList := by rw [Tryd.params3]; simpa using hm
        exact (show Tryd.prog.wantsStandIn t = false by simpa using List.all_eq_true.1 hall t hm')⟩)
    (by kernel_rfl)
#print axioms ipv6Tells_holds
end Go.Proofs.YtgdeeofblieiiaaDoor
