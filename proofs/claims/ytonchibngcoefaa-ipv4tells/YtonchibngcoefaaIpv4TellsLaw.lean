/-
  Ipv4Tells: for every string the law on ipv4's Sum and Parse returns true. No conditions.
-/
import Derived.Test.YtonchibngcoefaaIpv4Parse2
import Derived.Test.YtonchibngcoefaaIpv4MakesLaw
namespace Go.Proofs.Ytonchibngcoefaa
open Go.ChangeShapes Go.WideShapes Go.ChangeAt Go.RowKit Go.Deep Go.Joins
set_option linter.unusedVariables false
set_option linter.unusedSimpArgs false

set_option maxHeartbeats 1000000 in
theorem ipv4Tells_walk (l : List UInt8) (hl : l.length ≤ 9223372036854775807) (w : World) :
    Calls Try.prog 5 #[.string (S l)] w fun e w' => e = .returned (.bool true) ∧ Below w.heap.size w w' := by
  have LV := Lib.hid (fun w => ipv4Lives w)
  have hss : (S l).size = l.length := S_size l
  by_cases h3 : l.length ≤ 300
  · have d3 : decide (300 < (l.length : Int)) = false := by simp; omega
    have d3' : ¬ (300 < (l.length : Int)) := by omega
    have P1 := Lib.hid (fun w => parse11 l (by omega) w)
    have P2 := Lib.hid (fun w => refParse11 l (by omega) w)
    have S1 := Lib.hid (fun w => sum11 l (by omega) w)
    have S2 := Lib.hid (fun w => refSum11 l (by omega) w)
    unfold Hd.cells at *
    generalize hdP l = h at *
    generalize errP l = E at *
    generalize sumA l = sm at *
    go_enter Try.func5, Try.ntmps5
    go_wp2_with fail
    refine (P1.out _).mono ?_
    rintro e w1 ⟨rfl, t1⟩
    have T1 := Lib.hid (t1.alloc (.cells h.cells 51))
    have B1 := Lib.hid (BoxV.new w1 51 h.cells)
    clear t1
    go_wp2_with fail
    refine (P2.out _).mono ?_
    rintro e w2 ⟨rfl, t2⟩
    have B2 := Lib.hid (B1.out.carry (t2.alloc (.cells h.cells 54)) (by simp))
    have C2 := Lib.hid (BoxV.new w2 54 h.cells)
    have T2 := Lib.hid ((T1.out.trans t2 (by simp)).alloc (.cells h.cells 54))
    clear t2 T1 B1
    unfold Hd.cells at *
    go_wp2_with fail
    refine (S1.out _).mono ?_
    rintro e w3 ⟨rfl, rfl⟩
    go_wp2_with fail
    refine (S2.out _).mono ?_
    rintro e w4 ⟨rfl, rfl⟩
    generalize w2.alloc (.cells #[.int .u64 (h.sh : Int), .int .u64 (h.sl : Int), .int .u64 (h.dh : Int), .int .u64 (h.dl : Int), .int .i64 h.proto, .int .i64 h.start, .int .i64 h.size, .int .i64 h.off, .bool h.more] 54) = w5 at *
    have k0 := B2.out.cell 0
    have k1 := B2.out.cell 1
    have k2 := B2.out.cell 2
    have k3 := B2.out.cell 3
    have k4 := B2.out.cell 4
    have k5 := B2.out.cell 5
    have k6 := B2.out.cell 6
    have k7 := B2.out.cell 7
    have k8 := B2.out.cell 8
    have j0 := C2.out.cell 0
    have j1 := C2.out.cell 1
    have j2 := C2.out.cell 2
    have j3 := C2.out.cell 3
    have j4 := C2.out.cell 4
    have j5 := C2.out.cell 5
    have j6 := C2.out.cell 6
    have j7 := C2.out.cell 7
    have j8 := C2.out.cell 8
    go_wp2_with fail
    refine (LV.out _).mono ?_
    rintro e w6 ⟨rfl, t6⟩
    have T6 := Lib.hid (T2.out.trans t6 (by simp))
    clear t6
    go_wp2_with fail
    go_ret
    exact ⟨rfl, T6.out.below (by simp) (Nat.le_refl _)⟩
  · have d3 : decide (300 < (l.length : Int)) = true := by simp; omega
    have d3' : 300 < (l.length : Int) := by omega
    go_enter Try.func5, Try.ntmps5
    go_wp2_with fail
    refine (LV.out _).mono ?_
    rintro e w1 ⟨rfl, t1⟩
    have T1 := Lib.hid t1
    clear t1
    go_wp2_with fail
    go_ret
    exact ⟨rfl, T1.out.below (by simp) (Nat.le_refl _)⟩

set_option maxRecDepth 100000 in
theorem ipv4Tells_calls : LawCalls Try.prog 5 Try.f5 := by
  intro H enc W base args ds p hval hA hlt
  rw [Try.params5] at hA hval
  obtain ⟨v0, vs0, d0, ds0, p0, q0, hargs, rfl, rfl, h0, r0⟩ := trodAll_cons hA
  obtain ⟨rfl, rfl, rfl⟩ := trodAll_nil r0
  obtain rfl : args = #[v0] := by cases args; simp_all
  obtain ⟨s, rfl, rfl, rfl, hs⟩ := Go.ChangeMaps.open_string Try.underlying9 (hval 0 9 v0 rfl rfl) h0
  have es : s = S s.data.toList := by unfold S; simp
  have hz : s.data.toList.length = s.size := by simp
  rw [es]
  exact ipv4Tells_walk s.data.toList (by unfold maxLen at hs; omega) W

set_option maxRecDepth 100000 in
theorem ipv4Tells_lifted (os : Os) (started : os.Started) (H : Type) (enc : TypeId × Value → H) :
    ReturnsInHanded {} Try.checked os 5 .any (Rows.ipv4TellsSpec.pre6 enc Try.prog Try.f5 Rows.ipv4TellsRow.domain false) (Rows.ipv4TellsSpec.post enc Try.prog Try.f5 false true false false) := by
  refine returnsInHanded_of_change (C := Try.checked) own started (by kernel_rfl) Try.func5
    (ChangeSpec.witness6 (enc := enc) (C := Try.checked) false ⟨#[], #[.string ⟨#[]⟩], []⟩ 8 (by kernel_rfl) (by kernel_rfl) (by kernel_rfl) (by kernel_rfl)) ?_
  intro W base args ds gs before hval hW _ _
  exact law_contract laidOut (by kernel_rfl) rfl rfl boolType (fun ds h => by match ds, h with | [_], _ => rfl) ipv4Tells_calls W base args ds gs before hval hW

theorem ipv4Tells_holds : Rows.Ipv4TellsSaid :=
  OpenClaim.holds_of_wide 5 Try.f5 rfl rfl rfl rfl rfl rfl rfl ⟨rfl, rfl, rfl, rfl, rfl⟩ rfl rfl rfl rfl rfl (by kernel_rfl) Try.func5 (by kernel_rfl)
    (of_decide_eq_true (by kernel_rfl)) (by unfold Func.isWrapper; first | (rw [if_pos (by decide +kernel)]; kernel_rfl) | (rw [if_neg (by decide +kernel)]; exact ⟨rfl, rfl⟩))
    (fun os started H enc _ => ipv4Tells_lifted os started H enc)
#print axioms ipv4Tells_holds
end Go.Proofs.Ytonchibngcoefaa
