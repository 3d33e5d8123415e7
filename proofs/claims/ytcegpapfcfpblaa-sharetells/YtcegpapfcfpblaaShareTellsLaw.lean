/-
  ShareTells: for all bits x and y and every n the law on share.Kind, Same, Less, Units, Of and Clamp returns true. No conditions.
-/
import Derived.Test.YtcegpapfcfpblaaShareTotal
namespace Go.Proofs.Ytcegpapfcfpblaa
open Go.ChangeShapes Go.WideShapes Go.ChangeAt Go.RowKit Go.Joins
set_option linter.unusedVariables false

theorem units_both (x : Nat) (h64 : x < 18446744073709551616) : ∃ u e : Int,
    (∀ w, Calls Try.prog 27 #[.float .f64 x] w fun e' w' => e' = .returned (.tuple #[.int .i64 u, .int .i64 e]) ∧ w' = w) ∧
    (∀ w, Calls Try.prog 28 #[.float .f64 x] w fun e' w' => e' = .returned (.tuple #[.int .i64 u, .int .i64 e]) ∧ w' = w) := by
  rcases share_ways x h64 with hn | ⟨hn, h1, hk⟩ | ⟨hn, h1, hk⟩ | ⟨hn, h0, h1, hr, hs, hk⟩
  · exact ⟨_, _, fun w => units_nan x h64 hn w, fun w => refUnits_nan x hn w⟩
  · exact ⟨_, _, fun w => units_below x h64 hk w, fun w => refUnits_out x hn (.inl h1) w⟩
  · exact ⟨_, _, fun w => units_above x h64 hn h1 hk w, fun w => refUnits_out x hn (.inr h1) w⟩
  · exact ⟨_, _, fun w => units_in x h64 hn h1 hr hs hk w, fun w => refUnits_in x hn h0 h1 hr hs w⟩

theorem same_self (x : Nat) : sameOf x x = true := by unfold sameOf; simp
theorem clamp_lt (x : Nat) (h : x < 18446744073709551616) : clampOf x < 18446744073709551616 := by
  unfold clampOf
  repeat' split
  all_goals omega

set_option maxHeartbeats 2000000 in
theorem shareTells_walk (x y : Nat) (n : Int) (hx : x < 18446744073709551616) (hy : y < 18446744073709551616) (w : World) :
    Calls Try.prog 6 #[.int .u64 x, .int .u64 y, .int .i64 n] w fun e w' => e = .returned (.bool true) ∧ Below w.heap.size w w' := by
  obtain ⟨u, e, U1, U2⟩ := units_both x hx
  obtain ⟨r, hr, O1, O2⟩ := of_both n
  have hb := float_of_bits
  have H1 := Lib.hid U1
  have H2 := Lib.hid U2
  have H3 := Lib.hid (fun w => kind_any x hx w)
  have H4 := Lib.hid (fun w => refKind_any x hx w)
  have H5 := Lib.hid (fun w => same_any x y w)
  have H6 := Lib.hid (fun w => refSame_any x y hx hy w)
  have H7 := Lib.hid (fun w => less_any x y hx hy w)
  have H8 := Lib.hid (fun w => refLess_any x y hx hy w)
  have H9 := Lib.hid O1
  have H10 := Lib.hid O2
  have S1 := fun w => refSame_any r r hr.1 hr.1 w
  rw [same_self] at S1
  have H11 := Lib.hid S1
  have H12 := Lib.hid (fun w => clamp_any x hx w)
  have H13 := Lib.hid (fun w => refClamp_any x hx w)
  have S2 := fun w => refSame_any (clampOf x) (clampOf x) (clamp_lt x hx) (clamp_lt x hx) w
  rw [same_self] at S2
  have H14 := Lib.hid S2
  clear U1 U2 O1 O2 S1 S2 hr
  generalize kindOf x = k at *
  generalize sameOf x y = s at *
  generalize lessOf x y = l at *
  generalize clampOf x = c at *
  go_enter Try.func6, Try.ntmps6
  go_wp2_with fail
  refine (H1.out _).mono ?_
  rintro e' w ⟨rfl, rfl⟩
  go_wp2_with fail
  refine (H2.out _).mono ?_
  rintro e' w ⟨rfl, rfl⟩
  go_wp2_with fail
  refine (H3.out _).mono ?_
  rintro e' w ⟨rfl, rfl⟩
  go_wp2_with fail
  refine (H4.out _).mono ?_
  rintro e' w ⟨rfl, rfl⟩
  go_wp2_with fail
  refine (H5.out _).mono ?_
  rintro e' w ⟨rfl, rfl⟩
  go_wp2_with fail
  refine (H6.out _).mono ?_
  rintro e' w ⟨rfl, rfl⟩
  go_wp2_with fail
  refine (H7.out _).mono ?_
  rintro e' w ⟨rfl, rfl⟩
  go_wp2_with fail
  refine (H8.out _).mono ?_
  rintro e' w ⟨rfl, rfl⟩
  go_wp2_with fail
  refine (H9.out _).mono ?_
  rintro e' w ⟨rfl, rfl⟩
  go_wp2_with fail
  refine (H10.out _).mono ?_
  rintro e' w ⟨rfl, rfl⟩
  go_wp2_with fail
  refine (H11.out _).mono ?_
  rintro e' w ⟨rfl, rfl⟩
  go_wp2_with fail
  refine (H12.out _).mono ?_
  rintro e' w ⟨rfl, rfl⟩
  go_wp2_with fail
  refine (H13.out _).mono ?_
  rintro e' w ⟨rfl, rfl⟩
  go_wp2_with fail
  refine (H14.out _).mono ?_
  rintro e' w ⟨rfl, rfl⟩
  go_wp2_with fail
  refine (shareLives_any _).mono ?_
  rintro e' w1 ⟨rfl, hb1⟩
  go_wp2_with fail
  go_ret
  exact ⟨rfl, hb1⟩

set_option maxRecDepth 100000 in
theorem shareTells_calls : LawCalls Try.prog 6 Try.f6 := by
  intro H enc W base args ds p hval hA hlt
  rw [Try.params6] at hA hval
  obtain ⟨v0, vs0, d0, ds0, p0, q0, hargs, rfl, rfl, h0, r0⟩ := trodAll_cons hA
  obtain ⟨v1, vs1, d1, ds1, p1, q1, rfl, rfl, rfl, h1, r1⟩ := trodAll_cons r0
  obtain ⟨v2, vs2, d2, ds2, p2, q2, rfl, rfl, rfl, h2, r2⟩ := trodAll_cons r1
  obtain ⟨rfl, rfl, rfl⟩ := trodAll_nil r2
  obtain rfl : args = #[v0, v1, v2] := by cases args; simp_all
  obtain ⟨a, rfl, rfl, rfl, wa⟩ := open_int Try.underlying30 (hval 0 30 v0 rfl rfl) h0
  obtain ⟨b, rfl, rfl, rfl, wb⟩ := open_int Try.underlying30 (hval 1 30 v1 rfl rfl) h1
  obtain ⟨c, rfl, rfl, rfl, wc⟩ := open_int Try.underlying3 (hval 2 3 v2 rfl rfl) h2
  have ba := u64_in wa
  have bb := u64_in wb
  obtain ⟨x, rfl⟩ := Int.eq_ofNat_of_zero_le ba.1
  obtain ⟨y, rfl⟩ := Int.eq_ofNat_of_zero_le bb.1
  exact shareTells_walk x y c (by omega) (by omega) W

set_option maxRecDepth 100000 in
theorem shareTells_lifted (os : Os) (started : os.Started) (H : Type) (enc : TypeId × Value → H) :
    ReturnsInHanded {} Try.checked os 6 .any (Rows.shareTellsSpec.pre6 enc Try.prog Try.f6 Rows.shareTellsRow.domain false) (Rows.shareTellsSpec.post enc Try.prog Try.f6 false true false false) := by
  refine returnsInHanded_of_change (C := Try.checked) own started (by kernel_rfl) Try.func6
    (ChangeSpec.witness6 (enc := enc) (C := Try.checked) false ⟨#[], #[.int .u64 0, .int .u64 0, .int .i64 0], []⟩ 8 (by kernel_rfl) (by kernel_rfl) (by kernel_rfl) (by kernel_rfl)) ?_
  intro W base args ds gs before hval hW _ _
  exact law_contract laidOut (by kernel_rfl) rfl rfl boolType (fun ds h => by match ds, h with | [_, _, _], _ => rfl) shareTells_calls W base args ds gs before hval hW

theorem shareTells_holds : Rows.ShareTellsSaid :=
  OpenClaim.holds_of_wide 6 Try.f6 rfl rfl rfl rfl rfl rfl rfl ⟨rfl, rfl, rfl, rfl, rfl⟩ rfl rfl rfl rfl rfl (by kernel_rfl) Try.func6 (by kernel_rfl)
    (of_decide_eq_true (by kernel_rfl)) (by unfold Func.isWrapper; first | (rw [if_pos (by decide +kernel)]; kernel_rfl) | (rw [if_neg (by decide +kernel)]; exact ⟨rfl, rfl⟩))
    (fun os started H enc _ => shareTells_lifted os started H enc)
#print axioms shareTells_holds
end Go.Proofs.Ytcegpapfcfpblaa
