/-
  VclockPlays: for every start, list of ticks and time asked for the law on what a clock shows returns true. No conditions.
-/
import Derived.Test.YtbhjljffcgfcdaaVclockLaws
namespace Go.Proofs.Ytbhjljffcgfcdaa
open Go.ChangeShapes Go.WideShapes Go.ChangeAt Go.RowKit Go.Deep Go.Joins
set_option linter.unusedVariables false

theorem satAdd_in {a x : Int} (ha : 0 ≤ a ∧ a ≤ 1152921504606846976) (hx : 0 ≤ x ∧ x ≤ 1099511627776) : 0 ≤ satAdd a x ∧ satAdd a x ≤ 1152921504606846976 ∧ a ≤ satAdd a x := by
  unfold satAdd
  rw [hold_in (x := a) (by omega) (by omega), hold_in (x := x) (by omega) (by omega)]
  unfold hold
  repeat' split
  all_goals omega

def Ran (wd : World) (n : Nat) (c i : Value) (wr : World) : Prop :=
  ∃ (k : Nat) (a m : Int), k ≤ n ∧ i = .int .i64 k ∧ c = .int .i64 m ∧ 0 ≤ m ∧ m ≤ k ∧ 0 ≤ a ∧ a ≤ 1152921504606846976 ∧ ClockAt wr wd.heap.size a m ∧ Below wd.heap.size wd wr

set_option maxHeartbeats 1000000 in
set_option maxRecDepth 100000 in
theorem vclockPlays_walk (a u : Int) (A : Option Addr) (n c : Nat) (X : Nat → Int) (wd : World) (hc : n ≤ 9223372036854775807) (hX : IntCells wd wd.heap.size A n X) :
    Calls Try.prog 8 #[.int .i64 a, .slice A n c, .int .i64 u] wd fun e w' => e = .returned (.bool true) ∧ Below wd.heap.size wd w' := by
  have HX := Lib.hid hX
  clear hX
  by_cases h : 0 ≤ a ∧ a ≤ 1152921504606846976
  · have C1 := Lib.hid (clockNew_yes a wd h)
    have HB := Lib.hid (Box2.new wd 58 (.int .i64 a) (.int .i64 0))
    have ha : decide (a < 0) = false := by simp; omega
    have ha' : decide (1152921504606846976 < a) = false := by simp; omega
    by_cases hn : 60 < n
    · go_enter Try.func8, Try.ntmps8
      go_wp2_with fail
      refine (C1.out).mono ?_
      rintro e w' ⟨rfl, rfl⟩
      go_wp2_with fail
      refine (vclockLives_any _).mono ?_
      rintro e w2 ⟨rfl, hb⟩
      go_wp2_with fail
      go_ret
      exact ⟨rfl, bnext ((Below.refl _ _).alloc (Nat.le_refl _) _) hb⟩
    · go_enter Try.func8, Try.ntmps8
      go_wp2_with fail
      refine (C1.out).mono ?_
      rintro e w' ⟨rfl, rfl⟩
      go_wp2_with fail
      go_loopw [8, 44] (fun v i wr => Ran wd n v i wr) (fun _ i _ => n - (intOf i).toNat)
      case atStart => exact ⟨0, a, 0, Nat.zero_le _, rfl, rfl, by omega, by omega, by omega, by omega, HB.out, (Below.refl _ _).alloc (Nat.le_refl _) _⟩
      case round =>
        clear h ha ha'
        obtain ⟨k, b, m, hk, rfl, rfl, m1, m2, b1, b2, hcl, hb⟩ := hrel
        by_cases hlt : k < n
        · obtain ⟨bl, off, hA, hbB, hcell⟩ := HX.out k hlt
          rw [← hb.cell (p := ⟨bl, _, none⟩) hbB] at hcell
          subst hA
          generalize X k = x at *
          have D1 := Lib.hid (clockNow_any hcl)
          have D2 := Lib.hid (clockCopy_any hcl)
          have hsz := hcl.lt
          have hcl2 := hcl.carry ((Touch.refl [] wr).alloc (.cells #[.int .i64 b, .int .i64 m] 58)) (by simp)
          have hcp := Box2.new wr 58 (.int .i64 b) (.int .i64 m)
          have q1 : (b != b) = false := by simp
          by_cases hx : 0 ≤ x ∧ x ≤ 1099511627776
          · have D3 := Lib.hid (clockTick_yes hcl2 x hx (by omega))
            have D4 := Lib.hid (fun w => refTick_yes b x w hx)
            have hin := satAdd_in ⟨b1, b2⟩ hx
            have HCP := Lib.hid hcp
            have HCL := Lib.hid hcl2
            have HHB := Lib.hid hb
            have q2 : (satAdd b x != satAdd b x) = false := by simp
            have q3 : (leftV (satAdd b x) u != leftV (satAdd b x) u) = false := by simp
            clear hcl hcl2 hcp hb hx
            generalize satAdd b x = r at *
            go_wp2_with fail
            refine (D1.out).mono ?_
            rintro e w' ⟨rfl, rfl⟩
            go_wp2_with fail
            refine (D2.out).mono ?_
            rintro e w' ⟨rfl, rfl⟩
            go_wp2_with fail
            refine (D4.out _).mono ?_
            rintro e w' ⟨rfl, rfl⟩
            go_wp2_with fail
            refine (D3.out).mono ?_
            rintro e w2 ⟨rfl, h2, t2⟩
            have cp2 := HCP.out.carry t2 (by simp; omega)
            have F1 := Lib.hid (clockNow_any h2)
            have F2 := Lib.hid (clockLeft_any h2 u)
            have F3 := Lib.hid (clockNow_any cp2)
            have H2 := Lib.hid h2
            have T2 := Lib.hid t2
            clear h2 t2 cp2 hcell
            go_wp2_with fail
            refine (F1.out).mono ?_
            rintro e w' ⟨rfl, rfl⟩
            go_wp2_with fail
            refine (F2.out).mono ?_
            rintro e w' ⟨rfl, rfl⟩
            go_wp2_with fail
            refine (refLeft_any _ _ _).mono ?_
            rintro e w' ⟨rfl, rfl⟩
            go_wp2_with fail
            refine (F3.out).mono ?_
            rintro e w' ⟨rfl, rfl⟩
            go_wp2_with fail
            go_roundw
            case rel => exact ⟨k + 1, r, m + 1, by omega, by go_num, by go_num, by omega, by omega, by omega, by omega, H2.out, HHB.out.trans ((((Touch.refl [wd.heap.size] wr).alloc _).trans T2.out (by simp)).below (by simp) (Nat.le_of_lt hsz))⟩
            case measure => simp [intOf]; omega
          · have D3 := Lib.hid (clockTick_no hcl2 x hx)
            have D4 := Lib.hid (fun w => refTick_no b x w hx)
            have F1 := Lib.hid (clockNow_any hcl2)
            have F2 := Lib.hid (clockLeft_any hcl2 u)
            have F3 := Lib.hid (clockNow_any hcp)
            have HCL := Lib.hid hcl2
            have HHB := Lib.hid hb
            have q3 : (leftV b u != leftV b u) = false := by simp
            clear hcl hcl2 hcp hb hx
            go_wp2_with fail
            refine (D1.out).mono ?_
            rintro e w' ⟨rfl, rfl⟩
            go_wp2_with fail
            refine (D2.out).mono ?_
            rintro e w' ⟨rfl, rfl⟩
            go_wp2_with fail
            refine (D4.out _).mono ?_
            rintro e w' ⟨rfl, rfl⟩
            go_wp2_with fail
            refine (D3.out).mono ?_
            rintro e w' ⟨rfl, rfl⟩
            go_wp2_with fail
            refine (F1.out).mono ?_
            rintro e w' ⟨rfl, rfl⟩
            go_wp2_with fail
            refine (F2.out).mono ?_
            rintro e w' ⟨rfl, rfl⟩
            go_wp2_with fail
            refine (refLeft_any _ _ _).mono ?_
            rintro e w' ⟨rfl, rfl⟩
            go_wp2_with fail
            refine (F3.out).mono ?_
            rintro e w' ⟨rfl, rfl⟩
            go_wp2_with fail
            go_roundw
            case rel => exact ⟨k + 1, b, m, by omega, by go_num, by go_num, by omega, by omega, by omega, by omega, HCL.out, HHB.out.alloc (Nat.le_of_lt hsz) _⟩
            case measure => simp [intOf]; omega
        · obtain rfl : k = n := by omega
          have D1 := Lib.hid (clockTicks_any hcl)
          have q1 : (m == m) = true := by simp
          have HHB := Lib.hid hb
          clear hcl hb
          go_wp2_with fail
          refine (D1.out).mono ?_
          rintro e w' ⟨rfl, rfl⟩
          go_wp2_with fail
          refine (vclockLives_any _).mono ?_
          rintro e w2 ⟨rfl, hb2⟩
          go_wp2_with fail
          go_ret
          exact ⟨rfl, bnext HHB.out hb2⟩
  · have C1 := Lib.hid (clockNew_no a wd h)
    by_cases h1 : a < 0
    all_goals
      go_enter Try.func8, Try.ntmps8
      go_wp2_with fail
      refine (C1.out).mono ?_
      rintro e w' ⟨rfl, rfl⟩
      go_wp2_with fail
      refine (vclockLives_any _).mono ?_
      rintro e w2 ⟨rfl, hb⟩
      go_wp2_with fail
      go_ret
      exact ⟨rfl, hb⟩

set_option maxRecDepth 100000 in
theorem vclockPlays_calls : LawCalls Try.prog 8 Try.f8 := by
  intro H enc W base args ds p hval hA hlt
  rw [Try.params8] at hA hval
  obtain ⟨v0, vs0, d0, ds0, p0, q0, hargs, rfl, rfl, h0, r0⟩ := trodAll_cons hA
  obtain ⟨v1, vs1, d1, ds1, p1, q1, rfl, rfl, rfl, h1, r1⟩ := trodAll_cons r0
  obtain ⟨v2, vs2, d2, ds2, p2, q2, rfl, rfl, rfl, h2, r2⟩ := trodAll_cons r1
  obtain ⟨rfl, rfl, rfl⟩ := trodAll_nil r2
  obtain rfl : args = #[v0, v1, v2] := by cases args; simp_all
  obtain ⟨a, rfl, rfl, rfl, wa⟩ := open_int Try.underlying3 (hval 0 3 v0 rfl rfl) h0
  obtain ⟨A, len, cap, X, rfl, hl, hm, hX, hF⟩ := int_cells (hval 1 23 v1 rfl rfl) h1
  obtain ⟨c, rfl, rfl, rfl, wc⟩ := open_int Try.underlying3 (hval 2 3 v2 rfl rfl) h2
  exact vclockPlays_walk a c A len cap X W (by omega) hX

set_option maxRecDepth 100000 in
theorem vclockPlays_lifted (os : Os) (started : os.Started) (H : Type) (enc : TypeId × Value → H) :
    ReturnsInHanded {} Try.checked os 8 .any (Rows.vclockPlaysSpec.pre6 enc Try.prog Try.f8 Rows.vclockPlaysRow.domain false) (Rows.vclockPlaysSpec.post enc Try.prog Try.f8 false true false false) := by
  refine returnsInHanded_of_change (C := Try.checked) own started (by kernel_rfl) Try.func8
    (ChangeSpec.witness6 (enc := enc) (C := Try.checked) false ⟨#[], #[.int .i64 0, .slice none 0 0, .int .i64 0], []⟩ 8 (by kernel_rfl) (by kernel_rfl) (by kernel_rfl) (by kernel_rfl)) ?_
  intro W base args ds gs before hval hW _ _
  exact law_contract laidOut (by kernel_rfl) rfl rfl boolType (fun ds h => by match ds, h with | [_, _, _], _ => rfl) vclockPlays_calls W base args ds gs before hval hW

theorem vclockPlays_holds : Rows.VclockPlaysSaid :=
  OpenClaim.holds_of_wide 8 Try.f8 rfl rfl rfl rfl rfl rfl rfl ⟨rfl, rfl, rfl, rfl, rfl⟩ rfl rfl rfl rfl rfl (by kernel_rfl) Try.func8 (by kernel_rfl)
    (of_decide_eq_true (by kernel_rfl)) (by unfold Func.isWrapper; first | (rw [if_pos (by decide +kernel)]; kernel_rfl) | (rw [if_neg (by decide +kernel)]; exact ⟨rfl, rfl⟩))
    (fun os started H enc _ => vclockPlays_lifted os started H enc)
#print axioms vclockPlays_holds
end Go.Proofs.Ytbhjljffcgfcdaa
