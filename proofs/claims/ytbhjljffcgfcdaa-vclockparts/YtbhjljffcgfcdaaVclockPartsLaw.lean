/-
  VclockParts: for every list of ticks the law that time never goes back, however ticks are parted, returns true. No conditions.
-/
import Derived.Test.YtbhjljffcgfcdaaVclockLaws
namespace Go.Proofs.Ytbhjljffcgfcdaa
open Go.ChangeShapes Go.WideShapes Go.ChangeAt Go.RowKit Go.Deep Go.Joins
set_option linter.unusedVariables false

theorem satAdd_parts {a x : Int} (ha : 0 ≤ a ∧ a ≤ 1152921504606846976) (hx : 0 ≤ x ∧ x ≤ 1099511627776) : a ≤ satAdd a x ∧ satAdd a x ≤ 1152921504606846976 ∧ satAdd (satAdd a (x / 2)) (x - x / 2) = satAdd a x := by
  unfold satAdd
  rw [hold_in (x := a) (by omega) (by omega), hold_in (x := x) (by omega) (by omega), hold_in (x := x / 2) (by omega) (by omega), hold_in (x := x - x / 2) (by omega) (by omega)]
  unfold hold
  repeat' split
  all_goals omega

def Both (wd : World) (n : Nat) (i : Value) (wr : World) : Prop :=
  ∃ (k : Nat) (a m m' : Int), k ≤ n ∧ i = .int .i64 k ∧ 0 ≤ m ∧ m ≤ k ∧ 0 ≤ m' ∧ m' ≤ 2 * k ∧ 0 ≤ a ∧ a ≤ 1152921504606846976 ∧ ClockAt wr wd.heap.size a m ∧ ClockAt wr (wd.heap.size + 1) a m' ∧ Below wd.heap.size wd wr

set_option maxHeartbeats 1000000 in
set_option maxRecDepth 100000 in
theorem vclockParts_walk (u : Int) (A : Option Addr) (n c : Nat) (X : Nat → Int) (wd : World) (hc : n ≤ 9223372036854775807) (hX : IntCells wd wd.heap.size A n X) :
    Calls Try.prog 9 #[.slice A n c, .int .i64 u] wd fun e w' => e = .returned (.bool true) ∧ Below wd.heap.size wd w' := by
  have HX := Lib.hid hX
  clear hX
  by_cases hn : 60 < n
  · go_enter Try.func9, Try.ntmps9
    go_wp2_with fail
    refine (clockTick_nil _ _).mono ?_
    rintro e w' ⟨rfl, rfl⟩
    go_wp2_with fail
    refine (clockTicks_nil _).mono ?_
    rintro e w' ⟨rfl, rfl⟩
    go_wp2_with fail
    refine (clockCopy_nil _).mono ?_
    rintro e w' ⟨rfl, rfl⟩
    go_wp2_with fail
    refine (clockNow_nil _).mono ?_
    rintro e w' ⟨rfl, rfl⟩
    go_wp2_with fail
    refine (clockLeft_nil _ _).mono ?_
    rintro e w' ⟨rfl, rfl⟩
    go_wp2_with fail
    refine (vclockLives_any _).mono ?_
    rintro e w2 ⟨rfl, hb⟩
    go_wp2_with fail
    go_ret
    exact ⟨rfl, hb⟩
  · have C1 := Lib.hid (fun w => clockNew_yes 0 w (by omega))
    have B1 := Lib.hid ((Box2.new wd 58 (.int .i64 0) (.int .i64 0)).carry ((Touch.refl [] _).alloc (.cells #[.int .i64 0, .int .i64 0] 58)) (by simp))
    have b2 := Box2.new (wd.alloc (.cells #[.int .i64 0, .int .i64 0] 58)) 58 (.int .i64 0) (.int .i64 0)
    rw [show (wd.alloc (.cells #[.int .i64 0, .int .i64 0] 58)).heap.size = wd.heap.size + 1 by simp] at b2
    have B2 := Lib.hid b2
    clear b2
    go_enter Try.func9, Try.ntmps9
    go_wp2_with fail
    refine (clockTick_nil _ _).mono ?_
    rintro e w' ⟨rfl, rfl⟩
    go_wp2_with fail
    refine (clockTicks_nil _).mono ?_
    rintro e w' ⟨rfl, rfl⟩
    go_wp2_with fail
    refine (clockCopy_nil _).mono ?_
    rintro e w' ⟨rfl, rfl⟩
    go_wp2_with fail
    refine (clockNow_nil _).mono ?_
    rintro e w' ⟨rfl, rfl⟩
    go_wp2_with fail
    refine (clockLeft_nil _ _).mono ?_
    rintro e w' ⟨rfl, rfl⟩
    go_wp2_with fail
    refine (C1.out _).mono ?_
    rintro e w' ⟨rfl, rfl⟩
    go_wp2_with fail
    refine (C1.out _).mono ?_
    rintro e w' ⟨rfl, rfl⟩
    go_wp2_with fail
    go_loopw [50] (fun i wr => Both wd n i wr) (fun i _ => n - (intOf i).toNat)
    case atStart => exact ⟨0, 0, 0, 0, Nat.zero_le _, rfl, by omega, by omega, by omega, by omega, by omega, by omega, B1.out, B2.out, ((Below.refl _ _).alloc (Nat.le_refl _) _).alloc (by simp) _⟩
    case round =>
      obtain ⟨k, b, m, m', hk, rfl, m1, m2, m3, m4, b1, b2, hcl, hcm, hb⟩ := hrel
      by_cases hlt : k < n
      · obtain ⟨bl, off, hA, hbB, hcell⟩ := HX.out k hlt
        rw [← hb.cell (p := ⟨bl, _, none⟩) hbB] at hcell
        subst hA
        generalize X k = x at *
        have D1 := Lib.hid (clockNow_any hcl)
        have hsz := hcl.lt
        have q1 : (b != b) = false := by simp
        by_cases hx : 0 ≤ x ∧ x ≤ 1099511627776
        · have D3 := Lib.hid (clockTick_yes hcl x hx (by omega))
          obtain ⟨p1, p2, p3⟩ := satAdd_parts ⟨b1, b2⟩ hx
          have P3 := Lib.hid p3
          have HCM := Lib.hid hcm
          have HHB := Lib.hid hb
          have q2 : (satAdd b x != satAdd b x) = false := by simp
          have q4 : decide (satAdd b x < b) = false := by simp; omega
          clear hcl hcm hb p3
          go_wp2_with fail
          refine (D1.out).mono ?_
          rintro e w' ⟨rfl, rfl⟩
          go_wp2_with fail
          refine (D3.out).mono ?_
          rintro e w2 ⟨rfl, h2, t2⟩
          have cm2 := HCM.out.carry t2 (by simp)
          have F1 := Lib.hid (clockNow_any h2)
          have F2 := Lib.hid (clockTick_yes cm2 (x / 2) (by omega) (by omega))
          have H2 := Lib.hid h2
          have T2 := Lib.hid t2
          have hz : 0 ≤ x - x / 2 := by omega
          clear h2 t2 cm2 hcell
          go_wp2_with fail
          refine (F1.out).mono ?_
          rintro e w' ⟨rfl, rfl⟩
          go_wp2_with fail
          refine (F2.out).mono ?_
          rintro e w3 ⟨rfl, h3, t3⟩
          have F3 := clockTick_yes h3 (x - x / 2) (by omega) (by omega)
          rw [P3.out] at F3
          have F3 := Lib.hid F3
          have T3 := Lib.hid t3
          clear t3 h3
          go_wp2_with fail
          refine (F3.out).mono ?_
          rintro e w4 ⟨rfl, h4, t4⟩
          have h5 := (H2.out.carry T3.out (by simp)).carry t4 (by simp)
          have F4 := Lib.hid (clockNow_any h5)
          have F5 := Lib.hid (clockNow_any h4)
          have H4 := Lib.hid h4
          have H5 := Lib.hid h5
          have T4 := Lib.hid t4
          clear h4 h5 t4
          go_wp2_with fail
          refine (F4.out).mono ?_
          rintro e w' ⟨rfl, rfl⟩
          go_wp2_with fail
          refine (F5.out).mono ?_
          rintro e w' ⟨rfl, rfl⟩
          go_wp2_with fail
          go_roundw
          case rel => exact ⟨k + 1, satAdd b x, m + 1, m' + 1 + 1, by omega, by go_num, by omega, by omega, by omega, by omega, by omega, by omega, H5.out, H4.out, HHB.out.trans ((((T2.out.mono (S' := [wd.heap.size, wd.heap.size + 1]) (by simp)).trans T3.out (by simp)).trans T4.out (by simp)).below (by simp) (Nat.le_of_lt hsz))⟩
          case measure => simp [intOf]; omega
        · have D3 := Lib.hid (clockTick_no hcl x hx)
          have HCL := Lib.hid hcl
          have HCM := Lib.hid hcm
          have HHB := Lib.hid hb
          clear hcl hcm hb
          by_cases h0 : x < 0
          · clear hx
            go_wp2_with fail
            refine (D1.out).mono ?_
            rintro e w' ⟨rfl, rfl⟩
            go_wp2_with fail
            refine (D3.out).mono ?_
            rintro e w' ⟨rfl, rfl⟩
            go_wp2_with fail
            refine (D1.out).mono ?_
            rintro e w' ⟨rfl, rfl⟩
            go_wp2_with fail
            go_roundw
            case rel => exact ⟨k + 1, b, m, m', by omega, by go_num, by omega, by omega, by omega, by omega, by omega, by omega, HCL.out, HCM.out, HHB.out⟩
            case measure => simp [intOf]; omega
          · have h1 : decide (x ≤ 1099511627776) = false := by simp; omega
            have h0' : 0 ≤ x := by omega
            clear hx h0
            go_wp2_with fail
            refine (D1.out).mono ?_
            rintro e w' ⟨rfl, rfl⟩
            go_wp2_with fail
            refine (D3.out).mono ?_
            rintro e w' ⟨rfl, rfl⟩
            go_wp2_with fail
            refine (D1.out).mono ?_
            rintro e w' ⟨rfl, rfl⟩
            go_wp2_with fail
            go_roundw
            case rel => exact ⟨k + 1, b, m, m', by omega, by go_num, by omega, by omega, by omega, by omega, by omega, by omega, HCL.out, HCM.out, HHB.out⟩
            case measure => simp [intOf]; omega
      · obtain rfl : k = n := by omega
        have HHB := Lib.hid hb
        clear hcl hcm hb
        go_wp2_with fail
        refine (vclockLives_any _).mono ?_
        rintro e w2 ⟨rfl, hb2⟩
        go_wp2_with fail
        go_ret
        exact ⟨rfl, bnext HHB.out hb2⟩

set_option maxRecDepth 100000 in
theorem vclockParts_calls : LawCalls Try.prog 9 Try.f9 := by
  intro H enc W base args ds p hval hA hlt
  rw [Try.params9] at hA hval
  obtain ⟨v0, vs0, d0, ds0, p0, q0, hargs, rfl, rfl, h0, r0⟩ := trodAll_cons hA
  obtain ⟨v1, vs1, d1, ds1, p1, q1, rfl, rfl, rfl, h1, r1⟩ := trodAll_cons r0
  obtain ⟨rfl, rfl, rfl⟩ := trodAll_nil r1
  obtain rfl : args = #[v0, v1] := by cases args; simp_all
  obtain ⟨A, len, cap, X, rfl, hl, hm, hX, hF⟩ := int_cells (hval 0 23 v0 rfl rfl) h0
  obtain ⟨c, rfl, rfl, rfl, wc⟩ := open_int Try.underlying3 (hval 1 3 v1 rfl rfl) h1
  exact vclockParts_walk c A len cap X W (by omega) hX

set_option maxRecDepth 100000 in
theorem vclockParts_lifted (os : Os) (started : os.Started) (H : Type) (enc : TypeId × Value → H) :
    ReturnsInHanded {} Try.checked os 9 .any (Rows.vclockPartsSpec.pre6 enc Try.prog Try.f9 Rows.vclockPartsRow.domain false) (Rows.vclockPartsSpec.post enc Try.prog Try.f9 false true false false) := by
  refine returnsInHanded_of_change (C := Try.checked) own started (by kernel_rfl) Try.func9
    (ChangeSpec.witness6 (enc := enc) (C := Try.checked) false ⟨#[], #[.slice none 0 0, .int .i64 0], []⟩ 8 (by kernel_rfl) (by kernel_rfl) (by kernel_rfl) (by kernel_rfl)) ?_
  intro W base args ds gs before hval hW _ _
  exact law_contract laidOut (by kernel_rfl) rfl rfl boolType (fun ds h => by match ds, h with | [_, _], _ => rfl) vclockParts_calls W base args ds gs before hval hW

theorem vclockParts_holds : Rows.VclockPartsSaid :=
  OpenClaim.holds_of_wide 9 Try.f9 rfl rfl rfl rfl rfl rfl rfl ⟨rfl, rfl, rfl, rfl, rfl⟩ rfl rfl rfl rfl rfl (by kernel_rfl) Try.func9 (by kernel_rfl)
    (of_decide_eq_true (by kernel_rfl)) (by unfold Func.isWrapper; first | (rw [if_pos (by decide +kernel)]; kernel_rfl) | (rw [if_neg (by decide +kernel)]; exact ⟨rfl, rfl⟩))
    (fun os started H enc _ => vclockParts_lifted os started H enc)
#print axioms vclockParts_holds
end Go.Proofs.Ytbhjljffcgfcdaa
