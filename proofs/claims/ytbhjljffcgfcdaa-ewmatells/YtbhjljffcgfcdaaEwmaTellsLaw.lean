/-
  EwmaTells: for every average, weight, count and list of samples the law on ewma.Floor, Step, Rest and Run returns true. No conditions.
-/
import Derived.Test.YtbhjljffcgfcdaaEwma3
import Derived.Lib.SmallJoins
namespace Go.Proofs.Ytbhjljffcgfcdaa
open Go.ChangeShapes Go.WideShapes Go.ChangeAt Go.RowKit Go.Joins
set_option linter.unusedVariables false

set_option maxHeartbeats 1000000 in
set_option maxRecDepth 100000 in
theorem ewmaTells_walk (avg w m : Int) (A : Option Addr) (n c : Nat) (X : Nat → Int) (wd : World) (hc : n ≤ 9223372036854775807) (hX : IntCells wd wd.heap.size A n X) (hF : ∀ i, i < n → fit64 (X i)) :
    Calls Try.prog 3 #[.agg #[.int .i64 avg, .int .i64 w, .int .i64 m], .slice A n c] wd fun e w' => e = .returned (.bool true) ∧ Below wd.heap.size wd w' := by
  have HX := Lib.hid hX
  have HF := Lib.hid hF
  clear hX hF
  by_cases hn : 50 < n
  · go_enter Try.func3, Try.ntmps3
    go_wp2_with fail
    go_quiet (fail)
    go_wp2_with (go_at_call 10; refine (ewmaLives_any _).mono ?_; rintro e w' ⟨rfl, rfl⟩)
    go_ret
    exact ⟨rfl, below_le (below_alloc1 wd _) (Nat.le_refl _) |>.trans (below_draws _ _ _)⟩
  · go_enter Try.func3, Try.ntmps3
    go_wp2_with fail
    go_quiet (fail)
    go_wp2_with fail
    go_loopw [22] (fun i wr => ∃ k : Nat, k ≤ n ∧ i = .int .i64 k ∧ Below wd.heap.size wd wr) (fun i _ => n - (intOf i).toNat)
    case atStart => exact ⟨0, Nat.zero_le _, rfl, below_le (below_alloc1 wd _) (Nat.le_refl _) |>.trans (below_draws _ _ _)⟩
    case round =>
      obtain ⟨k, hk, rfl, hb⟩ := hrel
      by_cases hlt : k < n
      · obtain ⟨b, off, hA, hbB, hc⟩ := HX.out k hlt
        have hf := HF.out k hlt
        rw [← hb.cell (p := ⟨b, _, none⟩) hbB] at hc
        subst hA
        have q1 : (floorV (X k) w != floorV (X k) w) = false := by simp
        have q2 : (stepV avg (X k) w != stepV avg (X k) w) = false := by simp
        have q3 : (restV avg (X k) w (times m) != restV avg (X k) w (times m)) = false := by simp
        generalize X k = x at *
        unfold fit64 at hf
        go_wp2_with fail
        refine (floor_any _ _ _).mono ?_
        rintro e w' ⟨rfl, rfl⟩
        go_wp2_with fail
        refine (refFloor_any _ _ _ hf).mono ?_
        rintro e w' ⟨rfl, rfl⟩
        go_wp2_with fail
        refine (step_any _ _ _ _).mono ?_
        rintro e w' ⟨rfl, rfl⟩
        go_wp2_with fail
        refine (refStep_any _ _ _ _).mono ?_
        rintro e w' ⟨rfl, rfl⟩
        go_wp2_with fail
        refine (rest_any _ _ _ _ _).mono ?_
        rintro e w' ⟨rfl, rfl⟩
        go_wp2_with fail
        refine (refRest_any _ _ _ _ _).mono ?_
        rintro e w' ⟨rfl, rfl⟩
        go_wp2_with fail
        go_roundw
        case rel => exact ⟨k + 1, by omega, by go_num, hb⟩
        case measure => simp [intOf]; omega
      · obtain rfl : k = n := by omega
        have D1 := Lib.hid (run_any avg w A k c X wr (by omega) ((HX.out.below hb).mono hb.size))
        have D2 := Lib.hid (refRun_any avg w A k c X wr (by omega) ((HX.out.below hb).mono hb.size))
        have q1 : (runV avg w X k == runV avg w X k) = true := by simp
        go_wp2_with fail
        refine (D1.out).mono ?_
        rintro e w' ⟨rfl, rfl⟩
        go_wp2_with fail
        refine (D2.out).mono ?_
        rintro e w' ⟨rfl, rfl⟩
        go_wp2_with (go_at_call 10; refine (ewmaLives_any _).mono ?_; rintro e w' ⟨rfl, rfl⟩)
        go_ret
        exact ⟨rfl, hb⟩

set_option maxRecDepth 100000 in
theorem ewmaTells_calls : LawCalls Try.prog 3 Try.f3 := by
  intro H enc W base args ds p hval hA hlt
  rw [Try.params3] at hA hval
  obtain ⟨v0, vs0, d0, ds0, p0, q0, hargs, rfl, rfl, h0, r0⟩ := trodAll_cons hA
  obtain ⟨v1, vs1, d1, ds1, p1, q1, rfl, rfl, rfl, h1, r1⟩ := trodAll_cons r0
  obtain ⟨rfl, rfl, rfl⟩ := trodAll_nil r1
  obtain rfl : args = #[v0, v1] := by cases args; simp_all
  obtain ⟨cs, rfl, hsz, hcs⟩ := open_ints_array Try.underlying22 Try.underlying3 (by kernel_rfl) (hval 0 22 v0 rfl rfl) h0
  obtain ⟨a, ha, _⟩ := hcs 0 (by omega)
  obtain ⟨b, hb, _⟩ := hcs 1 (by omega)
  obtain ⟨c, hc, _⟩ := hcs 2 (by omega)
  have hC : Try.prog.cellsOf 22 = 3 := by kernel_rfl
  obtain ⟨c0, c1, c2, rfl⟩ := array3 (hsz.trans hC)
  simp at ha hb hc
  subst ha hb hc
  obtain ⟨A, len, cap, X, rfl, hl, hm, hX, hF⟩ := int_cells (hval 1 23 v1 rfl rfl) h1
  exact ewmaTells_walk a b c A len cap X W (by omega) hX hF

set_option maxRecDepth 100000 in
theorem ewmaTells_lifted (os : Os) (started : os.Started) (H : Type) (enc : TypeId × Value → H) :
    ReturnsInHanded {} Try.checked os 3 .any (Rows.ewmaTellsSpec.pre6 enc Try.prog Try.f3 Rows.ewmaTellsRow.domain false) (Rows.ewmaTellsSpec.post enc Try.prog Try.f3 false true false false) := by
  refine returnsInHanded_of_change (C := Try.checked) own started (by kernel_rfl) Try.func3
    (ChangeSpec.witness6 (enc := enc) (C := Try.checked) false ⟨#[], #[.agg #[.int .i64 0, .int .i64 0, .int .i64 0], .slice none 0 0], []⟩ 8 (by kernel_rfl) (by kernel_rfl) (by kernel_rfl) (by kernel_rfl)) ?_
  intro W base args ds gs before hval hW _ _
  exact law_contract laidOut (by kernel_rfl) rfl rfl boolType (fun ds h => by match ds, h with | [_, _], _ => rfl) ewmaTells_calls W base args ds gs before hval hW

theorem ewmaTells_holds : Rows.EwmaTellsSaid :=
  OpenClaim.holds_of_wide 3 Try.f3 rfl rfl rfl rfl rfl rfl rfl ⟨rfl, rfl, rfl, rfl, rfl⟩ rfl rfl rfl rfl rfl (by kernel_rfl) Try.func3 (by kernel_rfl)
    (of_decide_eq_true (by kernel_rfl)) (by unfold Func.isWrapper; first | (rw [if_pos (by decide +kernel)]; kernel_rfl) | (rw [if_neg (by decide +kernel)]; exact ⟨rfl, rfl⟩))
    (fun os started H enc _ => ewmaTells_lifted os started H enc)
#print axioms ewmaTells_holds
end Go.Proofs.Ytbhjljffcgfcdaa
