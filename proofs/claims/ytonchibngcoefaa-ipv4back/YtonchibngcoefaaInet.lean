/-
  inet (layer 10): Bits, Right, own; the reference's Right.
-/
import Derived.Test.YtonchibngcoefaaBoxV
import Derived.Test.YtonchibngcoefaaRow8
import Derived.Test.YtonchibngcoefaaCls
import Derived.Deep.RegionWith
import Derived.Deep.Cut
namespace Go.Proofs.Ytonchibngcoefaa
open Go.ChangeShapes Go.WideShapes Go.ChangeAt Go.RowKit Go.Deep
set_option linter.unusedVariables false
set_option linter.unusedSimpArgs false

def av (hi lo : Nat) : Value := .agg #[.int .u64 (hi : Int), .int .u64 (lo : Int)]
def sizeV (v : Int) : Int := if v = 4 then 32 else if v = 6 then 128 else 0
theorem bits10 (v : Int) (w : World) : Calls Try.prog 68 #[.int .i64 v] w fun e w' => e = .returned (.int .i64 (sizeV v)) ∧ w' = w := by
  unfold sizeV
  by_cases h4 : v = 4
  · subst h4
    rw [if_pos rfl]
    go_enter Try.func68, Try.ntmps68
    go_wp2
    go_ret
    exact ⟨rfl, rfl⟩
  · rw [if_neg h4]
    have b4 : (v == 4) = false := by simpa using h4
    by_cases h6 : v = 6
    · subst h6
      rw [if_pos rfl]
      go_enter Try.func68, Try.ntmps68
      go_wp2
      go_ret
      exact ⟨rfl, rfl⟩
    · rw [if_neg h6]
      have b6 : (v == 6) = false := by simpa using h6
      go_enter Try.func68, Try.ntmps68
      go_wp2
      go_ret
      exact ⟨rfl, rfl⟩
theorem ahead10 (v : Int) (w : World) : Calls Try.prog 67 #[.int .i64 v] w fun e w' => e = .returned (.int .i64 (128 - sizeV v)) ∧ w' = w := by
  have B := Lib.hid (fun w => bits10 v w)
  have hs : 0 ≤ sizeV v ∧ sizeV v ≤ 128 := by unfold sizeV; split <;> (try split) <;> omega
  generalize sizeV v = s at *
  have f : IntKind.i64.wrap (128 - s) = 128 - s := by rw [IntKind.wrap_i64]; omega
  go_enter Try.func67, Try.ntmps67
  go_wp2_with fail
  refine (B.out _).mono ?_
  rintro e w ⟨rfl, rfl⟩
  go_wp2_with fail
  go_ret
  exact ⟨rfl, rfl⟩
def rightA (v : Int) (hi lo : Nat) : Bool := if v = 4 then decide (hi = 0 ∧ lo ≤ 4294967295) else decide (v = 6)
set_option maxRecDepth 100000 in
theorem right10 (v : Int) (hi lo : Nat) (w : World) : Calls Try.prog 20 #[.int .i64 v, av hi lo] w fun e w' => e = .returned (.bool (rightA v hi lo)) ∧ Touch [] w w' := by
  unfold rightA av
  have T := Lib.hid ((Touch.refl [] w).alloc (.cells #[.int .u64 (hi : Int), .int .u64 (lo : Int)] 44))
  by_cases h4 : v = 4
  · subst h4
    rw [if_pos rfl]
    by_cases h0 : hi = 0
    · have b0 : ((hi : Int) == 0) = true := by simp; omega
      have b0' : (hi == 0) = true := by simp; omega
      have e : decide (hi = 0 ∧ lo ≤ 4294967295) = decide (lo ≤ 4294967295) := by simp [h0]
      rw [e]
      rcases (show decide (lo ≤ 4294967295) = true ∨ decide (lo ≤ 4294967295) = false by cases decide (lo ≤ 4294967295) <;> simp) with q | q
      all_goals
        have q' : decide ((lo : Int) ≤ 4294967295) = decide (lo ≤ 4294967295) := by rw [decide_eq_decide]; omega
        rw [q] at q'
        rw [q]
        clear e h0
        go_enter Try.func20, Try.ntmps20
        go_wp2_with fail
        go_ret
        exact ⟨rfl, T.out⟩
    · have b0 : ((hi : Int) == 0) = false := by simp; omega
      have b0' : (hi == 0) = false := by simp; omega
      have e : decide (hi = 0 ∧ lo ≤ 4294967295) = false := by simp [h0]
      rw [e]
      clear e h0
      go_enter Try.func20, Try.ntmps20
      go_wp2_with fail
      go_ret
      exact ⟨rfl, T.out⟩
  · rw [if_neg h4]
    have b4 : (v == 4) = false := by simpa using h4
    rcases (show decide (v = 6) = true ∨ decide (v = 6) = false by cases decide (v = 6) <;> simp) with q | q
    all_goals
      have q' : (v == 6) = decide (v = 6) := rfl
      rw [q] at q'
      rw [q]
      clear h4 q
      go_enter Try.func20, Try.ntmps20
      go_wp2_with fail
      go_ret
      exact ⟨rfl, T.out⟩
set_option maxRecDepth 100000 in
theorem refRight10 (v : Int) (hi lo : Nat) (w : World) : Calls Try.prog 53 #[.int .i64 v, av hi lo] w fun e w' => e = .returned (.bool (rightA v hi lo)) ∧ Touch [] w w' := by
  unfold rightA av
  have T := Lib.hid ((Touch.refl [] w).alloc (.cells #[.int .u64 (hi : Int), .int .u64 (lo : Int)] 44))
  by_cases h4 : v = 4
  · subst h4
    rw [if_pos rfl]
    by_cases h0 : hi = 0
    · have b0 : ((hi : Int) == 0) = true := by simp; omega
      have b0' : (hi == 0) = true := by simp; omega
      have e : decide (hi = 0 ∧ lo ≤ 4294967295) = decide (lo ≤ 4294967295) := by simp [h0]
      rw [e]
      rcases (show decide (lo ≤ 4294967295) = true ∨ decide (lo ≤ 4294967295) = false by cases decide (lo ≤ 4294967295) <;> simp) with q | q
      all_goals
        have q' : decide ((lo : Int) < 4294967296) = decide (lo ≤ 4294967295) := by rw [decide_eq_decide]; omega
        have q2 : decide (lo < 4294967296) = decide (lo ≤ 4294967295) := by rw [decide_eq_decide]; omega
        rw [q] at q' q2
        rw [q]
        clear e h0
        go_enter Try.func53, Try.ntmps53
        go_wp2_with fail
        go_ret
        exact ⟨rfl, T.out⟩
    · have b0 : ((hi : Int) == 0) = false := by simp; omega
      have b0' : (hi == 0) = false := by simp; omega
      have e : decide (hi = 0 ∧ lo ≤ 4294967295) = false := by simp [h0]
      rw [e]
      clear e h0
      go_enter Try.func53, Try.ntmps53
      go_wp2_with fail
      go_ret
      exact ⟨rfl, T.out⟩
  · rw [if_neg h4]
    have b4 : (v == 4) = false := by simpa using h4
    have q' : (v == 6) = decide (v = 6) := rfl
    generalize decide (v = 6) = q at *
    go_enter Try.func53, Try.ntmps53
    go_wp2_with fail
    go_ret
    exact ⟨rfl, T.out⟩

theorem ahead10t (v : Int) (w : World) : Calls Try.prog 67 #[.int .i64 v] w fun e w' => e = .returned (.int .i64 (128 - sizeV v)) ∧ Touch [] w w' :=
  (ahead10 v w).mono fun e w' ⟨h1, h2⟩ => ⟨h1, by rw [h2]; exact Touch.refl _ _⟩
/-- own: the last four, or all sixteen, of the bytes of an image. -/
theorem own4 {w : World} {b : Nat} {cs : Array Value} (h : BoxV w b 88 cs) : Calls Try.prog 49 #[.int .i64 4, .pointer (some ⟨b, 0, none⟩)] w fun e w' => e = .returned (.slice (some ⟨b, 12, none⟩) 4 4) ∧ Touch [] w w' := by
  have A := Lib.hid (fun w => ahead10t 4 w)
  rw [show (128 : Int) - sizeV 4 = 96 from rfl] at A
  go_enter Try.func49, Try.ntmps49
  go_upto_region 1 with fail
  refine wp_region_cls (wd := w) (by kernel_rfl) (by kernel_rfl) ((Touch.refl _ _).drew) ?_
  repeat (first | go_big_quiet_step ((go_at_call 67; exact Calls.cls_at (A.out _))) | quiet_step ((go_at_call 67; exact Calls.cls_at (A.out _))))
  refine wpQuiet_nil ?_
  rintro _ ⟨y, rfl⟩
  go_wp2_with fail
  go_ret
  exact ⟨rfl, y.property⟩
theorem own6 {w : World} {b : Nat} {cs : Array Value} (h : BoxV w b 88 cs) : Calls Try.prog 49 #[.int .i64 6, .pointer (some ⟨b, 0, none⟩)] w fun e w' => e = .returned (.slice (some ⟨b, 0, none⟩) 16 16) ∧ Touch [] w w' := by
  have A := Lib.hid (fun w => ahead10t 6 w)
  rw [show (128 : Int) - sizeV 6 = 0 from rfl] at A
  go_enter Try.func49, Try.ntmps49
  go_upto_region 1 with fail
  refine wp_region_cls (wd := w) (by kernel_rfl) (by kernel_rfl) ((Touch.refl _ _).drew) ?_
  repeat (first | go_big_quiet_step ((go_at_call 67; exact Calls.cls_at (A.out _))) | quiet_step ((go_at_call 67; exact Calls.cls_at (A.out _))))
  refine wpQuiet_nil ?_
  rintro _ ⟨y, rfl⟩
  go_wp2_with fail
  go_ret
  exact ⟨rfl, y.property⟩
end Go.Proofs.Ytonchibngcoefaa
