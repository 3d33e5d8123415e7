/-
  Layer 34 (ledger): the closures of Got, Sent and Lost; enter.
-/
import Derived.Test.YtbppccmkmpgibaaLedger1
import Derived.Test.YtbppccmkmpgibaaPhi7
import Derived.Deep.RegionWith
namespace Go.Proofs.Ytbppccmkmpgibaa
open Go.ChangeShapes Go.WideShapes Go.ChangeAt Go.RowKit Go.Deep Go.Maps
set_option linter.unusedVariables false
set_option linter.unusedSimpArgs false
set_option maxRecDepth 100000 in
theorem got_clos {w : World} {b z : Nat} {B : Bk} (n : Int) (h : BoxV w b 49 (bk B)) (hz : Box1 w z 3 (.int .i64 n)) (hB : Few B 100000000) :
    Calls Try.prog 29 #[.pointer (some ⟨b, 0, none⟩), .pointer (some ⟨z, 0, none⟩)] w fun e w' => e = .returned (.tuple #[]) ∧ BoxV w' b 49 (bk (tally B 0 n)) ∧ Touch [b] w w' := by
  have C := Lib.hid (fun (w' : World) (t : Touch [] w w') => count_0 (h.carry t (by simp)) hB n)
  have c0 := hz.c0
  have lz := hz.lt
  have lt := h.lt
  clear h hz hB
  go_enter Try.func29, Try.ntmps29
  go_region_with (go_at_call 30; refine (C.out _ (by first | exact Touch.refl _ _ | exact (Touch.refl _ _).drew)).mono ?_; rintro e w1 ⟨rfl, hb1, t1⟩)
  all_goals
    have HB := Lib.hid hb1
    have HT := Lib.hid ((Touch.refl [b] w).drew.trans t1 (fun b hb => .inl hb))
    clear hb1 t1 C
    go_wp2_with fail
    go_end0
    exact ⟨rfl, HB.out, HT.out⟩
set_option maxRecDepth 100000 in
theorem sent_clos {w : World} {b z : Nat} {B : Bk} (n : Int) (h : BoxV w b 49 (bk B)) (hz : Box1 w z 3 (.int .i64 n)) (hB : Few B 100000000) :
    Calls Try.prog 31 #[.pointer (some ⟨b, 0, none⟩), .pointer (some ⟨z, 0, none⟩)] w fun e w' => e = .returned (.tuple #[]) ∧ BoxV w' b 49 (bk (tally B 2 n)) ∧ Touch [b] w w' := by
  have C := Lib.hid (fun (w' : World) (t : Touch [] w w') => count_2 (h.carry t (by simp)) hB n)
  have c0 := hz.c0
  have lz := hz.lt
  have lt := h.lt
  clear h hz hB
  go_enter Try.func31, Try.ntmps31
  go_region_with (go_at_call 30; refine (C.out _ (by first | exact Touch.refl _ _ | exact (Touch.refl _ _).drew)).mono ?_; rintro e w1 ⟨rfl, hb1, t1⟩)
  all_goals
    have HB := Lib.hid hb1
    have HT := Lib.hid ((Touch.refl [b] w).drew.trans t1 (fun b hb => .inl hb))
    clear hb1 t1 C
    go_wp2_with fail
    go_end0
    exact ⟨rfl, HB.out, HT.out⟩
theorem bk_get (B : Bk) {i : Nat} (h : i < 10) : (bk B)[i]? = some (.int .i64 (B i)) := by
  unfold bk
  rcases (show i = 0 ∨ i = 1 ∨ i = 2 ∨ i = 3 ∨ i = 4 ∨ i = 5 ∨ i = 6 ∨ i = 7 ∨ i = 8 ∨ i = 9 by omega) with rfl | rfl | rfl | rfl | rfl | rfl | rfl | rfl | rfl | rfl <;> rfl
theorem bk_set (B : Bk) {i : Nat} (h : i < 10) : (bk B).setIfInBounds i (.int .i64 (B i + 1)) = bk (lostB B i) := by
  rcases (show i = 0 ∨ i = 1 ∨ i = 2 ∨ i = 3 ∨ i = 4 ∨ i = 5 ∨ i = 6 ∨ i = 7 ∨ i = 8 ∨ i = 9 by omega) with rfl | rfl | rfl | rfl | rfl | rfl | rfl | rfl | rfl | rfl <;> rfl
set_option maxRecDepth 100000 in
set_option maxHeartbeats 1600000 in
theorem lost_clos {w : World} {b z r : Nat} {B : Bk} (h : BoxV w b 49 (bk B)) (hz : Box1 w z 3 (.int .i64 (r : Int))) (hr : r < 6) (hB : Few B 100000000) :
    Calls Try.prog 32 #[.pointer (some ⟨b, 0, none⟩), .pointer (some ⟨z, 0, none⟩)] w fun e w' => e = .returned (.tuple #[]) ∧ BoxV w' b 49 (bk (lostB B (4 + r))) ∧ Touch [b] w w' := by
  have b0 := hB (4 + r) (by omega)
  have A1 := Lib.hid (fun w => add_any' (B (4 + r)) 1 w)
  rw [satAdd_few (by omega) (by omega)] at A1
  have cz := hz.c0
  have lz := hz.lt
  have cb := h.cell (4 + r)
  rw [bk_get B (show 4 + r < 10 by omega)] at cb
  have fb := h.fr (4 + r)
  have lb := h.lt
  have hb3 := (h.carry ((Touch.refl [] w).drew) (by simp)).set (4 + r) (.int .i64 (B (4 + r) + 1))
  rw [bk_set B (show 4 + r < 10 by omega)] at hb3
  have H3 := Lib.hid hb3
  have HB := Lib.hid h
  have hr6 : (r : Int) < 6 := by omega
  clear h hz hB b0
  go_enter Try.func32, Try.ntmps32
  clear hb3
  go_region_with (go_at_call 33; refine (A1.out _).mono ?_; rintro e w1 ⟨rfl, rfl⟩)
  all_goals
    go_end0
    exact ⟨rfl, H3.out, (Touch.refl [b] w).drew.setCell (a := ⟨b, 4 + r, none⟩) (.inl (by simp)) _⟩
end Go.Proofs.Ytbppccmkmpgibaa
