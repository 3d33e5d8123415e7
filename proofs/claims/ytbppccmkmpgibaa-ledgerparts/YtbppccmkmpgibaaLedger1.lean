/-
  Layer 34 (ledger): books by their cells; count, and what Got, Sent and Lost change.
-/
import Derived.Test.YtbppccmkmpgibaaVSat
import Derived.Test.YtbppccmkmpgibaaIMap
import Derived.Test.YtbppccmkmpgibaaBoxV
import Derived.Test.YtbppccmkmpgibaaBox
namespace Go.Proofs.Ytbppccmkmpgibaa
open Go.ChangeShapes Go.WideShapes Go.ChangeAt Go.RowKit Go.Deep Go.Maps
set_option linter.unusedVariables false
set_option linter.unusedSimpArgs false
/-- A book: packets and bytes that came, that went, and what was lost, by reason. -/
abbrev Bk := Nat → Int
def bk (B : Bk) : Array Value := #[.int .i64 (B 0), .int .i64 (B 1), .int .i64 (B 2), .int .i64 (B 3), .int .i64 (B 4), .int .i64 (B 5), .int .i64 (B 6), .int .i64 (B 7), .int .i64 (B 8), .int .i64 (B 9)]
def sizeC (n : Int) : Int := if n < 0 then 0 else if n < 2048 then n else 2048
theorem sizeC_le (n : Int) : 0 ≤ sizeC n ∧ sizeC n ≤ 2048 := by unfold sizeC; split; (· omega); split <;> omega
def tally (B : Bk) (o : Nat) (n : Int) : Bk := fun i => if i = o then B o + 1 else if i = o + 1 then B (o + 1) + sizeC n else B i
def lostB (B : Bk) (r : Nat) : Bk := fun i => if i = r then B r + 1 else B i
def Few (B : Bk) (m : Int) : Prop := ∀ i, i < 10 → 0 ≤ B i ∧ B i ≤ m
theorem satAdd_few {a b : Int} (ha : 0 ≤ a ∧ a ≤ 1000000000) (hb : 0 ≤ b ∧ b ≤ 1000000000) : satAdd a b = a + b := by
  unfold satAdd
  rw [hold_in (x := a) (by omega) (by omega), hold_in (x := b) (by omega) (by omega), hold_in (by omega) (by omega)]
set_option maxRecDepth 100000 in
theorem count_0 {w : World} {b : Nat} {B : Bk} (h : BoxV w b 49 (bk B)) (hB : Few B 100000000) (n : Int) :
    Calls Try.prog 30 #[.pointer (some ⟨b, 0, none⟩), .int .i64 n] w fun e w' => e = .returned (.tuple #[]) ∧ BoxV w' b 49 (bk (tally B 0 n)) ∧ Touch [b] w w' := by
  have b0 := hB 0 (by omega)
  have b1 := hB 1 (by omega)
  have hz := sizeC_le n
  have A1 := Lib.hid (fun w => add_any' (B 0) 1 w)
  rw [satAdd_few (by omega) (by omega)] at A1
  have A2 := Lib.hid (fun (v : Int) w => add_any' (B 1) v w)
  have c0 := h.cell 0
  have c1 := h.cell 1
  have lt := h.lt
  have fr := h.fr
  simp only [bk, List.getElem?_toArray, List.getElem?_cons_zero, List.getElem?_cons_succ] at c0 c1
  have HG := Lib.hid (show BoxV ((w.setCell ⟨b, 0, none⟩ (.int .i64 (B 0 + 1))).setCell ⟨b, 1, none⟩ (.int .i64 (B 1 + sizeC n))) b 49 (bk (tally B 0 n)) from (h.set 0 (.int .i64 (B 0 + 1))).set 1 (.int .i64 (B 1 + sizeC n)))
  have TG := Lib.hid (show Touch [b] w ((w.setCell ⟨b, 0, none⟩ (.int .i64 (B 0 + 1))).setCell ⟨b, 1, none⟩ (.int .i64 (B 1 + sizeC n))) from ((Touch.refl _ w).setCell (a := ⟨b, 0, none⟩) (.inl (by simp)) _).setCell (a := ⟨b, 1, none⟩) (.inl (by simp)) _)
  clear h hB
  go_enter Try.func30, Try.ntmps30
  go_wp2_with fail
  refine (A1.out _).mono ?_
  rintro e w1 ⟨rfl, hw⟩
  subst hw
  go_wp2_with fail
  all_goals
    refine (A2.out _ _).mono ?_
    rintro e w1 ⟨rfl, hw⟩
    rw [← hw]
    clear hw w1
    go_wp2_with fail
    go_end0
    first
    | (rw [show satAdd (B 1) n = B 1 + sizeC n from by rw [show sizeC n = n from by unfold sizeC; split; (· omega); split <;> omega]; exact satAdd_few (by omega) (by omega)]; exact ⟨rfl, HG.out, TG.out⟩)
    | (rw [show satAdd (B 1) 0 = B 1 + sizeC n from by rw [show sizeC n = 0 from by unfold sizeC; split; (· rfl); split <;> omega]; exact satAdd_few (by omega) (by omega)]; exact ⟨rfl, HG.out, TG.out⟩)
    | (rw [show satAdd (B 1) 2048 = B 1 + sizeC n from by rw [show sizeC n = 2048 from by unfold sizeC; split; (· omega); split <;> omega]; exact satAdd_few (by omega) (by omega)]; exact ⟨rfl, HG.out, TG.out⟩)
set_option maxRecDepth 100000 in
theorem count_2 {w : World} {b : Nat} {B : Bk} (h : BoxV w b 49 (bk B)) (hB : Few B 100000000) (n : Int) :
    Calls Try.prog 30 #[.pointer (some ⟨b, 2, none⟩), .int .i64 n] w fun e w' => e = .returned (.tuple #[]) ∧ BoxV w' b 49 (bk (tally B 2 n)) ∧ Touch [b] w w' := by
  have b0 := hB 2 (by omega)
  have b1 := hB 3 (by omega)
  have hz := sizeC_le n
  have A1 := Lib.hid (fun w => add_any' (B 2) 1 w)
  rw [satAdd_few (by omega) (by omega)] at A1
  have A2 := Lib.hid (fun (v : Int) w => add_any' (B 3) v w)
  have c0 := h.cell 2
  have c1 := h.cell 3
  have lt := h.lt
  have fr := h.fr
  simp only [bk, List.getElem?_toArray, List.getElem?_cons_zero, List.getElem?_cons_succ] at c0 c1
  have HG := Lib.hid (show BoxV ((w.setCell ⟨b, 2, none⟩ (.int .i64 (B 2 + 1))).setCell ⟨b, 3, none⟩ (.int .i64 (B 3 + sizeC n))) b 49 (bk (tally B 2 n)) from (h.set 2 (.int .i64 (B 2 + 1))).set 3 (.int .i64 (B 3 + sizeC n)))
  have TG := Lib.hid (show Touch [b] w ((w.setCell ⟨b, 2, none⟩ (.int .i64 (B 2 + 1))).setCell ⟨b, 3, none⟩ (.int .i64 (B 3 + sizeC n))) from ((Touch.refl _ w).setCell (a := ⟨b, 2, none⟩) (.inl (by simp)) _).setCell (a := ⟨b, 3, none⟩) (.inl (by simp)) _)
  clear h hB
  go_enter Try.func30, Try.ntmps30
  go_wp2_with fail
  refine (A1.out _).mono ?_
  rintro e w1 ⟨rfl, hw⟩
  subst hw
  go_wp2_with fail
  all_goals
    refine (A2.out _ _).mono ?_
    rintro e w1 ⟨rfl, hw⟩
    rw [← hw]
    clear hw w1
    go_wp2_with fail
    go_end0
    first
    | (rw [show satAdd (B 3) n = B 3 + sizeC n from by rw [show sizeC n = n from by unfold sizeC; split; (· omega); split <;> omega]; exact satAdd_few (by omega) (by omega)]; exact ⟨rfl, HG.out, TG.out⟩)
    | (rw [show satAdd (B 3) 0 = B 3 + sizeC n from by rw [show sizeC n = 0 from by unfold sizeC; split; (· rfl); split <;> omega]; exact satAdd_few (by omega) (by omega)]; exact ⟨rfl, HG.out, TG.out⟩)
    | (rw [show satAdd (B 3) 2048 = B 3 + sizeC n from by rw [show sizeC n = 2048 from by unfold sizeC; split; (· omega); split <;> omega]; exact satAdd_few (by omega) (by omega)]; exact ⟨rfl, HG.out, TG.out⟩)
end Go.Proofs.Ytbppccmkmpgibaa
