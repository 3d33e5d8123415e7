/-
  Layer 7 (chain): rows of integers told alike (SameInts).
-/
import Derived.Test.YtalkpoeliekbfaaChain19
import Derived.Test.YtalkpoeliekbfaaInts
namespace Go.Proofs.Ytalkpoeliekbfaa
open Go.ChangeShapes Go.WideShapes Go.ChangeAt Go.RowKit Go.Deep
set_option linter.unusedVariables false
set_option linter.unusedSimpArgs false
theorem own_cells {w : World} {base : Nat} {v : Value} {n : Nat} {X : Nat → Int} (h : w.ownsRow base 3 1 v n (iv X n)) : ∃ A cap, v = .slice A n cap ∧ n ≤ cap ∧ cap ≤ maxLen ∧ IntCells w w.heap.size A n X := by
  rcases h.2 with ⟨rfl, rfl⟩ | ⟨g, cap, cur, rfl, hg, hh, h2, h3, h4, h5⟩
  · exact ⟨none, 0, rfl, Nat.le_refl _, by unfold maxLen; omega, fun i hi => by omega⟩
  · refine ⟨some ⟨g, 0, none⟩, cap, rfl, h2, h3, fun i hi => ⟨g, 0, rfl, (Array.getElem?_eq_some_iff.1 hh).1, ?_⟩⟩
    have hx := iv_get X hi
    rw [← h5] at hx
    rw [Nat.zero_add, World.cell?, hh]
    simpa [List.getElem?_take, hi] using hx

theorem IntCells.touch {w w' : World} {A : Option Addr} {n : Nat} {X : Nat → Int} (h : IntCells w w.heap.size A n X) (t : Touch [] w w') : IntCells w' w'.heap.size A n X := fun i hi => by
  obtain ⟨b, off, hA, hb, hc⟩ := h i hi
  exact ⟨b, off, hA, Nat.lt_of_lt_of_le hb t.size, (t.cell (a := ⟨b, off + i, none⟩) hb (by simp)).trans hc⟩

theorem sameInts_yes {A A' : Option Addr} {n c c' : Nat} {X X' : Nat → Int} {w : World} (h : IntCells w w.heap.size A n X) (h' : IntCells w w.heap.size A' n X') (he : ∀ i, i < n → X i = X' i) (hn : n ≤ 100000) :
    Calls Try.prog 21 #[.slice A n c, .slice A' n c'] w fun e w' => e = .returned (.bool true) ∧ Touch [] w w' := by
  have H := Lib.hid h
  have H' := Lib.hid h'
  have HE := Lib.hid he
  clear h h' he
  go_enter Try.func21, Try.ntmps21
  go_wp2
  go_loopw [5] (fun i wr => ∃ k : Nat, k ≤ n ∧ i = .int .i64 k ∧ Touch [] w wr) (fun i _ => n - (intOf i).toNat)
  case atStart => exact ⟨0, Nat.zero_le _, rfl, Touch.refl _ _⟩
  case round =>
    obtain ⟨k, hk, rfl, ht⟩ := hrel
    by_cases hlt : k < n
    · obtain ⟨b, off, hA, hb, hc⟩ := H.out.touch ht.drew k hlt
      obtain ⟨b', off', hA', hb', hc'⟩ := H'.out.touch ht.drew k hlt
      rw [← HE.out k hlt] at hc'
      subst hA hA'
      generalize X k = y at *
      have HT := Lib.hid ht
      clear ht
      go_wp2_with fail
      go_region
      all_goals
        go_wp2
        go_roundw
        case rel => exact ⟨k + 1, by omega, by go_num, HT.out.drew⟩
        case measure => simp [intOf]; omega
    · obtain rfl : k = n := by omega
      go_wp2
      go_ret
      exact ⟨rfl, ht⟩

theorem lit3 (w : World) (x y z : Int) (t : TypeId) (f : Nat → Int) (h0 : f 0 = x) (h1 : f 1 = y) (h2 : f 2 = z) : IntCells (w.alloc (.cells #[.int .i64 x, .int .i64 y, .int .i64 z] t)) (w.alloc (.cells #[.int .i64 x, .int .i64 y, .int .i64 z] t)).heap.size (some ⟨w.heap.size, 0, none⟩) 3 f := fun i hi => by
  have hb := heap_alloc_new w (.cells #[.int .i64 x, .int .i64 y, .int .i64 z] t)
  refine ⟨w.heap.size, 0, rfl, by simp, ?_⟩
  rw [cell_of_row _ _ _ _ t (0, 0) hb]
  rcases (show i = 0 ∨ i = 1 ∨ i = 2 by omega) with rfl | rfl | rfl
  · rw [h0]; rfl
  · rw [h1]; rfl
  · rw [h2]; rfl

/-- A list's nodes, as a row. -/
def ati (L : List Nat) (i : Nat) : Int := ((L.getD i 0 : Nat) : Int)
theorem nv_iv (L : List Nat) : nv L = iv (ati L) L.length := by
  apply List.ext_getElem?
  intro i
  by_cases hi : i < L.length
  · rw [iv_get _ hi, nv_get (List.getElem?_eq_getElem hi)]
    simp [ati, List.getD, List.getElem?_eq_getElem hi]
  · rw [List.getElem?_eq_none (by rw [nv_length]; omega), List.getElem?_eq_none (by rw [iv_length]; omega)]
end Go.Proofs.Ytalkpoeliekbfaa
