/-
  Contracts of the methods of layer 6 (slab): Of, Live, Take.
-/
import Derived.Test.YtalkpoeliekbfaaSlab
import Derived.Deep.DeepCutAuto
namespace Go.Proofs.Ytalkpoeliekbfaa
open Go.ChangeShapes Go.WideShapes Go.ChangeAt Go.RowKit Go.Deep
set_option linter.unusedVariables false

theorem tcell {W w1 : World} (hb : Touch [] W w1) : (∀ b o, b < W.heap.size → w1.cell? ⟨b, o, none⟩ = W.cell? ⟨b, o, none⟩) ∧ (∀ b o, b < W.heap.size → w1.frozen? ⟨b, o, none⟩ = W.frozen? ⟨b, o, none⟩) :=
  ⟨fun b o h => hb.cell (a := ⟨b, o, none⟩) h (by simp), fun b o h => hb.frozen (a := ⟨b, o, none⟩) h (by simp)⟩

section
variable {w : World} {p g k n ns m c : Nat} {S K : Nat → Int}

theorem of_no (h : SlabAt w p g k n ns m c S K) (a : Int) (hno : a < 0 ∨ n ≤ a ∨ ∃ j : Nat, a = j ∧ j < n ∧ S (j * 2) ≠ 1) :
    Calls Try.prog 63 #[.pointer (some ⟨p, 0, none⟩), .int .i64 a] w fun e w' => e = told 0 0 false ∧ Touch [] w w' := by
  have c0 := h.c0
  have lp := h.ltp
  have lg := h.ltg
  have hn := (own_cap h.slots)
  unfold maxLen at hn
  by_cases h1 : a < 0
  · clear h hno
    go_enter Try.func63, Try.ntmps63
    go_wp2
    exact bodyPost_ret (v := .tuple #[.agg #[.int .i64 0, .int .i64 0], .bool false]) (by simp [results, Try.results63, go_sem]) rfl ⟨rfl, (Touch.refl _ _).alloc _⟩
  · obtain ⟨j, rfl⟩ : ∃ j : Nat, a = j := ⟨a.toNat, by omega⟩
    by_cases h2 : n ≤ j
    · clear h hno
      go_enter Try.func63, Try.ntmps63
      go_wp2
      exact bodyPost_ret (v := .tuple #[.agg #[.int .i64 0, .int .i64 0], .bool false]) (by simp [results, Try.results63, go_sem]) rfl ⟨rfl, (Touch.refl _ _).alloc _⟩
    · have h3 : S (j * 2) ≠ 1 := by
        rcases hno with hx | hx | ⟨i, hi, _, hx⟩
        · omega
        · omega
        · obtain rfl : j = i := by omega
          exact hx
      have s0 := h.cs (i := j * 2) (by omega)
      generalize S (j * 2) = s at *
      have b1 : (s == 1) = false := by simpa using h3
      have b2 : (s != 1) = true := by simpa using h3
      have h2' : j < n := by omega
      clear h hno h1 h2 h3
      go_enter Try.func63, Try.ntmps63
      go_wp2
      exact bodyPost_ret (v := .tuple #[.agg #[.int .i64 0, .int .i64 0], .bool false]) (by simp [results, Try.results63, go_sem]) rfl ⟨rfl, (Touch.refl _ _).alloc _⟩

/-- Is this the present handle of a slot that is taken? -/
def alive (n : Nat) (S : Nat → Int) (a t : Int) : Bool := decide (0 ≤ a ∧ a < n ∧ S (a.toNat * 2) = 1 ∧ S (a.toNat * 2 + 1) = t)

theorem live_nil (a t : Int) (w : World) :
    Calls Try.prog 56 #[.pointer none, .agg #[.int .i64 a, .int .i64 t]] w fun e w' => e = .returned (.bool false) ∧ Touch [] w w' := by
  have H := fun w => Lib.hid (of_nil a w)
  go_enter Try.func56, Try.ntmps56
  go_wp2_with fail
  refine ((H _).out).mono ?_
  rintro e w1 ⟨rfl, ht⟩
  unfold told
  go_wp2
  go_ret
  exact ⟨rfl, (((Touch.refl _ _).alloc _).trans ht (by simp)).alloc _⟩

set_option maxHeartbeats 800000 in
theorem live_any (h : SlabAt w p g k n ns m c S K) (a t : Int) :
    Calls Try.prog 56 #[.pointer (some ⟨p, 0, none⟩), .agg #[.int .i64 a, .int .i64 t]] w fun e w' => e = .returned (.bool (alive n S a t)) ∧ Touch [] w w' := by
  have h' := h.carry ((Touch.refl [] _).alloc (.cells #[.int .i64 a, .int .i64 t] 68)) (by simp) (by simp) (by simp)
  by_cases hy : 0 ≤ a ∧ a < n ∧ S (a.toNat * 2) = 1
  · obtain ⟨h0, h1, h2⟩ := hy
    obtain ⟨j, rfl⟩ : ∃ j : Nat, a = j := ⟨a.toNat, by omega⟩
    rw [Int.toNat_natCast] at h2
    have H := Lib.hid (of_yes h' j (by omega) h2)
    have hjn : j < n := by omega
    have hal : Hid (alive n S j t = decide (S (j * 2 + 1) = t)) := Lib.hid (by simp [alive, h2, hjn])
    generalize alive n S j t = r at *
    clear h h' h2
    generalize S (j * 2 + 1) = s at *
    by_cases e : s = t
    · subst e
      have hr : r = true := by rw [hal.out]; simp
      subst hr
      go_enter Try.func56, Try.ntmps56
      go_wp2_with fail
      refine (H.out).mono ?_
      rintro e w1 ⟨rfl, ht⟩
      unfold told
      have hsz : w.heap.size < w1.heap.size := by have := ht.size; simp at this; omega
      have d0 := ht.cell (a := ⟨w.heap.size, 0, none⟩) (by simp) (by simp)
      have d1 := ht.cell (a := ⟨w.heap.size, 1, none⟩) (by simp) (by simp)
      simp at d0 d1
      go_wp2
      go_ret
      exact ⟨ret_bool (by simp), (((Touch.refl _ _).alloc _).trans ht (by simp)).alloc _⟩
    · have b1 : (s == t) = false := by simpa using e
      have hr : r = false := by rw [hal.out]; simp [e]
      subst hr
      go_enter Try.func56, Try.ntmps56
      go_wp2_with fail
      refine (H.out).mono ?_
      rintro e w1 ⟨rfl, ht⟩
      unfold told
      have hsz : w.heap.size < w1.heap.size := by have := ht.size; simp at this; omega
      have d0 := ht.cell (a := ⟨w.heap.size, 0, none⟩) (by simp) (by simp)
      have d1 := ht.cell (a := ⟨w.heap.size, 1, none⟩) (by simp) (by simp)
      simp at d0 d1
      go_wp2
      go_ret
      exact ⟨ret_bool (by simp), (((Touch.refl _ _).alloc _).trans ht (by simp)).alloc _⟩
  · have H := Lib.hid (of_no h' a (by
      by_cases x0 : a < 0
      · exact .inl x0
      · by_cases x1 : (n : Int) ≤ a
        · exact .inr (.inl x1)
        · exact .inr (.inr ⟨a.toNat, by omega, by omega, fun x2 => hy ⟨by omega, by omega, x2⟩⟩)))
    have hr : alive n S a t = false := by
      simp only [alive, decide_eq_false_iff_not]
      exact fun ⟨x0, x1, x2, _⟩ => hy ⟨x0, x1, x2⟩
    rw [hr]
    clear h h' hy hr
    go_enter Try.func56, Try.ntmps56
    go_wp2_with fail
    refine (H.out).mono ?_
    rintro e w1 ⟨rfl, ht⟩
    unfold told
    go_wp2
    go_ret
    exact ⟨rfl, (((Touch.refl _ _).alloc _).trans ht (by simp)).alloc _⟩

theorem take_nil (w : World) :
    Calls Try.prog 54 #[.pointer none] w fun e w' => e = told 0 0 false ∧ Touch [] w w' := by
  have H := fun w => Lib.hid (left_nil w)
  go_enter Try.func54, Try.ntmps54
  go_wp2_with fail
  refine ((H _).out).mono ?_
  rintro e w1 ⟨rfl, rfl⟩
  go_wp2
  exact bodyPost_ret (v := .tuple #[.agg #[.int .i64 0, .int .i64 0], .bool false]) (by simp [results, Try.results54, go_sem]) rfl ⟨rfl, (Touch.refl _ _).alloc _⟩

theorem take_none (h : SlabAt w p g k n ns 0 c S K) :
    Calls Try.prog 54 #[.pointer (some ⟨p, 0, none⟩)] w fun e w' => e = told 0 0 false ∧ Touch [] w w' := by
  have h' := h.carry ((Touch.refl [] _).alloc (.cells #[.int .i64 0, .int .i64 0] 68)) (by simp) (by simp) (by simp)
  have H := Lib.hid (left_any h')
  clear h h'
  go_enter Try.func54, Try.ntmps54
  go_wp2_with fail
  refine (H.out).mono ?_
  rintro e w1 ⟨rfl, rfl⟩
  go_wp2
  exact bodyPost_ret (v := .tuple #[.agg #[.int .i64 0, .int .i64 0], .bool false]) (by simp [results, Try.results54, go_sem]) rfl ⟨rfl, (Touch.refl _ _).alloc _⟩

set_option maxHeartbeats 800000 in
theorem take_some (h : SlabAt w p g k n ns (m + 1) c S K) (a : Nat) (hK : K m = a) (ha : a < n) :
    Calls Try.prog 54 #[.pointer (some ⟨p, 0, none⟩)] w fun e w' => e = told a (S (a * 2 + 1)) true ∧ SlabAt w' p g k n ns m c (upd S (a * 2) 1) K ∧ Touch [p, g] w w' := by
  have h' := h.carry ((Touch.refl [] _).alloc (.cells #[.int .i64 0, .int .i64 0] 68)) (by simp) (by simp) (by simp)
  have H := Lib.hid (left_any h')
  have h2 := ((h.setStack (m' := m) (by omega)).setSlot (a * 2) 1).carry ((Touch.refl [] _).alloc (.cells #[.int .i64 0, .int .i64 0] 68)) (by simp) (by simp) (by simp)
  have H2 := Lib.hid (of_yes h2 a ha (upd_same _ _ _))
  rw [upd_other _ _ (by omega)] at H2
  generalize S (a * 2 + 1) = t at *
  have c0 := h.c0
  have c1 := h.c1
  have f1 := h.box.frozen 1
  have s0 := h.cs (i := a * 2) (by omega)
  have fs := h.slots.frozenAt (a * 2)
  have k0 := h.ck (i := m) (by omega)
  rw [hK] at k0
  have lp := h.ltp
  have lg := h.ltg
  have lk := h.ltk
  have n1 := h.pg
  have n2 := h.pk
  have n3 := h.gk
  have hn := own_cap h.slots
  have hm := own_cap h.stack
  unfold maxLen at hn hm
  have HS := Lib.hid h2
  clear h h' h2 hK
  go_enter Try.func54, Try.ntmps54
  go_wp2_with fail
  refine (H.out).mono ?_
  rintro e w1 ⟨rfl, rfl⟩
  go_wp2_with fail
  refine (H2.out).mono ?_
  rintro e w1 ⟨rfl, ht⟩
  unfold told
  obtain ⟨tc, tf⟩ := tcell ht
  have hsz := ht.size
  simp at hsz
  go_wp2
  refine bodyPost_ret (v := .tuple #[.agg #[.int .i64 a, .int .i64 t], .bool true]) (by simp [results, Try.results54, go_sem, tc]) rfl ⟨rfl, ?_, ?_⟩
  · exact HS.out.carry (((ht.mono (S' := [w.heap.size]) (by simp)).setCell (a := ⟨w.heap.size, 0, none⟩) (by simp) _).setCell (a := ⟨w.heap.size, 1, none⟩) (by simp) _) (by simp; omega) (by simp; omega) (by simp; omega)
  · exact ((((((Touch.refl _ _).setCell (by simp) _).setCell (by simp) _).alloc _).trans ht (by simp)).setCell (a := ⟨w.heap.size, 0, none⟩) (by simp) _).setCell (a := ⟨w.heap.size, 1, none⟩) (by simp) _
end
end Go.Proofs.Ytalkpoeliekbfaa
