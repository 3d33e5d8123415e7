/-
  The example of layer 6's law.
-/
import Derived.Test.YtjflbdoacekokaaSlab4
namespace Go.Proofs.Ytjflbdoacekokaa
open Go.ChangeShapes Go.WideShapes Go.ChangeAt Go.RowKit Go.Deep
set_option linter.unusedVariables false

theorem Touch.cells2 {S : List Nat} {w w' : World} (h : Touch S w w') {b : Nat} {x y : Value} (hb : b < w.heap.size) (hn : b ∉ S) (h0 : w.cell? ⟨b, 0, none⟩ = some x) (h1 : w.cell? ⟨b, 1, none⟩ = some y) :
    w'.cell? ⟨b, 0, none⟩ = some x ∧ w'.cell? ⟨b, 1, none⟩ = some y :=
  ⟨(h.cell (a := ⟨b, 0, none⟩) hb hn).trans h0, (h.cell (a := ⟨b, 1, none⟩) hb hn).trans h1⟩

theorem box_cells (w : World) (x y : Value) (t : TypeId) : (w.alloc (.cells #[x, y] t)).cell? ⟨w.heap.size, 0, none⟩ = some x ∧ (w.alloc (.cells #[x, y] t)).cell? ⟨w.heap.size, 1, none⟩ = some y := by
  constructor <;> simp

theorem alloc_size (w : World) (o : Obj) : (w.alloc o).heap.size = w.heap.size + 1 := by simp

theorem take_lit {w : World} {p g k n ns m c : Nat} {S K : Nat → Int} (a : Nat) (x t : Int) (hx : x = a) (h : SlabAt w p g k n ns (m + 1) c S K) (ht : S (a * 2 + 1) = t) (hK : K m = a) (ha : a < n) :
    Calls Try.prog 11 #[.pointer (some ⟨p, 0, none⟩)] w fun e w' => e = .returned (.tuple #[.agg #[.int .i64 x, .int .i64 t], .bool true]) ∧ SlabAt w' p g k n ns m c (upd S (a * 2) 1) K ∧ Touch [p, g] w w' := by
  subst hx ht
  exact take_some h a hK ha
theorem SlabAt.more {w : World} {p g k n ns m c : Nat} {S K : Nat → Int} (h : SlabAt w p g k n ns m c S K) (o : Obj) : SlabAt (w.alloc o) p g k n ns m c S K :=
  h.carry ((Touch.refl [] _).alloc o) (by simp) (by simp) (by simp)

set_option maxHeartbeats 3200000 in
theorem slabLives_any (w : World) :
    Calls Try.prog 9 #[] w fun e w' => e = .returned (.bool true) ∧ Below w.heap.size w w' := by
  have H := Lib.hid (new_yes 2 w (by omega) (by omega))
  go_enter Try.func9, Try.ntmps9
  go_wp2_with fail
  refine (H.out).mono ?_
  rintro e w1 ⟨v, rfl, p, g, k, rfl, hs1, t1, lp, lg, lk⟩
  have H1 := Lib.hid (take_lit 0 0 0 rfl hs1 rfl (by simp) (by omega))
  have s1 := t1.size
  have bp := hs1.ltp
  have bg := hs1.ltg
  have bk := hs1.ltk
  have n1 := hs1.pg
  have n2 := hs1.pk
  have n3 := hs1.gk
  have T1 := Lib.hid t1
  clear hs1 t1 H
  go_wp2_with fail
  refine (H1.out).mono ?_
  rintro e w2 ⟨rfl, hs2, t2⟩
  have H2 := Lib.hid (take_lit 1 1 0 rfl (hs2.more (.cells #[.int .i64 0, .int .i64 0] 32)) rfl (by simp) (by omega))
  have s2 := t2.size
  have T2 := Lib.hid t2
  clear hs2 t2 H1
  have B2 := Lib.hid (box_cells w2 (.int .i64 0) (.int .i64 0) 32)
  go_wp2_with fail
  refine (H2.out).mono ?_
  rintro e w3 ⟨rfl, hs3, t3⟩
  have s3 := t3.size
  rw [alloc_size] at s3
  obtain ⟨C3, D3⟩ := t3.cells2 (b := w2.heap.size) (by rw [alloc_size]; omega) (by simp; omega) B2.out.1 B2.out.2
  have C3 := Lib.hid C3
  have D3 := Lib.hid D3
  have T3 := Lib.hid t3
  have B3 := Lib.hid (box_cells w3 (.int .i64 1) (.int .i64 0) 32)
  have hs4 := hs3.more (.cells #[.int .i64 1, .int .i64 0] 32)
  have H3 := Lib.hid (take_none hs4)
  have HS := Lib.hid hs4
  clear hs4 hs3 t3 H2 B2
  go_wp2_with fail
  refine (H3.out).mono ?_
  rintro e w4 ⟨rfl, t4⟩
  unfold told
  have s4 := t4.size
  rw [alloc_size] at s4
  obtain ⟨C4, D4⟩ := t4.cells2 (b := w2.heap.size) (by rw [alloc_size]; omega) (by simp) ((World.cell?_alloc_past _ _ _ (by show w2.heap.size < _; omega)).trans C3.out) ((World.cell?_alloc_past _ _ _ (by show w2.heap.size < _; omega)).trans D3.out)
  obtain ⟨E4, F4⟩ := t4.cells2 (b := w3.heap.size) (by rw [alloc_size]; omega) (by simp) B3.out.1 B3.out.2
  have hs5 := (HS.out.carry t4 (by simp) (by simp) (by simp)).more (.cells #[.int .i64 0, .int .i64 0] 32)
  have HG := Lib.hid (give_yes hs5 0 0 (by decide) (by omega) (by omega) (by omega))
  have T4 := Lib.hid t4
  clear t4 hs5 HS H3 C3 D3 B3
  have hE4 := Lib.hid E4
  have hF4 := Lib.hid F4
  clear E4 F4
  have l24 : w2.heap.size < w4.heap.size := by omega
  go_wp2_with fail
  refine (HG.out).mono ?_
  rintro e w5 ⟨k', c', rfl, hs6, t6, hk'⟩
  have s6 := t6.size
  rw [alloc_size] at s6
  obtain ⟨C6, D6⟩ := t6.cells2 (b := w2.heap.size) (by rw [alloc_size]; omega) (by simp; omega) ((World.cell?_alloc_past _ _ _ (by show w2.heap.size < _; omega)).trans C4) ((World.cell?_alloc_past _ _ _ (by show w2.heap.size < _; omega)).trans D4)
  obtain ⟨E6, F6⟩ := t6.cells2 (b := w3.heap.size) (by rw [alloc_size]; omega) (by simp; omega) ((World.cell?_alloc_past _ _ _ (by show w3.heap.size < _; omega)).trans hE4.out) ((World.cell?_alloc_past _ _ _ (by show w3.heap.size < _; omega)).trans hF4.out)
  rw [alloc_size] at hk'
  have H6 := Lib.hid (take_lit 0 0 1 rfl hs6 rfl rfl (by omega))
  have T6 := Lib.hid t6
  have C6 := Lib.hid C6
  have D6 := Lib.hid D6
  have E6 := Lib.hid E6
  have F6 := Lib.hid F6
  clear C4 D4 hE4 hF4 t6 hs6 HG
  go_wp2_with fail
  refine (H6.out).mono ?_
  rintro e w6 ⟨rfl, _, t7⟩
  have s7 := t7.size
  obtain ⟨C7, D7⟩ := t7.cells2 (b := w2.heap.size) (by omega) (by simp; omega) C6.out D6.out
  obtain ⟨E7, F7⟩ := t7.cells2 (b := w3.heap.size) (by omega) (by simp; omega) E6.out F6.out
  have T7 := Lib.hid t7
  clear t7 H6 C6 D6 E6 F6
  have l26 : w2.heap.size < w6.heap.size := by omega
  have l36 : w3.heap.size < w6.heap.size := by omega
  go_wp2
  go_ret
  refine ⟨rfl, ?_⟩
  have r1 := T1.out.trans (S' := [p, g]) T2.out (by simp; omega)
  have r2 := (r1.alloc (.cells #[.int .i64 0, .int .i64 0] 32)).trans T3.out (by simp; omega)
  have r3 := (r2.alloc _).trans T4.out (by simp)
  have r4 := (r3.alloc _).trans T6.out (by simp; omega)
  have r5 := (r4.trans T7.out (by simp; omega)).alloc (.cells #[.int .i64 0, .int .i64 1] 32)
  exact r5.below (by simp) (Nat.le_refl _)
end Go.Proofs.Ytjflbdoacekokaa
