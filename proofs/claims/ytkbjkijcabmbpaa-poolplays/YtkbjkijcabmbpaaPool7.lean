/-
  Contracts of layer 8 (pool): New.
-/
import Derived.Test.YtkbjkijcabmbpaaPool6
namespace Go.Proofs.Ytkbjkijcabmbpaa
open Go.ChangeShapes Go.WideShapes Go.ChangeAt Go.RowKit Go.Deep Go.Maps
set_option linter.unusedVariables false
set_option linter.unusedSimpArgs false

theorem poolNew_no (n r : Int) (w : World) (h : n < 1 ∨ 4096 < n ∨ r < 0 ∨ 4194304 < r) :
    Calls Try.prog 25 #[.int .i64 n, .int .i64 r] w fun e w' => e = .returned (.pointer none) ∧ w' = w := by
  by_cases h1 : n < 1
  · go_enter Try.func25, Try.ntmps25
    go_wp2
    go_ret
    exact ⟨rfl, rfl⟩
  by_cases h2 : n > 4096
  · go_enter Try.func25, Try.ntmps25
    go_wp2
    go_ret
    exact ⟨rfl, rfl⟩
  by_cases h3 : r < 0
  · go_enter Try.func25, Try.ntmps25
    go_wp2
    go_ret
    exact ⟨rfl, rfl⟩
  have h4 : r > 4194304 := by omega
  clear h
  go_enter Try.func25, Try.ntmps25
  go_wp2
  go_ret
  exact ⟨rfl, rfl⟩
def PoolFresh (w : World) (n : Nat) (r : Int) (e : Ending) (w' : World) : Prop :=
  ∃ q p g k mb, e = .returned (.pointer (some ⟨q, 0, none⟩)) ∧ PoolAt w' q p g k n n n n (fun _ => 0) (fun i => (n : Int) - 1 - i) mb 0 (fun _ => none) 0 r ∧ Touch [] w w' ∧ w.heap.size ≤ q ∧ w.heap.size ≤ p ∧ w.heap.size ≤ g ∧ w.heap.size ≤ k ∧ w.heap.size ≤ mb
theorem poolNew_yes (n : Nat) (r : Int) (w : World) (h1 : 1 ≤ n) (h2 : n ≤ 4096) (h3 : 0 ≤ r) (h4 : r ≤ 4194304) :
    Calls Try.prog 25 #[.int .i64 n, .int .i64 r] w (PoolFresh w n r) := by
  have g1 : ¬ ((n : Int) < 1) := by omega
  have g2 : ¬ ((n : Int) > 4096) := by omega
  have g3 : ¬ (r < 0) := by omega
  have g4 : ¬ (r > 4194304) := by omega
  have D := Lib.hid (new_yes n w h1 h2)
  have hmm := @run_makeMap Try.prog
  clear h1 h2 h3 h4
  go_enter Try.func25, Try.ntmps25
  go_wp2_with fail
  refine (D.out).mono ?_
  rintro e w1 ⟨v, rfl, p, g, k, rfl, hS, t1, lp, lg, lk⟩
  have hsz := t1.size
  have HS := Lib.hid hS
  have T1 := Lib.hid t1
  have HL := Lib.hid (show w.heap.size ≤ p ∧ w.heap.size ≤ g ∧ w.heap.size ≤ k ∧ w.heap.size ≤ w1.heap.size ∧ p < w1.heap.size ∧ g < w1.heap.size ∧ k < w1.heap.size from ⟨lp, lg, lk, hsz, hS.ltp, hS.ltg, hS.ltk⟩)
  clear hS t1 lp lg lk hsz D
  go_wp2_with fail
  go_ret
  obtain ⟨l1, l2, l3, l4, l5, l6, l7⟩ := HL.out
  have T2 : Touch [] w1 (w1.alloc (.map #[] 0)) := (Touch.refl [] w1).alloc _
  have T3 : Touch [] (w1.alloc (.map #[] 0)) ((w1.alloc (.map #[] 0)).alloc (.cells #[.pointer (some ⟨p, 0, none⟩), .map (some w1.heap.size), .int .i64 0, .int .i64 r] 105)) := (Touch.refl [] _).alloc _
  have hm := (IMap.made (P := Try.prog) (k := 3) w1).carry T3 (by simp)
  have hb := BoxV.new (w1.alloc (.map #[] 0)) 105 #[.pointer (some ⟨p, 0, none⟩), .map (some w1.heap.size), .int .i64 0, .int .i64 r]
  have hz : (w1.alloc (.map #[] 0)).heap.size = w1.heap.size + 1 := by simp
  rw [hz] at hb
  refine ⟨w1.heap.size + 1, p, g, k, w1.heap.size, rfl, ⟨hb, (HS.out.carry T2 (by simp) (by simp) (by simp)).carry T3 (by simp) (by simp) (by simp), hm, by omega⟩, (T1.out.trans T2 (by simp)).trans T3 (by simp), by omega, l1, l2, l3, l4⟩
end Go.Proofs.Ytkbjkijcabmbpaa
