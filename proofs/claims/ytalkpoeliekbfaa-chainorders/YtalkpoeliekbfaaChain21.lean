/-
  The example of layer 7's laws.
-/
import Derived.Test.YtalkpoeliekbfaaChain20
namespace Go.Proofs.Ytalkpoeliekbfaa
open Go.ChangeShapes Go.WideShapes Go.ChangeAt Go.RowKit Go.Deep
set_option linter.unusedVariables false
set_option linter.unusedSimpArgs false
set_option maxRecDepth 100000 in
set_option maxHeartbeats 3200000 in
theorem chainLives_any (w : World) :
    Calls Try.prog 8 #[] w fun e w' => e = .returned (.bool true) ∧ Touch [] w w' := by
  have H := Lib.hid (Chained.newC 9 2 w (by omega) (by omega) (by omega) (by omega))
  go_enter Try.func8, Try.ntmps8
  go_wp2_with fail
  refine (H.out).mono ?_
  rintro e w1 ⟨v, rfl, ⟨p, gn, gw, gl, cn, cw, cl, rfl, h1, lp, ln, lw, ll⟩, t1⟩
  have HL := Lib.hid (show w.heap.size ≤ p ∧ w.heap.size ≤ gn ∧ w.heap.size ≤ gw ∧ w.heap.size ≤ gl from ⟨lp, ln, lw, ll⟩)
  have H1 := Lib.hid (h1.push_yes (a := 0) (x := 5) (by omega) (by omega) (by omega) (by simp))
  have T1 := Lib.hid t1
  clear h1 t1 H lp ln lw ll
  go_wp2_with fail
  refine (H1.out).mono ?_
  rintro e w2 ⟨rfl, h2, t2⟩
  have H2 := Lib.hid (h2.push_yes (a := 0) (x := 3) (by omega) (by omega) (by omega) (by intro i hi; rcases (show i = 0 ∨ i = 1 by omega) with rfl | rfl <;> simp [setL]))
  have T2 := Lib.hid t2
  clear h2 t2 H1
  go_wp2_with fail
  refine (H2.out).mono ?_
  rintro e w3 ⟨rfl, h3, t3⟩
  have H3 := Lib.hid (h3.push_yes (a := 1) (x := 4) (by omega) (by omega) (by omega) (by intro i hi; rcases (show i = 0 ∨ i = 1 by omega) with rfl | rfl <;> simp [setL]))
  have T3 := Lib.hid t3
  clear h3 t3 H2
  go_wp2_with fail
  refine (H3.out).mono ?_
  rintro e w4 ⟨rfl, h4, t4⟩
  have H4 := Lib.hid (h4.join_yes (a := 1) (c := 0) (by omega) (by omega) (by omega) (by omega) (by simp [setL]))
  have T4 := Lib.hid t4
  clear h4 t4 H3
  go_wp2_with fail
  refine (H4.out).mono ?_
  rintro e w5 ⟨rfl, h5, t5⟩
  obtain ⟨X, hX⟩ : ∃ X, X = joinX (setL (setL (setL (fun _ => []) 0 ([] ++ [5])) 0 (setL (fun _ => []) 0 ([] ++ [5]) 0 ++ [3])) 1 (setL (setL (fun _ => []) 0 ([] ++ [5])) 0 (setL (fun _ => []) 0 ([] ++ [5]) 0 ++ [3]) 1 ++ [4])) 1 0 := ⟨_, rfl⟩
  rw [← hX] at h5
  have e1 : listOf 2 X 1 = [4, 5, 3] := by rw [hX]; rfl
  have e0 : listOf 2 X 0 = [] := by rw [hX]; rfl
  have D5 := h5.allC (by omega) 1
  rw [e1] at D5
  have H5 := Lib.hid D5
  have HC := Lib.hid h5
  have E0 := Lib.hid e0
  have T5 := Lib.hid t5
  clear h5 t5 H4 D5 hX e1 e0
  go_wp2_with fail
  refine (H5.out).mono ?_
  rintro e w6 ⟨u, rfl, ho, t6⟩
  rw [nv_iv] at ho
  obtain ⟨A, cap, rfl, c1, c2, hc⟩ := own_cells ho
  have HA := Lib.hid hc
  have T6 := Lib.hid t6
  have HC6 := Lib.hid (HC.out.new t6)
  clear ho hc t6 HC H5
  go_wp2_with fail
  refine (sameInts_yes (HA.out.touch ((Touch.refl [] _).alloc _)) (lit3 w6 4 5 3 _ (ati [4, 5, 3]) rfl rfl rfl) (fun _ _ => rfl) (by simp)).mono ?_
  rintro e w7 ⟨rfl, t7⟩
  have T7 := Lib.hid t7
  have D7 := ((HC6.out.new ((Touch.refl [] w6).alloc (.cells #[.int .i64 4, .int .i64 5, .int .i64 3] 3))).new t7).lenC 0
  rw [E0.out] at D7
  have H7 := Lib.hid D7
  clear t7 D7
  go_wp2_with fail
  refine (H7.out).mono ?_
  rintro e w8 ⟨rfl, rfl⟩
  go_wp2_with fail
  go_ret
  have hS : ∀ b ∈ [gn, gw, gl], b ∈ ([] : List Nat) ∨ w.heap.size ≤ b := by
    have h1 := HL.out
    intro b hb
    simp at hb
    right
    omega
  exact ⟨rfl, ((((((T1.out.trans T2.out hS).trans T3.out hS).trans T4.out hS).trans T5.out hS).trans T6.out (by simp)).alloc _).trans T7.out (by simp)⟩
end Go.Proofs.Ytalkpoeliekbfaa
