/-
  SlabPlays: what a taking and a giving make of the two.
-/
import Derived.Test.YtkbjkijcabmbpaaSlabPlay
namespace Go.Proofs.Ytkbjkijcabmbpaa
open Go.ChangeShapes Go.WideShapes Go.ChangeAt Go.RowKit Go.Deep
set_option linter.unusedVariables false

section
variable {W wa : World} {bx p g k n ns m c j : Nat} {S K : Nat → Int} {vf vt vb : Value}

theorem Play.took {w20 w21 : World} {a c' : Nat} {ad' : Addr} {vf' vb' : Value} (h : Play W wa bx p g k n ns (m + 1) c S K vf vt vb j) (hK : K m = a) (han : a < n) (hs : SlabAt w20 p g k n ns m c (upd S (a * 2) 1) K) (t20 : Touch [p, g] wa w20) (tb : Touch [] w20 w21)
    (hvf : vf' = .slice (some ad') m c') (hr : RefAt [p, g, k, bx] w21 vf' vt vb' m n (fun i => K (m + 1 - 1 - (i + 1))) (fun a => S (a * 2 + 1)) (withAt (fun a => decide (S (a * 2) = 1)) a true)) :
    Play W (((w21.setCell ⟨bx, 0, none⟩ vf').setCell ⟨bx, 1, none⟩ vt).setCell ⟨bx, 2, none⟩ vb') bx p g k n ns m c (upd S (a * 2) 1) K vf' vt vb' (j + 1) := by
  have low := h.low
  have off := h.off
  have hb := h.below.size
  have few := h.few
  have t21 : Touch [p, g] wa w21 := t20.trans tb (by simp)
  refine Play.stored (hs.carry tb (by simp) (by simp) (by simp)) (h.box.carry t21 (by simp; omega)) (hr.congr (fun i hi => ?_) (fun i hi => ?_) (fun i hi => ?_)) ⟨_, _, hvf⟩ off low (fun i hi => h.free i (by omega)) (fun b hb => ?_) (by omega) (h.below.trans (t21.below (by simp; omega) hb))
  · congr 1
    omega
  · rw [upd_other _ _ (by omega)]
  · unfold withAt
    by_cases e : i = a
    · subst e
      simp [upd_same]
    · rw [if_neg (by omega), upd_other _ _ (by omega)]
  · rw [upd_other _ _ (by omega)]
    have := h.turns b hb
    omega

theorem Play.gave {w20 w2 w22 : World} {a c' cf' k' : Nat} {ad' : Addr} {vf' vt' vb' : Value} {t : Int} (h : Play W wa bx p g k n ns m c S K vf vt vb j) (han : a < n) (ht : S (a * 2 + 1) = t) (t20 : Touch [] wa w20) (hvf : vf' = .slice (some ad') (m + 1) cf')
    (hr : RefAt [p, g, k, bx] w20 vf' vt' vb' (m + 1) n (freed (fun i => K (m - 1 - i)) a) (turned (fun a => S (a * 2 + 1)) a) (withAt (fun a => decide (S (a * 2) = 1)) a false))
    (t2 : Touch [] (((w20.setCell ⟨bx, 0, none⟩ vf').setCell ⟨bx, 1, none⟩ vt').setCell ⟨bx, 2, none⟩ vb') w2)
    (hs : SlabAt w22 p g k' n ns (m + 1) c' (upd (upd S (a * 2) 0) (a * 2 + 1) (t + 1)) (upd K m a)) (t22 : Touch [p, g, k] w2 w22) (hk : k' = k ∨ w2.heap.size ≤ k') :
    Play W w22 bx p g k' n ns (m + 1) c' (upd (upd S (a * 2) 0) (a * 2 + 1) (t + 1)) (upd K m a) vf' vt' vb' (j + 1) := by
  have low := h.low
  have off := h.off
  have hb := h.below.size
  have few := h.few
  have hbl := h.box.lt
  have s20 := t20.size
  have ts := (((Touch.refl [bx] w20).setCell (a := ⟨bx, 0, none⟩) (by simp) vf').setCell (a := ⟨bx, 1, none⟩) (by simp) vt').setCell (a := ⟨bx, 2, none⟩) (by simp) vb'
  have ss := ts.size
  have s2 := t2.size
  have b20 := h.box.carry t20 (by simp)
  refine ⟨hs, ((((b20.set0 vf').set1 vt').set2 vb').carry t2 (by simp)).carry t22 (by simp; omega), ?_, ⟨_, _, hvf⟩, by omega, by omega, fun i hi => ?_, fun b hb => ?_, by omega, ?_⟩
  · have r1 := (hr.carry ts (by simp)).carry t2 (by simp)
    have r2 := (r1.avoid (Z' := [p, g, k, k', bx]) (by
      intro b hb
      simp at hb
      rcases hb with rfl | rfl | rfl | rfl | rfl
      · simp
      · simp
      · simp
      · rcases hk with e | e
        · subst e; simp
        · exact .inr e
      · simp)).carry t22 (by simp)
    refine (r2.avoid (Z' := [p, g, k', bx]) (by
      intro b hb
      left
      simp at hb ⊢
      omega)).congr (fun i hi => ?_) (fun i hi => ?_) (fun i hi => ?_)
    · unfold freed
      by_cases e : i = 0
      · subst e
        rw [if_pos rfl, show m + 1 - 1 - 0 = m by omega, upd_same]
      · rw [if_neg e, upd_other _ _ (by omega)]
        show K (m - 1 - (i - 1)) = K (m + 1 - 1 - i)
        rw [show m - 1 - (i - 1) = m + 1 - 1 - i by omega]
    · unfold turned
      by_cases e : i = a
      · subst e
        rw [if_pos rfl, upd_same]
        show S (i * 2 + 1) + 1 = t + 1
        rw [ht]
      · rw [if_neg e, upd_other _ _ (by omega), upd_other _ _ (by omega)]
    · unfold withAt
      by_cases e : i = a
      · subst e
        rw [if_pos rfl, upd_other _ _ (by omega), upd_same]
        rfl
      · rw [if_neg (by omega), upd_other _ _ (by omega), upd_other _ _ (by omega)]
  · by_cases e : i = m
    · subst e
      exact ⟨a, upd_same _ _ _, han⟩
    · rw [upd_other _ _ e]
      exact h.free i (by omega)
  · have h1 := h.turns b hb
    have h2 := h.turns a han
    by_cases e : b = a
    · subst e
      rw [upd_same]
      omega
    · rw [upd_other _ _ (by omega), upd_other _ _ (by omega)]
      omega
  · exact (((h.below.trans (t20.below (by simp) hb)).trans (ts.below (by simp; omega) (by omega))).trans (t2.below (by simp) (by omega))).trans (t22.below (by simp; omega) (by omega))

theorem alive_split {a t : Int} (h : alive n S a t = true) : ∃ b : Nat, a = b ∧ b < n ∧ S (b * 2) = 1 ∧ S (b * 2 + 1) = t := by
  simp only [alive, decide_eq_true_eq] at h
  exact ⟨a.toNat, by omega, by omega, h.2.2.1, h.2.2.2⟩
end
end Go.Proofs.Ytkbjkijcabmbpaa
