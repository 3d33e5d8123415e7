/-
  Contracts of the reference of layer 6 (slab): Take.
-/
import Derived.Test.YtalkpoeliekbfaaSlabRef
namespace Go.Proofs.Ytalkpoeliekbfaa
open Go.ChangeShapes Go.WideShapes Go.ChangeAt Go.RowKit Go.Deep
set_option linter.unusedVariables false

section
variable {Z : List Nat} {w : World} {vf vt vb : Value} {m n : Nat} {F T : Nat → Int} {B : Nat → Bool}

theorem refTake_none (h : RefAt Z w vf vt vb 0 n F T B) :
    Calls Try.prog 55 #[.agg #[vf, vt, vb]] w fun e w' => e = .returned (.tuple #[.agg #[vf, vt, vb], .int .i64 0, .int .i64 0, .bool false]) ∧ Touch [] w w' := by
  obtain ⟨A1, c1, rfl, _, _, _⟩ := h.free
  obtain ⟨A2, c2, rfl, _, _, _⟩ := h.turns
  obtain ⟨A3, c3, rfl, _, _, _⟩ := h.taken
  clear h
  go_enter Try.func55, Try.ntmps55
  go_wp2
  exact bodyPost_ret (v := .tuple #[.agg #[.slice A1 0 c1, .slice A2 n c2, .slice A3 n c3], .int .i64 0, .int .i64 0, .bool false]) (by simp [results, Try.results55, go_sem]) rfl ⟨rfl, ((Touch.refl _ _).alloc _).alloc _⟩

def RefTaken (Z : List Nat) (w : World) (vt : Value) (m n : Nat) (F T : Nat → Int) (B : Nat → Bool) (a : Nat) (t : Int) (e : Ending) (w' : World) : Prop :=
  ∃ vf' vb' ad c, e = .returned (.tuple #[.agg #[vf', vt, vb'], .int .i64 a, .int .i64 t, .bool true]) ∧ vf' = .slice (some ad) m c ∧ RefAt Z w' vf' vt vb' m n (fun i => F (i + 1)) T (withAt B a true) ∧ Touch [] w w'

set_option maxHeartbeats 1600000 in
theorem refTake_some (h : RefAt Z w vf vt vb (m + 1) n F T B) (hZ : ∀ b ∈ Z, b < w.heap.size) (hn : n ≤ 5000) (hm : m ≤ 5000) (a : Nat) (ha : F 0 = a) (han : a < n) :
    Calls Try.prog 55 #[.agg #[vf, vt, vb]] w (RefTaken Z w vt m n F T B a (T a)) := by
  have H := Lib.hid h
  obtain ⟨A1, c1, rfl, hc1, hm1, h1⟩ := h.free
  obtain ⟨A2, c2, rfl, hc2, hm2, h2⟩ := h.turns
  obtain ⟨A3, c3, rfl, hc3, hm3, h3⟩ := h.taken
  unfold maxLen at hm1 hm2 hm3
  obtain ⟨b1, o1, rfl, l1, z1, d1⟩ := h1 0 (by omega)
  obtain ⟨b2, o2, rfl, l2, z2, d2⟩ := h2 a han
  dsimp only at d1 d2
  rw [ha, Nat.add_zero] at d1
  obtain ⟨A', hA', HA'⟩ : ∃ A', (if c1 = 1 then some (⟨b1, o1, none⟩ : Addr) else some ⟨b1, o1 + 1, none⟩) = some A' ∧ Hid (∀ i, i < m → A' = ⟨b1, o1 + 1, none⟩) := by
    by_cases e : c1 = 1
    · exact ⟨_, if_pos e, Lib.hid fun i hi => by omega⟩
    · exact ⟨_, if_neg e, Lib.hid fun i hi => rfl⟩
  have Hc : Hid (∀ i, i < m → w.cell? ⟨b1, o1 + 1 + i, none⟩ = some (.int .i64 (F (i + 1)))) := Lib.hid fun i hi => by
    obtain ⟨b, off, e, _, _, hc⟩ := h1 (i + 1) (by omega)
    cases e
    rw [show o1 + 1 + i = o1 + (i + 1) by omega]
    exact hc
  have HT := fun w1 (t : Touch [] w w1) => Lib.hid (with_any (Z := Z) (.slice A3 n c3) n B a true w1 hn (h.taken.carry t (by simp)))
  generalize T a = t at *
  have hl1 : 1 ≤ c1 := by omega
  have hm' : m + 1 - 1 = m := by omega
  have hml : 1 ≤ m + 1 := by omega
  clear h h1 h2 h3 ha
  have a0 : (0 : Int) ≤ (a : Int) := Int.natCast_nonneg _
  have a1 : (a : Int) < (n : Int) := by omega
  go_enter Try.func55, Try.ntmps55
  go_wp2_with fail
  have tW := ((Touch.refl [] w).alloc (.cells #[.slice (some A') m (c1 - 1), .slice (some ⟨b2, o2, none⟩) n c2, .slice A3 n c3] 55)).alloc (.cells #[.slice none 0 0, .slice none 0 0, .slice none 0 0] 55)
  refine ((HT _ tW).out).mono ?_
  rintro e w2 ⟨v3, rfl, hown, hb⟩
  have hsz : w.heap.size + 2 ≤ w2.heap.size := by have := hb.size; simp at this; omega
  have e0 := hb.cell (p := ⟨w.heap.size, 0, none⟩) (by simp; omega)
  have e1 := hb.cell (p := ⟨w.heap.size, 1, none⟩) (by simp; omega)
  have e2 := hb.cell (p := ⟨w.heap.size, 2, none⟩) (by simp; omega)
  have r0 := hb.cell (p := ⟨w.heap.size + 1, 0, none⟩) (by simp)
  have r1 := hb.cell (p := ⟨w.heap.size + 1, 1, none⟩) (by simp)
  have r2 := hb.cell (p := ⟨w.heap.size + 1, 2, none⟩) (by simp)
  have f2 := hb.frozen (p := ⟨w.heap.size, 2, none⟩) (by simp; omega)
  have g0 := hb.frozen (p := ⟨w.heap.size + 1, 0, none⟩) (by simp)
  have g1 := hb.frozen (p := ⟨w.heap.size + 1, 1, none⟩) (by simp)
  have g2 := hb.frozen (p := ⟨w.heap.size + 1, 2, none⟩) (by simp)
  have dd := (hb.cell (p := ⟨b2, o2 + a, none⟩) (Nat.lt_of_lt_of_le l2 tW.size)).trans ((tW.cell (a := ⟨b2, o2 + a, none⟩) l2 (by simp)).trans d2)
  simp at e0 e1 e2 r0 r1 r2 f2 g0 g1 g2
  obtain ⟨A4, c4, rfl⟩ : ∃ A c, v3 = .slice A n c := by
    rcases hown.2 with ⟨h1, h2⟩ | ⟨g', cap, cur, h1, _⟩
    · exact ⟨_, _, by rw [h1, h2]⟩
    · exact ⟨_, _, h1⟩
  have HO := Lib.hid hown
  have HB := Lib.hid (tW.trans (Touch.ofBelow (S := []) hb) (by simp))
  clear hown hb HT tW
  go_wp2_with fail
  go_region
  all_goals
    go_wp2_with fail
    have tE := (((((HB.out.setCell (a := ⟨w.heap.size, 2, none⟩) (.inr (Nat.le_refl _)) (.slice A4 n c4)).setCell (a := ⟨w.heap.size + 1, 0, none⟩) (.inr (Nat.le_succ _)) (.slice (some A') m (c1 - 1))).setCell (a := ⟨w.heap.size + 1, 1, none⟩) (.inr (Nat.le_succ _)) (.slice (some ⟨b2, o2, none⟩) n c2)).setCell (a := ⟨w.heap.size + 1, 2, none⟩) (.inr (Nat.le_succ _)) (.slice A4 n c4))).drew
    have tR := (((((Touch.refl [w.heap.size, w.heap.size + 1] w2).setCell (a := ⟨w.heap.size, 2, none⟩) (by simp) (.slice A4 n c4)).setCell (a := ⟨w.heap.size + 1, 0, none⟩) (by simp) (.slice (some A') m (c1 - 1))).setCell (a := ⟨w.heap.size + 1, 1, none⟩) (by simp) (.slice (some ⟨b2, o2, none⟩) n c2)).setCell (a := ⟨w.heap.size + 1, 2, none⟩) (by simp) (.slice A4 n c4)).drew
    refine bodyPost_ret (v := .tuple #[.agg #[.slice (some A') m (c1 - 1), .slice (some ⟨b2, o2, none⟩) n c2, .slice A4 n c4], .int .i64 a, .int .i64 t, .bool true]) (by simp [results, Try.results55, go_sem, r0, r1, r2]) rfl ⟨_, _, A', c1 - 1, rfl, rfl, ⟨?_, H.out.turns.carry tE (by simp), ?_⟩, tE⟩
    · refine ⟨some A', c1 - 1, rfl, by omega, by unfold maxLen; omega, fun i hi => ⟨b1, o1 + 1, by rw [HA'.out i hi], Nat.lt_of_lt_of_le l1 tE.size, z1, ?_⟩⟩
      exact (tE.cell (a := ⟨b1, o1 + 1 + i, none⟩) l1 (by simp)).trans (Hc.out i hi)
    · refine Rd.own (tR.row HO.out (fun b hb hm => ?_)) (fun i hi => bv_get _ hi) (fun b hb => by have := hZ b hb; simp; omega)
      rcases HO.out.2 with ⟨h1, h2⟩ | ⟨g', cap, cur, h1, hbg, _⟩
      · rw [h1] at hb
        simp [Value.ownBlock] at hb
      · rw [h1] at hb
        simp [Value.ownBlock] at hb
        simp at hbg hm
        omega
end
end Go.Proofs.Ytalkpoeliekbfaa
