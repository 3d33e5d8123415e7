/-
  The contract of the reference's New (layer 6).
-/
import Derived.Test.YtalkpoeliekbfaaSlabRef5
namespace Go.Proofs.Ytalkpoeliekbfaa
open Go.ChangeShapes Go.WideShapes Go.ChangeAt Go.RowKit Go.Deep
set_option linter.unusedVariables false

def RefNewed (w : World) (n : Nat) (e : Ending) (w' : World) : Prop :=
  ∃ vf vt vb ad c, e = .returned (.agg #[vf, vt, vb]) ∧ vf = .slice (some ad) n c ∧ (∀ Z, (∀ b ∈ Z, b < w.heap.size) → RefAt Z w' vf vt vb n n (fun i => i) (fun _ => 0) (fun _ => false)) ∧ Touch [] w w'

set_option maxHeartbeats 3200000 in
theorem refNew_any (n : Nat) (w : World) (h1 : 1 ≤ n) (hn : n ≤ 5000) :
    Calls Try.prog 52 #[.int .i64 n] w (RefNewed w n) := by
  obtain ⟨i0, hi0, hz0, hz1, hz2⟩ := info_parts rint_info
  obtain ⟨j0, hj0, hy0, hy1, hy2⟩ := info_parts bool_info
  have HN := Lib.hid (show NewAt w ((w.alloc (.cells #[.slice none 0 0, .slice none 0 0, .slice none 0 0] 55)).alloc (.cells #[.slice none 0 0, .slice none 0 0, .slice none 0 0] 55)) (.slice none 0 0) (.slice none 0 0) (.slice none 0 0) 0 0 0 from by
    have b1 := Box3.new (w.alloc (.cells #[.slice none 0 0, .slice none 0 0, .slice none 0 0] 55)) 55 (.slice none 0 0) (.slice none 0 0) (.slice none 0 0)
    rw [show (w.alloc (.cells #[.slice none 0 0, .slice none 0 0, .slice none 0 0] 55)).heap.size = w.heap.size + 1 by simp] at b1
    exact ⟨b1, (Box3.new w _ _ _ _).carry ((Touch.refl [] _).alloc _) (by simp), World.ownsRow_nil _ _ _ _, World.ownsRow_nil _ _ _ _, World.ownsRow_nil _ _ _ _, by simp [Value.ownBlock], by simp [Value.ownBlock], by simp [Value.ownBlock], ((Touch.refl _ _).alloc _).alloc _⟩)
  go_enter Try.func52, Try.ntmps52
  go_wp2_with fail
  go_loopw [4] (fun i wr => ∃ (k : Nat) (vf vt vb : Value), k ≤ n ∧ i = .int .i64 k ∧ NewAt w wr vf vt vb k k k) (fun i _ => n - (intOf i).toNat)
  case atStart => exact ⟨0, _, _, _, Nat.zero_le _, rfl, HN.out⟩
  case round =>
    clear HN
    obtain ⟨k, vf, vt, vb, hk, rfl, h⟩ := hrel
    obtain ⟨A1, c1, rfl⟩ := own_form h.rf
    obtain ⟨A2, c2, rfl⟩ := own_form h.rt
    obtain ⟨A3, c3, rfl⟩ := own_form h.rb
    have sz := h.box.lt
    have HN := Lib.hid h
    have d0 := h.box.c0
    have d1 := h.box.c1
    have d2 := h.box.c2
    by_cases hlt : k < n
    · clear h
      go_wp2_with (first
        | (at_builtin; refine wpList_append_own_at _ rfl (.tmp 12) (.tmp 14) 40 rfl (w.heap.size + 2) 3 i0 (.int .i64 0) 1 8 Try.underlying40 hi0 hz0 hz1 hz2 rfl (by decide) (.slice A1 k c1) k (iv (fun i => i) k) rfl (HN.out.rf.alloc _) ⟨wr.heap.size, 0, none⟩ 1 1 [.int .i64 k] rfl rfl (cell_one_new _ _ _) (by intro u hu; simp at hu; subst hu; rfl) (by unfold maxLen; omega) (by omega) (by simp; omega) ?_; intro v' w1 hown hgrow hnil hat; obtain ⟨A4, c4, rfl⟩ := own_form hown; obtain ⟨x0, x1⟩ := HN.out.boxf hgrow; have d0 := x0.c0; have d1 := x0.c1; have d2 := x0.c2; have f0 := x0.fr 0; have s1 := x0.lt; have N1 := Lib.hid (HN.out.pushf hgrow hown (by simpa using hat)); clear hown hgrow hnil hat x0 x1)
        | (at_builtin; refine wpList_append_own_at _ rfl (.tmp 18) (.tmp 19) 40 rfl (w.heap.size + 2) 3 i0 (.int .i64 0) 1 8 Try.underlying40 hi0 hz0 hz1 hz2 rfl (by decide) (.slice A2 k c2) k (iv (fun _ => 0) k) rfl (N1.out.rt.alloc _) ⟨w1.heap.size, 0, none⟩ 1 1 [.int .i64 0] rfl rfl (by simpa using cell_one_new (w1.setCell ⟨w.heap.size + 1, 0, none⟩ (.slice A4 (k + 1) c4)) (.int .i64 0) 3) (by intro u hu; simp at hu; subst hu; rfl) (by unfold maxLen; omega) (by omega) (by simp; omega) ?_; intro v' w2 hown hgrow hnil hat; obtain ⟨A5, c5, rfl⟩ := own_form hown; obtain ⟨x0, x1⟩ := N1.out.boxt hgrow; have d0 := x0.c0; have d1 := x0.c1; have d2 := x0.c2; have f1 := x0.fr 1; have s2 := x0.lt; have N2 := Lib.hid (N1.out.pusht hgrow hown (by simpa using hat)); clear hown hgrow hnil hat x0 x1)
        | (at_builtin; refine wpList_append_own_at _ rfl (.tmp 23) (.tmp 24) 45 rfl (w.heap.size + 2) 4 j0 (.bool false) 1 1 Try.underlying45 hj0 hy0 hy1 hy2 rfl (by decide) (.slice A3 k c3) k (bv (fun _ => false) k) rfl (N2.out.rb.alloc _) ⟨w2.heap.size, 0, none⟩ 1 1 [.bool false] rfl rfl (by simpa using cell_one_new (w2.setCell ⟨w.heap.size + 1, 1, none⟩ (.slice A5 (k + 1) c5)) (.bool false) 4) (by intro u hu; simp at hu; subst hu; rfl) (by unfold maxLen; omega) (by omega) (by simp; omega) ?_; intro v' w3 hown hgrow hnil hat; obtain ⟨A6, c6, rfl⟩ := own_form hown; obtain ⟨x0, x1⟩ := N2.out.boxb hgrow; have d0 := x0.c0; have d1 := x0.c1; have d2 := x0.c2; have f2 := x0.fr 2; have s3 := x0.lt; have N3 := Lib.hid (N2.out.pushb hgrow hown (by simpa using hat)); clear hown hgrow hnil hat x0 x1))
      go_roundw
      case rel => exact ⟨k + 1, _, _, _, by omega, by go_num, N3.out⟩
      case measure => simp [intOf]; omega
    · obtain rfl : k = n := by omega
      have r0 := h.res.c0
      have r1 := h.res.c1
      have r2 := h.res.c2
      have g0 := h.res.fr 0
      have g1 := h.res.fr 1
      have g2 := h.res.fr 2
      obtain ⟨ad, c, hA1, _, _⟩ := h.rf.form (by omega)
      simp only [Value.slice.injEq, true_and] at hA1
      obtain ⟨rfl, rfl⟩ := hA1
      clear h
      go_wp2_with fail
      have tE := ((HN.out.touch.setCell (a := ⟨w.heap.size, 0, none⟩) (.inr (Nat.le_refl _)) (.slice (some ⟨ad, 0, none⟩) k c1)).setCell (a := ⟨w.heap.size, 1, none⟩) (.inr (Nat.le_refl _)) (.slice A2 k c2)).setCell (a := ⟨w.heap.size, 2, none⟩) (.inr (Nat.le_refl _)) (.slice A3 k c3)
      have tR := (((Touch.refl [w.heap.size] wr).setCell (a := ⟨w.heap.size, 0, none⟩) (by simp) (.slice (some ⟨ad, 0, none⟩) k c1)).setCell (a := ⟨w.heap.size, 1, none⟩) (by simp) (.slice A2 k c2)).setCell (a := ⟨w.heap.size, 2, none⟩) (by simp) (.slice A3 k c3)
      have far : ∀ {u : Value} {e : TypeId} {l : Nat} {xs : List Value}, wr.ownsRow (w.heap.size + 2) e 1 u l xs → ∀ b, u.ownBlock = some b → b ∉ [w.heap.size] := fun hu b hb hm => by have := own_base hu hb; simp at hm; omega
      refine bodyPost_ret (v := .agg #[.slice (some ⟨ad, 0, none⟩) k c1, .slice A2 k c2, .slice A3 k c3]) (by simp [results, Try.results52, go_sem, r0, r1, r2]) rfl ⟨_, _, _, _, _, rfl, rfl, fun Z hZ => ⟨?_, ?_, ?_⟩, tE⟩
      · exact Rd.own (tR.row HN.out.rf (far HN.out.rf)) (fun i hi => iv_get _ hi) (fun b hb => by have := hZ b hb; omega)
      · exact Rd.own (tR.row HN.out.rt (far HN.out.rt)) (fun i hi => iv_get _ hi) (fun b hb => by have := hZ b hb; omega)
      · exact Rd.own (tR.row HN.out.rb (far HN.out.rb)) (fun i hi => bv_get _ hi) (fun b hb => by have := hZ b hb; omega)
end Go.Proofs.Ytalkpoeliekbfaa
