/-
  Layer 29 (ring): the reference's Turn.
-/
import Derived.Test.YtcggpgjnjfjfnaaRingRef
import Derived.Test.YtcggpgjnjfjfnaaAppendIn
import Derived.Deep.LoopGhost
import Derived.Deep.RegionLaw
import Derived.OwnWalk
import Derived.IntWalk
namespace Go.Proofs.Ytcggpgjnjfjfnaa
open Go.ChangeShapes Go.WideShapes Go.ChangeAt Go.RowKit Go.Deep Go.Maps
set_option linter.unusedVariables false

theorem refTurn_nil {A : Option Addr} {c : Nat} {w : World} :
    Calls Try.prog 34 #[.slice A 0 c] w fun e w' => e = .returned (.slice A 0 c) ∧ w' = w := by
  go_enter Try.func34, Try.ntmps34
  go_wp2
  go_ret
  exact ⟨rfl, rfl⟩

theorem ints_one (L : List Int) : ∀ u ∈ ints L, u.oneCell' = true := by
  intro u hu
  simp [ints] at hu
  obtain ⟨_, _, rfl⟩ := hu
  rfl
theorem grown_sz {w w' : World} {r : Option Nat} (h : w.grownBy w' r) : w.heap.size ≤ w'.heap.size := h.size

set_option maxRecDepth 100000 in
set_option maxHeartbeats 2000000 in
theorem refTurn_cons {A : Option Addr} {c : Nat} {y : Int} {L : List Int} {w : World} (h : IntCells w w.heap.size A (y :: L).length (at0 (y :: L))) (hc : L.length + 1 ≤ c) (hcm : c ≤ maxLen) (hL : L.length ≤ 1000) :
    Calls Try.prog 34 #[.slice A (y :: L).length c] w (IntsPost w (L ++ [y])) := by
  obtain ⟨i0, hi0, hz0, hz1, hz2⟩ := info_parts rg_int_info
  obtain ⟨b, off, hA, hb, h0⟩ := h 0 (by simp)
  subst hA
  have h0 : w.cell? ⟨b, off, none⟩ = some (.int .i64 y) := by simpa [at0] using h0
  have hrow : ∀ j u, (ints L)[j]? = some u → w.cell? ((⟨b, off + 1, none⟩ : Addr).add j) = some u := by
    intro j u hu
    have hj : j < L.length := by
      rcases Nat.lt_or_ge j L.length with hj | hj
      · exact hj
      · rw [List.getElem?_eq_none (by simpa [ints] using hj)] at hu; cases hu
    obtain ⟨b', off', hA, _, hc⟩ := h (j + 1) (by simp; omega)
    cases hA
    have : (ints L)[j]? = some (.int .i64 (at0 (y :: L) (j + 1))) := by simp [ints, at0, hj]
    rw [this] at hu
    cases hu
    rw [show (⟨b, off + 1, none⟩ : Addr).add j = ⟨b, off + (j + 1), none⟩ by unfold Addr.add; split <;> simp <;> omega]
    exact hc
  unfold IntsPost
  rw [← ints_iv]
  have e1 : (L ++ [y]).length = 0 + L.length + 1 := by simp
  have e2 : ints (L ++ [y]) = [] ++ ints L ++ [.int .i64 y] := by simp [ints]
  rw [e1, e2]
  have hlen : (y :: L).length = L.length + 1 := rfl
  rw [hlen]
  have l1 : (ints L).length = L.length * 1 := by simp [ints]
  have o1 := ints_one L
  generalize ints L = M at *
  generalize L.length = n at *
  obtain ⟨A2, hA2, hnews⟩ : ∃ A2, (if c = 1 then some (⟨b, off, none⟩ : Addr) else some ⟨b, off + 1, none⟩) = some A2 ∧ (∀ j u, M[j]? = some u → w.cell? (A2.add j) = some u) := by
    by_cases hc1 : c = 1
    · refine ⟨_, if_pos hc1, fun j u hu => ?_⟩
      have : M = [] := List.length_eq_zero_iff.1 (by omega)
      rw [this] at hu
      cases hu
    · exact ⟨_, if_neg hc1, hrow⟩
  clear h e1 e2 hlen hrow
  have keep : ∀ u, Touch [] w u → (∀ j v, M[j]? = some v → u.cell? (A2.add j) = some v) ∧ u.cell? ⟨b, off, none⟩ = some (.int .i64 y) := fun u t => by
    refine ⟨fun j v hv => ?_, (t.cell (a := ⟨b, off, none⟩) hb (by simp)).trans h0⟩
    have hcell := hnews j v hv
    have hlt : (A2.add j).block < w.heap.size := by
      rcases Nat.lt_or_ge (A2.add j).block w.heap.size with h | h
      · exact h
      · simp [World.cell?, Array.getElem?_eq_none h] at hcell
    exact (t.cell hlt (by simp)).trans hcell
  have tE := ((Touch.refl [] w).alloc (.cells #[] 3))
  have tES := tE.alloc (.cells #[.int .i64 y] 3)
  have tS := ((Touch.refl [] w).alloc (.cells #[.int .i64 y] 3))
  have tSE := tS.alloc (.cells #[] 3)
  have q1 := (World.ownsRow_lit (base := w.heap.size) (e := 3) (size := 1) w #[] 0 (by omega) (by unfold maxLen; omega) rfl)
  have q3 := (World.ownsRow_lit (base := w.heap.size) (e := 3) (size := 1) (w.alloc (.cells #[.int .i64 y] 3)) #[] 0 (by simp) (by unfold maxLen; omega) rfl)
  rw [show (w.alloc (.cells #[.int .i64 y] 3)).heap.size = w.heap.size + 1 by simp] at q3
  have R1 := Lib.hid q1.drew
  have R1b := Lib.hid (q1.alloc (.cells #[.int .i64 y] 3)).drew
  have R1c := Lib.hid q3.drew
  have R3 := Lib.hid (keep _ tE.drew).1
  have R3b := Lib.hid (keep _ tES.drew).1
  have R3c := Lib.hid (keep _ tSE.drew).1
  have oneES : ((w.alloc (.cells #[] 3)).alloc (.cells #[.int .i64 y] 3)).drew.heap[w.heap.size + 1]? = some (.cells #[.int .i64 y] 3 (0, 0)) := by
    have := heap_alloc_new (w.alloc (.cells #[] 3)) (.cells #[.int .i64 y] 3)
    rwa [show (w.alloc (.cells #[] 3)).heap.size = w.heap.size + 1 by simp] at this
  have oneSE : ((w.alloc (.cells #[.int .i64 y] 3)).alloc (.cells #[] 3)).drew.heap[w.heap.size]? = some (.cells #[.int .i64 y] 3 (0, 0)) := by
    have := heap_alloc_new w (.cells #[.int .i64 y] 3)
    exact (((Touch.refl [] (w.alloc (.cells #[.int .i64 y] 3))).alloc (.cells #[] 3)).drew.block w.heap.size (by simp) (by simp)).trans this
  have one : ∀ (u : World) (g : Nat), u.heap[g]? = some (.cells #[.int .i64 y] 3 (0, 0)) → ∀ j v, [Value.int .i64 y][j]? = some v → u.cell? ((⟨g, 0, none⟩ : Addr).add j) = some v := fun u g hg => World.news_of_block (cs := #[.int .i64 y]) (t := 3) (fr := (0, 0)) hg
  have R5 := Lib.hid (show ∀ w18, (w.alloc (.cells #[] 3)).drew.grownBy w18 (some w.heap.size) → Touch [] w w18 ∧ w18.cell? ⟨b, off, none⟩ = some (.int .i64 y) ∧ b < w18.heap.size ∧ w.heap.size ≤ w18.heap.size from fun w18 hg => by
    have t := (tE.drew).grown hg (by simp)
    exact ⟨t, (keep _ t).2, Nat.lt_of_lt_of_le hb t.size, t.size⟩)
  have R5b := Lib.hid (show ∀ w18, ((w.alloc (.cells #[] 3)).alloc (.cells #[.int .i64 y] 3)).drew.grownBy w18 (some w.heap.size) → Touch [] w w18 ∧ (∀ j v, [Value.int .i64 y][j]? = some v → w18.cell? ((⟨w.heap.size + 1, 0, none⟩ : Addr).add j) = some v) ∧ b < w18.heap.size ∧ w.heap.size ≤ w18.heap.size from fun w18 hg => by
    have t := (tES.drew).grown hg (by simp)
    refine ⟨t, one _ _ ((hg.block _ ?_ (by simp)).trans oneES), Nat.lt_of_lt_of_le hb t.size, t.size⟩
    show w.heap.size + 1 < ((w.alloc _).alloc _).heap.size
    simp)
  have R5c := Lib.hid (show ∀ w18, ((w.alloc (.cells #[.int .i64 y] 3)).alloc (.cells #[] 3)).drew.grownBy w18 (some (w.heap.size + 1)) → Touch [] w w18 ∧ (∀ j v, [Value.int .i64 y][j]? = some v → w18.cell? ((⟨w.heap.size, 0, none⟩ : Addr).add j) = some v) ∧ b < w18.heap.size ∧ w.heap.size ≤ w18.heap.size from fun w18 hg => by
    have t := (tSE.drew).grown hg (by simp)
    refine ⟨t, one _ _ ((hg.block _ ?_ (by simp)).trans oneSE), Nat.lt_of_lt_of_le hb t.size, t.size⟩
    show w.heap.size < ((w.alloc _).alloc _).heap.size
    simp; omega)
  have R6 := Lib.hid (show ∀ (w18 w18' w19 : World) (v1 : Value) (xs : List Value) (m : Nat), Touch [] w w18 → Touch [] w18 w18' → w18.ownsRow w.heap.size 3 1 v1 m xs → w18'.grownBy w19 v1.ownBlock → Below w.heap.size w w19 from fun w18 w18' w19 v1 xs m t t' ho hg2 => by
    refine ((t.trans t' (by simp)).grown hg2 (fun k e => ?_)).below (by simp) (Nat.le_refl _)
    rcases ho.2 with ⟨rfl, _⟩ | ⟨g, cap, cur, rfl, hg, _⟩
    · simp [Value.ownBlock] at e
    · simp [Value.ownBlock] at e
      right
      omega)
  have R4 : w.heap.size ≤ (w.alloc (.cells #[] 3)).drew.heap.size := by show w.heap.size ≤ (w.alloc _).heap.size; simp
  have R4b : w.heap.size ≤ ((w.alloc (.cells #[] 3)).alloc (.cells #[.int .i64 y] 3)).drew.heap.size := by show w.heap.size ≤ ((w.alloc _).alloc _).heap.size; simp; omega
  have R4c : w.heap.size ≤ ((w.alloc (.cells #[.int .i64 y] 3)).alloc (.cells #[] 3)).drew.heap.size := by show w.heap.size ≤ ((w.alloc _).alloc _).heap.size; simp; omega
  have R4 := Lib.hid R4
  have R4b := Lib.hid R4b
  have R4c := Lib.hid R4c
  have f0 : 1 ≤ c := by omega
  have f7 : (1 : Int) ≤ (n : Int) + 1 := by omega
  have f8 : (0 : Int) < (n : Int) + 1 := by omega
  have f1 : n + 1 ≤ c := hc
  have hlw : b < (w.alloc (.cells #[] 3)).heap.size := by simp; omega
  clear hnews keep tE tES tS tSE q1 q3 oneES oneSE one
  go_enter Try.func34, Try.ntmps34
  go_upto_region 3 with fail
  go_region_law (first | (refine step_append_own _ (by rfl) (.tmp 7) (.tmp 9) 31 (by rfl) w.heap.size 3 i0 (.int .i64 0) 1 8 Try.underlying31 hi0 hz0 hz1 hz2 rfl (by omega) (.slice (some ⟨w.heap.size, 0, none⟩) 0 0) 0 [] (by rfl) R1.out A2 n (c - 1) M (by rfl) l1 R3.out o1 (by unfold maxLen; omega) (by omega) R4.out ?_; intro v1 w18 hown1 hgrow1 hat1; obtain ⟨g0, g1, g2, g3⟩ := R5.out _ hgrow1) | (refine step_append_own _ (by rfl) (.tmp 7) (.tmp 9) 31 (by rfl) w.heap.size 3 i0 (.int .i64 0) 1 8 Try.underlying31 hi0 hz0 hz1 hz2 rfl (by omega) (.slice (some ⟨w.heap.size, 0, none⟩) 0 0) 0 [] (by rfl) R1b.out A2 n (c - 1) M (by rfl) l1 R3b.out o1 (by unfold maxLen; omega) (by omega) R4b.out ?_; intro v1 w18 hown1 hgrow1 hat1; obtain ⟨g0, g1, g2, g3⟩ := R5b.out _ hgrow1) | (refine step_append_own _ (by rfl) (.tmp 7) (.tmp 9) 31 (by rfl) w.heap.size 3 i0 (.int .i64 0) 1 8 Try.underlying31 hi0 hz0 hz1 hz2 rfl (by omega) (.slice (some ⟨w.heap.size + 1, 0, none⟩) 0 0) 0 [] (by rfl) R1c.out A2 n (c - 1) M (by rfl) l1 R3c.out o1 (by unfold maxLen; omega) (by omega) R4c.out ?_; intro v1 w18 hown1 hgrow1 hat1; obtain ⟨g0, g1, g2, g3⟩ := R5c.out _ hgrow1) | (refine step_append_own _ (by rfl) (.tmp 10) (.tmp 14) 31 (by rfl) w.heap.size 3 i0 (.int .i64 0) 1 8 Try.underlying31 hi0 hz0 hz1 hz2 rfl (by omega) v1 (0 + n) ([] ++ M) (by rfl) (hown1.alloc _) ⟨w18.heap.size, 0, none⟩ 1 1 [.int .i64 y] (by rfl) rfl (cell_one_new _ _ _) (by intro u hu; simp at hu; subst hu; rfl) (by unfold maxLen; omega) (by omega) (by simp; omega) ?_; intro v2 w19 hown2 hgrow2 hat2) | (refine step_append_own _ (by rfl) (.tmp 10) (.tmp 14) 31 (by rfl) w.heap.size 3 i0 (.int .i64 0) 1 8 Try.underlying31 hi0 hz0 hz1 hz2 rfl (by omega) v1 (0 + n) ([] ++ M) (by rfl) hown1 ⟨w.heap.size + 1, 0, none⟩ 1 1 [.int .i64 y] (by rfl) rfl g1 (by intro u hu; simp at hu; subst hu; rfl) (by unfold maxLen; omega) (by omega) g3 ?_; intro v2 w19 hown2 hgrow2 hat2) | (refine step_append_own _ (by rfl) (.tmp 10) (.tmp 14) 31 (by rfl) w.heap.size 3 i0 (.int .i64 0) 1 8 Try.underlying31 hi0 hz0 hz1 hz2 rfl (by omega) v1 (0 + n) ([] ++ M) (by rfl) hown1 ⟨w.heap.size, 0, none⟩ 1 1 [.int .i64 y] (by rfl) rfl g1 (by intro u hu; simp at hu; subst hu; rfl) (by unfold maxLen; omega) (by omega) g3 ?_; intro v2 w19 hown2 hgrow2 hat2))
  all_goals
    go_wp2_with fail
    go_ret
    simp only [Nat.zero_add, List.nil_append] at hown2
    exact ⟨_, rfl, hown2, (by first | exact R6.out _ _ _ _ _ _ g0 ((Touch.refl [] _).alloc _) hown1 hgrow2 | exact R6.out _ _ _ _ _ _ g0 (Touch.refl [] _) hown1 hgrow2)⟩
end Go.Proofs.Ytcggpgjnjfjfnaa
