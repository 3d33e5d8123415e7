/-
  Contracts of the reference of layer 8 (pool): Put of what fits.
-/
import Derived.Test.YtkbjkijcabmbpaaRefPool3
import Derived.Test.YtkbjkijcabmbpaaSlabLives
namespace Go.Proofs.Ytkbjkijcabmbpaa
open Go.ChangeShapes Go.WideShapes Go.ChangeAt Go.RowKit Go.Deep Go.Maps
set_option linter.unusedVariables false
set_option linter.unusedSimpArgs false

/-- The cells of the first n packets. -/
def pvn (X : Nat → Pk) (n : Nat) : List Value := pv ((List.range n).map X)
theorem pvn_length (X : Nat → Pk) (n : Nat) : (pvn X n).length = n * 10 := by unfold pvn; rw [pv_length]; simp
theorem pvn_get (X : Nat → Pk) {n i t : Nat} (hi : i < n) (ht : t < 10) : (pvn X n)[i * 10 + t]? = (X i).cells.toList[t]? := pv_get (by simp [hi]) ht
theorem pvn_one (X : Nat → Pk) (n : Nat) : ∀ u ∈ pvn X n, u.oneCell' = true := by
  intro u hu
  simp only [pvn, pv, List.mem_flatMap] at hu
  obtain ⟨x, _, hu⟩ := hu
  exact pv_one x u hu
section
variable {Z S : List Nat} {w w' : World} {vf vt vb vk : Value} {m n : Nat} {F T : Nat → Int} {B : Nat → Bool} {X : Nat → Pk}
theorem RdP.news {c b o : Nat} (h : RdP Z w (.slice (some ⟨b, o, none⟩) n c) n X) : ∀ j u, (pvn X n)[j]? = some u → w.cell? ((⟨b, o, none⟩ : Addr).add j) = some u := by
  intro j u hj
  have hlt := (List.getElem?_eq_some_iff.1 hj).1
  rw [pvn_length] at hlt
  obtain ⟨A, c', e, _, _, h3⟩ := h
  simp only [Value.slice.injEq, true_and] at e
  obtain ⟨rfl, rfl⟩ := e
  obtain ⟨b', off, e, _, _, hc⟩ := h3 (j / 10) (by omega)
  cases e
  have hadd : (⟨b, o, none⟩ : Addr).add j = ⟨b, o + j, none⟩ := by unfold Addr.add; split <;> simp_all
  rw [hadd, show o + j = o + j / 10 * 10 + j % 10 by omega]
  refine hc (j % 10) u ?_
  rw [← pvn_get X (n := n) (i := j / 10) (t := j % 10) (by omega) (by omega), show j / 10 * 10 + j % 10 = j by omega]
  exact hj
/-- An own row of packets, one of which is stored anew. -/
theorem RdP.stored {base g c a : Nat} {x : Pk} (h : w.ownsRow base 66 10 (.slice (some ⟨g, 0, none⟩) n c) n (pvn X n)) (hZ : g ∉ Z) (han : a < n) :
    w.there g (a * 10) 10 ∧ RdP Z (w.setCells g (a * 10) x.cells.toList) (.slice (some ⟨g, 0, none⟩) n c) n (fun i => if i = a then x else X i) := by
  have hcap := own_cap h
  rcases h.2 with ⟨h1, _⟩ | ⟨g', cap, cur, h1, _, hh, h2, h3, h4, h5⟩
  · simp at h1
  simp only [Value.slice.injEq, Option.some.injEq, Addr.mk.injEq, and_true, true_and] at h1
  obtain ⟨rfl, rfl⟩ := h1
  have hth : w.there g (a * 10) 10 := fun j hj => ⟨by
    rw [h.cellAt _ (by omega)]
    rw [Option.isSome_iff_exists]
    exact ⟨_, List.getElem?_eq_getElem (by rw [pvn_length]; omega)⟩, frozen_of_row w g _ _ _ hh⟩
  refine ⟨hth, some ⟨g, 0, none⟩, c, rfl, h2, h3, fun i hi => ⟨g, 0, rfl, ?_, hZ, ?_⟩⟩
  · have := (touch_cellsW (b := g) x.cells.toList (a * 10) w).size
    have h6 : g < w.heap.size := (Array.getElem?_eq_some_iff.1 hh).1
    omega
  · rw [Nat.zero_add]
    by_cases e : i = a
    · subst e
      dsimp only
      rw [if_pos rfl]
      exact World.rangeAt_setCells_same w g (i * 10) _ (by simpa [Pk.cells] using hth)
    · dsimp only
      rw [if_neg e]
      refine World.rangeAt_setCells_apart (fun t v hv => ?_) g (a * 10) _ (by simp [Pk.cells]; omega)
      have ht : t < 10 := by
        have := (List.getElem?_eq_some_iff.1 hv).1
        simpa [Pk.cells] using this
      rw [h.cellAt _ (by omega), pvn_get X hi ht]
      exact hv
def RPutten (Z : List Nat) (w : World) (vt : Value) (m n : Nat) (F T : Nat → Int) (B : Nat → Bool) (X : Nat → Pk) (room : Int) (a : Nat) (x : Pk) (e : Ending) (w' : World) : Prop :=
  ∃ vf' vb' vk' ad c, e = .returned (.tuple #[.agg #[vf', vt, vb', vk', .int .i64 room], .int .i64 (a : Int), .int .i64 (T a), .int .i64 0]) ∧ vf' = .slice (some ad) m c ∧ RPool Z w' vf' vt vb' vk' m n (fun i => F (i + 1)) T (withAt B a true) (fun i => if i = a then x else X i) ∧ Touch [] w w'
set_option maxRecDepth 100000 in
set_option maxHeartbeats 3200000 in
theorem refPut_yes (h : RPool Z w vf vt vb vk (m + 1) n F T B X) (hZ : ∀ b ∈ Z, b < w.heap.size) (room : Int) (x : Pk) (hn : n ≤ 5000) (hm : m ≤ 5000) (hs : ∀ i, i < n → 0 ≤ sizeIf B X i ∧ sizeIf B X i ≤ 2048) (hr : 0 ≤ room ∧ room ≤ 4194304)
    (hy : fitsV (m + 1) (sumC (sizeIf B X) n) room x.size = 0) (a : Nat) (ha : F 0 = a) (han : a < n) :
    Calls Try.prog 31 #[.agg #[vf, vt, vb, vk, .int .i64 room], .agg x.cells] w (RPutten Z w vt m n F T B X room a x) := by
  obtain ⟨A1, c1, rfl, _, _, _⟩ := h.ref.free
  obtain ⟨A2, c2, rfl, _, _, _⟩ := h.ref.turns
  obtain ⟨A3, c3, rfl, _, _, _⟩ := h.ref.taken
  obtain ⟨A4, c4, rfl, _, _, _⟩ := h.rows
  have t1 : Touch [] w (((w.alloc (.cells (#[.slice A1 (m + 1) c1, .slice A2 n c2, .slice A3 n c3, .slice A4 n c4, .int .i64 room] : Array Value) 58)).alloc (.cells x.cells 66)).alloc (.cells (#[.slice none 0 0, .slice none 0 0, .slice none 0 0, .slice none 0 0, .int .i64 0] : Array Value) 58)) := (((Touch.refl [] w).alloc _).alloc _).alloc _
  have HBX := Lib.hid (show BoxV (((w.alloc (.cells (#[.slice A1 (m + 1) c1, .slice A2 n c2, .slice A3 n c3, .slice A4 n c4, .int .i64 room] : Array Value) 58)).alloc (.cells x.cells 66)).alloc (.cells (#[.slice none 0 0, .slice none 0 0, .slice none 0 0, .slice none 0 0, .int .i64 0] : Array Value) 58)) w.heap.size 58 (#[.slice A1 (m + 1) c1, .slice A2 n c2, .slice A3 n c3, .slice A4 n c4, .int .i64 room] : Array Value) from BoxV.of3)
  have HBP := Lib.hid (show BoxV (((w.alloc (.cells (#[.slice A1 (m + 1) c1, .slice A2 n c2, .slice A3 n c3, .slice A4 n c4, .int .i64 room] : Array Value) 58)).alloc (.cells x.cells 66)).alloc (.cells (#[.slice none 0 0, .slice none 0 0, .slice none 0 0, .slice none 0 0, .int .i64 0] : Array Value) 58)) (w.heap.size + 1) 66 x.cells from BoxV.at1of3)
  have HBR := Lib.hid (show BoxV (((w.alloc (.cells (#[.slice A1 (m + 1) c1, .slice A2 n c2, .slice A3 n c3, .slice A4 n c4, .int .i64 room] : Array Value) 58)).alloc (.cells x.cells 66)).alloc (.cells (#[.slice none 0 0, .slice none 0 0, .slice none 0 0, .slice none 0 0, .int .i64 0] : Array Value) 58)) (w.heap.size + 2) 58 (#[.slice none 0 0, .slice none 0 0, .slice none 0 0, .slice none 0 0, .int .i64 0] : Array Value) from BoxV.at2)
  have T1 := Lib.hid t1
  have HP := Lib.hid ((h.avoid (Z' := w.heap.size :: (w.heap.size + 1) :: (w.heap.size + 2) :: Z) (fun b hb => by simp at hb; rcases hb with rfl | rfl | rfl | hb; (right; omega); (right; omega); (right; omega); exact .inl hb)).new t1)
  have LV := Lib.hid (refFits_any (h.new t1) room x.size hn hs hr)
  rw [hy] at LV
  have HS := Lib.hid hs
  clear h t1 hy hs
  go_enter Try.func31, Try.ntmps31
  go_upto_region 1 with fail
  generalize ((w.alloc (.cells (#[.slice A1 (m + 1) c1, .slice A2 n c2, .slice A3 n c3, .slice A4 n c4, .int .i64 room] : Array Value) 58)).alloc (.cells x.cells 66)).alloc (.cells (#[.slice none 0 0, .slice none 0 0, .slice none 0 0, .slice none 0 0, .int .i64 0] : Array Value) 58) = w1 at *
  generalize hbr : w.heap.size + 2 = br at *
  generalize hbp : w.heap.size + 1 = bp at *
  generalize hbx : w.heap.size = bx at *
  have HLB := Lib.hid (show w.heap.size ≤ br ∧ w.heap.size ≤ bp ∧ w.heap.size ≤ bx ∧ bx ≠ bp ∧ bx ≠ br ∧ bp ≠ br by omega)
  clear hbr hbp
  have lx := HBX.out.lt
  have lp := HBP.out.lt
  have p1 := HBP.out.cell 1
  rw [show x.cells[1]? = some (.int .i64 x.size) from rfl] at p1
  have d0 := HBX.out.cell 0
  have d1 := HBX.out.cell 1
  have d2 := HBX.out.cell 2
  have d3 := HBX.out.cell 3
  have d4 := HBX.out.cell 4
  simp only [List.getElem?_toArray, List.getElem?_cons_zero, List.getElem?_cons_succ] at d0 d1 d2 d3 d4
  go_wp2_with fail
  refine (LV.out).mono ?_
  rintro e w2 ⟨rfl, t2⟩
  have HBX := Lib.hid (HBX.out.carry t2 (by simp))
  have HBP := Lib.hid (HBP.out.carry t2 (by simp))
  have HBR := Lib.hid (HBR.out.carry t2 (by simp))
  have HP := Lib.hid (HP.out.new t2)
  have T1 := Lib.hid (T1.out.trans t2 (by simp))
  have LT := Lib.hid (refTake_some HP.out.ref (fun b hb => by have h1 := HBX.out.lt; have h2 := HBR.out.lt; have h3 := HBP.out.lt; simp at hb; rcases hb with rfl | rfl | rfl | hb; omega; omega; omega; exact Nat.lt_trans (hZ b hb) h1) hn hm a ha han)
  unfold RefTaken at LT
  clear d0 d1 d2 d3 d4 p1 lp lx t2 LV
  have lx := HBX.out.lt
  have d0 := HBX.out.cell 0
  have d1 := HBX.out.cell 1
  have d2 := HBX.out.cell 2
  simp only [List.getElem?_toArray, List.getElem?_cons_zero, List.getElem?_cons_succ] at d0 d1 d2
  obtain ⟨t, ht⟩ : ∃ t, T a = t := ⟨_, rfl⟩
  rw [ht] at LT
  have HTA := Lib.hid ht
  clear ht
  have HRK := Lib.hid HP.out.rows
  have HRT := Lib.hid HP.out.ref.turns
  go_wp2_with fail
  refine (LT.out).mono ?_
  rintro e w3 ⟨vf', vb', ad, cf, rfl, rfl, hr3, t3⟩
  obtain ⟨A6, c6, rfl, _, _, _⟩ := hr3.taken
  have t4 : Touch [] w2 (w3.alloc (.cells (#[.slice (some ad) m cf, .slice A2 n c2, .slice A6 n c6] : Array Value) 55)) := t3.alloc _
  have HB9 := Lib.hid (BoxV.new w3 55 (#[.slice (some ad) m cf, .slice A2 n c2, .slice A6 n c6] : Array Value))
  have HP := Lib.hid (show RPool (bx :: bp :: br :: Z) (w3.alloc (.cells (#[.slice (some ad) m cf, .slice A2 n c2, .slice A6 n c6] : Array Value) 55)) (.slice (some ad) m cf) (.slice A2 n c2) (.slice A6 n c6) (.slice A4 n c4) m n (fun i => F (i + 1)) T (withAt B a true) X from ⟨hr3.carry ((Touch.refl [] w3).alloc _) (by simp), HRK.out.carry t4 (by simp)⟩)
  have HBX := Lib.hid (HBX.out.carry t4 (by simp))
  have HBP := Lib.hid (HBP.out.carry t4 (by simp))
  have HBR := Lib.hid (HBR.out.carry t4 (by simp))
  have T1 := Lib.hid (T1.out.trans t4 (by simp))
  clear d0 d1 d2 lx t3 t4 LT hr3 HRK HRT
  go_upto_region 5 with fail
  generalize w3.alloc (.cells (#[.slice (some ad) m cf, .slice A2 n c2, .slice A6 n c6] : Array Value) 55) = w5 at *
  generalize w3.heap.size = b9 at *
  have l9 := HB9.out.lt
  have g0 := HB9.out.cell 0
  have g1 := HB9.out.cell 1
  have g2 := HB9.out.cell 2
  simp only [List.getElem?_toArray, List.getElem?_cons_zero, List.getElem?_cons_succ] at g0 g1 g2
  go_upto_region 6 with (refine wpList_store_mid rfl 55 (.tmp 31) (.tmp 30) rfl bx 0 (#[.slice (some ad) m cf, .slice A2 n c2, .slice A6 n c6] : Array Value) rfl rfl (HBX.out.thereW 0 3 (by simp)) (by kernel_rfl) (three_all _ _ _ _ _ _ _ _ _) ?_)
  obtain ⟨A4', c4', e4, h4c, h4m, h4⟩ := HP.out.rows
  simp only [Value.slice.injEq, true_and] at e4
  obtain ⟨rfl, rfl⟩ := e4
  obtain ⟨b4, o4, rfl, _, _, _⟩ := h4 0 (by omega)
  clear h4
  generalize hw6 : w5.setCells bx 0 ((#[.slice (some ad) m cf, .slice A2 n c2, .slice A6 n c6] : Array Value)).toList = w6 at *
  have T6 := Lib.hid (show Touch [bx] w5 w6 by rw [← hw6]; exact touch_cellsW _ _ _)
  have HBX := Lib.hid (show BoxV w6 bx 58 (#[.slice (some ad) m cf, .slice A2 n c2, .slice A6 n c6, .slice (some ⟨b4, o4, none⟩) n c4, .int .i64 room] : Array Value) by rw [← hw6]; exact HBX.out.putW _ _ _ _)
  clear hw6 HB9 g0 g1 g2 l9
  have HBP := Lib.hid (HBP.out.carry T6.out (by have := HLB.out; simp; omega))
  have HBR := Lib.hid (HBR.out.carry T6.out (by have := HLB.out; simp; omega))
  have HP := Lib.hid (HP.out.carry T6.out (fun b hb => .inl (by simp at hb; simp [hb])))
  have T1 := Lib.hid (T1.out.trans T6.out (fun b hb => by simp at hb; subst hb; exact .inr HLB.out.2.2.1))
  obtain ⟨ip, hip, hz0, hz1, hz2⟩ := info_parts pk_info
  have R1 := Lib.hid (World.ownsRow_lit (base := w6.heap.size) (e := 66) (size := 10) w6 #[] 0 (Nat.le_refl _) (by unfold maxLen; omega) rfl)
  have R2 := Lib.hid ((HP.out.new ((Touch.refl [] w6).alloc (.cells #[] 66))).rows.news)
  have lx := HBX.out.lt
  have d3 := HBX.out.cell 3
  simp only [List.getElem?_toArray, List.getElem?_cons_zero, List.getElem?_cons_succ] at d3
  unfold maxLen at h4m
  clear T6
  have HP6X := Lib.hid (show bx < w6.heap.size ∧ bp < w6.heap.size ∧ br < w6.heap.size from ⟨HBX.out.lt, HBP.out.lt, HBR.out.lt⟩)
  go_upto_region 7 with (at_builtin; refine wpList_append_own_at _ rfl (.tmp 32) (.tmp 34) 56 rfl w6.heap.size 66 ip _ 10 80 Try.underlying56 hip hz0 hz1 hz2 rfl (by decide) (.slice (some ⟨w6.heap.size, 0, none⟩) 0 0) 0 [] rfl R1.out ⟨b4, o4, none⟩ n c4 (pvn X n) rfl (pvn_length X n) R2.out (pvn_one X n) (by unfold maxLen; omega) (by omega) (by rw [alloc_size]; omega) ?_; intro vk2 w8 hown hgrow hnil hat)
  rw [Nat.zero_add, List.nil_append] at hown
  have t8 : Touch [] w6 w8 := ((Touch.refl [] w6).alloc (.cells #[] 66)).grown hgrow (by simp [Value.ownBlock])
  obtain ⟨gk, ck, hvk, hgk, _⟩ := hown.form (by omega)
  subst hvk
  have HBX := Lib.hid (HBX.out.carry t8 (by simp))
  have HBP := Lib.hid (HBP.out.carry t8 (by simp))
  have HBR := Lib.hid (HBR.out.carry t8 (by simp))
  have T1 := Lib.hid (T1.out.trans t8 (by simp))
  have HG := Lib.hid (show w6.heap.size ≤ gk ∧ bx < gk ∧ bp < gk ∧ br < gk ∧ gk < w8.heap.size from ⟨hgk, Nat.lt_of_lt_of_le HP6X.out.1 hgk, Nat.lt_of_lt_of_le HP6X.out.2.1 hgk, Nat.lt_of_lt_of_le HP6X.out.2.2 hgk, own_lt hown rfl⟩)
  have HGZ := Lib.hid (show gk ∉ (bx :: bp :: br :: Z) from fun hm => by
    have hg := HG.out
    have ht := T1.out.size
    simp at hm
    rcases hm with e | e | e | e
    · omega
    · omega
    · omega
    · have := hZ gk e
      omega)
  have HST := Lib.hid (RdP.stored (x := x) hown HGZ.out han)
  have HRF0 := Lib.hid ((HP.out.ref.avoid (Z' := gk :: bx :: bp :: br :: Z) (fun b hb => by simp only [List.mem_cons] at hb ⊢; rcases hb with rfl | hb; exact .inr hgk; exact .inl hb)).carry t8 (by simp))
  have HP := Lib.hid (HP.out.new t8)
  have hck := own_cap hown
  unfold maxLen at hck
  clear hown hgrow hnil hat t8 d3 lx R1 R2 hgk
  have ha0 : (0 : Int) ≤ (a : Int) := Int.natCast_nonneg _
  have ha1 : (a : Int) < (n : Int) := by omega
  go_upto_region 8 with (first
    | (refine wpList_load_mid rfl 66 (.tmp 3) rfl bp 0 rfl x.cells.toList _ HBP.out.range Try.underlying66 rfl (by kernel_rfl) ?_)
    | (refine wpList_store_mid rfl 66 (.tmp 39) (.tmp 38) rfl gk (a * 10) x.cells rfl rfl HST.out.1 (by kernel_rfl) (pk_all x) ?_))
  generalize hw9 : w8.setCells gk (a * 10) x.cells.toList = w9 at *
  have T9 := Lib.hid (show Touch [gk] w8 w9 by rw [← hw9]; exact touch_cellsW _ _ _)
  have HRW := Lib.hid (show RdP (bx :: bp :: br :: Z) w9 (.slice (some ⟨gk, 0, none⟩) n ck) n (fun i => if i = a then x else X i) from HST.out.2)
  have hbx9 := HBX.out.carry T9.out (by have := HG.out; simp; omega)
  have HBR := Lib.hid (HBR.out.carry T9.out (by have := HG.out; simp; omega))
  have HRF := Lib.hid (HRF0.out.carry T9.out (fun b hb => .inl (by simp at hb; simp [hb])))
  have T1 := Lib.hid (T1.out.trans T9.out (fun b hb => by have h1 := HG.out; have h2 := HLB.out; simp at hb; subst hb; right; omega))
  clear hw9 HST HBP HP
  have lx := hbx9.lt
  have d3 := hbx9.cell 3
  have f3 := hbx9.fr 3
  simp only [List.getElem?_toArray, List.getElem?_cons_zero, List.getElem?_cons_succ] at d3
  have HBX := Lib.hid (hbx9.set 3 (.slice (some ⟨gk, 0, none⟩) n ck))
  simp only [List.setIfInBounds_toArray, List.set_cons_succ, List.set_cons_zero] at HBX
  have TA : Touch [bx] w9 (w9.setCell ⟨bx, 3, none⟩ (.slice (some ⟨gk, 0, none⟩) n ck)) := (Touch.refl [bx] w9).setCell (a := ⟨bx, 3, none⟩) (.inl (by simp)) _
  have HBR := Lib.hid (HBR.out.carry TA (by have := HLB.out; simp; omega))
  have HPE := Lib.hid (show RPool (bx :: bp :: br :: Z) (w9.setCell ⟨bx, 3, none⟩ (.slice (some ⟨gk, 0, none⟩) n ck)) (.slice (some ad) m cf) (.slice A2 n c2) (.slice A6 n c6) (.slice (some ⟨gk, 0, none⟩) n ck) m n (fun i => F (i + 1)) T (withAt B a true) (fun i => if i = a then x else X i) from
    ⟨(HRF.out.carry TA (fun b hb => .inl (by simp at hb; simp [hb]))).avoid (fun b hb => .inl (List.mem_cons_of_mem _ hb)), HRW.out.carry TA (fun b hb => .inl (by simp at hb; simp [hb]))⟩)
  have T1 := Lib.hid (T1.out.trans TA (fun b hb => by simp at hb; subst hb; exact .inr HLB.out.2.2.1))
  clear hbx9 TA HRF HRW
  go_upto_region 9 with fail
  generalize w9.setCell ⟨bx, 3, none⟩ (.slice (some ⟨gk, 0, none⟩) n ck) = w10 at *
  clear d3 f3 lx
  have lx := HBX.out.lt
  have d0 := HBX.out.cell 0
  have d1 := HBX.out.cell 1
  have d2 := HBX.out.cell 2
  have d3 := HBX.out.cell 3
  have d4 := HBX.out.cell 4
  simp only [List.getElem?_toArray, List.getElem?_cons_zero, List.getElem?_cons_succ] at d0 d1 d2 d3 d4
  go_wp2_with (refine wpList_store_mid rfl 58 (.tmp 4) (.tmp 42) rfl br 0 (#[.slice (some ad) m cf, .slice A2 n c2, .slice A6 n c6, .slice (some ⟨gk, 0, none⟩) n ck, .int .i64 room] : Array Value) rfl rfl (HBR.out.thereW 0 5 (by simp)) (by kernel_rfl) (five_all _ _ _ _ _ _ _ _ _ _ _ _ _) ?_)
  exact bodyPost_ret (ret_box3 (t := 58) Try.results31 rfl (HBR.out.wholeW (#[.slice (some ad) m cf, .slice A2 n c2, .slice A6 n c6, .slice (some ⟨gk, 0, none⟩) n ck, .int .i64 room] : Array Value) rfl) Try.underlying58 rfl (by kernel_rfl) (va := .int .i64 (a : Int)) (vb := .int .i64 t) (vc := .int .i64 0) rfl rfl rfl) rfl
    ⟨_, _, _, ad, cf, by rw [HTA.out], rfl, (HPE.out.carry (touch_cellsW _ _ _) (fun b hb => .inl (by simp at hb; simp [hb]))).avoid (fun b hb => .inl (by simp [hb])), T1.out.trans (touch_cellsW _ _ _) (fun b hb => by simp at hb; subst hb; exact .inr HLB.out.1)⟩
end
end Go.Proofs.Ytkbjkijcabmbpaa
