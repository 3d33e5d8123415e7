/-
  Layer 7 (chain): ChainOrders on at most 60.
-/
import Derived.Test.YtalkpoeliekbfaaChain26
namespace Go.Proofs.Ytalkpoeliekbfaa
open Go.ChangeShapes Go.WideShapes Go.ChangeAt Go.RowKit Go.Deep
set_option linter.unusedVariables false
set_option linter.unusedSimpArgs false
set_option maxHeartbeats 12800000 in
set_option maxRecDepth 100000 in
theorem orders_short (A : Option Addr) (n c : Nat) (most : Int) (f : Nat → Bool) (w : World) (h60 : n ≤ 60) (hf : BoolCells w w.heap.size A n f) :
    Calls Try.prog 4 #[.slice A n c, .int .i64 most] w fun e w' => e = .returned (.bool true) ∧ Touch [] w w' := by
  have HB := Lib.hid (Box1.new w 3 (.int .i64 most))
  have t1 : Touch [] w (w.alloc (.cells #[.int .i64 most] 3)) := (Touch.refl [] w).alloc _
  have HF := Lib.hid (hf.carry t1 (Nat.le_refl _) (by simp))
  have HZ1 := Lib.hid (show (w.alloc (.cells #[.int .i64 most] 3)).heap.size = w.heap.size + 1 by simp)
  have T1 := Lib.hid t1
  have y0 : decide (60 < (n : Int)) = false := by simp; omega
  clear t1 hf
  go_enter Try.func4, Try.ntmps4
  go_upto_region 2 with fail
  generalize w.alloc (.cells #[.int .i64 most] 3) = w1 at *
  generalize hbm : w.heap.size = bm at *
  have H1 := Lib.hid (pop_nil 0 w1)
  unfold firstTold at H1
  go_wp2_with fail
  refine (H1.out).mono ?_
  rintro e w2 ⟨rfl, rfl⟩
  have H2 := Lib.hid (push_nil 0 0 w2)
  go_wp2_with fail
  refine (H2.out).mono ?_
  rintro e w3 ⟨rfl, rfl⟩
  have H3 := Lib.hid (join_nil 0 1 w3)
  go_wp2_with fail
  refine (H3.out).mono ?_
  rintro e w4 ⟨rfl, t4⟩
  have H4 := Lib.hid (len_nil 0 w4)
  go_wp2_with fail
  refine (H4.out).mono ?_
  rintro e w5 ⟨rfl, rfl⟩
  have H5 := Lib.hid (copyC_nil w5)
  go_wp2_with fail
  refine (H5.out).mono ?_
  rintro e w6 ⟨rfl, rfl⟩
  have H6 := Lib.hid (allNil 0 w6)
  go_wp2_with fail
  refine (H6.out).mono ?_
  rintro e w7 ⟨⟨A7, c7, rfl⟩, t7⟩
  have H7 := Lib.hid (where_nil 0 w7)
  unfold firstTold at H7
  go_wp2_with fail
  refine (H7.out).mono ?_
  rintro e w8 ⟨rfl, rfl⟩
  have t17 := t4.trans t7 (by simp)
  have HN := Lib.hid (Chained.newC 60 2 w8 (by omega) (by omega) (by omega) (by omega))
  go_wp2_with fail
  refine (HN.out).mono ?_
  rintro e w9 ⟨v9, rfl, ⟨p, gn, gw, gl, cn, cw, cl, rfl, h9, lp, ln, lw, ll⟩, t9⟩
  obtain ⟨B, hB⟩ : ∃ B, B = w9.heap.size := ⟨_, rfl⟩
  have O9 := Lib.hid (show OSt w B p gn gw gl cn cw cl bm most A n f (twoX f 0) (.slice none 0 0) (.slice none 0 0) [] [] w9 from by
    have t19 := t17.trans t9 (by simp)
    have q1 := HZ1.out
    have q2 := t17.size
    have q3 := t9.size
    obtain ⟨N, V, E, hA9, hL9⟩ := h9
    obtain ⟨m1, m2, m3, m4⟩ := hA9.lts
    refine ⟨⟨⟨by simp [nv], .inl ⟨rfl, rfl⟩⟩, ⟨by simp [nv], .inl ⟨rfl, rfl⟩⟩, fun g h => by simp [Value.ownBlock] at h⟩, by rw [twoX_zero]; exact ⟨N, V, E, hA9, hL9⟩, T1.out.trans t19 (by simp), by omega, ?_, HB.out.carry t19 (by simp), ?_, by omega⟩
    · rw [hbm]; exact HF.out.carry t19 (by omega) (by simp)
    · intro b hb
      simp at hb
      omega)
  clear HB HF HZ1 t4 t7 t9 t17 T1 h9 lp ln lw ll H1 H2 H3 H4 H5 H6 H7 HN hB hbm
  go_wp2_with fail
  go_loopw [11, 12, 72] (fun v1 v2 i wr => ∃ k : Nat, k ≤ n ∧ i = .int .i64 k ∧ OSt w B p gn gw gl cn cw cl bm most A n f (twoX f k) v1 v2 (pick f k) (pick (fun j => ! f j) k) wr) (fun _ _ i _ => n - (intOf i).toNat)
  case atStart => exact ⟨0, Nat.zero_le _, rfl, O9.out⟩
  case round =>
    obtain ⟨k, hk, rfl, ho⟩ := hrel
    obtain ⟨i0, hi0, hz0, hz1, hz2⟩ := info_parts cint_info
    obtain ⟨A1, c1, rfl⟩ := own_form ho.two.r1
    obtain ⟨A2, c2, rfl⟩ := own_form ho.two.r2
    have hp1 := pick_len f k
    have hp2 := pick_len (fun j => ! f j) k
    by_cases hlt : k < n
    · obtain ⟨b, off, rfl, hbB, hc⟩ := ho.cells k hlt
      have hsz := ho.sz
      have HSZ := Lib.hid hsz
      have HO := Lib.hid ho
      have hn1 : pick f (k + 1) = if f k = true then pick f k ++ [k] else pick f k := pick_succ f k
      have hn2 : pick (fun j => ! f j) (k + 1) = if (! f k) = true then pick (fun j => ! f j) k ++ [k] else pick (fun j => ! f j) k := pick_succ _ k
      have hfree := Lib.hid (twoX_free f k)
      cases hfk : f k
      · rw [hfk] at hc hn1 hn2
        simp only [Bool.not_false, if_true, Bool.false_eq_true, if_false] at hn1 hn2
        have hX := Lib.hid (twoX_no hfk)
        have HN1 := Lib.hid hn1
        have HN2 := Lib.hid hn2
        clear ho hn1 hn2 hfk O9
        go_upto_region 16 with (at_builtin; refine wpList_append_own_at _ rfl (.tmp 82) (.tmp 84) 40 rfl B 3 i0 (.int .i64 0) 1 8 Try.underlying40 hi0 hz0 hz1 hz2 rfl (by decide) (.slice A2 (pick (fun j => ! f j) k).length c2) (pick (fun j => ! f j) k).length (nv (pick (fun j => ! f j) k)) rfl (HO.out.two.r2.alloc _) ⟨wr.heap.size, 0, none⟩ 1 1 [.int .i64 (k : Int)] rfl rfl (World.news_of_block (cs := #[.int .i64 (k : Int)]) (t := 3) (fr := (0, 0)) (heap_alloc_new wr _)) (by simp [Value.oneCell']) (by unfold maxLen; omega) (by omega) (by simp; omega) ?_; intro v2 w11 hown hgrow hnil hat)
        have O11 := Lib.hid (HO.out.second hgrow hown (by simpa using hat))
        clear hown hgrow hnil hat HO HSZ hsz hc
        have P1 := O11.out.ch.push_yes (a := 1) (x := k) (by omega) (by omega) (by omega) (fun i _ => hfree.out i)
        rw [hX.out] at P1
        have H1 := Lib.hid P1
        clear P1
        go_wp2_with fail
        refine (H1.out).mono ?_
        rintro e w12 ⟨rfl, h12, t12⟩
        have O12 := Lib.hid (O11.out.lists h12 t12)
        have H2 := Lib.hid (h12.pushNo 1 (k : Int) (.inr (.inr ⟨k, 1, rfl, by omega, by rw [show twoX f (k + 1) 1 = pick (fun j => ! f j) (k + 1) from rfl, HN2.out]; simp⟩)))
        clear h12 t12 H1 O11
        go_wp2_with fail
        refine (H2.out).mono ?_
        rintro e w13 ⟨rfl, rfl⟩
        go_wp2_with fail
        go_roundw
        case rel => exact ⟨k + 1, by omega, by go_num, by rw [HN1.out, HN2.out]; exact O12.out⟩
        case measure => simp [intOf]; omega
      · rw [hfk] at hc hn1 hn2
        simp only [Bool.not_true, if_true, Bool.false_eq_true, if_false] at hn1 hn2
        have hX := Lib.hid (twoX_yes hfk)
        have HN1 := Lib.hid hn1
        have HN2 := Lib.hid hn2
        clear ho hn1 hn2 hfk O9
        go_upto_region 16 with (at_builtin; refine wpList_append_own_at _ rfl (.tmp 78) (.tmp 80) 40 rfl B 3 i0 (.int .i64 0) 1 8 Try.underlying40 hi0 hz0 hz1 hz2 rfl (by decide) (.slice A1 (pick f k).length c1) (pick f k).length (nv (pick f k)) rfl (HO.out.two.r1.alloc _) ⟨wr.heap.size, 0, none⟩ 1 1 [.int .i64 (k : Int)] rfl rfl (World.news_of_block (cs := #[.int .i64 (k : Int)]) (t := 3) (fr := (0, 0)) (heap_alloc_new wr _)) (by simp [Value.oneCell']) (by unfold maxLen; omega) (by omega) (by simp; omega) ?_; intro v1 w11 hown hgrow hnil hat)
        have O11 := Lib.hid (HO.out.first hgrow hown (by simpa using hat))
        clear hown hgrow hnil hat HO HSZ hsz hc
        have P1 := O11.out.ch.push_yes (a := 0) (x := k) (by omega) (by omega) (by omega) (fun i _ => hfree.out i)
        rw [hX.out] at P1
        have H1 := Lib.hid P1
        clear P1
        go_wp2_with fail
        refine (H1.out).mono ?_
        rintro e w12 ⟨rfl, h12, t12⟩
        have O12 := Lib.hid (O11.out.lists h12 t12)
        have H2 := Lib.hid (h12.pushNo 1 (k : Int) (.inr (.inr ⟨k, 0, rfl, by omega, by rw [show twoX f (k + 1) 0 = pick f (k + 1) from rfl, HN1.out]; simp⟩)))
        clear h12 t12 H1 O11
        go_wp2_with fail
        refine (H2.out).mono ?_
        rintro e w13 ⟨rfl, rfl⟩
        go_wp2_with fail
        go_roundw
        case rel => exact ⟨k + 1, by omega, by go_num, by rw [HN1.out, HN2.out]; exact O12.out⟩
        case measure => simp [intOf]; omega
    · obtain rfl : k = n := by omega
      have hsum := pick_all f k
      obtain ⟨L1, hL1⟩ : ∃ L, L = pick f k := ⟨_, rfl⟩
      obtain ⟨L2, hL2⟩ : ∃ L, L = pick (fun j => ! f j) k := ⟨_, rfl⟩
      have hj := joinX_two f k
      have hx0 : listOf 2 (twoX f k) 0 = L1 := by rw [hL1]; exact listOf_at (a := 0) _ (by omega)
      rw [← hL1, ← hL2] at ho hsum hj
      rw [← hL1] at hp1
      rw [← hL2] at hp2
      rw [← hL1, ← hL2]
      generalize twoX f k = X at *
      clear hL1 hL2 O9 hlt
      have HO := Lib.hid ho
      have hb19 := Box1.new wr 3 (.int .i64 0)
      have t19 : Touch [] wr (wr.alloc (.cells #[.int .i64 0] 3)) := (Touch.refl [] wr).alloc _
      have HB19 := Lib.hid hb19
      have O19 := Lib.hid (ho.new t19)
      have HNE := Lib.hid (show bm ≠ wr.heap.size from by have := ho.box.lt; omega)
      have HSZ := Lib.hid ho.sz
      have HJ := Lib.hid hj
      have HX0 := Lib.hid hx0
      have O17 := Lib.hid ho.two
      clear ho hb19 t19 hj hx0 HO
      go_upto_region 20 with fail
      generalize wr.alloc (.cells #[.int .i64 0] 3) = w19 at *
      generalize hbs : wr.heap.size = bs at *
      have AF := Lib.hid (all_fn (some ⟨p, 0, none⟩) 0 w19)
      go_wp2_with fail
      refine (AF.out).mono ?_
      rintro e w20 ⟨rfl, hw20⟩
      have t20 : Touch [] w19 w20 := by rw [hw20]; exact ((Touch.refl [] _).alloc _).alloc _
      have e2 : w20.cell? ⟨w19.heap.size, 0, none⟩ = some (.pointer (some ⟨p, 0, none⟩)) := by
        have := ((Box1.new w19 23 (.pointer (some ⟨p, 0, none⟩))).carry ((Touch.refl [] _).alloc (.cells #[.int .i64 0] 3)) (by simp)).c0
        rw [hw20]
        exact this
      have e3 : w20.cell? ⟨w19.heap.size + 1, 0, none⟩ = some (.int .i64 0) := by
        have := (Box1.new (w19.alloc (.cells #[.pointer (some ⟨p, 0, none⟩)] 23)) 3 (.int .i64 0)).c0
        rw [show (w19.alloc (.cells #[.pointer (some ⟨p, 0, none⟩)] 23)).heap.size = w19.heap.size + 1 by simp] at this
        rw [hw20]
        exact this
      have O20 := Lib.hid (O19.out.new t20)
      have HB20 := Lib.hid (HB19.out.carry t20 (by simp))
      have D := O20.out.ch.nodesC (by omega) 0
      rw [HX0.out] at D
      have K := Lib.hid (countNodes (by omega) HB20.out O20.out.box HNE.out e2 e3 ⟨⟨_, rfl⟩, _, rfl⟩ (Lib.hid D))
      unfold Counted at K
      clear hw20 t20 e2 e3 D AF O19 HB19
      go_wp2_with fail
      refine (K.out).mono ?_
      rintro e w21 ⟨rfl, hb21, t21⟩
      have HB21 := Lib.hid hb21
      have H21 := Lib.hid (show Chained w21 p gn gw gl 60 cn cw 2 cl X ∧ Two B (.slice A1 L1.length c1) (.slice A2 L2.length c2) L1 L2 w21 ∧ Box1 w21 bm 3 (.int .i64 most) from by
        have hlo := O20.out.lo
        have hl1 := HNE.out
        have hl2 : B ≤ bs := HSZ.out
        exact ⟨O20.out.ch.carry t21 (fun b hb hm => by have := hlo b hb; simp at hm; omega), ⟨t21.row O20.out.two.r1 (fun g hg hm => by simp at hm; have := own_lt O17.out.r1 hg; omega), t21.row O20.out.two.r2 (fun g hg hm => by simp at hm; have := own_lt O17.out.r2 hg; omega), O20.out.two.ap⟩, O20.out.box.carry t21 (by simpa using hl1)⟩)
      have T21 := Lib.hid (O20.out.t.trans t21 (fun b hb => by simp at hb; subst hb; right; have := O20.out.lo; have := O20.out.bm; have := HSZ.out; omega))
      have HLO := Lib.hid O20.out.lo
      have hst : stopAt most L1.length = (L1.length : Int) ∨ stopAt most L1.length = most := by unfold stopAt; split <;> simp
      generalize stopAt most L1.length = s at *
      have JN := Lib.hid (H21.out.1.join_any (a := 0) (c := 1) (by omega) (by omega) (by omega) (by omega))
      rw [HJ.out] at JN
      have c15 := HB21.out.c0
      have c3 := H21.out.2.2.c0
      clear hb21 t21 K O20 HB20
      have hne : (s != (L1.length : Int)) = false ∨ ((s != (L1.length : Int)) = true ∧ (s != most) = false) := by
        rcases hst with h | h
        · exact .inl (by simp [h])
        · by_cases h2 : s = (L1.length : Int)
          · exact .inl (by simp [h2])
          · exact .inr ⟨by simpa using h2, by simp [h]⟩
      clear hst
      rcases hne with hne | ⟨hne, hne2⟩
      all_goals
        go_wp2_with fail
        refine (JN.out).mono ?_
        rintro e w22 ⟨rfl, h22, t22⟩
        have T2 := Lib.hid (H21.out.2.1.carry t22 (fun b hb => (HLO.out b (List.mem_cons_of_mem _ hb)).2.1))
        have C22 := Lib.hid h22
        have HPL := Lib.hid (show p < w22.heap.size ∧ gn < w22.heap.size ∧ gw < w22.heap.size ∧ gl < w22.heap.size from by
          obtain ⟨N, V, E, hA, hL⟩ := h22
          exact hA.lts)
        have T22 := Lib.hid (T21.out.trans t22 (fun b hb => by have := HLO.out b (List.mem_cons_of_mem _ hb); right; omega))
        have R0 := Lib.hid (World.ownsRow_lit (base := w22.heap.size) (e := 3) (size := 1) w22 #[] 0 (by omega) (by unfold maxLen; omega) rfl)
        have TL : Touch [] w22 (w22.alloc (.cells #[] 3)) := (Touch.refl [] w22).alloc _
        have N1 := Lib.hid (own_news (TL.row T2.out.r1 (by simp)))
        have hone : ∀ (L : List Nat), ∀ u ∈ nv L, u.oneCell' = true := by intro L u hu; simp [nv] at hu; obtain ⟨a, _, rfl⟩ := hu; rfl
        have HONE := Lib.hid hone
        have l1 : (nv L1).length = L1.length * 1 := by rw [nv_length]; omega
        have l2 : (nv L2).length = L2.length * 1 := by rw [nv_length]; omega
        have TLH := Lib.hid TL
        clear h22 t22 JN TL hone c15 c3 hne HB21
        go_upto_region 24 with (first | (at_builtin; refine wpList_append_ownA rfl (.tmp 127) (.tmp 128) 40 rfl w22.heap.size 3 i0 (.int .i64 0) 1 8 Try.underlying40 hi0 hz0 hz1 hz2 rfl (by decide) (.slice (some ⟨w22.heap.size, 0, none⟩) 0 0) 0 [] rfl R0.out A1 L1.length c1 (nv L1) rfl N1.out.1 l1 N1.out.2 (HONE.out L1) (by unfold maxLen; omega) (by omega) (by simp) ?_; intro v23 w23 hown hgrow hat; have t23 := TLH.out.grown hgrow (by simp [Value.ownBlock]); have T23 := Lib.hid t23; have HW23 := Lib.hid hown; have N2 := Lib.hid (own_news (t23.row T2.out.r2 (by simp))); clear hown hgrow hat t23) | (at_builtin; refine wpList_append_ownA rfl (.tmp 129) (.tmp 130) 40 rfl w22.heap.size 3 i0 (.int .i64 0) 1 8 Try.underlying40 hi0 hz0 hz1 hz2 rfl (by decide) v23 (0 + L1.length) ([] ++ nv L1) rfl HW23.out A2 L2.length c2 (nv L2) rfl N2.out.1 l2 N2.out.2 (HONE.out L2) (by unfold maxLen; omega) (by omega) T23.out.size ?_; intro v24 w24 hown hgrow hat; have T24 := Lib.hid (T23.out.grown hgrow (fun b hb => by have := own_base HW23.out hb; omega)); have HW24 := Lib.hid hown; clear hown hgrow hat))
        have HW := Lib.hid (show w24.ownsRow w22.heap.size 3 1 v24 (L1 ++ L2).length (nv (L1 ++ L2)) from by
          have := HW24.out
          rw [nv_append, List.length_append]
          simpa using this)
        have C24 := Lib.hid (C22.out.new T24.out)
        have TT := Lib.hid (T22.out.trans T24.out (by simp))
        have hY : (L1 ++ L2).length ≤ 60 := by rw [List.length_append]; omega
        clear HW24 HW23 C22 T22 T24 T23 T2 R0 N1 N2 HONE l1 l2 TLH hp1 hp2 H21 T21
        generalize L1 ++ L2 = Y at *
        obtain ⟨A3, c4, rfl⟩ := own_form HW.out
        go_wp2_with fail
        go_loopw [134] (fun i wq => ∃ j : Nat, j ≤ Y.length ∧ i = .int .i64 j ∧ Chained wq p gn gw gl 60 cn cw 2 cl (popX Y j) ∧ wq.ownsRow w22.heap.size 3 1 (.slice A3 Y.length c4) Y.length (nv Y) ∧ Touch [] w wq) (fun i _ => Y.length - (intOf i).toNat)
        case atStart => exact ⟨0, Nat.zero_le _, rfl, C24.out, HW.out, TT.out⟩
        case round =>
          obtain ⟨j, hj, rfl, hch, hrow, ht⟩ := hrel
          by_cases hjl : j < Y.length
          · obtain ⟨g3, c4', hA3, _, _⟩ := hrow.form (by omega)
            simp only [Value.slice.injEq, true_and] at hA3
            obtain ⟨rfl, rfl⟩ := hA3
            obtain ⟨x, hx⟩ : ∃ x, Y[j]? = some x := ⟨Y[j]'hjl, List.getElem?_eq_getElem _⟩
            have z0 := hrow.cellAt j (by omega)
            rw [nv_get hx] at z0
            have hdr : popX Y j 0 = x :: Y.drop (j + 1) := by
              rw [popX_zero]
              obtain ⟨h1, h2⟩ := List.getElem?_eq_some_iff.1 hx
              rw [← h2]
              exact List.drop_eq_getElem_cons h1
            have P := hch.pop_yes (a := 0) (by omega) (by omega) hdr
            rw [popX_next] at P
            have PP := Lib.hid P
            unfold firstTold at PP
            have HR := Lib.hid hrow
            have HT := Lib.hid ht
            have hq : ((x : Int) != (x : Int)) = false := by simp
            have lg := own_lt hrow rfl
            have hgb := own_base (b := g3) hrow rfl
            have HLT := Lib.hid (show p < w22.heap.size ∧ gn < w22.heap.size ∧ gw < w22.heap.size ∧ gl < w22.heap.size from HPL.out)
            clear P hch hrow ht hx hdr C24 HW TT
            go_wp2_with fail
            refine (PP.out).mono ?_
            rintro e w25 ⟨rfl, h25, t25⟩
            have C25 := Lib.hid h25
            have HR25 := Lib.hid (t25.row HR.out (fun g hg hm => by simp [Value.ownBlock] at hg hm; have := HLT.out; omega))
            have HT25 := Lib.hid (HT.out.trans t25 (fun b hb => by have := HLO.out b (List.mem_cons_of_mem _ hb); right; omega))
            clear h25 t25 PP HR HT
            go_wp2_with fail
            go_roundw
            case rel => exact ⟨j + 1, by omega, by go_num, C25.out, HR25.out, HT25.out⟩
            case measure => simp [intOf]; omega
          · obtain rfl : j = Y.length := by omega
            have P := hch.pop_no 0 (by rw [show (0 : Int) = ((0 : Nat) : Int) from rfl, listOf_at _ (by omega), popX_zero]; simp)
            have PP := Lib.hid P
            unfold firstTold at PP
            have D0 := hch.lenC 0
            rw [show listOf 2 (popX Y Y.length) 0 = [] by rw [show (0 : Int) = ((0 : Nat) : Int) from rfl, listOf_at _ (by omega), popX_zero]; simp] at D0
            have D1 := hch.lenC 1
            rw [show listOf 2 (popX Y Y.length) 1 = [] by rw [show (1 : Int) = ((1 : Nat) : Int) from rfl, listOf_at _ (by omega), popX_one]] at D1
            have HD0 := Lib.hid D0
            have HD1 := Lib.hid D1
            have HT := Lib.hid ht
            clear P D0 D1 hch hrow ht C24 HW TT
            go_wp2_with fail
            refine (PP.out).mono ?_
            rintro e w25 ⟨rfl, rfl⟩
            go_wp2_with fail
            refine (HD0.out).mono ?_
            rintro e w26 ⟨rfl, rfl⟩
            go_wp2_with fail
            refine (HD1.out).mono ?_
            rintro e w27 ⟨rfl, rfl⟩
            go_wp2_with fail
            refine (chainLives_any w27).mono ?_
            rintro e w28 ⟨rfl, t28⟩
            have T28 := Lib.hid (HT.out.trans t28 (by simp))
            clear t28 HT
            go_wp2_with fail
            go_ret
            exact ⟨rfl, T28.out⟩
end Go.Proofs.Ytalkpoeliekbfaa
