/-
  SlabPlays holds.
-/
import Derived.Test.YtjflbdoacekokaaSlabPlay2
import Derived.Test.YtjflbdoacekokaaCls
import Derived.Deep.DeepCutAuto
import Derived.Deep.CutBlock
import Derived.Deep.QuietTactic
import Derived.BigQuiet
namespace Go.Proofs.Ytjflbdoacekokaa
open Go.ChangeShapes Go.WideShapes Go.ChangeAt Go.RowKit Go.Deep
set_option linter.unusedVariables false

set_option maxRecDepth 100000 in
set_option maxHeartbeats 6400000 in
theorem slabPlays_walk (n0 : Int) (A : Option Addr) (nl cl : Nat) (X : Nat → Act3) (W : World) (hnl : nl ≤ maxLen) (hX : ACells W W.heap.size A nl X) :
    Calls Try.prog 3 #[.int .i64 n0, .slice A nl cl] W fun e W' => e = .returned (.bool true) ∧ Below W.heap.size W W' := by
  unfold maxLen at hnl
  have HX := Lib.hid hX
  clear hX
  by_cases hbad : n0 < 1 ∨ 4096 < n0
  · have H1 := Lib.hid (new_no n0 W hbad)
    have H2 := Lib.hid (slabLives_any W)
    rcases hbad with hb | hb
    · go_enter Try.func3, Try.ntmps3
      go_wp2_with fail
      refine (H1.out).mono ?_
      rintro e W ⟨rfl, rfl⟩
      go_wp2_with fail
      refine (H2.out).mono ?_
      rintro e w5 ⟨rfl, t5⟩
      go_wp2
      go_ret
      exact ⟨rfl, t5⟩
    · have hb' : ¬ n0 < 1 := by omega
      go_enter Try.func3, Try.ntmps3
      go_wp2_with fail
      refine (H1.out).mono ?_
      rintro e W ⟨rfl, rfl⟩
      go_wp2_with fail
      refine (H2.out).mono ?_
      rintro e w5 ⟨rfl, t5⟩
      go_wp2
      go_ret
      exact ⟨rfl, t5⟩
  · obtain ⟨n, rfl⟩ : ∃ n : Nat, n0 = n := ⟨n0.toNat, by omega⟩
    have hn1 : 1 ≤ n := by omega
    have hn2 : n ≤ 4096 := by omega
    clear hbad
    have H1 := Lib.hid (new_yes n W hn1 hn2)
    have v1 : decide ((n : Int) < 1) = false := by simp; omega
    have v2 : decide (4096 < (n : Int)) = false := by simp; omega
    by_cases hbig : 40 < n ∨ 80 < nl
    · have hg : ∀ w : World, Hid (Calls Try.prog 9 #[] w fun e w' => e = .returned (.bool true) ∧ Below w.heap.size w w') := fun w => Lib.hid (slabLives_any w)
      by_cases h40 : 40 < n
      · clear hbig
        go_enter Try.func3, Try.ntmps3
        go_wp2_with fail
        refine (H1.out).mono ?_
        rintro e w5 ⟨v, rfl, p, g, k0, rfl, hs5, t5, lp, lg, lk⟩
        have T5 := Lib.hid t5
        clear hs5 t5
        go_wp2_with fail
        refine ((hg _).out).mono ?_
        rintro e w6 ⟨rfl, t6⟩
        go_wp2
        go_ret
        exact ⟨rfl, (T5.out.below (by simp) (Nat.le_refl _)).trans (t6.mono T5.out.size)⟩
      · have h80 : 80 < nl := by omega
        have h40' : n ≤ 40 := by omega
        clear hbig h40
        go_enter Try.func3, Try.ntmps3
        go_wp2_with fail
        refine (H1.out).mono ?_
        rintro e w5 ⟨v, rfl, p, g, k0, rfl, hs5, t5, lp, lg, lk⟩
        have T5 := Lib.hid t5
        clear hs5 t5
        go_wp2_with fail
        refine ((hg _).out).mono ?_
        rintro e w6 ⟨rfl, t6⟩
        go_wp2
        go_ret
        exact ⟨rfl, (T5.out.below (by simp) (Nat.le_refl _)).trans (t6.mono T5.out.size)⟩
    · have h40 : n ≤ 40 := by omega
      have h80 : nl ≤ 80 := by omega
      have v3 : decide (40 < (n : Int)) = false := by simp; omega
      have v4 : decide (80 < (nl : Int)) = false := by simp; omega
      clear hbig
      go_enter Try.func3, Try.ntmps3
      go_wp2_with fail
      refine (H1.out).mono ?_
      rintro e w5 ⟨v, rfl, p, g, k0, rfl, hs5, t5, lp, lg, lk⟩
      have H5 := Lib.hid hs5
      have T5 := Lib.hid t5
      have s5 := t5.size
      have bp := hs5.ltp
      have bg := hs5.ltg
      have bk := hs5.ltk
      clear hs5 t5
      go_wp2_with fail
      refine (refNew_any n _ hn1 (by omega)).mono ?_
      rintro e w6 ⟨vf, vt, vb, ad, cf, rfl, hvf, hr, t6⟩
      subst hvf
      have hr' := hr [p, g, k0] (by simp; omega)
      obtain ⟨A2, c2, rfl, -⟩ := hr'.turns
      obtain ⟨A3, c3, rfl, -⟩ := hr'.taken
      have s6 := t6.size
      have HP := Lib.hid (show Play W (w6.alloc (.cells #[.slice (some ad) n cf, .slice A2 n c2, .slice A3 n c3] 29)) w6.heap.size p g k0 n n n n (fun _ => 0) (fun i => (n : Int) - 1 - i) (.slice (some ad) n cf) (.slice A2 n c2) (.slice A3 n c3) 0 from by
        refine ⟨(H5.out.carry t6 (by simp) (by simp) (by simp)).more _, Box3.new _ _ _ _ _, ?_, ⟨_, _, rfl⟩, by omega, by omega, fun i hi => ⟨n - 1 - i, by omega, by omega⟩, fun a ha => ⟨Int.le_refl _, Int.le_refl _⟩, by omega, ?_⟩
        · refine ((hr'.avoid (Z' := [p, g, k0, w6.heap.size]) ?_).carry ((Touch.refl [] _).alloc _) (by simp)).congr (fun i hi => by omega) (fun i hi => rfl) (fun i hi => by simp)
          intro b hb
          simp at hb
          rcases hb with rfl | rfl | rfl | rfl <;> simp
        · exact ((T5.out.trans t6 (by simp)).alloc _).below (by simp) (Nat.le_refl _))
      clear hr hr' t6 H5 T5 H1
      go_wp2_with fail
      clear v1 v2 v3 v4
      have lbx : W.heap.size ≤ w6.heap.size := by omega
      generalize w6.heap.size = bx at *
      go_loopw [5, 53] (fun s i wr => ∃ j : Nat, j ≤ nl ∧ i = .int .i64 j ∧ Played W bx n j s wr) (fun _ i _ => nl - (intOf i).toNat)
      case atStart => exact ⟨0, Nat.zero_le _, rfl, _, _, _, _, _, _, _, _, _, _, _, rfl, HP.out⟩
      case round =>
        clear HP
        obtain ⟨j, hj, rfl, p, g, k, ns, m, c, S, K, vf, vt, vb, rfl, hp⟩ := hrel
        have HP := Lib.hid hp
        by_cases hlt : j < nl
        · obtain ⟨b, off, hA, hbB, y0, y1, y2⟩ := HX.out j hlt
          rw [← hp.below.cell (p := ⟨b, _, none⟩) hbB] at y0 y1 y2
          subst hA
          obtain ⟨dw, sl, tu, hact⟩ : ∃ dw sl tu, X j = ⟨dw, sl, tu⟩ := ⟨_, _, _, rfl⟩
          rw [hact] at y0 y1 y2
          dsimp only at y0 y1 y2
          have sz := hp.below.size
          have bp := hp.slab.ltp
          have bg := hp.slab.ltg
          have bk := hp.slab.ltk
          have bb := hp.box.lt
          have off' := hp.off
          have few := hp.few
          have low := hp.low
          clear hp hact
          go_upto_block 2 with fail
          have HB := Lib.hid (Box3.new wr 34 (.int .i64 dw) (.int .i64 sl) (.int .i64 tu))
          have HP1 := Lib.hid (HP.out.carry ((Touch.refl [] wr).alloc (.cells #[.int .i64 dw, .int .i64 sl, .int .i64 tu] 34)))
          have sa : wr.heap.size < (wr.alloc (.cells #[.int .i64 dw, .int .i64 sl, .int .i64 tu] 34)).heap.size := by rw [alloc_size]; omega
          generalize wr.alloc (.cells #[.int .i64 dw, .int .i64 sl, .int .i64 tu] 34) = wa at *
          generalize wr.heap.size = a8 at *
          clear HP y0 y1 y2 HX
          go_cut [5] (fun s wx => Played W bx n (j + 1) s wx ∧ Box3 wx a8 34 (.int .i64 dw) (.int .i64 sl) (.int .i64 tu))
          case first =>
            obtain ⟨adf, cff, hvf⟩ := HP1.out.ptr
            obtain ⟨A2', c2', hvt, -⟩ := HP1.out.ref.turns
            obtain ⟨A3', c3', hvb, -⟩ := HP1.out.ref.taken
            subst hvf hvt hvb
            have hfree := Lib.hid HP1.out.free
            have hturns := Lib.hid HP1.out.turns
            by_cases hd0 : dw = 0
            · subst hd0
              rcases m with _ | m
              · have Q1 := Lib.hid (take_none HP1.out.slab)
                have a0 := HB.out.c0
                go_wp2_with fail
                refine (Q1.out).mono ?_
                rintro e w20 ⟨rfl, t20⟩
                unfold told
                clear a0
                have s20 := t20.size
                have P1 := Lib.hid ((HP1.out.carry t20).carry ((Touch.refl [] _).alloc (.cells #[.int .i64 0, .int .i64 0] 32)))
                have Q2 := Lib.hid (refTake_none P1.out.ref)
                have B1 := Lib.hid ((HB.out.carry t20 (by simp)).carry ((Touch.refl [] _).alloc (.cells #[.int .i64 0, .int .i64 0] 32)) (by simp))
                obtain ⟨h0, h1⟩ := box_cells w20 (.int .i64 0) (.int .i64 0) 32
                have h0 := Lib.hid h0
                have h1 := Lib.hid h1
                have d0 := ((HP1.out.carry t20).box).c0
                have d1 := ((HP1.out.carry t20).box).c1
                have d2 := ((HP1.out.carry t20).box).c2
                have lb : bx < w20.heap.size := by omega
                clear t20 Q1 HP1 HB
                go_wp2_with fail
                refine (Q2.out).mono ?_
                rintro e w21 ⟨rfl, t21⟩
                clear d0 d1 d2
                have s21 := t21.size
                rw [alloc_size] at s21
                have P2 := Lib.hid (P1.out.carry t21)
                have B2 := Lib.hid (B1.out.carry t21 (by simp))
                have e0 := (t21.cell (a := ⟨w20.heap.size, 0, none⟩) (by simp) (by simp)).trans h0.out
                have e1 := (t21.cell (a := ⟨w20.heap.size, 1, none⟩) (by simp) (by simp)).trans h1.out
                have d0 := P2.out.box.c0
                have d1 := P2.out.box.c1
                have d2 := P2.out.box.c2
                have f0 := P2.out.box.fr 0
                have f1 := P2.out.box.fr 1
                have f2 := P2.out.box.fr 2
                have lb1 : bx < w21.heap.size := by omega
                have lh1 : w20.heap.size < w21.heap.size := by omega
                have ne1 : w20.heap.size ≠ bx := by omega
                have ne2 : bx ≠ w20.heap.size := by omega
                clear t21 Q2 P1 B1 h0 h1
                go_wp2_with fail
                go_meet
                refine ⟨⟨p, g, k, ns, 0, c, S, K, _, _, _, rfl, ((Play.stored P2.out.slab P2.out.box P2.out.ref P2.out.ptr P2.out.off P2.out.low P2.out.free P2.out.turns P2.out.few P2.out.below).carry ((Touch.refl [] _).alloc _)).next⟩, ?_⟩
                exact B2.out.carry ((((Touch.refl [bx] w21).setCell (a := ⟨bx, 0, none⟩) (by simp) _).setCell (a := ⟨bx, 1, none⟩) (by simp) _).setCell (a := ⟨bx, 2, none⟩) (by simp) _ |>.alloc _) (by simp; omega)
              · obtain ⟨a, hKa, han⟩ := hfree.out m (by omega)
                have Q1 := Lib.hid (take_some HP1.out.slab a hKa han)
                have a0 := HB.out.c0
                have HKA := Lib.hid hKa
                clear hKa
                generalize hst : S (a * 2 + 1) = t at *
                have HST := Lib.hid hst
                clear hst
                go_wp2_with fail
                refine (Q1.out).mono ?_
                rintro e w20 ⟨rfl, hs20, t20⟩
                unfold told
                clear a0
                have s20 := t20.size
                have ta := (Touch.refl [] w20).alloc (.cells #[.int .i64 a, .int .i64 t] 32)
                have P1 := Lib.hid ((HP1.out.box.carry t20 (by simp; omega)).carry ta (by simp))
                have R1 := Lib.hid ((HP1.out.ref.carry t20 (by simp)).carry ta (by simp))
                have q2 := refTake_some R1.out (by rw [alloc_size]; simp; omega) (by omega) (by omega) a (by simpa using HKA.out) han
                rw [HST.out] at q2
                have Q2 := Lib.hid q2
                have B1 := Lib.hid ((HB.out.carry t20 (by simp; omega)).carry ta (by simp))
                obtain ⟨h0, h1⟩ := box_cells w20 (.int .i64 a) (.int .i64 t) 32
                have h0 := Lib.hid h0
                have h1 := Lib.hid h1
                have d0 := (HP1.out.box.carry t20 (by simp; omega)).c0
                have d1 := (HP1.out.box.carry t20 (by simp; omega)).c1
                have d2 := (HP1.out.box.carry t20 (by simp; omega)).c2
                have lb : bx < w20.heap.size := by omega
                have T20 := Lib.hid t20
                have TA := Lib.hid ta
                have HS20 := Lib.hid hs20
                clear t20 ta hs20 q2 Q1 HB
                go_wp2_with fail
                refine (Q2.out).mono ?_
                rintro e w21 ⟨vf', vb', ad', c', rfl, hvf', hr', t21⟩
                clear d0 d1 d2
                have s21 := t21.size
                rw [alloc_size] at s21
                have P2 := Lib.hid (P1.out.carry t21 (by simp))
                have B2 := Lib.hid (B1.out.carry t21 (by simp))
                have e0 := (t21.cell (a := ⟨w20.heap.size, 0, none⟩) (by simp) (by simp)).trans h0.out
                have e1 := (t21.cell (a := ⟨w20.heap.size, 1, none⟩) (by simp) (by simp)).trans h1.out
                have d0 := P2.out.c0
                have d1 := P2.out.c1
                have d2 := P2.out.c2
                have f0 := P2.out.fr 0
                have f1 := P2.out.fr 1
                have f2 := P2.out.fr 2
                obtain ⟨A4, c4, hvb', -⟩ := hr'.taken
                have HPF := Lib.hid (HP1.out.took HKA.out han HS20.out T20.out (TA.out.trans t21 (by simp)) hvf' hr')
                subst hvf' hvb'
                have lb1 : bx < w21.heap.size := by omega
                have lh1 : w20.heap.size < w21.heap.size := by omega
                have ne1 : w20.heap.size ≠ bx := by omega
                have ne2 : bx ≠ w20.heap.size := by omega
                clear t21 Q2 P1 B1 h0 h1 R1 hr' HS20 T20 TA HP1
                go_wp2_with fail
                go_meet
                refine ⟨⟨p, g, k, ns, m, c, _, K, _, _, _, rfl, HPF.out.carry ((Touch.refl [] _).alloc _)⟩, ?_⟩
                exact B2.out.carry ((((Touch.refl [bx] w21).setCell (a := ⟨bx, 0, none⟩) (by simp) _).setCell (a := ⟨bx, 1, none⟩) (by simp) _).setCell (a := ⟨bx, 2, none⟩) (by simp) _ |>.alloc _) (by simp; omega)
            · have z0 : (dw == 0) = false := by simpa using hd0
              clear hd0
              by_cases hd1 : dw = 1
              · subst hd1
                cases hal : alive n S sl tu
                · have Q1 := Lib.hid (refGive_no HP1.out.ref sl tu (by rw [rlive_alive]; exact hal))
                  have a0 := HB.out.c0
                  have a1 := HB.out.c1
                  have a2 := HB.out.c2
                  have d0 := HP1.out.box.c0
                  have d1 := HP1.out.box.c1
                  have d2 := HP1.out.box.c2
                  have HAL := Lib.hid hal
                  clear hal
                  go_wp2_with fail
                  refine (Q1.out).mono ?_
                  rintro e w20 ⟨rfl, t20⟩
                  clear a0 a1 a2 d0 d1 d2
                  have s20 := t20.size
                  have P2 := Lib.hid (HP1.out.carry t20)
                  have B2 := Lib.hid (HB.out.carry t20 (by simp))
                  have a1 := B2.out.c1
                  have a2 := B2.out.c2
                  have d0 := P2.out.box.c0
                  have d1 := P2.out.box.c1
                  have d2 := P2.out.box.c2
                  have f0 := P2.out.box.fr 0
                  have f1 := P2.out.box.fr 1
                  have f2 := P2.out.box.fr 2
                  have lb : bx < w20.heap.size := by omega
                  have la : a8 < w20.heap.size := by omega
                  have ne1 : a8 ≠ bx := by omega
                  have ne2 : bx ≠ a8 := by omega
                  have PS := Lib.hid ((Play.stored P2.out.slab P2.out.box P2.out.ref P2.out.ptr P2.out.off P2.out.low P2.out.free P2.out.turns P2.out.few P2.out.below).carry ((Touch.refl [] _).alloc (.cells #[.slice (some adf) m cff, .slice A2' n c2', .slice A3' n c3'] 29)))
                  have BS := Lib.hid (B2.out.carry ((((Touch.refl [bx] w20).setCell (a := ⟨bx, 0, none⟩) (by simp) (.slice (some adf) m cff)).setCell (a := ⟨bx, 1, none⟩) (by simp) (.slice A2' n c2')).setCell (a := ⟨bx, 2, none⟩) (by simp) (.slice A3' n c3') |>.alloc (.cells #[.slice (some adf) m cff, .slice A2' n c2', .slice A3' n c3'] 29)) (by simp; omega))
                  have Q2 := Lib.hid (give_no PS.out.slab sl tu HAL.out)
                  clear t20 Q1 HB HP1 P2 B2
                  go_wp2_with fail
                  refine (Q2.out).mono ?_
                  rintro e w22 ⟨rfl, t22⟩
                  have PF := Lib.hid (PS.out.carry t22)
                  have BF := Lib.hid (BS.out.carry t22 (by simp))
                  clear t22 Q2 PS BS a1 a2 d0 d1 d2 f0 f1 f2
                  go_wp2_with fail
                  go_meet
                  exact ⟨⟨_, _, _, _, _, _, _, _, _, _, _, rfl, PF.out.next⟩, BF.out⟩
                · obtain ⟨a, rfl, han, hs1, hst⟩ := alive_split hal
                  have htu := hturns.out a han
                  rw [hst] at htu
                  have q1 := refGive_yes adf cff HP1.out.ref (by simp; omega) (by omega) (by omega) a han (by rw [hst]; omega) (by rw [hst]; omega) (by rw [rlive_alive, hst]; exact hal)
                  rw [hst] at q1
                  have Q1 := Lib.hid q1
                  have a0 := HB.out.c0
                  have a1 := HB.out.c1
                  have a2 := HB.out.c2
                  have d0 := HP1.out.box.c0
                  have d1 := HP1.out.box.c1
                  have d2 := HP1.out.box.c2
                  have HAL := Lib.hid hal
                  have HST := Lib.hid hst
                  clear hal hst q1 hs1
                  go_wp2_with fail
                  refine (Q1.out).mono ?_
                  rintro e w20 ⟨vf', vt', vb', ad', c', rfl, hvf', hr', t20⟩
                  clear a0 a1 a2 d0 d1 d2
                  have s20 := t20.size
                  have P2 := Lib.hid (HP1.out.carry t20)
                  have B2 := Lib.hid (HB.out.carry t20 (by simp))
                  have a1 := B2.out.c1
                  have a2 := B2.out.c2
                  have d0 := P2.out.box.c0
                  have d1 := P2.out.box.c1
                  have d2 := P2.out.box.c2
                  have f0 := P2.out.box.fr 0
                  have f1 := P2.out.box.fr 1
                  have f2 := P2.out.box.fr 2
                  have lb : bx < w20.heap.size := by omega
                  have la : a8 < w20.heap.size := by omega
                  have ne1 : a8 ≠ bx := by omega
                  have ne2 : bx ≠ a8 := by omega
                  obtain ⟨A5, c5, hvt', -⟩ := hr'.turns
                  obtain ⟨A6, c6, hvb', -⟩ := hr'.taken
                  have HV := Lib.hid hvf'
                  subst hvf' hvt' hvb'
                  have ts := (((Touch.refl [bx] w20).setCell (a := ⟨bx, 0, none⟩) (by simp) (.slice (some ad') (m + 1) c')).setCell (a := ⟨bx, 1, none⟩) (by simp) (.slice A5 n c5)).setCell (a := ⟨bx, 2, none⟩) (by simp) (.slice A6 n c6)
                  have ta := (Touch.refl [] (((w20.setCell ⟨bx, 0, none⟩ (.slice (some ad') (m + 1) c')).setCell ⟨bx, 1, none⟩ (.slice A5 n c5)).setCell ⟨bx, 2, none⟩ (.slice A6 n c6))).alloc (.cells #[.slice (some ad') (m + 1) c', .slice A5 n c5, .slice A6 n c6] 29)
                  have Q2 := Lib.hid (give_yes ((P2.out.slab.carry ts (by simp; omega) (by simp; omega) (by simp; omega)).carry ta (by simp) (by simp) (by simp)) a tu HAL.out (by omega) (by omega) (by omega))
                  have BS := Lib.hid ((B2.out.carry ts (by simp; omega)).carry ta (by simp))
                  have GV := fun w22 k' c' hs t22 hk => Lib.hid (HP1.out.gave (w22 := w22) (k' := k') (c' := c') han HST.out t20 HV.out hr' ta hs t22 hk)
                  clear t20 Q1 HB HP1 P2 B2 ts ta hr'
                  go_wp2_with fail
                  refine (Q2.out).mono ?_
                  rintro e w22 ⟨k', c'', rfl, hs22, t22, hk'⟩
                  have PF := GV w22 k' c'' hs22 t22 hk'
                  have BF := Lib.hid (BS.out.carry t22 (by simp; omega))
                  clear t22 Q2 GV BS hs22 hk' a1 a2 d0 d1 d2 f0 f1 f2
                  go_wp2_with fail
                  go_meet
                  exact ⟨⟨_, _, _, _, _, _, _, _, _, _, _, rfl, PF.out⟩, BF.out⟩
              · have z1 : (dw == 1) = false := by simpa using hd1
                clear hd1
                have Q1 := Lib.hid (copy_any HP1.out.slab (by omega) (by omega))
                have a0 := HB.out.c0
                go_wp2_with fail
                refine (Q1.out).mono ?_
                rintro e w20 ⟨p1, g1, k1, ns1, c1, rfl, hs1, t1, l1, l2, l3⟩
                clear a0 Q1
                have key : ∀ w21, Touch [p1, g1] w20 w21 → Hid (Play W w21 bx p g k n ns m c S K (.slice (some adf) m cff) (.slice A2' n c2') (.slice A3' n c3') j ∧ Box3 w21 a8 34 (.int .i64 dw) (.int .i64 sl) (.int .i64 tu)) := fun w21 t21 =>
                  Lib.hid ⟨HP1.out.carry (t1.trans t21 (by simp; omega)), HB.out.carry (t1.trans t21 (by simp; omega)) (by simp)⟩
                have fin : ∀ w21, Touch [p1, g1] w20 w21 → Hid (Calls Try.prog 15 #[.pointer (some ⟨p, 0, none⟩)] w21 (Copied w21 n m S K)) := fun w21 t21 => Lib.hid (copy_any (key w21 t21).out.1.slab (by omega) (by omega))
                clear HB
                rcases m with _ | m
                · have Q2 := Lib.hid (take_none hs1)
                  clear hs1 t1
                  go_wp2_with fail
                  refine (Q2.out).mono ?_
                  rintro e w21 ⟨rfl, t21⟩
                  unfold told
                  have K1 := key w21 (t21.mono (by simp))
                  have Q3 := fin w21 (t21.mono (by simp))
                  clear key fin t21 Q2
                  go_wp2_with fail
                  refine (Q3.out).mono ?_
                  rintro e w22 ⟨p2, g2, k2, ns2, c2, rfl, hs2, t2, m1, m2, m3⟩
                  have P2 := Lib.hid (K1.out.1.copied hs2 t2 m1 m2 m3)
                  have B2 := Lib.hid (K1.out.2.carry t2 (by simp))
                  clear hs2 t2 K1 Q3
                  go_wp2_with fail
                  go_meet
                  exact ⟨⟨_, _, _, _, _, _, _, _, _, _, _, rfl, P2.out.next⟩, B2.out⟩
                · obtain ⟨a, hKa, han⟩ := hfree.out m (by omega)
                  have Q2 := Lib.hid (take_some hs1 a hKa han)
                  clear hs1 t1 hKa
                  generalize S (a * 2 + 1) = t at *
                  go_wp2_with fail
                  refine (Q2.out).mono ?_
                  rintro e w21 ⟨rfl, _, t21⟩
                  unfold told
                  have K1 := key w21 t21
                  have Q3 := fin w21 t21
                  clear key fin t21 Q2
                  go_wp2_with fail
                  refine (Q3.out).mono ?_
                  rintro e w22 ⟨p2, g2, k2, ns2, c2, rfl, hs2, t2, m1, m2, m3⟩
                  have P2 := Lib.hid (K1.out.1.copied hs2 t2 m1 m2 m3)
                  have B2 := Lib.hid (K1.out.2.carry t2 (by simp))
                  clear hs2 t2 K1 Q3
                  go_wp2_with fail
                  go_meet
                  exact ⟨⟨_, _, _, _, _, _, _, _, _, _, _, rfl, P2.out.next⟩, B2.out⟩
          case rest =>
            clear HP1 HB
            obtain ⟨⟨p, g, k, ns, m, c, S, K, vf, vt, vb, rfl, hp⟩, hb⟩ := hcut
            obtain ⟨adf, cff, hvf⟩ := hp.ptr
            obtain ⟨A2', c2', hvt, -⟩ := hp.ref.turns
            obtain ⟨A3', c3', hvb, hc3', hm3', h3⟩ := hp.ref.taken
            subst hvf hvt hvb
            have HP := Lib.hid hp
            have HB := Lib.hid hb
            have a1 := hb.c1
            have H3 := Lib.hid h3
            unfold maxLen at hm3'
            have lb := hp.box.lt
            have la := hb.lt
            clear hp hb h3
            by_cases hof : 0 ≤ sl ∧ sl < n ∧ S (sl.toNat * 2) = 1
            · obtain ⟨x0, x1, x2⟩ := hof
              obtain ⟨a, rfl⟩ : ∃ a : Nat, sl = a := ⟨sl.toNat, by omega⟩
              rw [Int.toNat_natCast] at x2
              have han : a < n := by omega
              have Q1 := Lib.hid (of_yes HP.out.slab a han x2)
              obtain ⟨r, hal⟩ : ∃ r, alive n S a tu = r := ⟨_, rfl⟩
              have HAL := Lib.hid hal
              have hal2 : alive n S a (S (a * 2 + 1)) = true := by simp [alive, x2, han]
              have HAL2 := Lib.hid hal2
              have X2 := Lib.hid x2
              clear hal hal2 x2
              generalize S (a * 2 + 1) = t at *
              go_wp2_with fail
              refine (Q1.out).mono ?_
              rintro e w20 ⟨rfl, t20⟩
              unfold told
              clear a1
              have tw := t20.alloc (.cells #[.int .i64 a, .int .i64 t] 32)
              have P2 := Lib.hid (HP.out.carry tw)
              have B2 := Lib.hid (HB.out.carry tw (by simp))
              have HH := Lib.hid (box_cells w20 (.int .i64 a) (.int .i64 t) 32)
              have lh := Lib.hid (show w20.heap.size < (w20.alloc (.cells #[.int .i64 a, .int .i64 t] 32)).heap.size by rw [alloc_size]; omega)
              have s20 := t20.size
              clear t20 tw Q1 HP HB
              go_wp2_with fail
              generalize w20.alloc (.cells #[.int .i64 a, .int .i64 t] 32) = wd at *
              have HL := fun w1 (tt : Touch [] wd w1) => Lib.hid (left_any (P2.out.slab.carry tt (by simp) (by simp) (by simp)))
              have HV := fun w1 (tt : Touch [] wd w1) => Lib.hid (show Calls Try.prog 18 #[.pointer (some ⟨p, 0, none⟩), .agg #[.int .i64 a, .int .i64 tu]] w1 fun e w' => e = .returned (.bool r) ∧ Touch [] wd w' from
                (live_any (P2.out.slab.carry tt (by simp) (by simp) (by simp)) a tu).mono fun e w' ⟨h1, h2⟩ => ⟨by rw [h1, HAL.out], tt.trans h2 (by simp)⟩)
              have HR := fun w1 (tt : Touch [] wd w1) => Lib.hid (show Calls Try.prog 19 #[.agg #[.slice (some adf) m cff, .slice A2' n c2', .slice A3' n c3'], .int .i64 a, .int .i64 tu] w1 fun e w' => e = .returned (.bool r) ∧ Touch [] wd w' from
                (refLive_any (P2.out.ref.carry tt (by simp)) a tu).mono fun e w' ⟨h1, h2⟩ => ⟨by rw [h1, rlive_alive, HAL.out], tt.trans h2 (by simp)⟩)
              have KB := fun w1 (tt : Touch [] wd w1) => Lib.hid (show w1.cell? ⟨bx, 0, none⟩ = some (.slice (some adf) m cff) ∧ w1.cell? ⟨bx, 1, none⟩ = some (.slice A2' n c2') ∧ w1.cell? ⟨bx, 2, none⟩ = some (.slice A3' n c3') ∧ w1.cell? ⟨a8, 1, none⟩ = some (.int .i64 a) ∧ w1.cell? ⟨a8, 2, none⟩ = some (.int .i64 tu) from
                ⟨(P2.out.box.carry tt (by simp)).c0, (P2.out.box.carry tt (by simp)).c1, (P2.out.box.carry tt (by simp)).c2, (B2.out.carry tt (by simp)).c1, (B2.out.carry tt (by simp)).c2⟩)
              have k0 : ∀ x : Cls wd, x.val.cell? ⟨bx, 0, none⟩ = some (.slice (some adf) m cff) := fun x => (KB _ x.property).out.1
              have k1 : ∀ x : Cls wd, x.val.cell? ⟨bx, 1, none⟩ = some (.slice A2' n c2') := fun x => (KB _ x.property).out.2.1
              have k2 : ∀ x : Cls wd, x.val.cell? ⟨bx, 2, none⟩ = some (.slice A3' n c3') := fun x => (KB _ x.property).out.2.2.1
              have k3 : ∀ x : Cls wd, x.val.cell? ⟨a8, 1, none⟩ = some (.int .i64 a) := fun x => (KB _ x.property).out.2.2.2.1
              have k4 : ∀ x : Cls wd, x.val.cell? ⟨a8, 2, none⟩ = some (.int .i64 tu) := fun x => (KB _ x.property).out.2.2.2.2
              have HR2 := fun w1 (tt : Touch [] wd w1) => Lib.hid (show Calls Try.prog 19 #[.agg #[.slice (some adf) m cff, .slice A2' n c2', .slice A3' n c3'], .int .i64 a, .int .i64 t] w1 fun e w' => e = .returned (.bool true) ∧ Touch [] wd w' from
                (refLive_any (P2.out.ref.carry tt (by simp)) a t).mono fun e w' ⟨h1, h2⟩ => ⟨by rw [h1, rlive_alive, HAL2.out], tt.trans h2 (by simp)⟩)
              have k6 : ∀ x : Cls wd, x.val.cell? ⟨w20.heap.size, 0, none⟩ = some (.int .i64 a) := fun x => (x.property.cell (a := ⟨w20.heap.size, 0, none⟩) lh.out (by simp)).trans HH.out.1
              have k7 : ∀ x : Cls wd, x.val.cell? ⟨w20.heap.size, 1, none⟩ = some (.int .i64 t) := fun x => (x.property.cell (a := ⟨w20.heap.size, 1, none⟩) lh.out (by simp)).trans HH.out.2
              have an : (a : Int) < (n : Int) := by omega
              have z4 : decide (a < n) = true := by simp; omega
              obtain ⟨A9, c9, hA9, hc9, hm9, h9⟩ := P2.out.ref.taken
              simp only [Value.slice.injEq, true_and] at hA9
              obtain ⟨rfl, rfl⟩ := hA9
              obtain ⟨b3, o3, rfl, l3, _, y3⟩ := h9 a han
              dsimp only at y3
              rw [X2.out] at y3
              have k5 : ∀ x : Cls wd, x.val.cell? ⟨b3, o3 + a, none⟩ = some (.bool true) := fun x => (x.property.cell (a := ⟨b3, o3 + a, none⟩) l3 (by simp)).trans (y3.trans (by simp))
              unfold maxLen at hm9
              clear H3 KB h9 y3 x0 x1
              refine wp_region_cls (wd := wd) (by kernel_rfl) (by kernel_rfl) ((Touch.refl _ _).drew) ?_
              repeat (first | go_big_quiet_step ((first | (go_at_call 17; exact Calls.cls_of (((HL _ (Cls.property _)).out).mono fun e w' ⟨h1, h2⟩ => ⟨h1, h2 ▸ Cls.property _⟩)) | (go_at_call 18; exact Calls.cls_of ((HV _ (Cls.property _)).out)) | (go_at_call 19; with_reducible exact Calls.cls_of ((HR _ (Cls.property _)).out)) | (go_at_call 19; with_reducible exact Calls.cls_of ((HR2 _ (Cls.property _)).out)))) | quiet_step ((first | (go_at_call 17; exact Calls.cls_of (((HL _ (Cls.property _)).out).mono fun e w' ⟨h1, h2⟩ => ⟨h1, h2 ▸ Cls.property _⟩)) | (go_at_call 18; exact Calls.cls_of ((HV _ (Cls.property _)).out)) | (go_at_call 19; with_reducible exact Calls.cls_of ((HR _ (Cls.property _)).out)) | (go_at_call 19; with_reducible exact Calls.cls_of ((HR2 _ (Cls.property _)).out)))))
              refine wpQuiet_nil ?_
              intro _ hw'
              obtain ⟨⟨wz, tz⟩, hw''⟩ := hw'
              subst hw''
              clear k0 k1 k2 k3 k4 k5 k6 k7 HL HV HR HR2
              go_wp2_with fail
              go_roundw
              case rel => exact ⟨j + 1, by omega, by go_num, _, _, _, _, _, _, _, _, _, _, _, rfl, P2.out.carry tz⟩
              case measure => simp [intOf]; omega
            · have Q1 := Lib.hid (of_no HP.out.slab sl (by
                by_cases x0 : sl < 0
                · exact .inl x0
                · by_cases x1 : (n : Int) ≤ sl
                  · exact .inr (.inl x1)
                  · exact .inr (.inr ⟨sl.toNat, by omega, by omega, fun x2 => hof ⟨by omega, by omega, x2⟩⟩)))
              have hal : alive n S sl tu = false := by
                simp only [alive, decide_eq_false_iff_not]
                exact fun ⟨x0, x1, x2, _⟩ => hof ⟨x0, x1, x2⟩
              have HAL := Lib.hid hal
              have HOF := Lib.hid hof
              clear hal hof
              go_wp2_with fail
              refine (Q1.out).mono ?_
              rintro e w20 ⟨rfl, t20⟩
              unfold told
              clear a1
              have tw := t20.alloc (.cells #[.int .i64 0, .int .i64 0] 32)
              have P2 := Lib.hid (HP.out.carry tw)
              have B2 := Lib.hid (HB.out.carry tw (by simp))
              have s20 := t20.size
              clear t20 tw Q1 HP HB
              go_wp2_with fail
              generalize w20.alloc (.cells #[.int .i64 0, .int .i64 0] 32) = wd at *
              have HL := fun w1 (t : Touch [] wd w1) => Lib.hid (left_any (P2.out.slab.carry t (by simp) (by simp) (by simp)))
              have HV := fun w1 (t : Touch [] wd w1) => Lib.hid (show Calls Try.prog 18 #[.pointer (some ⟨p, 0, none⟩), .agg #[.int .i64 sl, .int .i64 tu]] w1 fun e w' => e = .returned (.bool false) ∧ Touch [] wd w' from
                (live_any (P2.out.slab.carry t (by simp) (by simp) (by simp)) sl tu).mono fun e w' ⟨h1, h2⟩ => ⟨by rw [h1, HAL.out], t.trans h2 (by simp)⟩)
              have HR := fun w1 (t : Touch [] wd w1) => Lib.hid (show Calls Try.prog 19 #[.agg #[.slice (some adf) m cff, .slice A2' n c2', .slice A3' n c3'], .int .i64 sl, .int .i64 tu] w1 fun e w' => e = .returned (.bool false) ∧ Touch [] wd w' from
                (refLive_any (P2.out.ref.carry t (by simp)) sl tu).mono fun e w' ⟨h1, h2⟩ => ⟨by rw [h1, rlive_alive, HAL.out], t.trans h2 (by simp)⟩)
              have KB := fun w1 (t : Touch [] wd w1) => Lib.hid (show w1.cell? ⟨bx, 0, none⟩ = some (.slice (some adf) m cff) ∧ w1.cell? ⟨bx, 1, none⟩ = some (.slice A2' n c2') ∧ w1.cell? ⟨bx, 2, none⟩ = some (.slice A3' n c3') ∧ w1.cell? ⟨a8, 1, none⟩ = some (.int .i64 sl) ∧ w1.cell? ⟨a8, 2, none⟩ = some (.int .i64 tu) from
                ⟨(P2.out.box.carry t (by simp)).c0, (P2.out.box.carry t (by simp)).c1, (P2.out.box.carry t (by simp)).c2, (B2.out.carry t (by simp)).c1, (B2.out.carry t (by simp)).c2⟩)
              have k0 : ∀ x : Cls wd, x.val.cell? ⟨bx, 0, none⟩ = some (.slice (some adf) m cff) := fun x => (KB _ x.property).out.1
              have k1 : ∀ x : Cls wd, x.val.cell? ⟨bx, 1, none⟩ = some (.slice A2' n c2') := fun x => (KB _ x.property).out.2.1
              have k2 : ∀ x : Cls wd, x.val.cell? ⟨bx, 2, none⟩ = some (.slice A3' n c3') := fun x => (KB _ x.property).out.2.2.1
              have k3 : ∀ x : Cls wd, x.val.cell? ⟨a8, 1, none⟩ = some (.int .i64 sl) := fun x => (KB _ x.property).out.2.2.2.1
              have k4 : ∀ x : Cls wd, x.val.cell? ⟨a8, 2, none⟩ = some (.int .i64 tu) := fun x => (KB _ x.property).out.2.2.2.2
              by_cases x0 : sl < 0
              · have z2 : decide (0 ≤ sl) = false := by simp; omega
                clear HOF H3 KB
                refine wp_region_cls (wd := wd) (by kernel_rfl) (by kernel_rfl) ((Touch.refl _ _).drew) ?_
                repeat (first | go_big_quiet_step ((first | (go_at_call 17; exact Calls.cls_of (((HL _ (Cls.property _)).out).mono fun e w' ⟨h1, h2⟩ => ⟨h1, h2 ▸ Cls.property _⟩)) | (go_at_call 18; exact Calls.cls_of ((HV _ (Cls.property _)).out)) | (go_at_call 19; with_reducible exact Calls.cls_of ((HR _ (Cls.property _)).out)))) | quiet_step ((first | (go_at_call 17; exact Calls.cls_of (((HL _ (Cls.property _)).out).mono fun e w' ⟨h1, h2⟩ => ⟨h1, h2 ▸ Cls.property _⟩)) | (go_at_call 18; exact Calls.cls_of ((HV _ (Cls.property _)).out)) | (go_at_call 19; with_reducible exact Calls.cls_of ((HR _ (Cls.property _)).out)))))
                refine wpQuiet_nil ?_
                intro _ hw'
                obtain ⟨⟨wz, tz⟩, hw''⟩ := hw'
                subst hw''
                clear k0 k1 k2 k3 k4 HL HV HR
                go_wp2_with fail
                go_roundw
                case rel => exact ⟨j + 1, by omega, by go_num, _, _, _, _, _, _, _, _, _, _, _, rfl, P2.out.carry tz⟩
                case measure => simp [intOf]; omega
              · obtain ⟨a, rfl⟩ : ∃ a : Nat, sl = a := ⟨sl.toNat, by omega⟩
                clear x0
                by_cases x1 : n ≤ a
                · have z4 : decide (a < n) = false := by simp; omega
                  clear HOF H3 KB
                  refine wp_region_cls (wd := wd) (by kernel_rfl) (by kernel_rfl) ((Touch.refl _ _).drew) ?_
                  repeat (first | go_big_quiet_step ((first | (go_at_call 17; exact Calls.cls_of (((HL _ (Cls.property _)).out).mono fun e w' ⟨h1, h2⟩ => ⟨h1, h2 ▸ Cls.property _⟩)) | (go_at_call 18; exact Calls.cls_of ((HV _ (Cls.property _)).out)) | (go_at_call 19; with_reducible exact Calls.cls_of ((HR _ (Cls.property _)).out)))) | quiet_step ((first | (go_at_call 17; exact Calls.cls_of (((HL _ (Cls.property _)).out).mono fun e w' ⟨h1, h2⟩ => ⟨h1, h2 ▸ Cls.property _⟩)) | (go_at_call 18; exact Calls.cls_of ((HV _ (Cls.property _)).out)) | (go_at_call 19; with_reducible exact Calls.cls_of ((HR _ (Cls.property _)).out)))))
                  refine wpQuiet_nil ?_
                  intro _ hw'
                  obtain ⟨⟨wz, tz⟩, hw''⟩ := hw'
                  subst hw''
                  clear k0 k1 k2 k3 k4 HL HV HR
                  go_wp2_with fail
                  go_roundw
                  case rel => exact ⟨j + 1, by omega, by go_num, _, _, _, _, _, _, _, _, _, _, _, rfl, P2.out.carry tz⟩
                  case measure => simp [intOf]; omega
                · have han : a < n := by omega
                  have an : (a : Int) < (n : Int) := by omega
                  have hS : decide (S (a * 2) = 1) = false := by
                    rw [decide_eq_false_iff_not]
                    exact fun h => HOF.out ⟨by omega, by omega, by simpa using h⟩
                  have z4 : decide (a < n) = true := by simp; omega
                  obtain ⟨A9, c9, hA9, hc9, hm9, h9⟩ := P2.out.ref.taken
                  simp only [Value.slice.injEq, true_and] at hA9
                  obtain ⟨rfl, rfl⟩ := hA9
                  obtain ⟨b3, o3, rfl, l3, _, y3⟩ := h9 a han
                  dsimp only at y3
                  rw [hS] at y3
                  have k5 : ∀ x : Cls wd, x.val.cell? ⟨b3, o3 + a, none⟩ = some (.bool false) := fun x => (x.property.cell (a := ⟨b3, o3 + a, none⟩) l3 (by simp)).trans y3
                  unfold maxLen at hm9
                  clear HOF H3 KB h9 y3 hS x1
                  refine wp_region_cls (wd := wd) (by kernel_rfl) (by kernel_rfl) ((Touch.refl _ _).drew) ?_
                  repeat (first | go_big_quiet_step ((first | (go_at_call 17; exact Calls.cls_of (((HL _ (Cls.property _)).out).mono fun e w' ⟨h1, h2⟩ => ⟨h1, h2 ▸ Cls.property _⟩)) | (go_at_call 18; exact Calls.cls_of ((HV _ (Cls.property _)).out)) | (go_at_call 19; with_reducible exact Calls.cls_of ((HR _ (Cls.property _)).out)))) | quiet_step ((first | (go_at_call 17; exact Calls.cls_of (((HL _ (Cls.property _)).out).mono fun e w' ⟨h1, h2⟩ => ⟨h1, h2 ▸ Cls.property _⟩)) | (go_at_call 18; exact Calls.cls_of ((HV _ (Cls.property _)).out)) | (go_at_call 19; with_reducible exact Calls.cls_of ((HR _ (Cls.property _)).out)))))
                  refine wpQuiet_nil ?_
                  intro _ hw'
                  obtain ⟨⟨wz, tz⟩, hw''⟩ := hw'
                  subst hw''
                  clear k0 k1 k2 k3 k4 k5 HL HV HR
                  go_wp2_with fail
                  go_roundw
                  case rel => exact ⟨j + 1, by omega, by go_num, _, _, _, _, _, _, _, _, _, _, _, rfl, P2.out.carry tz⟩
                  case measure => simp [intOf]; omega
        · have Q1 := Lib.hid (slabLives_any wr)
          have hbl := Lib.hid hp.below
          clear hp HP
          go_wp2_with fail
          refine (Q1.out).mono ?_
          rintro e w9 ⟨rfl, t9⟩
          go_wp2
          go_ret
          exact ⟨rfl, hbl.out.trans (t9.mono hbl.out.size)⟩
end Go.Proofs.Ytjflbdoacekokaa
