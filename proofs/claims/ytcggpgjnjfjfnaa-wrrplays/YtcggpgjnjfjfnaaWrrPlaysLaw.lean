/-
  WrrPlays: for every list of calls the law on the rings returns true. No conditions.
-/
import Derived.Test.YtcggpgjnjfjfnaaWrrBoth
import Derived.Test.YtcggpgjnjfjfnaaCls
import Derived.Deep.CutBlock
namespace Go.Proofs.Ytcggpgjnjfjfnaa
open Go.ChangeShapes Go.WideShapes Go.ChangeAt Go.RowKit Go.Deep Go.Joins Go.Maps
set_option linter.unusedVariables false
set_option linter.unusedSimpArgs false

structure ActW where
  what : Int
  id : Int
  prio : Int
  n : Int
  able : Value
  M : List Int
def ActW.cells (a : ActW) : Array Value := #[.int .i64 a.what, .int .i64 a.id, .int .i64 a.prio, .int .i64 a.n, a.able]
def ActWCells (w : World) (A : Option Addr) (n : Nat) (X : Nat → ActW) : Prop :=
  ∀ i, i < n → ∃ b off, A = some ⟨b, off, none⟩ ∧ b < w.heap.size ∧ w.cell? ⟨b, off + i * 5, none⟩ = some (.int .i64 (X i).what) ∧ w.cell? ⟨b, off + i * 5 + 1, none⟩ = some (.int .i64 (X i).id) ∧ w.cell? ⟨b, off + i * 5 + 2, none⟩ = some (.int .i64 (X i).prio) ∧
    w.cell? ⟨b, off + i * 5 + 3, none⟩ = some (.int .i64 (X i).n) ∧ w.cell? ⟨b, off + i * 5 + 4, none⟩ = some (X i).able ∧ fit64 (X i).id ∧ LInts [] w (X i).able (X i).M ∧ ∀ x ∈ (X i).M, fit64 x
def AnyPlay (wd : World) (b4 kk : Nat) (v : Value) (w : World) : Prop := ∃ q c cb s R L C, v = pt q ∧ PlayW wd b4 kk q c cb s R L C w

theorem ent19 (args : Array Value) (w : World) : (callFunc 19 args).run Try.prog w = .ok (.enter 19 args) w := by
  simp [callFunc, Try.func19]
  rfl
theorem ent25 (args : Array Value) (w : World) : (callFunc 25 args).run Try.prog w = .ok (.enter 25 args) w := by
  simp [callFunc, Try.func25]
  rfl
theorem ent26 (args : Array Value) (w : World) : (callFunc 26 args).run Try.prog w = .ok (.enter 26 args) w := by
  simp [callFunc, Try.func26]
  rfl
set_option maxHeartbeats 8000000 in
set_option maxRecDepth 100000 in
theorem wrrPlays_walk (A : Option Addr) (n cap : Nat) (X : Nat → ActW) (wd : World) (hc : n ≤ 9223372036854775807) (hX : ActWCells wd A n X) :
    Calls Try.prog 3 #[.slice A n cap] wd fun e w' => e = .returned (.bool true) ∧ Below wd.heap.size wd w' := by
  have HX := Lib.hid hX
  clear hX
  by_cases hn : 60 < n
  · go_enter Try.func3, Try.ntmps3
    go_wp2_with fail
    refine (wrrLives_any _).mono ?_
    rintro e w8 ⟨rfl, hb⟩
    go_wp2_with fail
    go_ret
    exact ⟨rfl, hb⟩
  · have N1 := Lib.hid (newW wd)
    go_enter Try.func3, Try.ntmps3
    go_wp2_with fail
    refine (N1.out).mono ?_
    rintro e w1 ⟨q, c, cb, R, rfl, a1, hz, t1⟩
    have N2 := Lib.hid (refNewW w1 0 (zone q c cb R) a1.lt)
    have A1 := Lib.hid a1
    have HZ := Lib.hid hz
    have T1 := Lib.hid t1
    clear a1 hz t1 N1
    unfold pt
    go_wp2_with fail
    refine (N2.out).mono ?_
    rintro e w2 ⟨v2, rfl, hs2, t2⟩
    obtain ⟨As, ks, ds, As', ks', ds', rfl⟩ := hs2.slices
    have hb2 := BoxV.new w2 29 #[.slice As ks ds, .slice As' ks' ds']
    have T2 : Touch [] w2 (w2.alloc (.cells #[.slice As ks ds, .slice As' ks' ds'] 29)) := (Touch.refl [] w2).alloc _
    have hzl : ∀ b ∈ zone q c cb R, b < w2.heap.size := fun b hb => Nat.lt_of_lt_of_le (A1.out.lt b hb) t2.size
    have P0 : PlayW wd w2.heap.size 0 q c cb 0 R (fun _ => []) (fun _ => none) (w2.alloc (.cells #[.slice As ks ds, .slice As' ks' ds'] 29)) := by
      obtain ⟨rv, lv, he, h1, h2⟩ := hs2
      cases he
      have hav : ∀ b ∈ w2.heap.size :: zone q c cb R, b ∈ zone q c cb R ∨ w2.heap.size ≤ b := fun b hb => by
        rw [List.mem_cons] at hb
        rcases hb with rfl | hb
        · exact .inr (Nat.le_refl _)
        · exact .inl hb
      exact ⟨(A1.out.new t2).new T2, ⟨As, ks, ds, As', ks', ds', hb2, (h1.avoid hav).carry T2 (by simp), (h2.avoid hav).carry T2 (by simp)⟩, HZ.out, Nat.le_trans T1.out.size t2.size, fun hm => Nat.lt_irrefl _ (hzl _ hm), fun j _ => Nat.le_refl _, Nat.le_refl _, sync_new, (T1.out.trans t2 (by simp)).trans T2 (by simp)⟩
    have P0 := Lib.hid P0
    clear hb2 T2 hzl hs2 t2 N2 A1 HZ T1
    go_upto_region 4 with fail
    generalize w2.alloc (.cells #[.slice As ks ds, .slice As' ks' ds'] 29) = w4 at *
    generalize w2.heap.size = b4 at *
    go_wp2_with fail
    go_loopw [3, 35] (fun v i wr => ∃ k : Nat, k ≤ n ∧ i = .int .i64 k ∧ AnyPlay wd b4 k v wr) (fun _ i _ => n - (intOf i).toNat)
    case atStart => exact ⟨0, Nat.zero_le _, rfl, _, _, _, _, _, _, _, rfl, P0.out⟩
    case round =>
      clear P0
      obtain ⟨k, hk, rfl, q, c, cb, s, R, L, C, rfl, hP⟩ := hrel
      by_cases hlt : k < n
      · obtain ⟨bl, off, hA, hbB, e0, e1, e2, e3, e4, hfit, hli, hfM⟩ := HX.out k hlt
        have e0 := (hP.t.cell (a := ⟨bl, _, none⟩) hbB (by simp)).trans e0
        have e1 := (hP.t.cell (a := ⟨bl, _, none⟩) hbB (by simp)).trans e1
        have e2 := (hP.t.cell (a := ⟨bl, _, none⟩) hbB (by simp)).trans e2
        have e3 := (hP.t.cell (a := ⟨bl, _, none⟩) hbB (by simp)).trans e3
        have e4 := (hP.t.cell (a := ⟨bl, _, none⟩) hbB (by simp)).trans e4
        subst hA
        have hi : i64k (X k).id := i64k_of hfit
        have hU := hli
        obtain ⟨Aa, ca, hav, _⟩ := hli
        have hbl : bl < wr.heap.size := Nat.lt_of_lt_of_le hbB hP.t.size
        rw [hav] at e4 hU
        have HU := Lib.hid hU
        have HFM := Lib.hid hfM
        have HP := Lib.hid hP
        generalize (X k).what = dw at *
        generalize (X k).id = id at *
        generalize (X k).prio = pr at *
        generalize (X k).n = m at *
        generalize (X k).M = M at *
        clear hP hU hfM hfit hav
        unfold pt
        have T6 := (Touch.refl [] wr).alloc (.cells #[.int .i64 dw, .int .i64 id, .int .i64 pr, .int .i64 m, .slice Aa M.length ca] 33)
        have HBA := Lib.hid (BoxV.new wr 33 #[.int .i64 dw, .int .i64 id, .int .i64 pr, .int .i64 m, .slice Aa M.length ca])
        have H6 := Lib.hid (HP.out.carry T6)
        have HNB := Lib.hid (show ∀ b ∈ b4 :: zone q c cb R, wr.heap.size ≠ b from fun b hb => by have := HP.out.z b hb; omega)
        have HU6 := Lib.hid ((HU.out.avoid (Z' := b4 :: wr.heap.size :: zone q c cb R) (fun b hb => .inr (by
          simp only [List.mem_cons] at hb
          rcases hb with rfl | rfl | hb
          · exact HP.out.low4
          · exact HP.out.t.size
          · exact HP.out.low b hb))).carry (HP.out.t.trans T6 (by simp)) (by simp))
        clear T6 HP HU
        go_upto_region 7 with fail
        generalize wr.alloc (.cells #[.int .i64 dw, .int .i64 id, .int .i64 pr, .int .i64 m, .slice Aa M.length ca] 33) = w6 at *
        generalize wr.heap.size = a6 at *
        clear e0 e1 e2 e3 e4 hbl
        have l6 := HBA.out.lt
        have e4 := HBA.out.cell 4
        have e1 := HBA.out.cell 1
        have e0 := HBA.out.cell 0
        simp only [List.getElem?_toArray, List.getElem?_cons_zero, List.getElem?_cons_succ] at e0 e1 e4
        by_cases hM : 70 < M.length
        · have HT := Lib.hid H6.out.t
          have hMd : decide (70 < (M.length : Int)) = true := by simp; omega
          go_wp2_with fail
          refine (wrrLives_any _).mono ?_
          rintro e w8 ⟨rfl, hb⟩
          have HB := Lib.hid hb
          clear hb
          go_wp2_with fail
          go_ret
          exact ⟨rfl, bnext (HT.out.below (by simp) (Nat.le_refl _)) HB.out⟩
        · have hMd : decide (70 < (M.length : Int)) = false := by simp; omega
          obtain ⟨np, bp, hpr⟩ := prio_is L id
          obtain ⟨A, kA, dA, B, kB, dB, hbx, hst⟩ := H6.out.state
          obtain ⟨rv, lv, he, hra, hrn⟩ := hst
          cases he
          have hl1 : ∀ j, j < 8 → (L j).length ≤ 1000 := fun j hj => by have := H6.out.len j hj; omega
          have R1 := Lib.hid (refPrio (lv := .slice B kB dB) hra hl1 id hpr)
          have c0 := hbx.cell 0
          have c1 := hbx.cell 1
          have l4 := hbx.lt
          simp only [List.getElem?_toArray, List.getElem?_cons_zero, List.getElem?_cons_succ] at c0 c1
          have HPR := Lib.hid hpr
          have HL1 := Lib.hid hl1
          clear hbx hra hrn hpr hl1
          go_wp2_with fail
          refine (R1.out).mono ?_
          rintro e w7 ⟨rfl, t7⟩
          have H7 := Lib.hid (H6.out.carry t7)
          have HBA7 := Lib.hid (HBA.out.carry t7 (by simp))
          have HU7 := Lib.hid (HU6.out.carry t7 (by simp))
          clear t7 R1 H6 HBA HU6 e0 e1 e4 l6 c0 c1 l4
          have l6 := HBA7.out.lt
          have e0 := HBA7.out.cell 0
          have e1 := HBA7.out.cell 1
          have e2 := HBA7.out.cell 2
          have e3 := HBA7.out.cell 3
          have e4 := HBA7.out.cell 4
          simp only [List.getElem?_toArray, List.getElem?_cons_zero, List.getElem?_cons_succ] at e0 e1 e2 e3 e4
          go_upto_block 2 with fail
          go_cut [3] (fun cc wx => AnyPlay wd b4 (k + 1) cc wx ∧ BoxV wx a6 33 #[.int .i64 dw, .int .i64 id, .int .i64 pr, .int .i64 m, .slice Aa M.length ca])
          case first =>
            rcases (show dw = 0 ∨ dw = 1 ∨ dw = 2 ∨ dw = 3 ∨ dw = 4 ∨ (dw ≠ 0 ∧ dw ≠ 1 ∧ dw ≠ 2 ∧ dw ≠ 3 ∧ dw ≠ 4) by omega) with rfl | rfl | rfl | rfl | rfl | hd
            · as_aux_lemma =>
                obtain ⟨A, kA, dA, B, kB, dB, hbx, hst⟩ := H7.out.state
                obtain ⟨ok, L', C', s', J1, J2, hl', hs', hy'⟩ := join_both H7.out (by omega) hst id pr m hi HPR.out
                have J1 := Lib.hid J1
                have c0 := hbx.cell 0
                have c1 := hbx.cell 1
                have l4 := hbx.lt
                have f0 := hbx.fr 0
                simp only [List.getElem?_toArray, List.getElem?_cons_zero, List.getElem?_cons_succ] at c0 c1
                have HBX := Lib.hid hbx
                clear hbx hst
                go_wp2_with fail
                refine (J1.out).mono ?_
                rintro e w8 ⟨u, rfl, hs8, t8⟩
                obtain ⟨A2, k2, d2, B2, k3, d3, rfl⟩ := hs8.slices
                have T8 := Lib.hid t8
                have S8 := Lib.hid hs8
                clear t8 hs8 J1 c0 c1 l4 f0 e0 e1 e2 e3 e4 l6
                have hnew := BoxV.new w8 29 #[.slice A2 k2 d2, .slice B2 k3 d3]
                have hnlt := hnew.lt
                have g0 := hnew.cell 0
                have g1 := hnew.cell 1
                have T9 : Touch [] w8 (w8.alloc (.cells #[.slice A2 k2 d2, .slice B2 k3 d3] 29)) := (Touch.refl [] w8).alloc _
                have hb9 := (HBX.out.carry T8.out (by simp)).carry T9 (by simp)
                have c0 := hb9.cell 0
                have c1 := hb9.cell 1
                have l4 := hb9.lt
                have f0 := hb9.fr 0
                simp only [List.getElem?_toArray, List.getElem?_cons_zero, List.getElem?_cons_succ] at c0 c1
                simp only [List.getElem?_toArray, List.getElem?_cons_zero, List.getElem?_cons_succ] at g0 g1
                have HB9 := Lib.hid hb9
                have HT9 := Lib.hid T9
                clear hnew hb9 T9
                go_upto_region 17 with fail
                generalize w8.alloc (.cells #[.slice A2 k2 d2, .slice B2 k3 d3] 29) = w9 at *
                generalize w8.heap.size = b9 at *
                have hst1 := HB9.out.set 0 (.slice A2 k2 d2)
                have d1 := hst1.cell 1
                have f1 := hst1.fr 1
                have hst2 := hst1.set 1 (.slice B2 k3 d3)
                simp only [List.setIfInBounds_toArray, List.set_cons_succ, List.set_cons_zero, List.getElem?_toArray, List.getElem?_cons_zero, List.getElem?_cons_succ] at d1
                have TS : Touch [b4] w9 ((w9.setCell ⟨b4, 0, none⟩ (.slice A2 k2 d2)).setCell ⟨b4, 1, none⟩ (.slice B2 k3 d3)) := ((Touch.refl [b4] w9).setCell (a := ⟨b4, 0, none⟩) (.inl (by simp)) _).setCell (a := ⟨b4, 1, none⟩) (.inl (by simp)) _
                have HB10 := Lib.hid hst2
                have T10 := Lib.hid TS
                clear hst1 hst2 TS
                go_upto_region 18 with fail
                generalize (w9.setCell ⟨b4, 0, none⟩ (.slice A2 k2 d2)).setCell ⟨b4, 1, none⟩ (.slice B2 k3 d3) = w10 at *
                have HB10 := Lib.hid (show BoxV w10 b4 29 #[.slice A2 k2 d2, .slice B2 k3 d3] from HB10.out)
                have ha10 := ((HBA7.out.carry (T8.out.trans HT9.out (by simp)) (by simp))).carry T10.out (by simpa using (HNB.out b4 (by simp)))
                have J3 := Lib.hid (J2 w10 (H7.out.ahead (T8.out.trans HT9.out (by simp)) T10.out))
                unfold pt at J3
                have l6 := ha10.lt
                have e0 := ha10.cell 0
                have e1 := ha10.cell 1
                have e2 := ha10.cell 2
                have e3 := ha10.cell 3
                have e4 := ha10.cell 4
                simp only [List.getElem?_toArray, List.getElem?_cons_zero, List.getElem?_cons_succ] at e0 e1 e2 e3 e4
                have HA10 := Lib.hid ha10
                clear ha10 c0 c1 l4 f0 d1 f1 g0 g1 hnlt HB9 HBX
                go_wp2_with fail
                refine (J3.out).mono ?_
                rintro e w11 ⟨rfl, ha11, t11⟩
                have HP11 := Lib.hid (H7.out.after (T8.out.trans HT9.out (by simp)) (S8.out.carry HT9.out (by simp)) T10.out HB10.out ha11 t11 hl' hs' hy')
                have HA11 := Lib.hid (HA10.out.carry t11 (fun hm => HNB.out a6 (by simp [hm]) rfl))
                clear ha11 t11 J3 e0 e1 e2 e3 e4 l6
                go_wp2_with fail
                go_meet
                exact ⟨⟨_, _, _, _, _, _, _, rfl, HP11.out⟩, HA11.out⟩
            · as_aux_lemma =>
                obtain ⟨A, kA, dA, B, kB, dB, hbx, hst⟩ := H7.out.state
                obtain ⟨L', C', s', J1, J2, hl', hs', hy'⟩ := leave_both H7.out (by omega) hst id hi HPR.out
                have J1 := Lib.hid J1
                have c0 := hbx.cell 0
                have c1 := hbx.cell 1
                have l4 := hbx.lt
                have f0 := hbx.fr 0
                simp only [List.getElem?_toArray, List.getElem?_cons_zero, List.getElem?_cons_succ] at c0 c1
                have HBX := Lib.hid hbx
                clear hbx hst
                go_wp2_with fail
                refine (J1.out).mono ?_
                rintro e w8 ⟨u, rfl, hs8, t8⟩
                obtain ⟨A2, k2, d2, B2, k3, d3, rfl⟩ := hs8.slices
                have T8 := Lib.hid t8
                have S8 := Lib.hid hs8
                clear t8 hs8 J1 c0 c1 l4 f0 e0 e1 e2 e3 e4 l6
                have hnew := BoxV.new w8 29 #[.slice A2 k2 d2, .slice B2 k3 d3]
                have hnlt := hnew.lt
                have g0 := hnew.cell 0
                have g1 := hnew.cell 1
                have T9 : Touch [] w8 (w8.alloc (.cells #[.slice A2 k2 d2, .slice B2 k3 d3] 29)) := (Touch.refl [] w8).alloc _
                have hb9 := (HBX.out.carry T8.out (by simp)).carry T9 (by simp)
                have c0 := hb9.cell 0
                have c1 := hb9.cell 1
                have l4 := hb9.lt
                have f0 := hb9.fr 0
                simp only [List.getElem?_toArray, List.getElem?_cons_zero, List.getElem?_cons_succ] at c0 c1
                simp only [List.getElem?_toArray, List.getElem?_cons_zero, List.getElem?_cons_succ] at g0 g1
                have HB9 := Lib.hid hb9
                have HT9 := Lib.hid T9
                clear hnew hb9 T9
                go_upto_region 22 with fail
                generalize w8.alloc (.cells #[.slice A2 k2 d2, .slice B2 k3 d3] 29) = w9 at *
                generalize w8.heap.size = b9 at *
                have hst1 := HB9.out.set 0 (.slice A2 k2 d2)
                have d1 := hst1.cell 1
                have f1 := hst1.fr 1
                have hst2 := hst1.set 1 (.slice B2 k3 d3)
                simp only [List.setIfInBounds_toArray, List.set_cons_succ, List.set_cons_zero, List.getElem?_toArray, List.getElem?_cons_zero, List.getElem?_cons_succ] at d1
                have TS : Touch [b4] w9 ((w9.setCell ⟨b4, 0, none⟩ (.slice A2 k2 d2)).setCell ⟨b4, 1, none⟩ (.slice B2 k3 d3)) := ((Touch.refl [b4] w9).setCell (a := ⟨b4, 0, none⟩) (.inl (by simp)) _).setCell (a := ⟨b4, 1, none⟩) (.inl (by simp)) _
                have HB10 := Lib.hid hst2
                have T10 := Lib.hid TS
                clear hst1 hst2 TS
                go_upto_region 23 with fail
                generalize (w9.setCell ⟨b4, 0, none⟩ (.slice A2 k2 d2)).setCell ⟨b4, 1, none⟩ (.slice B2 k3 d3) = w10 at *
                have HB10 := Lib.hid (show BoxV w10 b4 29 #[.slice A2 k2 d2, .slice B2 k3 d3] from HB10.out)
                have ha10 := ((HBA7.out.carry (T8.out.trans HT9.out (by simp)) (by simp))).carry T10.out (by simpa using (HNB.out b4 (by simp)))
                have J3 := Lib.hid (J2 w10 (H7.out.ahead (T8.out.trans HT9.out (by simp)) T10.out))
                unfold pt at J3
                have l6 := ha10.lt
                have e0 := ha10.cell 0
                have e1 := ha10.cell 1
                have e2 := ha10.cell 2
                have e3 := ha10.cell 3
                have e4 := ha10.cell 4
                simp only [List.getElem?_toArray, List.getElem?_cons_zero, List.getElem?_cons_succ] at e0 e1 e2 e3 e4
                have HA10 := Lib.hid ha10
                clear ha10 c0 c1 l4 f0 d1 f1 g0 g1 hnlt HB9 HBX
                go_wp2_with fail
                refine (J3.out).mono ?_
                rintro e w11 ⟨rfl, ha11, t11⟩
                have HP11 := Lib.hid (H7.out.after (T8.out.trans HT9.out (by simp)) (S8.out.carry HT9.out (by simp)) T10.out HB10.out ha11 t11 hl' hs' hy')
                have HA11 := Lib.hid (HA10.out.carry t11 (fun hm => HNB.out a6 (by simp [hm]) rfl))
                clear ha11 t11 J3 e0 e1 e2 e3 e4 l6
                go_wp2_with fail
                go_meet
                exact ⟨⟨_, _, _, _, _, _, _, rfl, HP11.out⟩, HA11.out⟩
            · as_aux_lemma =>
                obtain ⟨A, kA, dA, B, kB, dB, hbx, hst⟩ := H7.out.state
                obtain ⟨L', C', idp, ok, J1, J2, hl', hy'⟩ := pick_both H7.out (by omega) hst HU7.out (by omega) HFM.out (fun w2 t2 => HU7.out.carry t2 (by simp))
                have hs' : s ≤ k + 1 := Nat.le_succ_of_le H7.out.many
                have J1 := Lib.hid J1
                have c0 := hbx.cell 0
                have c1 := hbx.cell 1
                have l4 := hbx.lt
                have f0 := hbx.fr 0
                simp only [List.getElem?_toArray, List.getElem?_cons_zero, List.getElem?_cons_succ] at c0 c1
                have HBX := Lib.hid hbx
                clear hbx hst
                go_wp2_with fail
                refine (J1.out).mono ?_
                rintro e w8 ⟨u, rfl, hs8, t8⟩
                obtain ⟨A2, k2, d2, B2, k3, d3, rfl⟩ := hs8.slices
                have T8 := Lib.hid t8
                have S8 := Lib.hid hs8
                clear t8 hs8 J1 c0 c1 l4 f0 e0 e1 e2 e3 e4 l6
                have hnew := BoxV.new w8 29 #[.slice A2 k2 d2, .slice B2 k3 d3]
                have hnlt := hnew.lt
                have g0 := hnew.cell 0
                have g1 := hnew.cell 1
                have T9 : Touch [] w8 (w8.alloc (.cells #[.slice A2 k2 d2, .slice B2 k3 d3] 29)) := (Touch.refl [] w8).alloc _
                have hb9 := (HBX.out.carry T8.out (by simp)).carry T9 (by simp)
                have c0 := hb9.cell 0
                have c1 := hb9.cell 1
                have l4 := hb9.lt
                have f0 := hb9.fr 0
                simp only [List.getElem?_toArray, List.getElem?_cons_zero, List.getElem?_cons_succ] at c0 c1
                simp only [List.getElem?_toArray, List.getElem?_cons_zero, List.getElem?_cons_succ] at g0 g1
                have HB9 := Lib.hid hb9
                have HT9 := Lib.hid T9
                clear hnew hb9 T9
                go_upto_region 27 with fail
                generalize w8.alloc (.cells #[.slice A2 k2 d2, .slice B2 k3 d3] 29) = w9 at *
                generalize w8.heap.size = b9 at *
                have hst1 := HB9.out.set 0 (.slice A2 k2 d2)
                have d1 := hst1.cell 1
                have f1 := hst1.fr 1
                have hst2 := hst1.set 1 (.slice B2 k3 d3)
                simp only [List.setIfInBounds_toArray, List.set_cons_succ, List.set_cons_zero, List.getElem?_toArray, List.getElem?_cons_zero, List.getElem?_cons_succ] at d1
                have TS : Touch [b4] w9 ((w9.setCell ⟨b4, 0, none⟩ (.slice A2 k2 d2)).setCell ⟨b4, 1, none⟩ (.slice B2 k3 d3)) := ((Touch.refl [b4] w9).setCell (a := ⟨b4, 0, none⟩) (.inl (by simp)) _).setCell (a := ⟨b4, 1, none⟩) (.inl (by simp)) _
                have HB10 := Lib.hid hst2
                have T10 := Lib.hid TS
                clear hst1 hst2 TS
                go_upto_region 28 with fail
                generalize (w9.setCell ⟨b4, 0, none⟩ (.slice A2 k2 d2)).setCell ⟨b4, 1, none⟩ (.slice B2 k3 d3) = w10 at *
                have HB10 := Lib.hid (show BoxV w10 b4 29 #[.slice A2 k2 d2, .slice B2 k3 d3] from HB10.out)
                have ha10 := ((HBA7.out.carry (T8.out.trans HT9.out (by simp)) (by simp))).carry T10.out (by simpa using (HNB.out b4 (by simp)))
                have J3 := Lib.hid (J2 w10 (H7.out.ahead (T8.out.trans HT9.out (by simp)) T10.out) (((T8.out.trans HT9.out (by simp)).mono (S' := [b4]) (by simp)).trans T10.out (by simp)))
                unfold pt at J3
                have l6 := ha10.lt
                have e0 := ha10.cell 0
                have e1 := ha10.cell 1
                have e2 := ha10.cell 2
                have e3 := ha10.cell 3
                have e4 := ha10.cell 4
                simp only [List.getElem?_toArray, List.getElem?_cons_zero, List.getElem?_cons_succ] at e0 e1 e2 e3 e4
                have HA10 := Lib.hid ha10
                clear ha10 c0 c1 l4 f0 d1 f1 g0 g1 hnlt HB9 HBX
                go_wp2_with fail
                refine (J3.out).mono ?_
                rintro e w11 ⟨rfl, ha11, t11⟩
                have HP11 := Lib.hid (H7.out.after (T8.out.trans HT9.out (by simp)) (S8.out.carry HT9.out (by simp)) T10.out HB10.out ha11 t11 hl' hs' hy')
                have HA11 := Lib.hid (HA10.out.carry t11 (fun hm => HNB.out a6 (by simp [hm]) rfl))
                clear ha11 t11 J3 e0 e1 e2 e3 e4 l6
                go_wp2_with fail
                go_meet
                exact ⟨⟨_, _, _, _, _, _, _, rfl, HP11.out⟩, HA11.out⟩
            · as_aux_lemma =>
                obtain ⟨A, kA, dA, B, kB, dB, hbx, hst⟩ := H7.out.state
                obtain ⟨L', C', s', J1, J2, hl', hs', hy'⟩ := sent_both H7.out (by omega) hst id m hi HPR.out
                have J1 := Lib.hid J1
                have c0 := hbx.cell 0
                have c1 := hbx.cell 1
                have l4 := hbx.lt
                have f0 := hbx.fr 0
                simp only [List.getElem?_toArray, List.getElem?_cons_zero, List.getElem?_cons_succ] at c0 c1
                have HBX := Lib.hid hbx
                clear hbx hst
                go_wp2_with fail
                refine (J1.out).mono ?_
                rintro e w8 ⟨u, rfl, hs8, t8⟩
                obtain ⟨A2, k2, d2, B2, k3, d3, rfl⟩ := hs8.slices
                have T8 := Lib.hid t8
                have S8 := Lib.hid hs8
                clear t8 hs8 J1 c0 c1 l4 f0 e0 e1 e2 e3 e4 l6
                have hb9 := HBX.out.carry T8.out (by simp)
                have c0 := hb9.cell 0
                have c1 := hb9.cell 1
                have l4 := hb9.lt
                have f0 := hb9.fr 0
                simp only [List.getElem?_toArray, List.getElem?_cons_zero, List.getElem?_cons_succ] at c0 c1
                have hst1 := hb9.set 0 (.slice A2 k2 d2)
                have d1 := hst1.cell 1
                have f1 := hst1.fr 1
                have hst2 := hst1.set 1 (.slice B2 k3 d3)
                simp only [List.setIfInBounds_toArray, List.set_cons_succ, List.set_cons_zero, List.getElem?_toArray, List.getElem?_cons_zero, List.getElem?_cons_succ] at d1
                have TS : Touch [b4] w8 ((w8.setCell ⟨b4, 0, none⟩ (.slice A2 k2 d2)).setCell ⟨b4, 1, none⟩ (.slice B2 k3 d3)) := ((Touch.refl [b4] w8).setCell (a := ⟨b4, 0, none⟩) (.inl (by simp)) _).setCell (a := ⟨b4, 1, none⟩) (.inl (by simp)) _
                have HB10 := Lib.hid hst2
                have T10 := Lib.hid TS
                clear hb9 hst1 hst2 TS HBX
                go_upto_region 33 with fail
                generalize (w8.setCell ⟨b4, 0, none⟩ (.slice A2 k2 d2)).setCell ⟨b4, 1, none⟩ (.slice B2 k3 d3) = w10 at *
                have HB10 := Lib.hid (show BoxV w10 b4 29 #[.slice A2 k2 d2, .slice B2 k3 d3] from HB10.out)
                have ha10 := (HBA7.out.carry T8.out (by simp)).carry T10.out (by simpa using (HNB.out b4 (by simp)))
                have J3 := Lib.hid (J2 w10 (H7.out.ahead T8.out T10.out))
                unfold pt at J3
                have l6 := ha10.lt
                have e0 := ha10.cell 0
                have e1 := ha10.cell 1
                have e2 := ha10.cell 2
                have e3 := ha10.cell 3
                have e4 := ha10.cell 4
                simp only [List.getElem?_toArray, List.getElem?_cons_zero, List.getElem?_cons_succ] at e0 e1 e2 e3 e4
                have HA10 := Lib.hid ha10
                clear ha10 c0 c1 l4 f0 d1 f1
                go_wp2_with fail
                refine (J3.out).mono ?_
                rintro e w11 ⟨rfl, ha11, t11⟩
                have HP11 := Lib.hid (H7.out.after T8.out S8.out T10.out HB10.out ha11 t11 hl' hs' hy')
                have HA11 := Lib.hid (HA10.out.carry t11 (fun hm => HNB.out a6 (by simp [hm]) rfl))
                clear ha11 t11 J3 e0 e1 e2 e3 e4 l6
                go_wp2_with fail
                go_meet
                exact ⟨⟨_, _, _, _, _, _, _, rfl, HP11.out⟩, HA11.out⟩
            · as_aux_lemma =>
                obtain ⟨A, kA, dA, B, kB, dB, hbx, hst⟩ := H7.out.state
                obtain ⟨rv, lv, he, hra, hrn⟩ := hst
                cases he
                have HBX := Lib.hid hbx
                have HRN := Lib.hid hrn
                have HRA := Lib.hid hra
                have HOK := Lib.hid H7.out.at'.cred.ok
                have HZL := Lib.hid H7.out.z
                clear hbx hra hrn
                go_upto_region 36 with fail
                clear e0 e1 e2 e3 e4 l6
                refine wp_region_store (wd := w7) 10 (Leaf.const (.pointer (some ⟨b4, 0, none⟩)) :: Leaf.const (.slice A kA dA) :: Leaf.const (.pointer (some ⟨b4, 1, none⟩)) :: Leaf.const (.slice B kB dB) :: Leaf.const (.pointer (some ⟨a6, 1, none⟩)) :: Leaf.const (.int .i64 id) :: Leaf.const (.pointer (some ⟨a6, 3, none⟩)) :: Leaf.const (.int .i64 m) :: Leaf.pred (RowsNew (b4 :: zone q c cb R) (k + 1) (giveA C id m)) :: Leaf.pred (fun v w => ∃ A2 k2 c2, v = .agg #[.slice A kA dA, .slice A2 k2 c2] ∧ RowsNew (b4 :: zone q c cb R) (k + 1) (giveA C id m) (.slice A2 k2 c2) w) :: Leaf.const undef :: []) (by kernel_rfl) (by kernel_rfl) (by kernel_rfl) (by kernel_rfl) ((Touch.refl _ _).drew) (⟨RowsNew.stab, RowsNew.stabB, trivial⟩) ?_ ?_
                · intro i o ho hin ac w ht hk hd
                  match i, ho, hin with
                  | 0, ho, hin =>
                    have ho' : some _ = some o := ho
                    cases ho'
                    clear ho
                    have e4 := known_slot hk 4 (by kernel_rfl) (v := .pointer (some ⟨b4, 0, none⟩)) rfl
                    exact do_value (wanted_none rfl) (v := .pointer (some ⟨b4, 0, none⟩)) (run_value rfl (by rw [e4]; simp [go_sem])) rfl
                  | 1, ho, hin =>
                    have ho' : some _ = some o := ho
                    cases ho'
                    clear ho
                    have e149 := has_const (has_dep hd 0 (by kernel_rfl)) rfl rfl rfl (c := (.pointer (some ⟨b4, 0, none⟩)))
                    have c0 := (HBX.out.carry ht (by simp)).cell 0
                    simp only [List.getElem?_toArray, List.getElem?_cons_zero, List.getElem?_cons_succ] at c0
                    exact do_value (wanted_none rfl) (v := .slice A kA dA) (run_value rfl (by rw [e149]; simp [go_sem, c0])) rfl
                  | 2, ho, hin =>
                    have ho' : some _ = some o := ho
                    cases ho'
                    clear ho
                    have e4 := known_slot hk 4 (by kernel_rfl) (v := .pointer (some ⟨b4, 0, none⟩)) rfl
                    exact do_value (wanted_none rfl) (v := .pointer (some ⟨b4, 1, none⟩)) (run_value rfl (by rw [e4]; simp [go_sem])) rfl
                  | 3, ho, hin =>
                    have ho' : some _ = some o := ho
                    cases ho'
                    clear ho
                    have e151 := has_const (has_dep hd 2 (by kernel_rfl)) rfl rfl rfl (c := (.pointer (some ⟨b4, 1, none⟩)))
                    have c1 := (HBX.out.carry ht (by simp)).cell 1
                    simp only [List.getElem?_toArray, List.getElem?_cons_zero, List.getElem?_cons_succ] at c1
                    exact do_value (wanted_none rfl) (v := .slice B kB dB) (run_value rfl (by rw [e151]; simp [go_sem, c1])) rfl
                  | 4, ho, hin =>
                    have ho' : some _ = some o := ho
                    cases ho'
                    clear ho
                    have e6 := known_slot hk 6 (by kernel_rfl) (v := .pointer (some ⟨a6, 0, none⟩)) rfl
                    exact do_value (wanted_none rfl) (v := .pointer (some ⟨a6, 1, none⟩)) (run_value rfl (by rw [e6]; simp [go_sem])) rfl
                  | 5, ho, hin =>
                    have ho' : some _ = some o := ho
                    cases ho'
                    clear ho
                    have e153 := has_const (has_dep hd 4 (by kernel_rfl)) rfl rfl rfl (c := (.pointer (some ⟨a6, 1, none⟩)))
                    have e1 := (HBA7.out.carry ht (by simp)).cell 1
                    simp only [List.getElem?_toArray, List.getElem?_cons_zero, List.getElem?_cons_succ] at e1
                    exact do_value (wanted_none rfl) (v := .int .i64 id) (run_value rfl (by rw [e153]; simp [go_sem, e1])) rfl
                  | 6, ho, hin =>
                    have ho' : some _ = some o := ho
                    cases ho'
                    clear ho
                    have e6 := known_slot hk 6 (by kernel_rfl) (v := .pointer (some ⟨a6, 0, none⟩)) rfl
                    exact do_value (wanted_none rfl) (v := .pointer (some ⟨a6, 3, none⟩)) (run_value rfl (by rw [e6]; simp [go_sem])) rfl
                  | 7, ho, hin =>
                    have ho' : some _ = some o := ho
                    cases ho'
                    clear ho
                    have e155 := has_const (has_dep hd 6 (by kernel_rfl)) rfl rfl rfl (c := (.pointer (some ⟨a6, 3, none⟩)))
                    have e3 := (HBA7.out.carry ht (by simp)).cell 3
                    simp only [List.getElem?_toArray, List.getElem?_cons_zero, List.getElem?_cons_succ] at e3
                    exact do_value (wanted_none rfl) (v := .int .i64 m) (run_value rfl (by rw [e155]; simp [go_sem, e3])) rfl
                  | 8, ho, hin =>
                    have ho' : some _ = some o := ho
                    cases ho'
                    clear ho
                    have e152 := has_const (has_dep hd 3 (by kernel_rfl)) rfl rfl rfl (c := (.slice B kB dB))
                    have e154 := has_const (has_dep hd 5 (by kernel_rfl)) rfl rfl rfl (c := (.int .i64 id))
                    have e156 := has_const (has_dep hd 7 (by kernel_rfl)) rfl rfl rfl (c := (.int .i64 m))
                    refine do_enter (wanted_none rfl) (f := 19) (args := #[(.slice B kB dB), (.int .i64 id), (.int .i64 m)]) (by rw [run_go3 19 _ _ rfl, ent19]; simp [eval_c, e152, e154, e156]) ?_
                    exact (refGiveA (HRN.out.carry ht (by simp)) HOK.out (by omega) (fun b hb => Nat.lt_of_lt_of_le (HZL.out b hb) ht.size) id m).mono fun e w2 ⟨v, he, h, t⟩ => ⟨v, he, h.more, t⟩
                  | 9, ho, hin =>
                    have ho' : some _ = some o := ho
                    cases ho'
                    clear ho
                    have e150 := has_const (has_dep hd 1 (by kernel_rfl)) rfl rfl rfl (c := (.slice A kA dA))
                    obtain ⟨v157, e157, h157⟩ := has_pred (has_dep hd 8 (by kernel_rfl)) rfl rfl rfl (φ := RowsNew (b4 :: zone q c cb R) (k + 1) (giveA C id m))
                    obtain ⟨A157, k157, c157, rfl⟩ := h157.slice
                    exact do_value (wanted_none rfl) (v := .agg #[.slice A kA dA, .slice A157 k157 c157]) (run_value rfl (by simp only [List.map_toArray, List.map_cons, List.map_nil, e150, e157]; exact buildS _ _ _ _ _ _ w)) ⟨_, _, _, rfl, h157⟩
                  | 10, ho, hin => exact absurd hin (by omega)
                  | q + 11, ho, hin => exact absurd ho (by simp)
                · intro x w8 T8 hkn
                  obtain ⟨hx8, ⟨A2, k2, d2, hx9, hr9⟩, _⟩ := hkn
                  simp only [putL, Act.put, List.setIfInBounds_toArray, List.set_cons_succ, List.set_cons_zero, List.drop]
                  rw [hx9]
                  have T8 := Lib.hid T8
                  have S8 := Lib.hid (show StateV (b4 :: zone q c cb R) (k + 1) L (giveA C id m) (.agg #[.slice A kA dA, .slice A2 k2 d2]) w8 from ⟨_, _, rfl, HRA.out.carry T8.out (by simp), hr9⟩)
                  have hb9 := HBX.out.carry T8.out (by simp)
                  have c0 := hb9.cell 0
                  have c1 := hb9.cell 1
                  have l4 := hb9.lt
                  have f0 := hb9.fr 0
                  simp only [List.getElem?_toArray, List.getElem?_cons_zero, List.getElem?_cons_succ] at c0 c1
                  have hst1 := hb9.set 0 (.slice A kA dA)
                  have d1 := hst1.cell 1
                  have f1 := hst1.fr 1
                  have hst2 := hst1.set 1 (.slice A2 k2 d2)
                  simp only [List.setIfInBounds_toArray, List.set_cons_succ, List.set_cons_zero, List.getElem?_toArray, List.getElem?_cons_zero, List.getElem?_cons_succ] at d1
                  have TS : Touch [b4] w8 ((w8.setCell ⟨b4, 0, none⟩ (.slice A kA dA)).setCell ⟨b4, 1, none⟩ (.slice A2 k2 d2)) := ((Touch.refl [b4] w8).setCell (a := ⟨b4, 0, none⟩) (.inl (by simp)) _).setCell (a := ⟨b4, 1, none⟩) (.inl (by simp)) _
                  have HB10 := Lib.hid hst2
                  have T10 := Lib.hid TS
                  clear hb9 hst1 hst2 TS HBX hr9 HRA HRN
                  go_upto_region 37 with fail
                  generalize (w8.setCell ⟨b4, 0, none⟩ (.slice A kA dA)).setCell ⟨b4, 1, none⟩ (.slice A2 k2 d2) = w10 at *
                  have HB10 := Lib.hid (show BoxV w10 b4 29 #[.slice A kA dA, .slice A2 k2 d2] from HB10.out)
                  have ha10 := (HBA7.out.carry T8.out (by simp)).carry T10.out (by simpa using (HNB.out b4 (by simp)))
                  have hs0 : s < 1000 := by have := H7.out.many; omega
                  have J2 := giveW_any (H7.out.ahead T8.out T10.out) hs0 id m hi
                  rw [H7.out.sync.in_iff HPR.out] at J2
                  have J3 := Lib.hid J2
                  have hl' : ∀ j, j < 8 → (L j).length ≤ k + 1 := fun j hj => Nat.le_succ_of_le (H7.out.len j hj)
                  have hs' : s ≤ k + 1 := Nat.le_succ_of_le H7.out.many
                  have hy' := H7.out.sync.credit (giveA_dom C id m)
                  clear J2
                  unfold pt at J3
                  have l6 := ha10.lt
                  have e0 := ha10.cell 0
                  have e1 := ha10.cell 1
                  have e2 := ha10.cell 2
                  have e3 := ha10.cell 3
                  have e4 := ha10.cell 4
                  simp only [List.getElem?_toArray, List.getElem?_cons_zero, List.getElem?_cons_succ] at e0 e1 e2 e3 e4
                  have HA10 := Lib.hid ha10
                  clear ha10 c0 c1 l4 f0 d1 f1
                  go_wp2_with fail
                  refine (J3.out).mono ?_
                  rintro e w11 ⟨rfl, ha11, t11⟩
                  have HP11 := Lib.hid (H7.out.after T8.out S8.out T10.out HB10.out ha11 t11 hl' hs' hy')
                  have HA11 := Lib.hid (HA10.out.carry t11 (fun hm => HNB.out a6 (by simp [hm]) rfl))
                  clear ha11 t11 J3 e0 e1 e2 e3 e4 l6
                  go_wp2_with fail
                  go_meet
                  exact ⟨⟨_, _, _, _, _, _, _, rfl, HP11.out⟩, HA11.out⟩
            · as_aux_lemma =>
                have hl5 : ∀ j, j < 8 → (L j).length ≤ 100000 := fun j hj => by have := H7.out.len j hj; omega
                have K1 := Lib.hid (copyW H7.out.at' hl5)
                have hs0 : s < 1000 := by have := H7.out.many; omega
                unfold pt WCopyPost at K1
                have b0 : (dw == 0) = false := by simpa using hd.1
                have b1 : (dw == 1) = false := by simpa using hd.2.1
                have b2 : (dw == 2) = false := by simpa using hd.2.2.1
                have b3 : (dw == 3) = false := by simpa using hd.2.2.2.1
                have b5 : (dw == 4) = false := by simpa using hd.2.2.2.2
                clear hd
                go_wp2_with fail
                refine (K1.out).mono ?_
                rintro e w8 ⟨q2, c2, cb2, R2, rfl, ha8, hz8, t8⟩
                have HZ8 := Lib.hid hz8
                have T8 := Lib.hid t8
                have K2 := Lib.hid (pick_some ha8 (HU7.out.carry t8 (by simp)) (by omega) HFM.out (kk := 100000) hl5 (Nat.le_refl _) hs0 H7.out.sync.mem)
                have ha := HBA7.out.carry t8 (by simp)
                clear K1 ha8 hz8 t8 e0 e1 e2 e3 e4 l6
                have l6 := ha.lt
                have e0 := ha.cell 0
                have e1 := ha.cell 1
                have e2 := ha.cell 2
                have e3 := ha.cell 3
                have e4 := ha.cell 4
                simp only [List.getElem?_toArray, List.getElem?_cons_zero, List.getElem?_cons_succ] at e0 e1 e2 e3 e4
                clear ha
                unfold pt
                unfold pt at K2
                go_wp2_with fail
                refine (K2.out).mono ?_
                rintro e w9 ⟨v9, L9, C9, rfl, ha9, hl9, hm9, t9⟩
                have T9 := Lib.hid (T8.out.trans t9 (fun b hb => .inr (HZ8.out b hb)))
                have K3 := Lib.hid (leave_some ha9 id hi hl9 (Nat.le_refl _) hm9)
                have ha := HBA7.out.carry T9.out (by simp)
                clear K2 ha9 hl9 hm9 t9 T8 e0 e1 e2 e3 e4 l6
                have l6 := ha.lt
                have e0 := ha.cell 0
                have e1 := ha.cell 1
                have e2 := ha.cell 2
                have e3 := ha.cell 3
                have e4 := ha.cell 4
                simp only [List.getElem?_toArray, List.getElem?_cons_zero, List.getElem?_cons_succ] at e0 e1 e2 e3 e4
                clear ha
                unfold pt at K3
                go_wp2_with fail
                refine (K3.out).mono ?_
                rintro e w10 ⟨v10, rfl, t10⟩
                have T10 := Lib.hid (T9.out.trans t10 (fun b hb => .inr (HZ8.out b hb)))
                have H10 := Lib.hid (H7.out.carry T10.out)
                have K4 := Lib.hid (copyW H10.out.at' hl5)
                unfold pt WCopyPost at K4
                clear K3 t10 T9 e0 e1 e2 e3 e4 l6
                go_wp2_with fail
                refine (K4.out).mono ?_
                rintro e w11 ⟨q3, c3, cb3, R3, rfl, ha11, hz11, t11⟩
                have HA11 := Lib.hid ((HBA7.out.carry T10.out (by simp)).carry t11 (by simp))
                have HP11 := Lib.hid (show PlayW wd b4 (k + 1) q3 c3 cb3 s R3 L C w11 from by
                  obtain ⟨A, kA, dA, B, kB, dB, hbx, hra, hrn⟩ := H10.out.st
                  have hav : ∀ b ∈ b4 :: zone q3 c3 cb3 R3, b ∈ b4 :: zone q c cb R ∨ w10.heap.size ≤ b := fun b hb => by
                    rw [List.mem_cons] at hb
                    rcases hb with rfl | hb
                    · exact .inl (by simp)
                    · exact .inr (hz11 b hb)
                  exact ⟨ha11, ⟨A, kA, dA, B, kB, dB, hbx.carry t11 (by simp), (hra.avoid hav).carry t11 (by simp), (hrn.avoid hav).more.carry t11 (by simp)⟩, fun b hb => Nat.le_trans H10.out.t.size (hz11 b hb), H10.out.low4, fun hm => by have h1 := hz11 _ hm; have h2 := hbx.lt; omega, fun j hj => Nat.le_succ_of_le (H10.out.len j hj), Nat.le_succ_of_le H10.out.many, H10.out.sync, H10.out.t.trans t11 (by simp)⟩)
                clear ha11 hz11 t11 K4
                unfold pt
                go_wp2_with fail
                go_meet
                exact ⟨⟨_, _, _, _, _, _, _, rfl, HP11.out⟩, HA11.out⟩
          case rest =>
            as_aux_lemma =>
              clear H7 HBA7 HU7 HPR HL1 HNB e0 e1 e2 e3 e4 l6
              obtain ⟨⟨q, c, cb, s, R, L, C, rfl, hP⟩, hba⟩ := hcut
              obtain ⟨np2, bp2, hpr⟩ := prio_is L id
              have hl1 : ∀ j, j < 8 → (L j).length ≤ 1000 := fun j hj => by have := hP.len j hj; omega
              have K1 := Lib.hid (prioW_any hP.at' id hi hpr)
              have HP := Lib.hid hP
              have HBA := Lib.hid hba
              have HPR := Lib.hid hpr
              clear hP hba hpr
              have l6 := HBA.out.lt
              have e0 := HBA.out.cell 0
              have e1 := HBA.out.cell 1
              have e2 := HBA.out.cell 2
              have e3 := HBA.out.cell 3
              have e4 := HBA.out.cell 4
              simp only [List.getElem?_toArray, List.getElem?_cons_zero, List.getElem?_cons_succ] at e0 e1 e2 e3 e4
              unfold pt
              unfold pt at K1
              go_wp2_with fail
              refine (K1.out).mono ?_
              rintro e w9 ⟨rfl, hw⟩
              subst hw
              obtain ⟨A, kA, dA, B, kB, dB, hbx, hst⟩ := HP.out.state
              obtain ⟨rv, lv, he, hra, hrn⟩ := hst
              cases he
              have K2 := Lib.hid (refPrio (lv := .slice B kB dB) hra hl1 id HPR.out)
              have c0 := hbx.cell 0
              have c1 := hbx.cell 1
              have l4 := hbx.lt
              have f0 := hbx.fr 0
              simp only [List.getElem?_toArray, List.getElem?_cons_zero, List.getElem?_cons_succ] at c0 c1
              clear hbx hra hrn K1
              go_wp2_with fail
              refine (K2.out).mono ?_
              rintro e w10 ⟨rfl, t10⟩
              have H10 := Lib.hid (HP.out.carry t10)
              have HBA10 := Lib.hid (HBA.out.carry t10 (by simp))
              have K3 := Lib.hid (creditW_any H10.out.at' id hi)
              clear t10 K2 HP HBA c0 c1 l4 f0 e0 e1 e2 e3 e4 l6
              have l6 := HBA10.out.lt
              have e0 := HBA10.out.cell 0
              have e1 := HBA10.out.cell 1
              have e2 := HBA10.out.cell 2
              have e3 := HBA10.out.cell 3
              have e4 := HBA10.out.cell 4
              simp only [List.getElem?_toArray, List.getElem?_cons_zero, List.getElem?_cons_succ] at e0 e1 e2 e3 e4
              unfold pt at K3
              go_wp2_with fail
              refine (K3.out).mono ?_
              rintro e w11 ⟨rfl, t11⟩
              have H11 := Lib.hid (H10.out.carry t11)
              have HBA11 := Lib.hid (HBA10.out.carry t11 (by simp))
              clear t11 K3 H10 HBA10 e0 e1 e2 e3 e4 l6
              obtain ⟨A, kA, dA, B, kB, dB, hbx, hst⟩ := H11.out.state
              obtain ⟨rv, lv, he, hra, hrn⟩ := hst
              cases he
              have K4 := Lib.hid (refOfA hrn (by omega) id)
              have c0 := hbx.cell 0
              have c1 := hbx.cell 1
              have l4 := hbx.lt
              have f0 := hbx.fr 0
              simp only [List.getElem?_toArray, List.getElem?_cons_zero, List.getElem?_cons_succ] at c0 c1
              have l6 := HBA11.out.lt
              have e0 := HBA11.out.cell 0
              have e1 := HBA11.out.cell 1
              have e2 := HBA11.out.cell 2
              have e3 := HBA11.out.cell 3
              have e4 := HBA11.out.cell 4
              simp only [List.getElem?_toArray, List.getElem?_cons_zero, List.getElem?_cons_succ] at e0 e1 e2 e3 e4
              clear hbx hra hrn
              go_wp2_with fail
              refine (K4.out).mono ?_
              rintro e w12 ⟨rfl, t12⟩
              have H12 := Lib.hid (H11.out.carry t12)
              have HBA12 := Lib.hid (HBA11.out.carry t12 (by simp))
              clear t12 K4 H11 HBA11 e0 e1 e2 e3 e4 l6 c0 c1 l4 f0
              go_upto_region 43 with fail
              generalize crd C id = cr at *
              generalize (C id).isSome = ci at *
              rcases (show pr < 0 ∨ 8 ≤ pr ∨ (0 ≤ pr ∧ pr < 8) by omega) with hp1 | hp1 | hp1
              · refine wp_region_leaves (wd := w12) (Leaf.const (.int .i64 np2) :: Leaf.const (.int .i64 np2) :: Leaf.const (.bool false) :: Leaf.const ((.bool false)) :: Leaf.const (.bool bp2) :: Leaf.const (.bool bp2) :: Leaf.const (.bool false) :: Leaf.const ((.bool false)) :: Leaf.const ((.bool false)) :: Leaf.const (.int .i64 cr) :: Leaf.const (.int .i64 cr) :: Leaf.const (.bool false) :: Leaf.const ((.bool false)) :: Leaf.const ((.bool false)) :: Leaf.const (.bool ci) :: Leaf.const (.bool ci) :: Leaf.const (.bool false) :: Leaf.const ((.bool false)) :: Leaf.const ((.bool false)) :: Leaf.const (.pointer (some ⟨a6, 2, none⟩)) :: Leaf.const (.int .i64 pr) :: Leaf.const (.bool false) :: Leaf.const ((.bool false)) :: Leaf.const (undef) :: Leaf.const (undef) :: Leaf.const (undef) :: Leaf.const (.bool false) :: Leaf.const ((.bool false)) :: Leaf.const (undef) :: Leaf.const (undef) :: Leaf.const (undef) :: Leaf.const (undef) :: Leaf.const (undef) :: Leaf.const (undef) :: Leaf.const (undef) :: Leaf.const (undef) :: Leaf.const (undef) :: Leaf.const (undef) :: Leaf.const (undef) :: Leaf.const (undef) :: Leaf.const (.bool false) :: Leaf.const ((.bool false)) :: []) (by kernel_rfl) (by kernel_rfl) (by kernel_rfl) ((Touch.refl _ _).drew) (trivial) ?_ ?_
                · intro i o ho ac w ht hk hd
                  match i, ho with
                  | 0, ho =>
                    have ho' : some _ = some o := ho
                    cases ho'
                    clear ho
                    have e19 := known_slot hk 19 (by kernel_rfl) (v := .int .i64 np2) rfl
                    exact do_value (wanted_none rfl) (by rw [BigFrame.run_move (.tmp 19) rfl, e19]) rfl
                  | 1, ho =>
                    have ho' : some _ = some o := ho
                    cases ho'
                    clear ho
                    have e21 := known_slot hk 21 (by kernel_rfl) (v := .int .i64 np2) rfl
                    exact do_value (wanted_none rfl) (by rw [BigFrame.run_move (.tmp 21) rfl, e21]) rfl
                  | 2, ho =>
                    have ho' : some _ = some o := ho
                    cases ho'
                    clear ho
                    have e196 := has_const (has_dep hd 0 (by kernel_rfl)) rfl rfl rfl (c := (.int .i64 np2))
                    have e197 := has_const (has_dep hd 1 (by kernel_rfl)) rfl rfl rfl (c := (.int .i64 np2))
                    exact do_value (wanted_none rfl) (v := .bool false) (run_value rfl (by rw [e196, e197]; simp [go_sem])) rfl
                  | 3, ho =>
                    have ho' : some _ = some o := ho
                    cases ho'
                    clear ho
                    have e198 := has_const (has_dep hd 2 (by kernel_rfl)) rfl rfl rfl (c := (.bool false))
                    exact do_value (wanted_none rfl) (by rw [BigFrame.run_move (.tmp 198) rfl, e198]) rfl
                  | 4, ho =>
                    have ho' : some _ = some o := ho
                    cases ho'
                    clear ho
                    have e199 := has_const (has_dep hd 3 (by kernel_rfl)) rfl rfl rfl (c := (.bool false))
                    have e20 := known_slot hk 20 (by kernel_rfl) (v := .bool bp2) rfl
                    exact do_value (wanted_some (g := 3) rfl rfl rfl e199) (by rw [BigFrame.run_move (.tmp 20) rfl, e20]) rfl
                  | 5, ho =>
                    have ho' : some _ = some o := ho
                    cases ho'
                    clear ho
                    have e199 := has_const (has_dep hd 3 (by kernel_rfl)) rfl rfl rfl (c := (.bool false))
                    have e22 := known_slot hk 22 (by kernel_rfl) (v := .bool bp2) rfl
                    exact do_value (wanted_some (g := 3) rfl rfl rfl e199) (by rw [BigFrame.run_move (.tmp 22) rfl, e22]) rfl
                  | 6, ho =>
                    have ho' : some _ = some o := ho
                    cases ho'
                    clear ho
                    have e199 := has_const (has_dep hd 3 (by kernel_rfl)) rfl rfl rfl (c := (.bool false))
                    have e200 := has_const (has_dep hd 4 (by kernel_rfl)) rfl rfl rfl (c := (.bool bp2))
                    have e201 := has_const (has_dep hd 5 (by kernel_rfl)) rfl rfl rfl (c := (.bool bp2))
                    exact do_value (wanted_some (g := 3) rfl rfl rfl e199) (v := .bool false) (run_value rfl (by rw [e200, e201]; simp [go_sem])) rfl
                  | 7, ho =>
                    have ho' : some _ = some o := ho
                    cases ho'
                    clear ho
                    have e199 := has_const (has_dep hd 3 (by kernel_rfl)) rfl rfl rfl (c := (.bool false))
                    have e202 := has_const (has_dep hd 6 (by kernel_rfl)) rfl rfl rfl (c := (.bool false))
                    exact do_value (wanted_none rfl) (by rw [run_pickF (c := .tmp 199) (x := .const (.bool true)) (y := .tmp 202) rfl e199, e202]) rfl
                  | 8, ho =>
                    have ho' : some _ = some o := ho
                    cases ho'
                    clear ho
                    have e203 := has_const (has_dep hd 7 (by kernel_rfl)) rfl rfl rfl (c := (.bool false))
                    exact do_value (wanted_none rfl) (by rw [BigFrame.run_move (.tmp 203) rfl, e203]) rfl
                  | 9, ho =>
                    have ho' : some _ = some o := ho
                    cases ho'
                    clear ho
                    have e204 := has_const (has_dep hd 8 (by kernel_rfl)) rfl rfl rfl (c := (.bool false))
                    have e23 := known_slot hk 23 (by kernel_rfl) (v := .int .i64 cr) rfl
                    exact do_value (wanted_some (g := 8) rfl rfl rfl e204) (by rw [BigFrame.run_move (.tmp 23) rfl, e23]) rfl
                  | 10, ho =>
                    have ho' : some _ = some o := ho
                    cases ho'
                    clear ho
                    have e204 := has_const (has_dep hd 8 (by kernel_rfl)) rfl rfl rfl (c := (.bool false))
                    have e25 := known_slot hk 25 (by kernel_rfl) (v := .int .i64 cr) rfl
                    exact do_value (wanted_some (g := 8) rfl rfl rfl e204) (by rw [BigFrame.run_move (.tmp 25) rfl, e25]) rfl
                  | 11, ho =>
                    have ho' : some _ = some o := ho
                    cases ho'
                    clear ho
                    have e204 := has_const (has_dep hd 8 (by kernel_rfl)) rfl rfl rfl (c := (.bool false))
                    have e205 := has_const (has_dep hd 9 (by kernel_rfl)) rfl rfl rfl (c := (.int .i64 cr))
                    have e206 := has_const (has_dep hd 10 (by kernel_rfl)) rfl rfl rfl (c := (.int .i64 cr))
                    exact do_value (wanted_some (g := 8) rfl rfl rfl e204) (v := .bool false) (run_value rfl (by rw [e205, e206]; simp [go_sem])) rfl
                  | 12, ho =>
                    have ho' : some _ = some o := ho
                    cases ho'
                    clear ho
                    have e204 := has_const (has_dep hd 8 (by kernel_rfl)) rfl rfl rfl (c := (.bool false))
                    have e207 := has_const (has_dep hd 11 (by kernel_rfl)) rfl rfl rfl (c := (.bool false))
                    exact do_value (wanted_none rfl) (by rw [run_pickF (c := .tmp 204) (x := .const (.bool true)) (y := .tmp 207) rfl e204, e207]) rfl
                  | 13, ho =>
                    have ho' : some _ = some o := ho
                    cases ho'
                    clear ho
                    have e208 := has_const (has_dep hd 12 (by kernel_rfl)) rfl rfl rfl (c := (.bool false))
                    exact do_value (wanted_none rfl) (by rw [BigFrame.run_move (.tmp 208) rfl, e208]) rfl
                  | 14, ho =>
                    have ho' : some _ = some o := ho
                    cases ho'
                    clear ho
                    have e209 := has_const (has_dep hd 13 (by kernel_rfl)) rfl rfl rfl (c := (.bool false))
                    have e24 := known_slot hk 24 (by kernel_rfl) (v := .bool ci) rfl
                    exact do_value (wanted_some (g := 13) rfl rfl rfl e209) (by rw [BigFrame.run_move (.tmp 24) rfl, e24]) rfl
                  | 15, ho =>
                    have ho' : some _ = some o := ho
                    cases ho'
                    clear ho
                    have e209 := has_const (has_dep hd 13 (by kernel_rfl)) rfl rfl rfl (c := (.bool false))
                    have e26 := known_slot hk 26 (by kernel_rfl) (v := .bool ci) rfl
                    exact do_value (wanted_some (g := 13) rfl rfl rfl e209) (by rw [BigFrame.run_move (.tmp 26) rfl, e26]) rfl
                  | 16, ho =>
                    have ho' : some _ = some o := ho
                    cases ho'
                    clear ho
                    have e209 := has_const (has_dep hd 13 (by kernel_rfl)) rfl rfl rfl (c := (.bool false))
                    have e210 := has_const (has_dep hd 14 (by kernel_rfl)) rfl rfl rfl (c := (.bool ci))
                    have e211 := has_const (has_dep hd 15 (by kernel_rfl)) rfl rfl rfl (c := (.bool ci))
                    exact do_value (wanted_some (g := 13) rfl rfl rfl e209) (v := .bool false) (run_value rfl (by rw [e210, e211]; simp [go_sem])) rfl
                  | 17, ho =>
                    have ho' : some _ = some o := ho
                    cases ho'
                    clear ho
                    have e209 := has_const (has_dep hd 13 (by kernel_rfl)) rfl rfl rfl (c := (.bool false))
                    have e212 := has_const (has_dep hd 16 (by kernel_rfl)) rfl rfl rfl (c := (.bool false))
                    exact do_value (wanted_none rfl) (by rw [run_pickF (c := .tmp 209) (x := .const (.bool true)) (y := .tmp 212) rfl e209, e212]) rfl
                  | 18, ho =>
                    have ho' : some _ = some o := ho
                    cases ho'
                    clear ho
                    have e213 := has_const (has_dep hd 17 (by kernel_rfl)) rfl rfl rfl (c := (.bool false))
                    exact do_value (wanted_none rfl) (by rw [BigFrame.run_move (.tmp 213) rfl, e213]) rfl
                  | 19, ho =>
                    have ho' : some _ = some o := ho
                    cases ho'
                    clear ho
                    have e214 := has_const (has_dep hd 18 (by kernel_rfl)) rfl rfl rfl (c := (.bool false))
                    have e6 := known_slot hk 6 (by kernel_rfl) (v := .pointer (some ⟨a6, 0, none⟩)) rfl
                    exact do_value (wanted_some (g := 18) rfl rfl rfl e214) (v := .pointer (some ⟨a6, 2, none⟩)) (run_value rfl (by rw [e6]; simp [go_sem])) rfl
                  | 20, ho =>
                    have ho' : some _ = some o := ho
                    cases ho'
                    clear ho
                    have e214 := has_const (has_dep hd 18 (by kernel_rfl)) rfl rfl rfl (c := (.bool false))
                    have e215 := has_const (has_dep hd 19 (by kernel_rfl)) rfl rfl rfl (c := (.pointer (some ⟨a6, 2, none⟩)))
                    have e2 := (HBA12.out.carry ht (by simp)).cell 2
                    simp only [List.getElem?_toArray, List.getElem?_cons_zero, List.getElem?_cons_succ] at e2
                    exact do_value (wanted_some (g := 18) rfl rfl rfl e214) (v := .int .i64 pr) (run_value rfl (by rw [e215]; simp [go_sem, e2])) rfl
                  | 21, ho =>
                    have ho' : some _ = some o := ho
                    cases ho'
                    clear ho
                    have e214 := has_const (has_dep hd 18 (by kernel_rfl)) rfl rfl rfl (c := (.bool false))
                    have e216 := has_const (has_dep hd 20 (by kernel_rfl)) rfl rfl rfl (c := (.int .i64 pr))
                    exact do_value (wanted_some (g := 18) rfl rfl rfl e214) (v := .bool false) (run_value rfl (by rw [e216]; (first | (simp [go_sem]; done) | (simp [go_sem]; omega)))) rfl
                  | 22, ho =>
                    have ho' : some _ = some o := ho
                    cases ho'
                    clear ho
                    have e214 := has_const (has_dep hd 18 (by kernel_rfl)) rfl rfl rfl (c := (.bool false))
                    have e217 := has_const (has_dep hd 21 (by kernel_rfl)) rfl rfl rfl (c := (.bool false))
                    exact do_value (wanted_some (g := 18) rfl rfl rfl e214) (by rw [BigFrame.run_move (.tmp 217) rfl, e217]) rfl
                  | 23, ho =>
                    have ho' : some _ = some o := ho
                    cases ho'
                    clear ho
                    have e218 := has_const (has_dep hd 22 (by kernel_rfl)) rfl rfl rfl (c := (.bool false))
                    exact do_skip (wanted_not (g := 22) rfl rfl rfl e218) rfl
                  | 24, ho =>
                    have ho' : some _ = some o := ho
                    cases ho'
                    clear ho
                    have e218 := has_const (has_dep hd 22 (by kernel_rfl)) rfl rfl rfl (c := (.bool false))
                    exact do_skip (wanted_not (g := 22) rfl rfl rfl e218) rfl
                  | 25, ho =>
                    have ho' : some _ = some o := ho
                    cases ho'
                    clear ho
                    have e218 := has_const (has_dep hd 22 (by kernel_rfl)) rfl rfl rfl (c := (.bool false))
                    exact do_skip (wanted_not (g := 22) rfl rfl rfl e218) rfl
                  | 26, ho =>
                    have ho' : some _ = some o := ho
                    cases ho'
                    clear ho
                    have e214 := has_const (has_dep hd 18 (by kernel_rfl)) rfl rfl rfl (c := (.bool false))
                    have e218 := has_const (has_dep hd 22 (by kernel_rfl)) rfl rfl rfl (c := (.bool false))
                    exact do_value (wanted_some (g := 18) rfl rfl rfl e214) (by rw [run_pickF (c := .tmp 218) (x := .tmp 221) (y := .const (.bool false)) rfl e218, eval_c]) rfl
                  | 27, ho =>
                    have ho' : some _ = some o := ho
                    cases ho'
                    clear ho
                    have e214 := has_const (has_dep hd 18 (by kernel_rfl)) rfl rfl rfl (c := (.bool false))
                    have e222 := has_const (has_dep hd 26 (by kernel_rfl)) rfl rfl rfl (c := (.bool false))
                    exact do_value (wanted_some (g := 18) rfl rfl rfl e214) (by rw [BigFrame.run_move (.tmp 222) rfl, e222]) rfl
                  | 28, ho =>
                    have ho' : some _ = some o := ho
                    cases ho'
                    clear ho
                    have e223 := has_const (has_dep hd 27 (by kernel_rfl)) rfl rfl rfl (c := (.bool false))
                    exact do_skip (wanted_not (g := 27) rfl rfl rfl e223) rfl
                  | 29, ho =>
                    have ho' : some _ = some o := ho
                    cases ho'
                    clear ho
                    have e223 := has_const (has_dep hd 27 (by kernel_rfl)) rfl rfl rfl (c := (.bool false))
                    exact do_skip (wanted_not (g := 27) rfl rfl rfl e223) rfl
                  | 30, ho =>
                    have ho' : some _ = some o := ho
                    cases ho'
                    clear ho
                    have e223 := has_const (has_dep hd 27 (by kernel_rfl)) rfl rfl rfl (c := (.bool false))
                    exact do_skip (wanted_not (g := 27) rfl rfl rfl e223) rfl
                  | 31, ho =>
                    have ho' : some _ = some o := ho
                    cases ho'
                    clear ho
                    have e223 := has_const (has_dep hd 27 (by kernel_rfl)) rfl rfl rfl (c := (.bool false))
                    exact do_skip (wanted_not (g := 27) rfl rfl rfl e223) rfl
                  | 32, ho =>
                    have ho' : some _ = some o := ho
                    cases ho'
                    clear ho
                    have e223 := has_const (has_dep hd 27 (by kernel_rfl)) rfl rfl rfl (c := (.bool false))
                    exact do_skip (wanted_not (g := 27) rfl rfl rfl e223) rfl
                  | 33, ho =>
                    have ho' : some _ = some o := ho
                    cases ho'
                    clear ho
                    have e223 := has_const (has_dep hd 27 (by kernel_rfl)) rfl rfl rfl (c := (.bool false))
                    exact do_skip (wanted_not (g := 27) rfl rfl rfl e223) rfl
                  | 34, ho =>
                    have ho' : some _ = some o := ho
                    cases ho'
                    clear ho
                    have e223 := has_const (has_dep hd 27 (by kernel_rfl)) rfl rfl rfl (c := (.bool false))
                    exact do_skip (wanted_not (g := 27) rfl rfl rfl e223) rfl
                  | 35, ho =>
                    have ho' : some _ = some o := ho
                    cases ho'
                    clear ho
                    have e223 := has_const (has_dep hd 27 (by kernel_rfl)) rfl rfl rfl (c := (.bool false))
                    exact do_skip (wanted_not (g := 27) rfl rfl rfl e223) rfl
                  | 36, ho =>
                    have ho' : some _ = some o := ho
                    cases ho'
                    clear ho
                    have e223 := has_const (has_dep hd 27 (by kernel_rfl)) rfl rfl rfl (c := (.bool false))
                    exact do_skip (wanted_not (g := 27) rfl rfl rfl e223) rfl
                  | 37, ho =>
                    have ho' : some _ = some o := ho
                    cases ho'
                    clear ho
                    have e223 := has_const (has_dep hd 27 (by kernel_rfl)) rfl rfl rfl (c := (.bool false))
                    exact do_skip (wanted_not (g := 27) rfl rfl rfl e223) rfl
                  | 38, ho =>
                    have ho' : some _ = some o := ho
                    cases ho'
                    clear ho
                    have e223 := has_const (has_dep hd 27 (by kernel_rfl)) rfl rfl rfl (c := (.bool false))
                    exact do_skip (wanted_not (g := 27) rfl rfl rfl e223) rfl
                  | 39, ho =>
                    have ho' : some _ = some o := ho
                    cases ho'
                    clear ho
                    have e223 := has_const (has_dep hd 27 (by kernel_rfl)) rfl rfl rfl (c := (.bool false))
                    exact do_skip (wanted_not (g := 27) rfl rfl rfl e223) rfl
                  | 40, ho =>
                    have ho' : some _ = some o := ho
                    cases ho'
                    clear ho
                    have e214 := has_const (has_dep hd 18 (by kernel_rfl)) rfl rfl rfl (c := (.bool false))
                    have e223 := has_const (has_dep hd 27 (by kernel_rfl)) rfl rfl rfl (c := (.bool false))
                    exact do_value (wanted_some (g := 18) rfl rfl rfl e214) (by rw [run_pickF (c := .tmp 223) (x := .tmp 235) (y := .const (.bool false)) rfl e223, eval_c]) rfl
                  | 41, ho =>
                    have ho' : some _ = some o := ho
                    cases ho'
                    clear ho
                    have e214 := has_const (has_dep hd 18 (by kernel_rfl)) rfl rfl rfl (c := (.bool false))
                    have e236 := has_const (has_dep hd 40 (by kernel_rfl)) rfl rfl rfl (c := (.bool false))
                    exact do_value (wanted_none rfl) (by rw [run_pickF (c := .tmp 214) (x := .const (.bool true)) (y := .tmp 236) rfl e214, e236]) rfl
                  | q + 42, ho => exact absurd ho (by simp)
                · intro x w13 T13 hkn
                  have H13 := Lib.hid (H12.out.carry T13)
                  simp only [putL, Act.put, List.setIfInBounds_toArray, List.set_cons_succ, List.set_cons_zero]
                  clear T13 hkn
                  go_wp2_with fail
                  go_roundw
                  case rel => exact ⟨k + 1, by omega, by go_num, _, _, _, _, _, _, _, rfl, H13.out⟩
                  case measure => simp [intOf]; omega
              · have hp0 : 0 ≤ pr := by omega
                refine wp_region_leaves (wd := w12) (Leaf.const (.int .i64 np2) :: Leaf.const (.int .i64 np2) :: Leaf.const (.bool false) :: Leaf.const ((.bool false)) :: Leaf.const (.bool bp2) :: Leaf.const (.bool bp2) :: Leaf.const (.bool false) :: Leaf.const ((.bool false)) :: Leaf.const ((.bool false)) :: Leaf.const (.int .i64 cr) :: Leaf.const (.int .i64 cr) :: Leaf.const (.bool false) :: Leaf.const ((.bool false)) :: Leaf.const ((.bool false)) :: Leaf.const (.bool ci) :: Leaf.const (.bool ci) :: Leaf.const (.bool false) :: Leaf.const ((.bool false)) :: Leaf.const ((.bool false)) :: Leaf.const (.pointer (some ⟨a6, 2, none⟩)) :: Leaf.const (.int .i64 pr) :: Leaf.const (.bool true) :: Leaf.const ((.bool true)) :: Leaf.const (.pointer (some ⟨a6, 2, none⟩)) :: Leaf.const (.int .i64 pr) :: Leaf.const (.bool false) :: Leaf.const ((.bool false)) :: Leaf.const ((.bool false)) :: Leaf.const (undef) :: Leaf.const (undef) :: Leaf.const (undef) :: Leaf.const (undef) :: Leaf.const (undef) :: Leaf.const (undef) :: Leaf.const (undef) :: Leaf.const (undef) :: Leaf.const (undef) :: Leaf.const (undef) :: Leaf.const (undef) :: Leaf.const (undef) :: Leaf.const (.bool false) :: Leaf.const ((.bool false)) :: []) (by kernel_rfl) (by kernel_rfl) (by kernel_rfl) ((Touch.refl _ _).drew) (trivial) ?_ ?_
                · intro i o ho ac w ht hk hd
                  match i, ho with
                  | 0, ho =>
                    have ho' : some _ = some o := ho
                    cases ho'
                    clear ho
                    have e19 := known_slot hk 19 (by kernel_rfl) (v := .int .i64 np2) rfl
                    exact do_value (wanted_none rfl) (by rw [BigFrame.run_move (.tmp 19) rfl, e19]) rfl
                  | 1, ho =>
                    have ho' : some _ = some o := ho
                    cases ho'
                    clear ho
                    have e21 := known_slot hk 21 (by kernel_rfl) (v := .int .i64 np2) rfl
                    exact do_value (wanted_none rfl) (by rw [BigFrame.run_move (.tmp 21) rfl, e21]) rfl
                  | 2, ho =>
                    have ho' : some _ = some o := ho
                    cases ho'
                    clear ho
                    have e196 := has_const (has_dep hd 0 (by kernel_rfl)) rfl rfl rfl (c := (.int .i64 np2))
                    have e197 := has_const (has_dep hd 1 (by kernel_rfl)) rfl rfl rfl (c := (.int .i64 np2))
                    exact do_value (wanted_none rfl) (v := .bool false) (run_value rfl (by rw [e196, e197]; simp [go_sem])) rfl
                  | 3, ho =>
                    have ho' : some _ = some o := ho
                    cases ho'
                    clear ho
                    have e198 := has_const (has_dep hd 2 (by kernel_rfl)) rfl rfl rfl (c := (.bool false))
                    exact do_value (wanted_none rfl) (by rw [BigFrame.run_move (.tmp 198) rfl, e198]) rfl
                  | 4, ho =>
                    have ho' : some _ = some o := ho
                    cases ho'
                    clear ho
                    have e199 := has_const (has_dep hd 3 (by kernel_rfl)) rfl rfl rfl (c := (.bool false))
                    have e20 := known_slot hk 20 (by kernel_rfl) (v := .bool bp2) rfl
                    exact do_value (wanted_some (g := 3) rfl rfl rfl e199) (by rw [BigFrame.run_move (.tmp 20) rfl, e20]) rfl
                  | 5, ho =>
                    have ho' : some _ = some o := ho
                    cases ho'
                    clear ho
                    have e199 := has_const (has_dep hd 3 (by kernel_rfl)) rfl rfl rfl (c := (.bool false))
                    have e22 := known_slot hk 22 (by kernel_rfl) (v := .bool bp2) rfl
                    exact do_value (wanted_some (g := 3) rfl rfl rfl e199) (by rw [BigFrame.run_move (.tmp 22) rfl, e22]) rfl
                  | 6, ho =>
                    have ho' : some _ = some o := ho
                    cases ho'
                    clear ho
                    have e199 := has_const (has_dep hd 3 (by kernel_rfl)) rfl rfl rfl (c := (.bool false))
                    have e200 := has_const (has_dep hd 4 (by kernel_rfl)) rfl rfl rfl (c := (.bool bp2))
                    have e201 := has_const (has_dep hd 5 (by kernel_rfl)) rfl rfl rfl (c := (.bool bp2))
                    exact do_value (wanted_some (g := 3) rfl rfl rfl e199) (v := .bool false) (run_value rfl (by rw [e200, e201]; simp [go_sem])) rfl
                  | 7, ho =>
                    have ho' : some _ = some o := ho
                    cases ho'
                    clear ho
                    have e199 := has_const (has_dep hd 3 (by kernel_rfl)) rfl rfl rfl (c := (.bool false))
                    have e202 := has_const (has_dep hd 6 (by kernel_rfl)) rfl rfl rfl (c := (.bool false))
                    exact do_value (wanted_none rfl) (by rw [run_pickF (c := .tmp 199) (x := .const (.bool true)) (y := .tmp 202) rfl e199, e202]) rfl
                  | 8, ho =>
                    have ho' : some _ = some o := ho
                    cases ho'
                    clear ho
                    have e203 := has_const (has_dep hd 7 (by kernel_rfl)) rfl rfl rfl (c := (.bool false))
                    exact do_value (wanted_none rfl) (by rw [BigFrame.run_move (.tmp 203) rfl, e203]) rfl
                  | 9, ho =>
                    have ho' : some _ = some o := ho
                    cases ho'
                    clear ho
                    have e204 := has_const (has_dep hd 8 (by kernel_rfl)) rfl rfl rfl (c := (.bool false))
                    have e23 := known_slot hk 23 (by kernel_rfl) (v := .int .i64 cr) rfl
                    exact do_value (wanted_some (g := 8) rfl rfl rfl e204) (by rw [BigFrame.run_move (.tmp 23) rfl, e23]) rfl
                  | 10, ho =>
                    have ho' : some _ = some o := ho
                    cases ho'
                    clear ho
                    have e204 := has_const (has_dep hd 8 (by kernel_rfl)) rfl rfl rfl (c := (.bool false))
                    have e25 := known_slot hk 25 (by kernel_rfl) (v := .int .i64 cr) rfl
                    exact do_value (wanted_some (g := 8) rfl rfl rfl e204) (by rw [BigFrame.run_move (.tmp 25) rfl, e25]) rfl
                  | 11, ho =>
                    have ho' : some _ = some o := ho
                    cases ho'
                    clear ho
                    have e204 := has_const (has_dep hd 8 (by kernel_rfl)) rfl rfl rfl (c := (.bool false))
                    have e205 := has_const (has_dep hd 9 (by kernel_rfl)) rfl rfl rfl (c := (.int .i64 cr))
                    have e206 := has_const (has_dep hd 10 (by kernel_rfl)) rfl rfl rfl (c := (.int .i64 cr))
                    exact do_value (wanted_some (g := 8) rfl rfl rfl e204) (v := .bool false) (run_value rfl (by rw [e205, e206]; simp [go_sem])) rfl
                  | 12, ho =>
                    have ho' : some _ = some o := ho
                    cases ho'
                    clear ho
                    have e204 := has_const (has_dep hd 8 (by kernel_rfl)) rfl rfl rfl (c := (.bool false))
                    have e207 := has_const (has_dep hd 11 (by kernel_rfl)) rfl rfl rfl (c := (.bool false))
                    exact do_value (wanted_none rfl) (by rw [run_pickF (c := .tmp 204) (x := .const (.bool true)) (y := .tmp 207) rfl e204, e207]) rfl
                  | 13, ho =>
                    have ho' : some _ = some o := ho
                    cases ho'
                    clear ho
                    have e208 := has_const (has_dep hd 12 (by kernel_rfl)) rfl rfl rfl (c := (.bool false))
                    exact do_value (wanted_none rfl) (by rw [BigFrame.run_move (.tmp 208) rfl, e208]) rfl
                  | 14, ho =>
                    have ho' : some _ = some o := ho
                    cases ho'
                    clear ho
                    have e209 := has_const (has_dep hd 13 (by kernel_rfl)) rfl rfl rfl (c := (.bool false))
                    have e24 := known_slot hk 24 (by kernel_rfl) (v := .bool ci) rfl
                    exact do_value (wanted_some (g := 13) rfl rfl rfl e209) (by rw [BigFrame.run_move (.tmp 24) rfl, e24]) rfl
                  | 15, ho =>
                    have ho' : some _ = some o := ho
                    cases ho'
                    clear ho
                    have e209 := has_const (has_dep hd 13 (by kernel_rfl)) rfl rfl rfl (c := (.bool false))
                    have e26 := known_slot hk 26 (by kernel_rfl) (v := .bool ci) rfl
                    exact do_value (wanted_some (g := 13) rfl rfl rfl e209) (by rw [BigFrame.run_move (.tmp 26) rfl, e26]) rfl
                  | 16, ho =>
                    have ho' : some _ = some o := ho
                    cases ho'
                    clear ho
                    have e209 := has_const (has_dep hd 13 (by kernel_rfl)) rfl rfl rfl (c := (.bool false))
                    have e210 := has_const (has_dep hd 14 (by kernel_rfl)) rfl rfl rfl (c := (.bool ci))
                    have e211 := has_const (has_dep hd 15 (by kernel_rfl)) rfl rfl rfl (c := (.bool ci))
                    exact do_value (wanted_some (g := 13) rfl rfl rfl e209) (v := .bool false) (run_value rfl (by rw [e210, e211]; simp [go_sem])) rfl
                  | 17, ho =>
                    have ho' : some _ = some o := ho
                    cases ho'
                    clear ho
                    have e209 := has_const (has_dep hd 13 (by kernel_rfl)) rfl rfl rfl (c := (.bool false))
                    have e212 := has_const (has_dep hd 16 (by kernel_rfl)) rfl rfl rfl (c := (.bool false))
                    exact do_value (wanted_none rfl) (by rw [run_pickF (c := .tmp 209) (x := .const (.bool true)) (y := .tmp 212) rfl e209, e212]) rfl
                  | 18, ho =>
                    have ho' : some _ = some o := ho
                    cases ho'
                    clear ho
                    have e213 := has_const (has_dep hd 17 (by kernel_rfl)) rfl rfl rfl (c := (.bool false))
                    exact do_value (wanted_none rfl) (by rw [BigFrame.run_move (.tmp 213) rfl, e213]) rfl
                  | 19, ho =>
                    have ho' : some _ = some o := ho
                    cases ho'
                    clear ho
                    have e214 := has_const (has_dep hd 18 (by kernel_rfl)) rfl rfl rfl (c := (.bool false))
                    have e6 := known_slot hk 6 (by kernel_rfl) (v := .pointer (some ⟨a6, 0, none⟩)) rfl
                    exact do_value (wanted_some (g := 18) rfl rfl rfl e214) (v := .pointer (some ⟨a6, 2, none⟩)) (run_value rfl (by rw [e6]; simp [go_sem])) rfl
                  | 20, ho =>
                    have ho' : some _ = some o := ho
                    cases ho'
                    clear ho
                    have e214 := has_const (has_dep hd 18 (by kernel_rfl)) rfl rfl rfl (c := (.bool false))
                    have e215 := has_const (has_dep hd 19 (by kernel_rfl)) rfl rfl rfl (c := (.pointer (some ⟨a6, 2, none⟩)))
                    have e2 := (HBA12.out.carry ht (by simp)).cell 2
                    simp only [List.getElem?_toArray, List.getElem?_cons_zero, List.getElem?_cons_succ] at e2
                    exact do_value (wanted_some (g := 18) rfl rfl rfl e214) (v := .int .i64 pr) (run_value rfl (by rw [e215]; simp [go_sem, e2])) rfl
                  | 21, ho =>
                    have ho' : some _ = some o := ho
                    cases ho'
                    clear ho
                    have e214 := has_const (has_dep hd 18 (by kernel_rfl)) rfl rfl rfl (c := (.bool false))
                    have e216 := has_const (has_dep hd 20 (by kernel_rfl)) rfl rfl rfl (c := (.int .i64 pr))
                    exact do_value (wanted_some (g := 18) rfl rfl rfl e214) (v := .bool true) (run_value rfl (by rw [e216]; (first | (simp [go_sem]; done) | (simp [go_sem]; omega)))) rfl
                  | 22, ho =>
                    have ho' : some _ = some o := ho
                    cases ho'
                    clear ho
                    have e214 := has_const (has_dep hd 18 (by kernel_rfl)) rfl rfl rfl (c := (.bool false))
                    have e217 := has_const (has_dep hd 21 (by kernel_rfl)) rfl rfl rfl (c := (.bool true))
                    exact do_value (wanted_some (g := 18) rfl rfl rfl e214) (by rw [BigFrame.run_move (.tmp 217) rfl, e217]) rfl
                  | 23, ho =>
                    have ho' : some _ = some o := ho
                    cases ho'
                    clear ho
                    have e218 := has_const (has_dep hd 22 (by kernel_rfl)) rfl rfl rfl (c := (.bool true))
                    have e6 := known_slot hk 6 (by kernel_rfl) (v := .pointer (some ⟨a6, 0, none⟩)) rfl
                    exact do_value (wanted_some (g := 22) rfl rfl rfl e218) (v := .pointer (some ⟨a6, 2, none⟩)) (run_value rfl (by rw [e6]; simp [go_sem])) rfl
                  | 24, ho =>
                    have ho' : some _ = some o := ho
                    cases ho'
                    clear ho
                    have e218 := has_const (has_dep hd 22 (by kernel_rfl)) rfl rfl rfl (c := (.bool true))
                    have e219 := has_const (has_dep hd 23 (by kernel_rfl)) rfl rfl rfl (c := (.pointer (some ⟨a6, 2, none⟩)))
                    have e2 := (HBA12.out.carry ht (by simp)).cell 2
                    simp only [List.getElem?_toArray, List.getElem?_cons_zero, List.getElem?_cons_succ] at e2
                    exact do_value (wanted_some (g := 22) rfl rfl rfl e218) (v := .int .i64 pr) (run_value rfl (by rw [e219]; simp [go_sem, e2])) rfl
                  | 25, ho =>
                    have ho' : some _ = some o := ho
                    cases ho'
                    clear ho
                    have e218 := has_const (has_dep hd 22 (by kernel_rfl)) rfl rfl rfl (c := (.bool true))
                    have e220 := has_const (has_dep hd 24 (by kernel_rfl)) rfl rfl rfl (c := (.int .i64 pr))
                    exact do_value (wanted_some (g := 22) rfl rfl rfl e218) (v := .bool false) (run_value rfl (by rw [e220]; (first | (simp [go_sem]; done) | (simp [go_sem]; omega)))) rfl
                  | 26, ho =>
                    have ho' : some _ = some o := ho
                    cases ho'
                    clear ho
                    have e214 := has_const (has_dep hd 18 (by kernel_rfl)) rfl rfl rfl (c := (.bool false))
                    have e218 := has_const (has_dep hd 22 (by kernel_rfl)) rfl rfl rfl (c := (.bool true))
                    have e221 := has_const (has_dep hd 25 (by kernel_rfl)) rfl rfl rfl (c := (.bool false))
                    exact do_value (wanted_some (g := 18) rfl rfl rfl e214) (by rw [run_pickT (c := .tmp 218) (x := .tmp 221) (y := .const (.bool false)) rfl e218, e221]) rfl
                  | 27, ho =>
                    have ho' : some _ = some o := ho
                    cases ho'
                    clear ho
                    have e214 := has_const (has_dep hd 18 (by kernel_rfl)) rfl rfl rfl (c := (.bool false))
                    have e222 := has_const (has_dep hd 26 (by kernel_rfl)) rfl rfl rfl (c := (.bool false))
                    exact do_value (wanted_some (g := 18) rfl rfl rfl e214) (by rw [BigFrame.run_move (.tmp 222) rfl, e222]) rfl
                  | 28, ho =>
                    have ho' : some _ = some o := ho
                    cases ho'
                    clear ho
                    have e223 := has_const (has_dep hd 27 (by kernel_rfl)) rfl rfl rfl (c := (.bool false))
                    exact do_skip (wanted_not (g := 27) rfl rfl rfl e223) rfl
                  | 29, ho =>
                    have ho' : some _ = some o := ho
                    cases ho'
                    clear ho
                    have e223 := has_const (has_dep hd 27 (by kernel_rfl)) rfl rfl rfl (c := (.bool false))
                    exact do_skip (wanted_not (g := 27) rfl rfl rfl e223) rfl
                  | 30, ho =>
                    have ho' : some _ = some o := ho
                    cases ho'
                    clear ho
                    have e223 := has_const (has_dep hd 27 (by kernel_rfl)) rfl rfl rfl (c := (.bool false))
                    exact do_skip (wanted_not (g := 27) rfl rfl rfl e223) rfl
                  | 31, ho =>
                    have ho' : some _ = some o := ho
                    cases ho'
                    clear ho
                    have e223 := has_const (has_dep hd 27 (by kernel_rfl)) rfl rfl rfl (c := (.bool false))
                    exact do_skip (wanted_not (g := 27) rfl rfl rfl e223) rfl
                  | 32, ho =>
                    have ho' : some _ = some o := ho
                    cases ho'
                    clear ho
                    have e223 := has_const (has_dep hd 27 (by kernel_rfl)) rfl rfl rfl (c := (.bool false))
                    exact do_skip (wanted_not (g := 27) rfl rfl rfl e223) rfl
                  | 33, ho =>
                    have ho' : some _ = some o := ho
                    cases ho'
                    clear ho
                    have e223 := has_const (has_dep hd 27 (by kernel_rfl)) rfl rfl rfl (c := (.bool false))
                    exact do_skip (wanted_not (g := 27) rfl rfl rfl e223) rfl
                  | 34, ho =>
                    have ho' : some _ = some o := ho
                    cases ho'
                    clear ho
                    have e223 := has_const (has_dep hd 27 (by kernel_rfl)) rfl rfl rfl (c := (.bool false))
                    exact do_skip (wanted_not (g := 27) rfl rfl rfl e223) rfl
                  | 35, ho =>
                    have ho' : some _ = some o := ho
                    cases ho'
                    clear ho
                    have e223 := has_const (has_dep hd 27 (by kernel_rfl)) rfl rfl rfl (c := (.bool false))
                    exact do_skip (wanted_not (g := 27) rfl rfl rfl e223) rfl
                  | 36, ho =>
                    have ho' : some _ = some o := ho
                    cases ho'
                    clear ho
                    have e223 := has_const (has_dep hd 27 (by kernel_rfl)) rfl rfl rfl (c := (.bool false))
                    exact do_skip (wanted_not (g := 27) rfl rfl rfl e223) rfl
                  | 37, ho =>
                    have ho' : some _ = some o := ho
                    cases ho'
                    clear ho
                    have e223 := has_const (has_dep hd 27 (by kernel_rfl)) rfl rfl rfl (c := (.bool false))
                    exact do_skip (wanted_not (g := 27) rfl rfl rfl e223) rfl
                  | 38, ho =>
                    have ho' : some _ = some o := ho
                    cases ho'
                    clear ho
                    have e223 := has_const (has_dep hd 27 (by kernel_rfl)) rfl rfl rfl (c := (.bool false))
                    exact do_skip (wanted_not (g := 27) rfl rfl rfl e223) rfl
                  | 39, ho =>
                    have ho' : some _ = some o := ho
                    cases ho'
                    clear ho
                    have e223 := has_const (has_dep hd 27 (by kernel_rfl)) rfl rfl rfl (c := (.bool false))
                    exact do_skip (wanted_not (g := 27) rfl rfl rfl e223) rfl
                  | 40, ho =>
                    have ho' : some _ = some o := ho
                    cases ho'
                    clear ho
                    have e214 := has_const (has_dep hd 18 (by kernel_rfl)) rfl rfl rfl (c := (.bool false))
                    have e223 := has_const (has_dep hd 27 (by kernel_rfl)) rfl rfl rfl (c := (.bool false))
                    exact do_value (wanted_some (g := 18) rfl rfl rfl e214) (by rw [run_pickF (c := .tmp 223) (x := .tmp 235) (y := .const (.bool false)) rfl e223, eval_c]) rfl
                  | 41, ho =>
                    have ho' : some _ = some o := ho
                    cases ho'
                    clear ho
                    have e214 := has_const (has_dep hd 18 (by kernel_rfl)) rfl rfl rfl (c := (.bool false))
                    have e236 := has_const (has_dep hd 40 (by kernel_rfl)) rfl rfl rfl (c := (.bool false))
                    exact do_value (wanted_none rfl) (by rw [run_pickF (c := .tmp 214) (x := .const (.bool true)) (y := .tmp 236) rfl e214, e236]) rfl
                  | q + 42, ho => exact absurd ho (by simp)
                · intro x w13 T13 hkn
                  have H13 := Lib.hid (H12.out.carry T13)
                  simp only [putL, Act.put, List.setIfInBounds_toArray, List.set_cons_succ, List.set_cons_zero]
                  clear T13 hkn
                  go_wp2_with fail
                  go_roundw
                  case rel => exact ⟨k + 1, by omega, by go_num, _, _, _, _, _, _, _, rfl, H13.out⟩
                  case measure => simp [intOf]; omega
              · obtain ⟨kp, rfl⟩ : ∃ kp : Nat, pr = (kp : Int) := ⟨pr.toNat, by omega⟩
                have hk0 : kp < 8 := by omega
                have hk8 : (kp : Int) < 8 := by omega
                have hlk5 : (L kp).length ≤ 100000 := by have := hl1 kp hk0; omega
                obtain ⟨A, kA, dA, B, kB, dB, hbx, hst⟩ := H12.out.state
                obtain ⟨rv, lv, he, hra, hrn⟩ := hst
                cases he
                have HBX12 := Lib.hid hbx
                obtain ⟨g, cg2, hcg, hc8, hcm, hg, hgz, hcell⟩ := hra
                cases hcg
                obtain ⟨u, hu, hlu⟩ := hcell kp hk0
                have HLU := Lib.hid hlu
                obtain ⟨Au, cu, rfl, _⟩ := hlu
                have HCU := Lib.hid hu
                clear hu hcell hbx hrn
                refine wp_region_leaves (wd := w12) (Leaf.const (.int .i64 np2) :: Leaf.const (.int .i64 np2) :: Leaf.const (.bool false) :: Leaf.const ((.bool false)) :: Leaf.const (.bool bp2) :: Leaf.const (.bool bp2) :: Leaf.const (.bool false) :: Leaf.const ((.bool false)) :: Leaf.const ((.bool false)) :: Leaf.const (.int .i64 cr) :: Leaf.const (.int .i64 cr) :: Leaf.const (.bool false) :: Leaf.const ((.bool false)) :: Leaf.const ((.bool false)) :: Leaf.const (.bool ci) :: Leaf.const (.bool ci) :: Leaf.const (.bool false) :: Leaf.const ((.bool false)) :: Leaf.const ((.bool false)) :: Leaf.const (.pointer (some ⟨a6, 2, none⟩)) :: Leaf.const (.int .i64 (kp : Int)) :: Leaf.const (.bool true) :: Leaf.const ((.bool true)) :: Leaf.const (.pointer (some ⟨a6, 2, none⟩)) :: Leaf.const (.int .i64 (kp : Int)) :: Leaf.const (.bool true) :: Leaf.const ((.bool true)) :: Leaf.const ((.bool true)) :: Leaf.const (.pointer (some ⟨q, 0, none⟩)) :: Leaf.const (.pointer (some ⟨a6, 2, none⟩)) :: Leaf.const (.int .i64 (kp : Int)) :: Leaf.pred (fun v w => LInts [] w v (L kp)) :: Leaf.const (.pointer (some ⟨b4, 0, none⟩)) :: Leaf.const (.slice (some ⟨g, 0, none⟩) 8 dA) :: Leaf.const (.pointer (some ⟨a6, 2, none⟩)) :: Leaf.const (.int .i64 (kp : Int)) :: Leaf.const (.pointer (some ⟨g, kp, none⟩)) :: Leaf.const (.slice Au (L kp).length cu) :: Leaf.const (.bool true) :: Leaf.const (.bool false) :: Leaf.const ((.bool false)) :: Leaf.const ((.bool false)) :: []) (by kernel_rfl) (by kernel_rfl) (by kernel_rfl) ((Touch.refl _ _).drew) (⟨LInts.stab, trivial⟩) ?_ ?_
                · intro i o ho ac w ht hk hd
                  match i, ho with
                  | 0, ho =>
                    have ho' : some _ = some o := ho
                    cases ho'
                    clear ho
                    have e19 := known_slot hk 19 (by kernel_rfl) (v := .int .i64 np2) rfl
                    exact do_value (wanted_none rfl) (by rw [BigFrame.run_move (.tmp 19) rfl, e19]) rfl
                  | 1, ho =>
                    have ho' : some _ = some o := ho
                    cases ho'
                    clear ho
                    have e21 := known_slot hk 21 (by kernel_rfl) (v := .int .i64 np2) rfl
                    exact do_value (wanted_none rfl) (by rw [BigFrame.run_move (.tmp 21) rfl, e21]) rfl
                  | 2, ho =>
                    have ho' : some _ = some o := ho
                    cases ho'
                    clear ho
                    have e196 := has_const (has_dep hd 0 (by kernel_rfl)) rfl rfl rfl (c := (.int .i64 np2))
                    have e197 := has_const (has_dep hd 1 (by kernel_rfl)) rfl rfl rfl (c := (.int .i64 np2))
                    exact do_value (wanted_none rfl) (v := .bool false) (run_value rfl (by rw [e196, e197]; simp [go_sem])) rfl
                  | 3, ho =>
                    have ho' : some _ = some o := ho
                    cases ho'
                    clear ho
                    have e198 := has_const (has_dep hd 2 (by kernel_rfl)) rfl rfl rfl (c := (.bool false))
                    exact do_value (wanted_none rfl) (by rw [BigFrame.run_move (.tmp 198) rfl, e198]) rfl
                  | 4, ho =>
                    have ho' : some _ = some o := ho
                    cases ho'
                    clear ho
                    have e199 := has_const (has_dep hd 3 (by kernel_rfl)) rfl rfl rfl (c := (.bool false))
                    have e20 := known_slot hk 20 (by kernel_rfl) (v := .bool bp2) rfl
                    exact do_value (wanted_some (g := 3) rfl rfl rfl e199) (by rw [BigFrame.run_move (.tmp 20) rfl, e20]) rfl
                  | 5, ho =>
                    have ho' : some _ = some o := ho
                    cases ho'
                    clear ho
                    have e199 := has_const (has_dep hd 3 (by kernel_rfl)) rfl rfl rfl (c := (.bool false))
                    have e22 := known_slot hk 22 (by kernel_rfl) (v := .bool bp2) rfl
                    exact do_value (wanted_some (g := 3) rfl rfl rfl e199) (by rw [BigFrame.run_move (.tmp 22) rfl, e22]) rfl
                  | 6, ho =>
                    have ho' : some _ = some o := ho
                    cases ho'
                    clear ho
                    have e199 := has_const (has_dep hd 3 (by kernel_rfl)) rfl rfl rfl (c := (.bool false))
                    have e200 := has_const (has_dep hd 4 (by kernel_rfl)) rfl rfl rfl (c := (.bool bp2))
                    have e201 := has_const (has_dep hd 5 (by kernel_rfl)) rfl rfl rfl (c := (.bool bp2))
                    exact do_value (wanted_some (g := 3) rfl rfl rfl e199) (v := .bool false) (run_value rfl (by rw [e200, e201]; simp [go_sem])) rfl
                  | 7, ho =>
                    have ho' : some _ = some o := ho
                    cases ho'
                    clear ho
                    have e199 := has_const (has_dep hd 3 (by kernel_rfl)) rfl rfl rfl (c := (.bool false))
                    have e202 := has_const (has_dep hd 6 (by kernel_rfl)) rfl rfl rfl (c := (.bool false))
                    exact do_value (wanted_none rfl) (by rw [run_pickF (c := .tmp 199) (x := .const (.bool true)) (y := .tmp 202) rfl e199, e202]) rfl
                  | 8, ho =>
                    have ho' : some _ = some o := ho
                    cases ho'
                    clear ho
                    have e203 := has_const (has_dep hd 7 (by kernel_rfl)) rfl rfl rfl (c := (.bool false))
                    exact do_value (wanted_none rfl) (by rw [BigFrame.run_move (.tmp 203) rfl, e203]) rfl
                  | 9, ho =>
                    have ho' : some _ = some o := ho
                    cases ho'
                    clear ho
                    have e204 := has_const (has_dep hd 8 (by kernel_rfl)) rfl rfl rfl (c := (.bool false))
                    have e23 := known_slot hk 23 (by kernel_rfl) (v := .int .i64 cr) rfl
                    exact do_value (wanted_some (g := 8) rfl rfl rfl e204) (by rw [BigFrame.run_move (.tmp 23) rfl, e23]) rfl
                  | 10, ho =>
                    have ho' : some _ = some o := ho
                    cases ho'
                    clear ho
                    have e204 := has_const (has_dep hd 8 (by kernel_rfl)) rfl rfl rfl (c := (.bool false))
                    have e25 := known_slot hk 25 (by kernel_rfl) (v := .int .i64 cr) rfl
                    exact do_value (wanted_some (g := 8) rfl rfl rfl e204) (by rw [BigFrame.run_move (.tmp 25) rfl, e25]) rfl
                  | 11, ho =>
                    have ho' : some _ = some o := ho
                    cases ho'
                    clear ho
                    have e204 := has_const (has_dep hd 8 (by kernel_rfl)) rfl rfl rfl (c := (.bool false))
                    have e205 := has_const (has_dep hd 9 (by kernel_rfl)) rfl rfl rfl (c := (.int .i64 cr))
                    have e206 := has_const (has_dep hd 10 (by kernel_rfl)) rfl rfl rfl (c := (.int .i64 cr))
                    exact do_value (wanted_some (g := 8) rfl rfl rfl e204) (v := .bool false) (run_value rfl (by rw [e205, e206]; simp [go_sem])) rfl
                  | 12, ho =>
                    have ho' : some _ = some o := ho
                    cases ho'
                    clear ho
                    have e204 := has_const (has_dep hd 8 (by kernel_rfl)) rfl rfl rfl (c := (.bool false))
                    have e207 := has_const (has_dep hd 11 (by kernel_rfl)) rfl rfl rfl (c := (.bool false))
                    exact do_value (wanted_none rfl) (by rw [run_pickF (c := .tmp 204) (x := .const (.bool true)) (y := .tmp 207) rfl e204, e207]) rfl
                  | 13, ho =>
                    have ho' : some _ = some o := ho
                    cases ho'
                    clear ho
                    have e208 := has_const (has_dep hd 12 (by kernel_rfl)) rfl rfl rfl (c := (.bool false))
                    exact do_value (wanted_none rfl) (by rw [BigFrame.run_move (.tmp 208) rfl, e208]) rfl
                  | 14, ho =>
                    have ho' : some _ = some o := ho
                    cases ho'
                    clear ho
                    have e209 := has_const (has_dep hd 13 (by kernel_rfl)) rfl rfl rfl (c := (.bool false))
                    have e24 := known_slot hk 24 (by kernel_rfl) (v := .bool ci) rfl
                    exact do_value (wanted_some (g := 13) rfl rfl rfl e209) (by rw [BigFrame.run_move (.tmp 24) rfl, e24]) rfl
                  | 15, ho =>
                    have ho' : some _ = some o := ho
                    cases ho'
                    clear ho
                    have e209 := has_const (has_dep hd 13 (by kernel_rfl)) rfl rfl rfl (c := (.bool false))
                    have e26 := known_slot hk 26 (by kernel_rfl) (v := .bool ci) rfl
                    exact do_value (wanted_some (g := 13) rfl rfl rfl e209) (by rw [BigFrame.run_move (.tmp 26) rfl, e26]) rfl
                  | 16, ho =>
                    have ho' : some _ = some o := ho
                    cases ho'
                    clear ho
                    have e209 := has_const (has_dep hd 13 (by kernel_rfl)) rfl rfl rfl (c := (.bool false))
                    have e210 := has_const (has_dep hd 14 (by kernel_rfl)) rfl rfl rfl (c := (.bool ci))
                    have e211 := has_const (has_dep hd 15 (by kernel_rfl)) rfl rfl rfl (c := (.bool ci))
                    exact do_value (wanted_some (g := 13) rfl rfl rfl e209) (v := .bool false) (run_value rfl (by rw [e210, e211]; simp [go_sem])) rfl
                  | 17, ho =>
                    have ho' : some _ = some o := ho
                    cases ho'
                    clear ho
                    have e209 := has_const (has_dep hd 13 (by kernel_rfl)) rfl rfl rfl (c := (.bool false))
                    have e212 := has_const (has_dep hd 16 (by kernel_rfl)) rfl rfl rfl (c := (.bool false))
                    exact do_value (wanted_none rfl) (by rw [run_pickF (c := .tmp 209) (x := .const (.bool true)) (y := .tmp 212) rfl e209, e212]) rfl
                  | 18, ho =>
                    have ho' : some _ = some o := ho
                    cases ho'
                    clear ho
                    have e213 := has_const (has_dep hd 17 (by kernel_rfl)) rfl rfl rfl (c := (.bool false))
                    exact do_value (wanted_none rfl) (by rw [BigFrame.run_move (.tmp 213) rfl, e213]) rfl
                  | 19, ho =>
                    have ho' : some _ = some o := ho
                    cases ho'
                    clear ho
                    have e214 := has_const (has_dep hd 18 (by kernel_rfl)) rfl rfl rfl (c := (.bool false))
                    have e6 := known_slot hk 6 (by kernel_rfl) (v := .pointer (some ⟨a6, 0, none⟩)) rfl
                    exact do_value (wanted_some (g := 18) rfl rfl rfl e214) (v := .pointer (some ⟨a6, 2, none⟩)) (run_value rfl (by rw [e6]; simp [go_sem])) rfl
                  | 20, ho =>
                    have ho' : some _ = some o := ho
                    cases ho'
                    clear ho
                    have e214 := has_const (has_dep hd 18 (by kernel_rfl)) rfl rfl rfl (c := (.bool false))
                    have e215 := has_const (has_dep hd 19 (by kernel_rfl)) rfl rfl rfl (c := (.pointer (some ⟨a6, 2, none⟩)))
                    have e2 := (HBA12.out.carry ht (by simp)).cell 2
                    simp only [List.getElem?_toArray, List.getElem?_cons_zero, List.getElem?_cons_succ] at e2
                    exact do_value (wanted_some (g := 18) rfl rfl rfl e214) (v := .int .i64 (kp : Int)) (run_value rfl (by rw [e215]; simp [go_sem, e2])) rfl
                  | 21, ho =>
                    have ho' : some _ = some o := ho
                    cases ho'
                    clear ho
                    have e214 := has_const (has_dep hd 18 (by kernel_rfl)) rfl rfl rfl (c := (.bool false))
                    have e216 := has_const (has_dep hd 20 (by kernel_rfl)) rfl rfl rfl (c := (.int .i64 (kp : Int)))
                    exact do_value (wanted_some (g := 18) rfl rfl rfl e214) (v := .bool true) (run_value rfl (by rw [e216]; (first | (simp [go_sem]; done) | (simp [go_sem]; omega)))) rfl
                  | 22, ho =>
                    have ho' : some _ = some o := ho
                    cases ho'
                    clear ho
                    have e214 := has_const (has_dep hd 18 (by kernel_rfl)) rfl rfl rfl (c := (.bool false))
                    have e217 := has_const (has_dep hd 21 (by kernel_rfl)) rfl rfl rfl (c := (.bool true))
                    exact do_value (wanted_some (g := 18) rfl rfl rfl e214) (by rw [BigFrame.run_move (.tmp 217) rfl, e217]) rfl
                  | 23, ho =>
                    have ho' : some _ = some o := ho
                    cases ho'
                    clear ho
                    have e218 := has_const (has_dep hd 22 (by kernel_rfl)) rfl rfl rfl (c := (.bool true))
                    have e6 := known_slot hk 6 (by kernel_rfl) (v := .pointer (some ⟨a6, 0, none⟩)) rfl
                    exact do_value (wanted_some (g := 22) rfl rfl rfl e218) (v := .pointer (some ⟨a6, 2, none⟩)) (run_value rfl (by rw [e6]; simp [go_sem])) rfl
                  | 24, ho =>
                    have ho' : some _ = some o := ho
                    cases ho'
                    clear ho
                    have e218 := has_const (has_dep hd 22 (by kernel_rfl)) rfl rfl rfl (c := (.bool true))
                    have e219 := has_const (has_dep hd 23 (by kernel_rfl)) rfl rfl rfl (c := (.pointer (some ⟨a6, 2, none⟩)))
                    have e2 := (HBA12.out.carry ht (by simp)).cell 2
                    simp only [List.getElem?_toArray, List.getElem?_cons_zero, List.getElem?_cons_succ] at e2
                    exact do_value (wanted_some (g := 22) rfl rfl rfl e218) (v := .int .i64 (kp : Int)) (run_value rfl (by rw [e219]; simp [go_sem, e2])) rfl
                  | 25, ho =>
                    have ho' : some _ = some o := ho
                    cases ho'
                    clear ho
                    have e218 := has_const (has_dep hd 22 (by kernel_rfl)) rfl rfl rfl (c := (.bool true))
                    have e220 := has_const (has_dep hd 24 (by kernel_rfl)) rfl rfl rfl (c := (.int .i64 (kp : Int)))
                    exact do_value (wanted_some (g := 22) rfl rfl rfl e218) (v := .bool true) (run_value rfl (by rw [e220]; (first | (simp [go_sem]; done) | (simp [go_sem]; omega)))) rfl
                  | 26, ho =>
                    have ho' : some _ = some o := ho
                    cases ho'
                    clear ho
                    have e214 := has_const (has_dep hd 18 (by kernel_rfl)) rfl rfl rfl (c := (.bool false))
                    have e218 := has_const (has_dep hd 22 (by kernel_rfl)) rfl rfl rfl (c := (.bool true))
                    have e221 := has_const (has_dep hd 25 (by kernel_rfl)) rfl rfl rfl (c := (.bool true))
                    exact do_value (wanted_some (g := 18) rfl rfl rfl e214) (by rw [run_pickT (c := .tmp 218) (x := .tmp 221) (y := .const (.bool false)) rfl e218, e221]) rfl
                  | 27, ho =>
                    have ho' : some _ = some o := ho
                    cases ho'
                    clear ho
                    have e214 := has_const (has_dep hd 18 (by kernel_rfl)) rfl rfl rfl (c := (.bool false))
                    have e222 := has_const (has_dep hd 26 (by kernel_rfl)) rfl rfl rfl (c := (.bool true))
                    exact do_value (wanted_some (g := 18) rfl rfl rfl e214) (by rw [BigFrame.run_move (.tmp 222) rfl, e222]) rfl
                  | 28, ho =>
                    have ho' : some _ = some o := ho
                    cases ho'
                    clear ho
                    have e223 := has_const (has_dep hd 27 (by kernel_rfl)) rfl rfl rfl (c := (.bool true))
                    have e3 := known_slot hk 3 (by kernel_rfl) (v := .pointer (some ⟨q, 0, none⟩)) rfl
                    exact do_value (wanted_some (g := 27) rfl rfl rfl e223) (by rw [BigFrame.run_move (.tmp 3) rfl, e3]) rfl
                  | 29, ho =>
                    have ho' : some _ = some o := ho
                    cases ho'
                    clear ho
                    have e223 := has_const (has_dep hd 27 (by kernel_rfl)) rfl rfl rfl (c := (.bool true))
                    have e6 := known_slot hk 6 (by kernel_rfl) (v := .pointer (some ⟨a6, 0, none⟩)) rfl
                    exact do_value (wanted_some (g := 27) rfl rfl rfl e223) (v := .pointer (some ⟨a6, 2, none⟩)) (run_value rfl (by rw [e6]; simp [go_sem])) rfl
                  | 30, ho =>
                    have ho' : some _ = some o := ho
                    cases ho'
                    clear ho
                    have e223 := has_const (has_dep hd 27 (by kernel_rfl)) rfl rfl rfl (c := (.bool true))
                    have e225 := has_const (has_dep hd 29 (by kernel_rfl)) rfl rfl rfl (c := (.pointer (some ⟨a6, 2, none⟩)))
                    have e2 := (HBA12.out.carry ht (by simp)).cell 2
                    simp only [List.getElem?_toArray, List.getElem?_cons_zero, List.getElem?_cons_succ] at e2
                    exact do_value (wanted_some (g := 27) rfl rfl rfl e223) (v := .int .i64 (kp : Int)) (run_value rfl (by rw [e225]; simp [go_sem, e2])) rfl
                  | 31, ho =>
                    have ho' : some _ = some o := ho
                    cases ho'
                    clear ho
                    have e223 := has_const (has_dep hd 27 (by kernel_rfl)) rfl rfl rfl (c := (.bool true))
                    have e224 := has_const (has_dep hd 28 (by kernel_rfl)) rfl rfl rfl (c := (.pointer (some ⟨q, 0, none⟩)))
                    have e226 := has_const (has_dep hd 30 (by kernel_rfl)) rfl rfl rfl (c := (.int .i64 (kp : Int)))
                    refine do_enter (wanted_some (g := 27) rfl rfl rfl e223) (f := 26) (args := #[(.pointer (some ⟨q, 0, none⟩)), (.int .i64 (kp : Int))]) (by rw [run_go3 26 _ _ rfl, ent26]; simp [eval_c, e224, e226]) ?_
                    exact (orderW (H12.out.carry ht).at' kp hk0 hlk5).mono fun e w2 ⟨v, he, ho, hb⟩ => ⟨v, he, LInts.own ho (by simp), Touch.ofBelow hb⟩
                  | 32, ho =>
                    have ho' : some _ = some o := ho
                    cases ho'
                    clear ho
                    have e223 := has_const (has_dep hd 27 (by kernel_rfl)) rfl rfl rfl (c := (.bool true))
                    have e4 := known_slot hk 4 (by kernel_rfl) (v := .pointer (some ⟨b4, 0, none⟩)) rfl
                    exact do_value (wanted_some (g := 27) rfl rfl rfl e223) (v := .pointer (some ⟨b4, 0, none⟩)) (run_value rfl (by rw [e4]; simp [go_sem])) rfl
                  | 33, ho =>
                    have ho' : some _ = some o := ho
                    cases ho'
                    clear ho
                    have e223 := has_const (has_dep hd 27 (by kernel_rfl)) rfl rfl rfl (c := (.bool true))
                    have e228 := has_const (has_dep hd 32 (by kernel_rfl)) rfl rfl rfl (c := (.pointer (some ⟨b4, 0, none⟩)))
                    have c0 := (HBX12.out.carry ht (by simp)).cell 0
                    simp only [List.getElem?_toArray, List.getElem?_cons_zero, List.getElem?_cons_succ] at c0
                    exact do_value (wanted_some (g := 27) rfl rfl rfl e223) (v := .slice (some ⟨g, 0, none⟩) 8 dA) (run_value rfl (by rw [e228]; simp [go_sem, c0])) rfl
                  | 34, ho =>
                    have ho' : some _ = some o := ho
                    cases ho'
                    clear ho
                    have e223 := has_const (has_dep hd 27 (by kernel_rfl)) rfl rfl rfl (c := (.bool true))
                    have e6 := known_slot hk 6 (by kernel_rfl) (v := .pointer (some ⟨a6, 0, none⟩)) rfl
                    exact do_value (wanted_some (g := 27) rfl rfl rfl e223) (v := .pointer (some ⟨a6, 2, none⟩)) (run_value rfl (by rw [e6]; simp [go_sem])) rfl
                  | 35, ho =>
                    have ho' : some _ = some o := ho
                    cases ho'
                    clear ho
                    have e223 := has_const (has_dep hd 27 (by kernel_rfl)) rfl rfl rfl (c := (.bool true))
                    have e230 := has_const (has_dep hd 34 (by kernel_rfl)) rfl rfl rfl (c := (.pointer (some ⟨a6, 2, none⟩)))
                    have e2 := (HBA12.out.carry ht (by simp)).cell 2
                    simp only [List.getElem?_toArray, List.getElem?_cons_zero, List.getElem?_cons_succ] at e2
                    exact do_value (wanted_some (g := 27) rfl rfl rfl e223) (v := .int .i64 (kp : Int)) (run_value rfl (by rw [e230]; simp [go_sem, e2])) rfl
                  | 36, ho =>
                    have ho' : some _ = some o := ho
                    cases ho'
                    clear ho
                    have e223 := has_const (has_dep hd 27 (by kernel_rfl)) rfl rfl rfl (c := (.bool true))
                    have e229 := has_const (has_dep hd 33 (by kernel_rfl)) rfl rfl rfl (c := (.slice (some ⟨g, 0, none⟩) 8 dA))
                    have e231 := has_const (has_dep hd 35 (by kernel_rfl)) rfl rfl rfl (c := (.int .i64 (kp : Int)))
                    exact do_value (wanted_some (g := 27) rfl rfl rfl e223) (v := .pointer (some ⟨g, kp, none⟩)) (run_value rfl (by rw [e229, e231]; simp [go_sem, hk8])) rfl
                  | 37, ho =>
                    have ho' : some _ = some o := ho
                    cases ho'
                    clear ho
                    have e223 := has_const (has_dep hd 27 (by kernel_rfl)) rfl rfl rfl (c := (.bool true))
                    have e232 := has_const (has_dep hd 36 (by kernel_rfl)) rfl rfl rfl (c := (.pointer (some ⟨g, kp, none⟩)))
                    have cg := (ht.cell (a := ⟨g, kp, none⟩) hg (by simp)).trans HCU.out
                    exact do_value (wanted_some (g := 27) rfl rfl rfl e223) (v := .slice Au (L kp).length cu) (run_value rfl (by rw [e232]; simp [go_sem, cg])) rfl
                  | 38, ho =>
                    have ho' : some _ = some o := ho
                    cases ho'
                    clear ho
                    have e223 := has_const (has_dep hd 27 (by kernel_rfl)) rfl rfl rfl (c := (.bool true))
                    obtain ⟨v227, e227, h227⟩ := has_pred (has_dep hd 31 (by kernel_rfl)) rfl rfl rfl (φ := fun v w => LInts [] w v (L kp))
                    have e233 := has_const (has_dep hd 37 (by kernel_rfl)) rfl rfl rfl (c := (.slice Au (L kp).length cu))
                    obtain ⟨A7, c7, rfl, _, _, hc7⟩ := h227.cells
                    obtain ⟨A8, c8, hu2, _, _, hcu⟩ := (HLU.out.carry ht (by simp)).cells
                    cases hu2
                    refine do_enter (wanted_some (g := 27) rfl rfl rfl e223) (f := 25) (args := #[.slice A7 (L kp).length c7, .slice Au (L kp).length cu]) (by rw [run_go3 25 _ _ rfl, ent25]; simp [eval_c, e227, e233]) ?_
                    exact Calls.leaf (sameInts_yes hc7 hcu (fun i hi => rfl) hlk5)
                  | 39, ho =>
                    have ho' : some _ = some o := ho
                    cases ho'
                    clear ho
                    have e223 := has_const (has_dep hd 27 (by kernel_rfl)) rfl rfl rfl (c := (.bool true))
                    have e234 := has_const (has_dep hd 38 (by kernel_rfl)) rfl rfl rfl (c := (.bool true))
                    exact do_value (wanted_some (g := 27) rfl rfl rfl e223) (v := .bool false) (run_value rfl (by rw [e234]; simp [go_sem])) rfl
                  | 40, ho =>
                    have ho' : some _ = some o := ho
                    cases ho'
                    clear ho
                    have e214 := has_const (has_dep hd 18 (by kernel_rfl)) rfl rfl rfl (c := (.bool false))
                    have e223 := has_const (has_dep hd 27 (by kernel_rfl)) rfl rfl rfl (c := (.bool true))
                    have e235 := has_const (has_dep hd 39 (by kernel_rfl)) rfl rfl rfl (c := (.bool false))
                    exact do_value (wanted_some (g := 18) rfl rfl rfl e214) (by rw [run_pickT (c := .tmp 223) (x := .tmp 235) (y := .const (.bool false)) rfl e223, e235]) rfl
                  | 41, ho =>
                    have ho' : some _ = some o := ho
                    cases ho'
                    clear ho
                    have e214 := has_const (has_dep hd 18 (by kernel_rfl)) rfl rfl rfl (c := (.bool false))
                    have e236 := has_const (has_dep hd 40 (by kernel_rfl)) rfl rfl rfl (c := (.bool false))
                    exact do_value (wanted_none rfl) (by rw [run_pickF (c := .tmp 214) (x := .const (.bool true)) (y := .tmp 236) rfl e214, e236]) rfl
                  | q + 42, ho => exact absurd ho (by simp)
                · intro x w13 T13 hkn
                  have H13 := Lib.hid (H12.out.carry T13)
                  simp only [putL, Act.put, List.setIfInBounds_toArray, List.set_cons_succ, List.set_cons_zero]
                  clear T13 hkn
                  go_wp2_with fail
                  go_roundw
                  case rel => exact ⟨k + 1, by omega, by go_num, _, _, _, _, _, _, _, rfl, H13.out⟩
                  case measure => simp [intOf]; omega
      · obtain rfl : k = n := by omega
        have HT := Lib.hid hP.t
        clear hP
        go_wp2_with fail
        refine (wrrLives_any _).mono ?_
        rintro e w8 ⟨rfl, hb⟩
        have HB := Lib.hid hb
        clear hb
        go_wp2_with fail
        go_ret
        exact ⟨rfl, bnext (HT.out.below (by simp) (Nat.le_refl _)) HB.out⟩

set_option maxRecDepth 100000 in
/-- A field that is a slice of integers: its list. -/
theorem field_ints {W : World} {H : Type} {enc : TypeId × Value → H} {u : Value} {m : Nat} {y : DataW H × List MemPlace} (h : DataW.trod enc Try.prog W 0 (fun _ => true) true m 31 [u] = some y) :
    ∃ A M c, u = .slice A (M : List Int).length c ∧ LInts [] W u M ∧ ∀ x ∈ M, fit64 x := by
  have hC : Try.prog.cellsOf 3 = 1 := by kernel_rfl
  rcases Deep.open_slice Try.underlying31 h with ⟨hcs, _⟩ | ⟨a, l, c, mm, n, D, Pl, hcs, _, hl, hm, hmm, _, hi⟩
  · have hu : u = .slice none 0 0 := by simpa using hcs
    subst hu
    exact ⟨none, [], 0, rfl, LInts.nil _ _, fun x hx => by simp at hx⟩
  · have hu : u = .slice (some a) l c := by simpa using hcs
    subst hu
    have key : ∀ i, i < l → ∃ z : Int, (∃ b off, some a = some (⟨b, off, none⟩ : Addr) ∧ b < W.heap.size ∧ W.cell? ⟨b, off + i, none⟩ = some (.int .i64 z)) ∧ fit64 z := by
      intro i hlt
      have him : i < mm := by rw [hmm]; split <;> omega
      obtain ⟨cs, hcell, hx⟩ := hi i him
      rw [hC] at hcell
      obtain ⟨_, hlen, hat⟩ := World.cells?_some hcell
      obtain ⟨z0, hz⟩ : ∃ z0, cs = [z0] := by
        match cs, hlen with
        | [z0], _ => exact ⟨z0, rfl⟩
      subst hz
      obtain ⟨z, rfl, hw⟩ := cell_int Try.underlying3 hx
      have h0 := hat 0 (by omega)
      obtain ⟨b, off, spot⟩ := a
      have hspot : spot = none := by
        obtain ⟨cs0, hc0, _⟩ := hi 0 (by omega)
        rw [hC] at hc0
        obtain ⟨_, hl0, ha0⟩ := World.cells?_some hc0
        have h00 := ha0 0 (by omega)
        rw [List.getElem?_eq_getElem (by omega)] at h00
        simpa [Addr.add] using World.cell?_spot h00
      subst hspot
      simp only [add_plain] at h0
      refine ⟨z, ⟨b, off, rfl, ?_, by simpa using h0⟩, i64_in hw⟩
      have := cell_lt (v := .int .i64 z) (by simpa using h0)
      simpa using this
    obtain ⟨X, hX⟩ := Deep.choose_lt (α := Int) (n := l) (p := fun i z => (∃ b off, some a = some (⟨b, off, none⟩ : Addr) ∧ b < W.heap.size ∧ W.cell? ⟨b, off + i, none⟩ = some (.int .i64 z)) ∧ fit64 z) key
    have hlen : ((List.range l).map X).length = l := by simp
    have hat : ∀ i, i < l → at0 ((List.range l).map X) i = X i := fun i hi => by simp [at0, hi]
    refine ⟨some a, (List.range l).map X, c, by rw [hlen], ⟨some a, c, by rw [hlen], by rw [hlen]; exact hl, hm, fun i hi => ?_⟩, fun x hx => ?_⟩
    · rw [hlen] at hi
      obtain ⟨b, off, hA, hb, hc⟩ := (hX i hi).1
      exact ⟨b, off, hA, hb, by simp, by rw [hat i hi]; exact hc⟩
    · simp only [List.mem_map, List.mem_range] at hx
      obtain ⟨i, hi, rfl⟩ := hx
      exact (hX i hi).2
set_option maxRecDepth 100000 in
theorem actW_cells (W : World) (base : Nat) (H : Type) (enc : TypeId × Value → H) (v : Value) (d : DataW H) (p : List MemPlace) (hv : Value.okWide Try.prog W .any base 22 v)
    (h : DataW.Trod enc Try.prog W 0 (fun _ => true) true 22 v d p) : ∃ A len cap X, v = .slice A len cap ∧ len ≤ maxLen ∧ ActWCells W A len X := by
  obtain ⟨A, len, cap, rfl, hl, hm, hi⟩ := slice_structs Try.underlying22 Try.underlying33 (by kernel_rfl) (by kernel_rfl) (Nat.zero_lt_succ _) hv h
  haveI : Inhabited ActW := ⟨⟨0, 0, 0, 0, .bool false, []⟩⟩
  obtain ⟨X, hX⟩ := Deep.choose_lt (α := ActW) (n := len) (p := fun i e => ∃ b off, A = some ⟨b, off, none⟩ ∧ b < W.heap.size ∧ W.cell? ⟨b, off + i * 5, none⟩ = some (.int .i64 e.what) ∧ W.cell? ⟨b, off + i * 5 + 1, none⟩ = some (.int .i64 e.id) ∧ W.cell? ⟨b, off + i * 5 + 2, none⟩ = some (.int .i64 e.prio) ∧
    W.cell? ⟨b, off + i * 5 + 3, none⟩ = some (.int .i64 e.n) ∧ W.cell? ⟨b, off + i * 5 + 4, none⟩ = some e.able ∧ fit64 e.id ∧ LInts [] W e.able e.M ∧ ∀ x ∈ e.M, fit64 x) (fun i hlt => by
      obtain ⟨b, off, hA, hb, hf⟩ := hi i hlt
      obtain ⟨u0, _, _, c0, g0⟩ := hf 0 _ rfl
      obtain ⟨u1, _, _, c1, g1⟩ := hf 1 _ rfl
      obtain ⟨u2, _, _, c2, g2⟩ := hf 2 _ rfl
      obtain ⟨u3, _, _, c3, g3⟩ := hf 3 _ rfl
      obtain ⟨u4, _, _, c4, g4⟩ := hf 4 _ rfl
      obtain ⟨y0, rfl, _⟩ := cell_int Try.underlying3 g0
      obtain ⟨y1, rfl, w1⟩ := cell_int Try.underlying3 g1
      obtain ⟨y2, rfl, _⟩ := cell_int Try.underlying3 g2
      obtain ⟨y3, rfl, _⟩ := cell_int Try.underlying3 g3
      obtain ⟨A4, M, c5, hu, hli, hfm⟩ := field_ints g4
      exact ⟨⟨y0, y1, y2, y3, u4, M⟩, b, off, hA, hb, c0, c1, c2, c3, c4, i64_in w1, hli, hfm⟩)
  exact ⟨A, len, cap, X, rfl, Nat.le_trans hl hm, hX⟩

set_option maxRecDepth 100000 in
theorem wrrPlays_calls : LawCalls Try.prog 3 Try.f3 := by
  intro H enc W base args ds p hval hA hlt
  rw [Try.params3] at hA hval
  obtain ⟨v0, vs0, d0, ds0, p0, q0, hargs, rfl, rfl, h0, r0⟩ := trodAll_cons hA
  obtain ⟨rfl, rfl, rfl⟩ := trodAll_nil r0
  obtain rfl : args = #[v0] := by cases args; simp_all
  obtain ⟨A, len, cap, X, rfl, hm, hX⟩ := actW_cells W base H enc v0 d0 p0 (hval 0 22 v0 rfl rfl) h0
  exact wrrPlays_walk A len cap X W (by simpa [maxLen] using hm) hX

set_option maxRecDepth 100000 in
theorem wrrPlays_lifted (os : Os) (started : os.Started) (H : Type) (enc : TypeId × Value → H) :
    ReturnsInHanded {} Try.checked os 3 .any (Rows.wrrPlaysSpec.pre6 enc Try.prog Try.f3 Rows.wrrPlaysRow.domain false) (Rows.wrrPlaysSpec.post enc Try.prog Try.f3 false true false false) := by
  refine returnsInHanded_of_change (C := Try.checked) own started (by kernel_rfl) Try.func3
    (ChangeSpec.witness6 (enc := enc) (C := Try.checked) false ⟨#[], #[.slice none 0 0], []⟩ 8 (by kernel_rfl) (by kernel_rfl) (by kernel_rfl) (by kernel_rfl)) ?_
  intro W base args ds gs before hval hW _ _
  exact law_contract laidOut (by kernel_rfl) rfl rfl boolType (fun ds h => by match ds, h with | [_], _ => rfl) wrrPlays_calls W base args ds gs before hval hW

theorem wrrPlays_holds : Rows.WrrPlaysSaid :=
  OpenClaim.holds_of_wide 3 Try.f3 rfl rfl rfl rfl rfl rfl rfl ⟨rfl, rfl, rfl, rfl, rfl⟩ rfl rfl rfl rfl rfl (by kernel_rfl) Try.func3 (by kernel_rfl)
    (of_decide_eq_true (by kernel_rfl)) (by unfold Func.isWrapper; first | (rw [if_pos (by decide +kernel)]; kernel_rfl) | (rw [if_neg (by decide +kernel)]; exact ⟨rfl, rfl⟩))
    (fun os started H enc _ => wrrPlays_lifted os started H enc)
#print axioms wrrPlays_holds
end Go.Proofs.Ytcggpgjnjfjfnaa
