/-
  Layer 18 (tree): measure: the levels.
-/
import Derived.Test.YtcfogoepoghedaaTree5
import Derived.Test.YtcfogoepoghedaaTree4
namespace Go.Proofs.Ytcfogoepoghedaa
open Go.ChangeShapes Go.WideShapes Go.ChangeAt Go.RowKit Go.Deep Go.Maps
set_option linter.unusedVariables false
set_option linter.unusedSimpArgs false
def lvF (Lm : Int → Option Int) : Int → Int := fun i => (Lm i).getD 0
def TD.lev (d : TD) (Lm : Int → Option Int) : TD := ⟨d.root, d.C, d.V, d.K, Lm⟩
theorem lvV_put (Lm : Int → Option Int) (i : Int) (x : Int) : put (lvV Lm) i (some (.int .i64 x)) = lvV (fun j => if j = i then some x else Lm j) := by
  funext j
  unfold put lvV
  by_cases h : j = i
  · simp [h]
  · simp [h]
theorem lvF_put (Lm : Int → Option Int) (i : Int) (x : Int) : lvF (fun j => if j = i then some (max (lvF Lm i) x) else Lm j) = fun j => if j = i then max (lvF Lm j) x else lvF Lm j := by
  funext j
  unfold lvF
  by_cases h : j = i
  · subst h
    simp
  · simp [h]
section
variable {w w' : World} {b : TB} {d : TD} {sC sK sL : Nat}
set_option maxRecDepth 100000 in
set_option maxHeartbeats 6400000 in
theorem tree_measure (h : TreeAt w b (d.lev fun _ => Option.none) sC sK 0) (hs : sC ≤ 64) (hU : ∀ i, i64k (upC d.C i)) {L : List Int} (hL : IdsOf d.C L) (hF : Forest (upC d.C) L) (hn : L.length = sC) :
    Calls Try.prog 27 #[.pointer (some ⟨b.p, 0, Option.none⟩)] w fun e w' => e = .returned (.tuple #[]) ∧ ∃ Lm sL', TreeAt w' b (d.lev Lm) sC sK sL' ∧ LvOK (upC d.C) (onWay (upC d.C) (L.filter (leafB d))) (lvF Lm) ∧ sL' ≤ 5000 ∧ Touch [b.bL] w w' := by
  have LV := Lib.hid (tree_leaves h (by omega) hL)
  have H := Lib.hid h
  have HU := Lib.hid hU
  have HF := Lib.hid hF
  have HL := Lib.hid hL
  have eL : L.filter (leafB (d.lev fun _ => Option.none)) = L.filter (leafB d) := rfl
  rw [eL] at LV
  obtain ⟨ls, els⟩ : ∃ ls, L.filter (leafB d) = ls := ⟨_, rfl⟩
  rw [els] at LV ⊢
  have hls : ∀ i ∈ ls, i ∈ L := fun i hi => by rw [← els] at hi; exact (List.mem_filter.1 hi).1
  have hll : ls.length ≤ 64 := by
    have := List.length_filter_le (leafB d) L
    rw [els] at this
    omega
  have HLS := Lib.hid hls
  clear h hU hF hL eL els hls
  go_enter Try.func27, Try.ntmps27
  go_wp2_with fail
  refine (LV.out).mono ?_
  rintro e w1 ⟨A1, c1, rfl, hrow, t1⟩
  have RW := Lib.hid hrow
  have H1 := Lib.hid (H.out.new t1)
  have T1 := Lib.hid t1
  have LB := Lib.hid (show b.bL < w.heap.size from H.out.lvs.lt)
  clear hrow t1 LV H
  go_wp2_with fail
  go_loopw [12] (fun v wr => ∃ (k sL : Nat) (Lm : Int → Option Int), k ≤ ls.length ∧ v = .int .i64 (k : Int) ∧ TreeAt wr b (d.lev Lm) sC sK sL ∧ LvOK (upC d.C) (onWay (upC d.C) (ls.take k)) (lvF Lm) ∧ sL ≤ k * 65 ∧ Touch [b.bL] w1 wr) (fun v _ => ls.length - (intOf v).toNat)
  case atStart => exact ⟨0, 0, fun _ => Option.none, by omega, rfl, H1.out, (LvOK.start _).congr (fun l d => by simp [onWay]), by omega, Touch.refl _ _⟩
  case round =>
    obtain ⟨k, sL, Lm, hk, rfl, htr, hlv, hsL, ht⟩ := hrel
    have H2 := Lib.hid htr
    have HV := Lib.hid hlv
    have TR := Lib.hid ht
    clear htr hlv ht
    by_cases hlt : k < ls.length
    · obtain ⟨x, hx⟩ : ∃ x, ls[k]? = some x := ⟨_, List.getElem?_eq_getElem hlt⟩
      have hxL := HLS.out x (List.mem_of_getElem? hx)
      have HXL := Lib.hid hxL
      have HI := Lib.hid (show i64k x from ((HL.out.2 x).1 hxL).1)
      obtain ⟨gA, rfl, hbA, hlA, cA⟩ := row_cell (TR.out.row RW.out (fun g hg hm => by have := rowBase RW.out hg; have := LB.out; simp at hm; omega)) hx
      have hlt' : (k : Int) < (ls.length : Int) := by omega
      have HXK := Lib.hid hx
      have hsL' : sL ≤ k * 65 := hsL
      clear hx hxL
      go_wp2_with fail
      go_loopw [5, 6] (fun u v wi => ∃ (dd sL : Nat) (Lm : Int → Option Int), u = .int .i64 ((dd : Int) + 1) ∧ v = .int .i64 (rise (upC d.C) dd x) ∧ TreeAt wi b (d.lev Lm) sC sK sL ∧ LvOK (upC d.C) (fun l j => onWay (upC d.C) (ls.take k) l j ∨ l = x ∧ j < dd) (lvF Lm) ∧ (∀ j, j < dd → rise (upC d.C) j x ≠ 0) ∧ dd ≤ sC ∧ sL ≤ k * 65 + dd ∧ Touch [b.bL] w1 wi) (fun u _ _ => sC + 1 - (intOf u).toNat)
      case atStart => exact ⟨0, sL, Lm, rfl, rfl, H2.out, HV.out.congr (fun l j => by simp), (fun j hj => absurd hj (Nat.not_lt_zero _)), by omega, by omega, TR.out⟩
      case round =>
        obtain ⟨dd, sL2, Lm2, rfl, rfl, htr, hlv, hnz, hdd, hs2, hti⟩ := hrel
        have H2 := Lib.hid htr
        have HV2 := Lib.hid hlv
        have HNZ := Lib.hid hnz
        have TI := Lib.hid hti
        clear htr hlv hnz hti
        have HRI := Lib.hid (rise_in64 HU.out HI.out dd)
        by_cases hz : rise (upC d.C) dd x = 0
        · have hb : (rise (upC d.C) dd x != 0) = false := by simpa using hz
          have HZ := Lib.hid hz
          have HC := Lib.hid (HV2.out.congr (P' := onWay (upC d.C) (ls.take (k + 1))) (fun l j => by
            unfold onWay
            rw [List.take_add_one, HXK.out]
            simp only [Option.toList_some, List.mem_append, List.mem_singleton]
            constructor
            · rintro (⟨h1, h2⟩ | ⟨rfl, h2⟩)
              · exact ⟨.inl h1, h2⟩
              · exact ⟨.inr rfl, HNZ.out j h2⟩
            · rintro ⟨h1 | rfl, h2⟩
              · exact .inl ⟨h1, h2⟩
              · refine .inr ⟨rfl, ?_⟩
                rcases Nat.lt_or_ge j dd with h3 | h3
                · exact h3
                · exact absurd (rise_stays HF.out.zero HZ.out h3) h2))
          clear hz cA
          go_wp2_with fail
          go_roundw
          case rel => exact ⟨k + 1, sL2, Lm2, by omega, by go_num, H2.out, HC.out, by omega, TI.out⟩
          case measure => simp [intOf]; omega
        · have hb : (rise (upC d.C) dd x != 0) = true := by simpa using hz
          have hdn : dd < sC := by
            rcases Nat.lt_or_ge dd sC with h1 | h1
            · exact h1
            · exact absurd (rise_stays HF.out.zero (HF.out.out x HXL.out) (by omega)) hz
          have HZ := Lib.hid hz
          have er := rise_succ (upC d.C) dd x
          have ER := Lib.hid er
          have ST := Lib.hid (HV2.out.step x dd)
          obtain ⟨id0, ei⟩ : ∃ id0, rise (upC d.C) dd x = id0 := ⟨_, rfl⟩
          rw [ei] at hb ER ST HRI ⊢
          have EI := Lib.hid ei
          have LKL := Lib.hid (fun w' (t : Touch [] wr w') => (H2.out.new t).lookL id0 HRI.out)
          obtain ⟨lv, elv⟩ : ∃ lv, (Lm2 id0).getD 0 = lv := ⟨_, rfl⟩
          change Hid (∀ w', Touch [] wr w' → (Instr.lookup 49 (.map (some b.bL)) (.int .i64 id0) false).run Try.prog w' = .ok (.int .i64 ((Lm2 id0).getD 0)) w') at LKL
          rw [elv] at LKL
          have ELV := Lib.hid elv
          have ea := entAbove
          clear er ei elv hz cA
          go_upto_region 8 with fail
          refine wp_region_store (wd := wr) 13 (Leaf.const (.pointer (some ⟨b.p, 0, Option.none⟩)) :: Leaf.const ((.pointer (some ⟨b.p, 0, Option.none⟩))) :: Leaf.const (.pointer (some ⟨b.p, 3, Option.none⟩)) :: Leaf.const (.map (some b.bL)) :: Leaf.const (.int .i64 id0) :: Leaf.const (.pointer (some ⟨b.p, 0, Option.none⟩)) :: Leaf.const ((.pointer (some ⟨b.p, 0, Option.none⟩))) :: Leaf.const (.pointer (some ⟨b.p, 3, Option.none⟩)) :: Leaf.const (.map (some b.bL)) :: Leaf.const (.int .i64 id0) :: Leaf.const (.int .i64 lv) :: Leaf.const (.int .i64 ((dd : Int) + 1)) :: Leaf.const (.int .i64 (max lv ((dd : Int) + 1))) :: Leaf.const undef :: []) (by kernel_rfl) (by kernel_rfl) (by kernel_rfl) (by kernel_rfl) ((Touch.refl _ _).drew) (trivial) ?_ ?_
          · intro i o ho hin ac w ht hk hd
            match i, ho, hin with
            | 0, ho, hin =>
              have ho' : some _ = some o := ho
              cases ho'
              clear ho
              have e0 := known_slot hk 0 (by kernel_rfl) (v := .pointer (some ⟨b.p, 0, Option.none⟩)) rfl
              exact do_value (wanted_none rfl) (by rw [BigFrame.run_move (.tmp 0) rfl, e0]) rfl
            | 1, ho, hin =>
              have ho' : some _ = some o := ho
              cases ho'
              clear ho
              have e22 := has_const (has_dep hd 0 (by kernel_rfl)) rfl rfl rfl (c := (.pointer (some ⟨b.p, 0, Option.none⟩)))
              exact do_value (wanted_none rfl) (v := (.pointer (some ⟨b.p, 0, Option.none⟩))) (by unfold execOp; simp only [e22]; rfl) rfl
            | 2, ho, hin =>
              have ho' : some _ = some o := ho
              cases ho'
              clear ho
              have e23 := has_const (has_dep hd 1 (by kernel_rfl)) rfl rfl rfl (c := (.pointer (some ⟨b.p, 0, Option.none⟩)))
              exact do_value (wanted_none rfl) (v := .pointer (some ⟨b.p, 3, Option.none⟩)) (run_value rfl (by rw [e23]; simp [go_sem])) rfl
            | 3, ho, hin =>
              have ho' : some _ = some o := ho
              cases ho'
              clear ho
              have e24 := has_const (has_dep hd 2 (by kernel_rfl)) rfl rfl rfl (c := (.pointer (some ⟨b.p, 3, Option.none⟩)))
              obtain ⟨c0, c1, c2, c3⟩ := (H2.out.new ht).cells
              exact do_value (wanted_none rfl) (v := .map (some b.bL)) (run_value rfl (by rw [e24]; simp [go_sem, c3])) rfl
            | 4, ho, hin =>
              have ho' : some _ = some o := ho
              cases ho'
              clear ho
              have e6 := known_slot hk 6 (by kernel_rfl) (v := .int .i64 id0) rfl
              exact do_value (wanted_none rfl) (by rw [BigFrame.run_move (.tmp 6) rfl, e6]) rfl
            | 5, ho, hin =>
              have ho' : some _ = some o := ho
              cases ho'
              clear ho
              have e0 := known_slot hk 0 (by kernel_rfl) (v := .pointer (some ⟨b.p, 0, Option.none⟩)) rfl
              exact do_value (wanted_none rfl) (by rw [BigFrame.run_move (.tmp 0) rfl, e0]) rfl
            | 6, ho, hin =>
              have ho' : some _ = some o := ho
              cases ho'
              clear ho
              have e27 := has_const (has_dep hd 5 (by kernel_rfl)) rfl rfl rfl (c := (.pointer (some ⟨b.p, 0, Option.none⟩)))
              exact do_value (wanted_none rfl) (v := (.pointer (some ⟨b.p, 0, Option.none⟩))) (by unfold execOp; simp only [e27]; rfl) rfl
            | 7, ho, hin =>
              have ho' : some _ = some o := ho
              cases ho'
              clear ho
              have e28 := has_const (has_dep hd 6 (by kernel_rfl)) rfl rfl rfl (c := (.pointer (some ⟨b.p, 0, Option.none⟩)))
              exact do_value (wanted_none rfl) (v := .pointer (some ⟨b.p, 3, Option.none⟩)) (run_value rfl (by rw [e28]; simp [go_sem])) rfl
            | 8, ho, hin =>
              have ho' : some _ = some o := ho
              cases ho'
              clear ho
              have e29 := has_const (has_dep hd 7 (by kernel_rfl)) rfl rfl rfl (c := (.pointer (some ⟨b.p, 3, Option.none⟩)))
              obtain ⟨c0, c1, c2, c3⟩ := (H2.out.new ht).cells
              exact do_value (wanted_none rfl) (v := .map (some b.bL)) (run_value rfl (by rw [e29]; simp [go_sem, c3])) rfl
            | 9, ho, hin =>
              have ho' : some _ = some o := ho
              cases ho'
              clear ho
              have e6 := known_slot hk 6 (by kernel_rfl) (v := .int .i64 id0) rfl
              exact do_value (wanted_none rfl) (by rw [BigFrame.run_move (.tmp 6) rfl, e6]) rfl
            | 10, ho, hin =>
              have ho' : some _ = some o := ho
              cases ho'
              clear ho
              have e30 := has_const (has_dep hd 8 (by kernel_rfl)) rfl rfl rfl (c := (.map (some b.bL)))
              have e31 := has_const (has_dep hd 9 (by kernel_rfl)) rfl rfl rfl (c := (.int .i64 id0))
              exact do_value (wanted_none rfl) (v := .int .i64 lv) (run_value rfl (by rw [e30, e31]; exact LKL.out _ ht)) rfl
            | 11, ho, hin =>
              have ho' : some _ = some o := ho
              cases ho'
              clear ho
              have e5 := known_slot hk 5 (by kernel_rfl) (v := .int .i64 ((dd : Int) + 1)) rfl
              exact do_value (wanted_none rfl) (by rw [BigFrame.run_move (.tmp 5) rfl, e5]) rfl
            | 12, ho, hin =>
              have ho' : some _ = some o := ho
              cases ho'
              clear ho
              have e32 := has_const (has_dep hd 10 (by kernel_rfl)) rfl rfl rfl (c := (.int .i64 lv))
              have e33 := has_const (has_dep hd 11 (by kernel_rfl)) rfl rfl rfl (c := (.int .i64 ((dd : Int) + 1)))
              have f1 : ac.tmps[32]?.getD undef = .int .i64 lv := by simpa [Act.eval] using e32
              have f2 : ac.tmps[33]?.getD undef = .int .i64 ((dd : Int) + 1) := by simpa [Act.eval] using e33
              exact do_value (wanted_none rfl) (v := .int .i64 (max lv ((dd : Int) + 1))) (run_value rfl (by simp [go_sem, f1, f2])) rfl
            | 13, ho, hin => exact absurd hin (by omega)
            | q + 14, ho, hin => exact absurd ho (by simp)
          · intro x' w3 t3 hkn
            simp only [putL, Act.put, List.setIfInBounds_toArray, List.set_cons_succ, List.set_cons_zero, List.drop]
            have H3 := H2.out.new t3
            obtain ⟨w4, hrun, hm, t4⟩ := (show IMap Try.prog 3 w3 b.bL sL2 (lvV Lm2) from H3.lvs).store Try.underlying3 Try.underlying49 (by unfold maxLen; omega) HRI.out (.int .i64 (max lv ((dd : Int) + 1)))
            rw [lvV_put] at hm
            obtain ⟨s3, hs3, hm3⟩ : ∃ s3, s3 ≤ sL2 + 1 ∧ IMap Try.prog 3 w4 b.bL s3 (lvV fun j => if j = id0 then some (max lv ((dd : Int) + 1)) else Lm2 j) := ⟨_, by split <;> omega, hm⟩
            have hne := H3.ne
            have hlow := H3.low
            have hnp := H3.lvs.notCell rfl (H3.box.cell 0)
            have H4 := Lib.hid (show TreeAt w4 b (d.lev fun j => if j = id0 then some (max lv ((dd : Int) + 1)) else Lm2 j) sC sK s3 from ⟨H3.box.carry t4 (by simpa using hnp), H3.cls.carry t4 (by simpa using hne.2.1), H3.kids.carry t4 (by simpa using hne.2.2), hm3, fun i v hv => t4.row (H3.rows i v hv) (fun g hg hmem => by have := rowBase (H3.rows i v hv) hg; simp at hmem; omega), H3.none, H3.apart, hlow, hne⟩)
            have T4 := Lib.hid ((TI.out.trans t3 (by simp)).trans t4 (fun y hy => .inl hy))
            have V4 := Lib.hid (show LvOK (upC d.C) (fun l j => onWay (upC d.C) (ls.take k) l j ∨ l = x ∧ j < dd + 1) (lvF fun j => if j = id0 then some (max lv ((dd : Int) + 1)) else Lm2 j) from by
              have e1 := lvF_put Lm2 id0 ((dd : Int) + 1)
              rw [show lvF Lm2 id0 = lv from ELV.out] at e1
              rw [e1]
              refine ST.out.congr (fun l j => ?_)
              constructor
              · rintro ((h1 | ⟨h1, h2⟩) | ⟨h1, h2⟩)
                · exact .inl h1
                · exact .inr ⟨h1, by omega⟩
                · exact .inr ⟨h1, by omega⟩
              · rintro (h1 | ⟨h1, h2⟩)
                · exact .inl (.inl h1)
                · rcases (show j < dd ∨ j = dd by omega) with h3 | h3
                  · exact .inl (.inr ⟨h1, h3⟩)
                  · exact .inr ⟨h1, h3⟩)
            have AB := Lib.hid (tree_above H4.out id0 HRI.out)
            clear hm hm3 t4 t3 H3 hkn H2 HV2 TI hne hlow hnp LKL
            go_wp2_with fail
            refine (AB.out).mono ?_
            rintro e w5 ⟨rfl, hw5⟩
            rw [hw5]
            clear hw5 w5 AB
            go_wp2_with fail
            go_roundw
            case rel => exact ⟨dd + 1, s3, _, by go_num, by rw [ER.out]; rfl, H4.out, V4.out, (fun j hj => by rcases (show j < dd ∨ j = dd by omega) with h3 | h3; (· exact HNZ.out j h3); (· rw [h3]; exact HZ.out)), by omega, by omega, T4.out⟩
            case measure => simp [intOf]; omega
    · obtain rfl : k = ls.length := by omega
      have hlt' : ¬ (ls.length : Int) < (ls.length : Int) := by omega
      rw [List.take_length] at HV
      have TT := Lib.hid ((T1.out.mono (S' := [b.bL]) (by simp)).trans TR.out (fun y hy => .inl hy))
      clear hlt hk
      go_wp2_with fail
      go_end0
      exact ⟨rfl, Lm, sL, H2.out, HV.out, by omega, TT.out⟩
end
end Go.Proofs.Ytcfogoepoghedaa
