/-
  Layer 18 (tree): rooted: each class is linked to its parent.
-/
import Derived.Test.YtcfogoepoghedaaTree7
namespace Go.Proofs.Ytcfogoepoghedaa
open Go.ChangeShapes Go.WideShapes Go.ChangeAt Go.RowKit Go.Deep Go.Maps
set_option linter.unusedVariables false
set_option linter.unusedSimpArgs false
/-- The children of i among l, in their order. -/
def kidsK (C : Int → Option Cl) (l : List Int) (i : Int) : List Int := if i = 0 then [] else l.filter fun c => decide (upC C c = i)
def rootsN (C : Int → Option Cl) (l : List Int) : Nat := (l.filter fun c => decide (upC C c = 0)).length
theorem kidsK_root {C : Int → Option Cl} {l : List Int} {x : Int} (h : upC C x = 0) : kidsK C (l ++ [x]) = kidsK C l := by
  funext i
  unfold kidsK
  by_cases hi : i = 0
  · rw [if_pos hi, if_pos hi]
  · rw [if_neg hi, if_neg hi, List.filter_append]
    have : ¬ upC C x = i := by omega
    simp [this]
theorem kidsK_at {C : Int → Option Cl} {l : List Int} {x : Int} (h : upC C x ≠ 0) : kidsK C (l ++ [x]) (upC C x) = kidsK C l (upC C x) ++ [x] := by
  unfold kidsK
  rw [if_neg h, if_neg h, List.filter_append]
  simp
theorem kidsK_other {C : Int → Option Cl} {l : List Int} {x i : Int} (h : i ≠ upC C x) : kidsK C (l ++ [x]) i = kidsK C l i := by
  unfold kidsK
  by_cases hi : i = 0
  · rw [if_pos hi, if_pos hi]
  · rw [if_neg hi, if_neg hi, List.filter_append]
    have : ¬ upC C x = i := fun e => h e.symm
    simp [this]
theorem kidsK_le (C : Int → Option Cl) (l : List Int) (i : Int) : (kidsK C l i).length ≤ l.length := by
  unfold kidsK
  split
  · simp
  · exact List.length_filter_le _ _
theorem rootsN_snoc (C : Int → Option Cl) (l : List Int) (x : Int) : rootsN C (l ++ [x]) = rootsN C l + (if upC C x = 0 then 1 else 0) := by
  unfold rootsN
  rw [List.filter_append, List.length_append]
  by_cases h : upC C x = 0 <;> simp [h]
theorem rootsN_le (C : Int → Option Cl) (l : List Int) : rootsN C l ≤ l.length := List.length_filter_le _ _
section
variable {w w' : World} {b : TB} {sC sK sL : Nat} {C : Int → Option Cl}
set_option maxRecDepth 100000 in
set_option maxHeartbeats 6400000 in
theorem tree_rooted {V0 : Int → Option Value} {rt0 : Int} (h : TreeAt w b ⟨rt0, C, V0, fun _ => [], fun _ => Option.none⟩ sC 0 0) (hV0 : ∀ i, V0 i = Option.none) (hs : sC ≤ 64) (hb0 : b.base ≤ w.heap.size) (hU : ∀ i, i64k (upC C i)) {L : List Int} (hL : IdsOf C L) :
    Calls Try.prog 25 #[.pointer (some ⟨b.p, 0, Option.none⟩)] w fun e w' => (e = .returned (.bool true) ∧ rootsN C L = 1 ∧ (∀ c ∈ L, upC C c = 0 ∨ (C (upC C c)).isSome = true) ∧ (∃ rt V sK', TreeAt w' b ⟨rt, C, V, kidsK C L, fun _ => Option.none⟩ sC sK' 0 ∧ rt ∈ L ∧ upC C rt = 0) ∨
      e = .returned (.bool false) ∧ ¬ (rootsN C L = 1 ∧ ∀ c ∈ L, upC C c = 0 ∨ (C (upC C c)).isSome = true)) ∧ Touch [b.p, b.bK] w w' := by
  obtain ⟨i0, hi0, hz0, hz1, hz2⟩ := info_parts ids_info
  have I := Lib.hid (tree_ids h (by omega))
  have H := Lib.hid h
  have HU := Lib.hid hU
  have HL := Lib.hid hL
  have HV0 := Lib.hid hV0
  have LW := Lib.hid (show b.p < w.heap.size ∧ b.bK < w.heap.size from ⟨h.box.lt, h.kids.lt⟩)
  clear h hU hL hV0
  go_enter Try.func25, Try.ntmps25
  go_wp2_with fail
  refine (I.out).mono ?_
  rintro e w1 ⟨A1, c1, L1, rfl, hrow, hI, hlen, t1⟩
  obtain rfl : L = L1 := ids_unique HL.out hI
  have RW := Lib.hid hrow
  have H1 := Lib.hid (H.out.new t1)
  have T1 := Lib.hid t1
  have hLl : L.length ≤ 64 := by omega
  clear hrow hI t1 I H
  go_wp2_with fail
  go_loopw [3, 12] (fun u v wr => ∃ (k sK : Nat) (rt : Int) (V : Int → Option Value), k ≤ L.length ∧ v = .int .i64 (k : Int) ∧ u = .int .i64 (rootsN C (L.take k) : Int) ∧ TreeAt wr b ⟨rt, C, V, kidsK C (L.take k), fun _ => Option.none⟩ sC sK 0 ∧ sK ≤ k ∧ (∀ c ∈ L.take k, upC C c = 0 ∨ (C (upC C c)).isSome = true) ∧ (rootsN C (L.take k) = 0 ∨ rt ∈ L.take k ∧ upC C rt = 0) ∧ Touch [b.p, b.bK] w1 wr ∧ ∀ i u, V i = some u → ∀ g, u.ownBlock = some g → w1.heap.size ≤ g) (fun _ v _ => L.length - (intOf v).toNat)
  case atStart =>
    refine ⟨0, 0, rt0, V0, by omega, rfl, rfl, ?_, by omega, (fun c hc => by simp at hc), .inl rfl, Touch.refl _ _, fun i u hu => by rw [HV0.out i] at hu; cases hu⟩
    have e : kidsK C (L.take 0) = fun _ => [] := by
      funext i
      unfold kidsK
      simp
    rw [e]
    exact H1.out
  case round =>
    obtain ⟨k, sK, rt, V, hk, rfl, rfl, htr, hsK, hpar, hroot, ht, habv⟩ := hrel
    have HAB := Lib.hid habv
    have H2 := Lib.hid htr
    have HP := Lib.hid hpar
    have HR0 := Lib.hid hroot
    have TR := Lib.hid ht
    clear htr hpar hroot ht habv
    by_cases hlt : k < L.length
    · obtain ⟨x, hx⟩ : ∃ x, L[k]? = some x := ⟨_, List.getElem?_eq_getElem hlt⟩
      have hxL := List.mem_of_getElem? hx
      have HXL := Lib.hid hxL
      have HI := Lib.hid (show i64k x from ((HL.out.2 x).1 hxL).1)
      have etk : L.take (k + 1) = L.take k ++ [x] := by rw [List.take_add_one, hx]; rfl
      have ETK := Lib.hid etk
      obtain ⟨gA, rfl, hbA, hlA, cA⟩ := row_cell (TR.out.row RW.out (fun g hg hm => by have := rowBase RW.out hg; have := LW.out; simp at hm; omega)) hx
      have hlt' : (k : Int) < (L.length : Int) := by omega
      have AB := Lib.hid (show Calls Try.prog 36 #[.pointer (some ⟨b.p, 0, Option.none⟩), .int .i64 x] wr fun e w' => e = .returned (.int .i64 (upC C x)) ∧ w' = wr from tree_above H2.out x HI.out)
      have RS := Lib.hid (rootsN_snoc C (L.take k) x)
      have KR := Lib.hid (fun (h : upC C x = 0) => kidsK_root (l := L.take k) h)
      have KA := Lib.hid (fun (h : upC C x ≠ 0) => kidsK_at (l := L.take k) h)
      have KO := Lib.hid (fun i (h : i ≠ upC C x) => kidsK_other (l := L.take k) h)
      have HUX := Lib.hid (HU.out x)
      obtain ⟨par, epar⟩ : ∃ par, upC C x = par := ⟨_, rfl⟩
      have EP := Lib.hid epar
      rw [epar] at AB KR KA KO HUX RS
      clear epar
      have hrn := rootsN_le C (L.take k)
      have htl := List.length_take_le k L
      clear hx hxL etk
      go_wp2_with fail
      refine (AB.out).mono ?_
      rintro e w3 ⟨rfl, hw3⟩
      rw [hw3]
      clear hw3 w3 AB
      by_cases hz : par = 0
      · subst hz
        obtain ⟨c0, c1, c2, c3⟩ := H2.out.cells
        have fp := H2.out.box.fr
        have lp := H2.out.box.lt
        have hlow := H2.out.low
        have hne := H2.out.ne
        have tS := (Touch.refl [b.p] wr).setCell (a := ⟨b.p, 0, Option.none⟩) (.inl (by simp)) (.int .i64 x)
        have n1 := H2.out.cls.notCell rfl (H2.out.box.cell 0)
        have n2 := H2.out.kids.notCell rfl (H2.out.box.cell 0)
        have n3 := H2.out.lvs.notCell rfl (H2.out.box.cell 0)
        have H3 := Lib.hid (show TreeAt (wr.setCell ⟨b.p, 0, Option.none⟩ (.int .i64 x)) b ⟨x, C, V, kidsK C (L.take (k + 1)), fun _ => Option.none⟩ sC sK 0 from by
          rw [ETK.out, KR.out rfl]
          exact ⟨H2.out.box.set 0 (.int .i64 x), H2.out.cls.carry tS (by simp; exact fun e => n1 e.symm), H2.out.kids.carry tS (by simp; exact fun e => n2 e.symm), H2.out.lvs.carry tS (by simp; exact fun e => n3 e.symm), fun i v hv => tS.row (H2.out.rows i v hv) (fun g hg hm => by have := rowBase (H2.out.rows i v hv) hg; simp at hm; omega), H2.out.none, H2.out.apart, hlow, hne⟩)
        have T3 := Lib.hid (TR.out.trans tS (fun y hy => .inl (by simp at hy; simp [hy])))
        have PA := Lib.hid (show ∀ c ∈ L.take (k + 1), upC C c = 0 ∨ (C (upC C c)).isSome = true from fun c hc => by
          rw [ETK.out, List.mem_append] at hc
          rcases hc with hc | hc
          · exact HP.out c hc
          · simp at hc
            rw [hc]
            exact .inl EP.out)
        have RT := Lib.hid (show rootsN C (L.take (k + 1)) = 0 ∨ x ∈ L.take (k + 1) ∧ upC C x = 0 from .inr ⟨by rw [ETK.out]; simp, EP.out⟩)
        have RN := Lib.hid (show rootsN C (L.take (k + 1)) = rootsN C (L.take k) + 1 by rw [ETK.out, RS.out]; simp)
        clear c1 c2 c3 tS n1 n2 n3 cA
        have f0 := fp 0
        clear fp
        go_wp2_with fail
        go_roundw
        case rel => exact ⟨k + 1, sK, x, V, by omega, by go_num, by rw [RN.out]; simp, H3.out, by omega, PA.out, RT.out, T3.out, HAB.out⟩
        case measure => simp [intOf]; omega
      · have hb : (par == 0) = false := by simpa using hz
        obtain ⟨c0, c1, c2, c3⟩ := H2.out.cells
        have lp := H2.out.box.lt
        have kl := H2.out.look_ok par HUX.out
        change (Instr.lookup 47 (.map (some b.bC)) (.int .i64 par) true).run Try.prog wr = .ok (.tuple #[.agg (clsOf C par).cells, .bool (C par).isSome]) wr at kl
        generalize clsOf C par = cf at kl
        obtain ⟨y0, y1, y2, y3, y4, y5, y6, y7, y8, y9, y10⟩ := cf
        unfold Cl.cells at kl
        simp only at kl
        have sf := store_flt
        have TN := Lib.hid ((Touch.refl [] wr).alloc (.cells #[.int .i64 y0, .int .i64 y1, .float .f64 y2, .int .i64 y3, .int .i64 y4, .int .i64 y5, .int .i64 y6, .int .i64 y7, .int .i64 y8, .bool y9, .bool y10] 36))
        cases hC : (C par).isSome with
        | false =>
          rw [hC] at kl
          have HC := Lib.hid hC
          have NO := Lib.hid (show ¬ (rootsN C L = 1 ∧ ∀ c ∈ L, upC C c = 0 ∨ (C (upC C c)).isSome = true) from fun h => by
            rcases h.2 x HXL.out with h1 | h1
            · rw [EP.out] at h1
              exact hz h1
            · rw [EP.out, HC.out] at h1
              cases h1)
          have T3 := Lib.hid ((((T1.out.mono (S' := [b.p, b.bK]) (by simp)).trans TR.out (fun y hy => .inl hy))).trans TN.out (by simp))
          clear cA hC
          go_wp2_with fail
          go_ret
          exact ⟨.inr ⟨rfl, NO.out⟩, T3.out⟩
        | true =>
          rw [hC] at kl
          have HC := Lib.hid hC
          clear hC cA
          go_upto_region 12 with fail
          clear kl c0 c1 c2 c3 sf lp
          have H3 := Lib.hid (H2.out.new TN.out)
          have T3 := Lib.hid (TR.out.trans TN.out (by simp))
          clear TN H2
          generalize wr.alloc (.cells #[.int .i64 y0, .int .i64 y1, .float .f64 y2, .int .i64 y3, .int .i64 y4, .int .i64 y5, .int .i64 y6, .int .i64 y7, .int .i64 y8, .bool y9, .bool y10] 36) = wd0 at *
          obtain ⟨Av, cv, hV, hrow, _⟩ := H3.out.lookK par HUX.out
          have hpar := HUX.out
          change (V par).getD (.slice Option.none 0 0) = .slice Av (kidsK C (L.take k) par).length cv at hV
          change wd0.ownsRow b.base 3 1 (.slice Av (kidsK C (L.take k) par).length cv) (kidsK C (L.take k) par).length (zv (kidsK C (L.take k) par)) at hrow
          have hkl := kidsK_le C (L.take k) par
          obtain ⟨Kv, eKv⟩ : ∃ Kv, kidsK C (L.take k) par = Kv := ⟨_, rfl⟩
          rw [eKv] at hV hrow hkl
          have EKV := Lib.hid eKv
          obtain ⟨nv, env⟩ : ∃ nv, Kv.length = nv := ⟨_, rfl⟩
          rw [env] at hV hrow hkl
          have ENV := Lib.hid env
          clear eKv env
          have hnv : nv ≤ 64 := by omega
          have HM := Lib.hid (show IMap Try.prog 3 wd0 b.bK sK V from H3.out.kids)
          have HR := Lib.hid hrow
          have HBX := Lib.hid H3.out.box
          have hlow := H3.out.low
          have hne := H3.out.ne
          have n2 := H3.out.kids.notCell rfl (H3.out.box.cell 0)
          have hbase : ∀ g, (Value.slice Av nv cv).ownBlock = some g → b.base ≤ g ∧ g < wd0.heap.size := fun g hg => ⟨rowBase HR.out hg, own_lt HR.out hg⟩
          have hlb : b.bK < wd0.heap.size := H3.out.kids.lt
          have hbb : b.base ≤ wd0.heap.size := by have h1 := T1.out.size; have h2 := T3.out.size; omega
          have hpS : b.p ∉ (b.bK :: (Value.slice Av nv cv).ownBlock.toList) := by
            intro hm
            rcases List.mem_cons.1 hm with hm | hm
            · exact n2 hm
            · have := hbase _ (by simpa using hm)
              omega
          have hgS : ∀ y ∈ (b.bK :: (Value.slice Av nv cv).ownBlock.toList), y < wd0.heap.size := fun y hy => by
            rcases List.mem_cons.1 hy with hm | hm
            · omega
            · exact (hbase _ (by simpa using hm)).2
          have hgb : b.bK ∉ (Value.slice Av nv cv).ownBlock.toList := fun hm => by
            have := hbase _ (by simpa using hm)
            omega
          have hbK : b.bK < b.base := hlow.2.2.1
          have hsK64 : sK ≤ 64 := by omega
          refine wp_region_joint (wd := wd0) (b.bK :: (Value.slice Av nv cv).ownBlock.toList) (KidJ b.bK sK V par b.base (.slice Av nv cv) nv Kv x wd0.heap.size) (Leaf.const (.pointer (some ⟨b.p, 0, Option.none⟩)) :: Leaf.const ((.pointer (some ⟨b.p, 0, Option.none⟩))) :: Leaf.const (.pointer (some ⟨b.p, 2, Option.none⟩)) :: Leaf.const (.map (some b.bK)) :: Leaf.const (.int .i64 par) :: Leaf.const (.pointer (some ⟨b.p, 0, Option.none⟩)) :: Leaf.const ((.pointer (some ⟨b.p, 0, Option.none⟩))) :: Leaf.const (.pointer (some ⟨b.p, 2, Option.none⟩)) :: Leaf.const (.map (some b.bK)) :: Leaf.const (.int .i64 par) :: Leaf.const (.slice Av nv cv) :: Leaf.const (.int .i64 x) :: Leaf.pred (KidNew wd0 x) :: Leaf.pred (fun _ _ => True) :: Leaf.const (undef) :: []) (by kernel_rfl) (by kernel_rfl) (by kernel_rfl) ((Touch.refl _ _).drew) (⟨KidNew.stab hgS, fun _ _ _ _ _ => trivial, trivial⟩) (fun f hf => kid_start hf (HM.out.carry ((Touch.refl [] wd0).drew) (by simp)) (((Touch.refl [] wd0).drew).row HR.out (by simp))) ?_ ?_
          · intro i o ho f ac w hfi ht hJ hk hf hd
            match i, ho, hfi with
            | 0, ho, hfi =>
              have ho' : some _ = some o := ho
              cases ho'
              clear ho
              refine DoesG.toJoint ?_ (fun v' w' hφ' t' => hJ.keep t' (by decide) (by decide) (by decide) _)
              have e0 := known_slot hk 0 (by kernel_rfl) (v := .pointer (some ⟨b.p, 0, Option.none⟩)) rfl
              exact do_value (wanted_none rfl) (by rw [BigFrame.run_move (.tmp 0) rfl, e0]) rfl
            | 1, ho, hfi =>
              have ho' : some _ = some o := ho
              cases ho'
              clear ho
              refine DoesG.toJoint ?_ (fun v' w' hφ' t' => hJ.keep t' (by decide) (by decide) (by decide) _)
              have e38 := has_const (has_dep hd 0 (by kernel_rfl)) rfl rfl rfl (c := (.pointer (some ⟨b.p, 0, Option.none⟩)))
              exact do_value (wanted_none rfl) (v := (.pointer (some ⟨b.p, 0, Option.none⟩))) (by unfold execOp; simp only [e38]; rfl) rfl
            | 2, ho, hfi =>
              have ho' : some _ = some o := ho
              cases ho'
              clear ho
              refine DoesG.toJoint ?_ (fun v' w' hφ' t' => hJ.keep t' (by decide) (by decide) (by decide) _)
              have e39 := has_const (has_dep hd 1 (by kernel_rfl)) rfl rfl rfl (c := (.pointer (some ⟨b.p, 0, Option.none⟩)))
              exact do_value (wanted_none rfl) (v := .pointer (some ⟨b.p, 2, Option.none⟩)) (run_value rfl (by rw [e39]; simp [go_sem])) rfl
            | 3, ho, hfi =>
              have ho' : some _ = some o := ho
              cases ho'
              clear ho
              refine DoesG.toJoint ?_ (fun v' w' hφ' t' => hJ.keep t' (by decide) (by decide) (by decide) _)
              have e40 := has_const (has_dep hd 2 (by kernel_rfl)) rfl rfl rfl (c := (.pointer (some ⟨b.p, 2, Option.none⟩)))
              have c2 := (HBX.out.carry ht hpS).cell 2
              have lp := (HBX.out.carry ht hpS).lt
              simp only [List.getElem?_toArray, List.getElem?_cons_zero, List.getElem?_cons_succ] at c2
              exact do_value (wanted_none rfl) (v := .map (some b.bK)) (run_value rfl (by rw [e40]; simp [go_sem, c2])) rfl
            | 4, ho, hfi =>
              have ho' : some _ = some o := ho
              cases ho'
              clear ho
              refine DoesG.toJoint ?_ (fun v' w' hφ' t' => hJ.keep t' (by decide) (by decide) (by decide) _)
              have e6 := known_slot hk 6 (by kernel_rfl) (v := .int .i64 par) rfl
              exact do_value (wanted_none rfl) (by rw [BigFrame.run_move (.tmp 6) rfl, e6]) rfl
            | 5, ho, hfi =>
              have ho' : some _ = some o := ho
              cases ho'
              clear ho
              refine DoesG.toJoint ?_ (fun v' w' hφ' t' => hJ.keep t' (by decide) (by decide) (by decide) _)
              have e0 := known_slot hk 0 (by kernel_rfl) (v := .pointer (some ⟨b.p, 0, Option.none⟩)) rfl
              exact do_value (wanted_none rfl) (by rw [BigFrame.run_move (.tmp 0) rfl, e0]) rfl
            | 6, ho, hfi =>
              have ho' : some _ = some o := ho
              cases ho'
              clear ho
              refine DoesG.toJoint ?_ (fun v' w' hφ' t' => hJ.keep t' (by decide) (by decide) (by decide) _)
              have e43 := has_const (has_dep hd 5 (by kernel_rfl)) rfl rfl rfl (c := (.pointer (some ⟨b.p, 0, Option.none⟩)))
              exact do_value (wanted_none rfl) (v := (.pointer (some ⟨b.p, 0, Option.none⟩))) (by unfold execOp; simp only [e43]; rfl) rfl
            | 7, ho, hfi =>
              have ho' : some _ = some o := ho
              cases ho'
              clear ho
              refine DoesG.toJoint ?_ (fun v' w' hφ' t' => hJ.keep t' (by decide) (by decide) (by decide) _)
              have e44 := has_const (has_dep hd 6 (by kernel_rfl)) rfl rfl rfl (c := (.pointer (some ⟨b.p, 0, Option.none⟩)))
              exact do_value (wanted_none rfl) (v := .pointer (some ⟨b.p, 2, Option.none⟩)) (run_value rfl (by rw [e44]; simp [go_sem])) rfl
            | 8, ho, hfi =>
              have ho' : some _ = some o := ho
              cases ho'
              clear ho
              refine DoesG.toJoint ?_ (fun v' w' hφ' t' => hJ.keep t' (by decide) (by decide) (by decide) _)
              have e45 := has_const (has_dep hd 7 (by kernel_rfl)) rfl rfl rfl (c := (.pointer (some ⟨b.p, 2, Option.none⟩)))
              have c2 := (HBX.out.carry ht hpS).cell 2
              have lp := (HBX.out.carry ht hpS).lt
              simp only [List.getElem?_toArray, List.getElem?_cons_zero, List.getElem?_cons_succ] at c2
              exact do_value (wanted_none rfl) (v := .map (some b.bK)) (run_value rfl (by rw [e45]; simp [go_sem, c2])) rfl
            | 9, ho, hfi =>
              have ho' : some _ = some o := ho
              cases ho'
              clear ho
              refine DoesG.toJoint ?_ (fun v' w' hφ' t' => hJ.keep t' (by decide) (by decide) (by decide) _)
              have e6 := known_slot hk 6 (by kernel_rfl) (v := .int .i64 par) rfl
              exact do_value (wanted_none rfl) (by rw [BigFrame.run_move (.tmp 6) rfl, e6]) rfl
            | 10, ho, hfi =>
              have ho' : some _ = some o := ho
              cases ho'
              clear ho
              refine DoesG.toJoint ?_ (fun v' w' hφ' t' => hJ.keep t' (by decide) (by decide) (by decide) _)
              have e46 := has_const (has_dep hd 8 (by kernel_rfl)) rfl rfl rfl (c := (.map (some b.bK)))
              have e47 := has_const (has_dep hd 9 (by kernel_rfl)) rfl rfl rfl (c := (.int .i64 par))
              have h14 : f 14 = false := hJ.not14 (by omega) hfi
              exact do_value (wanted_none rfl) (v := .slice Av nv cv) (run_value rfl (by rw [e46, e47, (hJ.map h14).look Try.underlying3 Try.underlying48 (zero_ints w) hpar, hV])) rfl
            | 11, ho, hfi =>
              have ho' : some _ = some o := ho
              cases ho'
              clear ho
              refine DoesG.toJoint ?_ (fun v' w' hφ' t' => hJ.keep t' (by decide) (by decide) (by decide) _)
              have e5 := known_slot hk 5 (by kernel_rfl) (v := .int .i64 x) rfl
              exact do_value (wanted_none rfl) (by rw [BigFrame.run_move (.tmp 5) rfl, e5]) rfl
            | 12, ho, hfi =>
              have ho' : some _ = some o := ho
              cases ho'
              clear ho
              refine DoesG.toJoint ?_ (fun v' w' hφ' t' => hJ.keep t' (by decide) (by decide) (by decide) _)
              have e49 := has_const (has_dep hd 11 (by kernel_rfl)) rfl rfl rfl (c := (.int .i64 x))
              have fx : ac.tmps[49]?.getD undef = .int .i64 x := by simpa [Act.eval] using e49
              exact .inl ⟨wanted_none rfl, by rw [run_litK rfl fx]; exact ⟨kidNew_new x ht.size, (Touch.refl [] w).alloc _⟩⟩
            | 13, ho, hfi =>
              have ho' : some _ = some o := ho
              cases ho'
              clear ho
              have e48 := has_const (has_dep hd 10 (by kernel_rfl)) rfl rfl rfl (c := (.slice Av nv cv))
              obtain ⟨v50, e50, h50⟩ := has_pred (has_dep hd 12 (by kernel_rfl)) rfl rfl rfl (φ := KidNew wd0 x)
              obtain ⟨g, rfl, hg, hc⟩ := h50
              have hr := hJ.row hfi
              obtain ⟨v2, w2, hrun, r1, r2, r3, r4⟩ := run_append_own_at (P := Try.prog) w b.base 31 31 3 i0 (.int .i64 0) 1 8 Try.underlying31 hi0 hz0 hz1 hz2 rfl (by decide) (.slice Av nv cv) nv (zv Kv) hr ⟨g, 0, Option.none⟩ 1 1 [.int .i64 x] rfl hc (by simp [Value.oneCell']) (by unfold maxLen; omega) (by omega) (by have := ht.size; omega)
              exact doJ_made (wanted_none rfl) (run_appendK rfl e48 e50 hrun) ((Touch.refl _ w).grown r2 (fun k hk => .inl (by simp [hk]))) ⟨trivial, hJ.app hfi r1 (r4.imp id fun h => ⟨_, h, ht.size⟩) ((Touch.refl _ w).grown r2 (fun k hk => .inl (by simpa using hk))) (by rw [hk.2.1]; simp) hgb⟩
            | 14, ho, hfi =>
              have ho' : some _ = some o := ho
              cases ho'
              clear ho
              have e41 := has_const (has_dep hd 3 (by kernel_rfl)) rfl rfl rfl (c := (.map (some b.bK)))
              have e42 := has_const (has_dep hd 4 (by kernel_rfl)) rfl rfl rfl (c := (.int .i64 par))
              obtain ⟨v51, e51, h51⟩ := has_pred (has_dep hd 13 (by kernel_rfl)) rfl rfl rfl (φ := fun _ _ => True)
              have f13 := dep_fK hf 13 (by kernel_rfl)
              obtain ⟨w2, hrun, hm, t2⟩ := (hJ.map hfi).store Try.underlying3 Try.underlying48 (by unfold maxLen; omega) hpar v51
              exact doJ_update (wanted_none rfl) rfl e41 e42 e51 hrun (t2.mono (fun y hy => .inl (by simp at hy; simp [hy]))) ⟨rfl, hJ.upd f13 e51 hm t2 (fun j hj => by rcases (show j = 0 ∨ j = 1 ∨ j = 2 ∨ j = 3 ∨ j = 4 ∨ j = 5 ∨ j = 6 ∨ j = 7 ∨ j = 8 ∨ j = 9 ∨ j = 10 ∨ j = 11 ∨ j = 12 ∨ j = 13 by omega) with rfl | rfl | rfl | rfl | rfl | rfl | rfl | rfl | rfl | rfl | rfl | rfl | rfl | rfl <;> exact dep_fK hf _ (by kernel_rfl)) hbK⟩
            | q + 15, ho, hfi => exact absurd ho (by simp)
          · intro x' w5 f5 t5 hJ5 hall hkn
            obtain ⟨v5, ⟨hm5, ho5⟩, s5, hs5, hk5⟩ : ∃ v5, (w5.ownsRow b.base 3 1 v5 (nv + 1) (zv (Kv ++ [x])) ∧ (v5.ownBlock = (Value.slice Av nv cv).ownBlock ∨ ∃ g, v5.ownBlock = some g ∧ wd0.heap.size ≤ g)) ∧ ∃ s', s' ≤ sK + 1 ∧ IMap Try.prog 3 w5 b.bK s' (put V par (some v5)) := ⟨_, hJ5.made (hall 13 (by decide)), (hJ5.done (hall 14 (by decide))).1⟩
            have hVb : ∀ u, V par = some u → u = .slice Av nv cv := fun u hu => by rw [hu] at hV; exact hV
            have n1 := H3.out.cls.notCell rfl (H3.out.box.cell 0)
            have hSx : ∀ y, y ∈ (b.bK :: (Value.slice Av nv cv).ownBlock.toList) → y = b.bK ∨ (Value.slice Av nv cv).ownBlock = some y := fun y hy => by
              rcases List.mem_cons.1 hy with hm | hm
              · exact .inl hm
              · exact .inr (by simpa using hm)
            have hnS : ∀ y, y < b.base → y ≠ b.bK → y ∉ (b.bK :: (Value.slice Av nv cv).ownBlock.toList) := fun y h1 h2 hy => by
              rcases hSx y hy with h | h
              · exact h2 h
              · have := hbase y h
                omega
            have hold : ∀ i u, i ≠ par → V i = some u → ∀ g, u.ownBlock = some g → g < wd0.heap.size ∧ g ∉ (b.bK :: (Value.slice Av nv cv).ownBlock.toList) ∧ v5.ownBlock ≠ some g := fun i u hi hu g hg => by
              have hr := H3.out.rows i u hu
              have h1 := rowBase hr hg
              have h2 := own_lt hr hg
              have h3 : (Value.slice Av nv cv).ownBlock ≠ some g := fun e => by
                cases hp : V par with
                | none =>
                  rw [hp] at hV
                  have hV' : Value.slice Option.none 0 0 = .slice Av nv cv := hV
                  rw [← hV'] at e
                  simp [Value.ownBlock] at e
                | some u2 => exact H3.out.apart i par u u2 hi hu hp g hg (by rw [hVb u2 hp]; exact e)
              refine ⟨h2, fun hy => ?_, fun e => ?_⟩
              · rcases hSx g hy with h | h
                · omega
                · exact h3 h
              · rcases ho5 with h | ⟨g2, h, h4⟩
                · rw [h] at e
                  exact h3 e
                · rw [h] at e
                  cases e
                  omega
            have H5 := Lib.hid (show TreeAt w5 b ⟨rt, C, put V par (some v5), kidsK C (L.take (k + 1)), fun _ => Option.none⟩ sC s5 0 from by
              rw [ETK.out]
              refine ⟨H3.out.box.carry t5 hpS, H3.out.cls.carry t5 (hnS _ hlow.2.1 hne.1), hk5, H3.out.lvs.carry t5 (hnS _ hlow.2.2.2 (fun e => hne.2.2 e.symm)), fun i u hu => ?_, fun i hu => ?_, fun i j u u2 hij hu hu2 g hg => ?_, hlow, hne⟩
              · have hu : put V par (some v5) i = some u := hu
                by_cases hi : i = par
                · subst hi
                  rw [put_same] at hu
                  cases hu
                  have e : kidsK C (L.take k ++ [x]) i = Kv ++ [x] := by rw [KA.out hz, EKV.out]
                  show w5.ownsRow b.base 3 1 v5 (kidsK C (L.take k ++ [x]) i).length (zv (kidsK C (L.take k ++ [x]) i))
                  rw [e, List.length_append, ENV.out]
                  exact hm5
                · rw [put_other _ _ hi] at hu
                  have e : kidsK C (L.take k ++ [x]) i = kidsK C (L.take k) i := KO.out i hi
                  show w5.ownsRow b.base 3 1 u (kidsK C (L.take k ++ [x]) i).length (zv (kidsK C (L.take k ++ [x]) i))
                  rw [e]
                  exact t5.row (H3.out.rows i u hu) (fun g hg => (hold i u hi hu g hg).2.1)
              · have hu : put V par (some v5) i = Option.none := hu
                have hi : i ≠ par := fun e => by
                  subst e
                  rw [put_same] at hu
                  cases hu
                rw [put_other _ _ hi] at hu
                show kidsK C (L.take k ++ [x]) i = []
                rw [KO.out i hi]
                exact H3.out.none i hu
              · have hv : put V par (some v5) i = some u := hu
                have hv2 : put V par (some v5) j = some u2 := hu2
                by_cases hi : i = par
                · subst hi
                  rw [put_same] at hv
                  cases hv
                  rw [put_other _ _ (Ne.symm hij)] at hv2
                  intro e
                  exact (hold j u2 (Ne.symm hij) hv2 g e).2.2 hg
                · rw [put_other _ _ hi] at hv
                  by_cases hj : j = par
                  · subst hj
                    rw [put_same] at hv2
                    cases hv2
                    exact (hold i u hi hv g hg).2.2
                  · rw [put_other _ _ hj] at hv2
                    exact H3.out.apart i j u u2 hij hv hv2 g hg)
            have hTR := T3.out.size
            have habg : ∀ g, (Value.slice Av nv cv).ownBlock = some g → w1.heap.size ≤ g := fun g hg => by
              cases hp : V par with
              | none =>
                rw [hp] at hV
                have hV' : Value.slice Option.none 0 0 = .slice Av nv cv := hV
                rw [← hV'] at hg
                simp [Value.ownBlock] at hg
              | some u2 => exact HAB.out par u2 hp g (by rw [hVb u2 hp]; exact hg)
            have T5 := Lib.hid (T3.out.trans t5 (fun y hy => by
              rcases hSx y hy with h | h
              · exact .inl (by simp [h])
              · exact .inr (habg y h)))
            have AB5 := Lib.hid (show ∀ i u, put V par (some v5) i = some u → ∀ g, u.ownBlock = some g → w1.heap.size ≤ g from fun i u hu g hg => by
              by_cases hi : i = par
              · subst hi
                rw [put_same] at hu
                cases hu
                rcases ho5 with h | ⟨g2, h, h4⟩
                · rw [h] at hg
                  exact habg g hg
                · rw [h] at hg
                  cases hg
                  omega
              · rw [put_other _ _ hi] at hu
                exact HAB.out i u hu g hg)
            have PA := Lib.hid (show ∀ c ∈ L.take (k + 1), upC C c = 0 ∨ (C (upC C c)).isSome = true from fun c hc => by
              rw [ETK.out, List.mem_append] at hc
              rcases hc with hc | hc
              · exact HP.out c hc
              · simp at hc
                rw [hc, EP.out]
                exact .inr HC.out)
            have RN := Lib.hid (show rootsN C (L.take (k + 1)) = rootsN C (L.take k) by rw [ETK.out, RS.out, if_neg hz]; rfl)
            have RT := Lib.hid (show rootsN C (L.take (k + 1)) = 0 ∨ rt ∈ L.take (k + 1) ∧ upC C rt = 0 from by
              rw [RN.out]
              exact HR0.out.imp id fun h => ⟨by rw [ETK.out]; exact List.mem_append_left _ h.1, h.2⟩)
            clear hJ5 hall hkn hm5 ho5 hk5 hVb n1 hSx hnS hold habg hpS hgS hgb hV hrow hne hlow n2 HM HR HBX hpar t5
            simp only [putL, Act.put, List.setIfInBounds_toArray, List.set_cons_succ, List.set_cons_zero]
            go_wp2_with fail
            go_roundw
            case rel => exact ⟨k + 1, s5, rt, _, by omega, by go_num, by rw [RN.out], H5.out, by omega, PA.out, RT.out, T5.out, AB5.out⟩
            case measure => simp [intOf]; omega
    · obtain rfl : k = L.length := by omega
      have hlt' : ¬ (L.length : Int) < (L.length : Int) := by omega
      rw [List.take_length] at H2 HP HR0 ⊢
      have TT := Lib.hid ((T1.out.mono (S' := [b.p, b.bK]) (by simp)).trans TR.out (fun y hy => .inl hy))
      clear hlt hk
      by_cases h1 : rootsN C L = 1
      · have hb : ((rootsN C L : Int) == 1) = true := by simp [h1]
        have H9 := Lib.hid h1
        clear h1
        go_wp2_with fail
        go_ret
        refine ⟨.inl ⟨rfl, H9.out, HP.out, rt, ⟨V, sK, H2.out⟩, ?_⟩, TT.out⟩
        rcases HR0.out with h | h
        · rw [H9.out] at h
          cases h
        · exact h
      · have hb : ((rootsN C L : Int) == 1) = false := by simp; omega
        have H9 := Lib.hid h1
        clear h1
        go_wp2_with fail
        go_ret
        exact ⟨.inr ⟨rfl, fun h => absurd h H9.out⟩, TT.out⟩
end
end Go.Proofs.Ytcfogoepoghedaa
