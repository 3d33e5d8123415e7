/-
  Layer 18 (tree): Compile.
-/
import Derived.Test.YtcfogoepoghedaaTree8
namespace Go.Proofs.Ytcfogoepoghedaa
open Go.ChangeShapes Go.WideShapes Go.ChangeAt Go.RowKit Go.Deep Go.Maps
set_option linter.unusedVariables false
set_option linter.unusedSimpArgs false
theorem right_ids {c : Cl} (h : rightV c = 0) : 1 ≤ c.id ∧ c.id ≤ 65535 ∧ 0 ≤ c.parent ∧ c.parent ≤ 65535 ∧ c.parent ≠ c.id := by
  unfold rightV at h
  by_cases h1 : 1 ≤ c.id ∧ c.id ≤ 65535 ∧ 0 ≤ c.parent ∧ c.parent ≤ 65535
  · rw [if_neg (by simpa using h1)] at h
    by_cases h2 : c.parent = c.id
    · rw [if_pos h2] at h
      cases h
    · exact ⟨h1.1, h1.2.1, h1.2.2.1, h1.2.2.2, h2⟩
  · rw [if_pos h1] at h
    cases h
theorem gC_some {X : Nat → Cl} : ∀ {k : Nat} {i : Int} {c : Cl}, gC X k i = some c → ∃ j, j < k ∧ c = X j ∧ c.id = i
  | 0, i, c, h => by cases h
  | k + 1, i, c, h => by
    have h' : (if i = (X k).id then some (X k) else gC X k i) = some c := h
    by_cases hi : i = (X k).id
    · rw [if_pos hi] at h'
      cases h'
      exact ⟨k, by omega, rfl, hi.symm⟩
    · rw [if_neg hi] at h'
      obtain ⟨j, h1, h2⟩ := gC_some h'
      exact ⟨j, by omega, h2⟩
theorem gE_right {X : Nat → Cl} : ∀ {n : Nat}, gE X n = 0 → ∀ j, j < n → rightV (X j) = 0
  | 0, _, j, hj => by omega
  | n + 1, h, j, hj => by
    have e : gE X (n + 1) = if gE X n ≠ 0 then gE X n else if rightV (X n) ≠ 0 then rightV (X n) else if (gC X n (X n).id).isSome = true then 9 else 0 := rfl
    rw [e] at h
    by_cases h1 : gE X n = 0
    · rw [if_neg (by simpa using h1)] at h
      by_cases h2 : rightV (X n) = 0
      · rcases Nat.lt_or_ge j n with h3 | h3
        · exact gE_right h1 j h3
        · obtain rfl : j = n := by omega
          exact h2
      · rw [if_pos h2] at h
        exact absurd h h2
    · rw [if_pos h1] at h
      exact absurd h h1
theorem up_none {C : Int → Option Cl} {i : Int} (h : C i = none) : upC C i = 0 := by unfold upC clsOf; rw [h]; rfl
theorem up_some {C : Int → Option Cl} {i : Int} {c : Cl} (h : C i = some c) : upC C i = c.parent := by unfold upC clsOf; rw [h]; rfl
/-- Classes whose parents and whose one root are there. -/
def rootedP (C : Int → Option Cl) (L : List Int) : Prop := rootsN C L = 1 ∧ ∀ c ∈ L, upC C c = 0 ∨ (C (upC C c)).isSome = true
/-- What a tree is, whose maps hold the levels Lm. -/
def treeD (C : Int → Option Cl) (L : List Int) (rt : Int) (V : Int → Option Value) (Lm : Int → Option Int) : TD := ⟨rt, C, V, kidsK C L, Lm⟩
def leavesOf (C : Int → Option Cl) (L : List Int) : List Int := L.filter fun i => (C i).isSome && decide ((kidsK C L i).length = 0)
/-- What Compile comes to. -/
def CompOK (X : Nat → Cl) (n : Nat) (w' : World) (e : Ending) : Prop :=
  (gatherE X n ≠ 0 ∧ e = .returned (.tuple #[.pointer none, .int .i64 (gatherE X n)])) ∨
  gatherE X n = 0 ∧ ∃ L, IdsOf (gC X n) L ∧ L.length = n ∧
    (¬ rootedP (gC X n) L ∧ e = .returned (.tuple #[.pointer none, .int .i64 10]) ∨
     rootedP (gC X n) L ∧ (∃ i ∈ L, rise (upC (gC X n)) n i ≠ 0) ∧ e = .returned (.tuple #[.pointer none, .int .i64 11]) ∨
     rootedP (gC X n) L ∧ Forest (upC (gC X n)) L ∧ ∃ rt Lm, rt ∈ L ∧ upC (gC X n) rt = 0 ∧ LvOK (upC (gC X n)) (onWay (upC (gC X n)) (leavesOf (gC X n) L)) (lvF Lm) ∧
       (8 < lvF Lm rt ∧ e = .returned (.tuple #[.pointer none, .int .i64 12]) ∨
        lvF Lm rt ≤ 8 ∧ ∃ b V sK sL, e = .returned (.tuple #[.pointer (some ⟨b.p, 0, none⟩), .int .i64 0]) ∧ TreeAt w' b (treeD (gC X n) L rt V Lm) n sK sL))
section
variable {w w' : World}
set_option maxRecDepth 100000 in
set_option maxHeartbeats 6400000 in
theorem compile_any {A : Option Addr} {n c : Nat} {X : Nat → Cl} (hX : ClsCells w A n X) (hf : ∀ i, i < n → (X i).Fit) :
    Calls Try.prog 6 #[.slice A n c] w fun e w' => CompOK X n w' e ∧ Touch [] w w' := by
  have G := Lib.hid (gather_any (c := c) hX hf)
  have HF := Lib.hid hf
  clear hX hf
  have hU : ∀ i, i64k (upC (gC X n) i) := fun i => by
    cases h : gC X n i with
    | none => rw [up_none h]; exact i64k_of (by omega)
    | some c =>
      rw [up_some h]
      obtain ⟨j, hj, rfl, _⟩ := gC_some h
      exact i64k_of (HF.out j hj).2.1
  have HU := Lib.hid hU
  clear hU
  go_enter Try.func6, Try.ntmps6
  go_wp2_with fail
  refine (G.out).mono ?_
  rintro e w1 ⟨⟨hg, rfl⟩ | ⟨hg, b0, rfl, htr, hp0, hp1, hp2, hp3, hb⟩, t1⟩
  · have hb : (gatherE X n != 0) = true := by simpa using hg
    have HG := Lib.hid hg
    have T1 := Lib.hid t1
    clear hg t1 G
    go_wp2_with fail
    go_ret2
    exact ⟨.inl ⟨HG.out, rfl⟩, T1.out⟩
  · have hn : n ≤ 64 := by
      rcases Nat.lt_or_ge 64 n with h | h
      · unfold gatherE at hg
        rw [if_neg (by omega), if_pos h] at hg
        cases hg
      · exact h
    have hn0 : n ≠ 0 := fun h => by
      unfold gatherE at hg
      rw [if_pos h] at hg
      cases hg
    have hge : gE X n = 0 := by
      unfold gatherE at hg
      rwa [if_neg hn0, if_neg (by omega)] at hg
    have HG := Lib.hid hg
    have HR := Lib.hid (gE_right hge)
    have T1 := Lib.hid t1
    obtain ⟨b, eb⟩ : ∃ b : TB, (⟨b0.p, b0.bC, b0.bK, b0.bL, w1.heap.size⟩ : TB) = b := ⟨_, rfl⟩
    have ep : b0.p = b.p := by rw [← eb]
    have HB := Lib.hid (show w.heap.size ≤ b.p ∧ w.heap.size ≤ b.bK ∧ w.heap.size ≤ b.bL ∧ b.base = w1.heap.size by rw [← eb]; exact ⟨hp0, hp2, hp3, rfl⟩)
    have HT := Lib.hid (show TreeAt w1 b (bareT (gC X n)) n 0 0 from by
      rw [← eb]
      exact ⟨htr.box, htr.cls, htr.kids, htr.lvs, (fun i v hv => by cases hv), fun _ _ => rfl, (fun i j u v _ hu => by cases hu), ⟨htr.box.lt, htr.cls.lt, htr.kids.lt, htr.lvs.lt⟩, htr.ne⟩)
    rw [ep]
    clear hg hge t1 eb ep htr hp0 hp1 hp2 hp3 hb G
    -- the ids: those that the tree has
    obtain ⟨L, hL, hLn⟩ := tree_hasIds HT.out
    have HL := Lib.hid hL
    have RO := Lib.hid (tree_rooted (rt0 := 0) (V0 := fun _ => Option.none) HT.out (fun _ => rfl) (by omega) (by have := HB.out; omega) HU.out hL)
    clear hL
    go_wp2_with fail
    refine (RO.out).mono ?_
    rintro e w2 ⟨⟨rfl, hr1, hr2, rt, V, sK, ht2, hrt, hrt0⟩ | ⟨rfl, hnr⟩, t2⟩
    · have H2 := Lib.hid ht2
      have RP := Lib.hid (show rootedP (gC X n) L from ⟨hr1, hr2⟩)
      have RT := Lib.hid (show rt ∈ L ∧ upC (gC X n) rt = 0 from ⟨hrt, hrt0⟩)
      have T2 := Lib.hid (T1.out.trans t2 (fun y hy => .inr (by have := HB.out; simp at hy; rcases hy with rfl | rfl <;> omega)))
      have CI := Lib.hid (show Calls Try.prog 26 #[.pointer (some ⟨b.p, 0, Option.none⟩)] w2 fun e w' => (e = .returned (.bool true) ∧ (∃ i, i64k i ∧ (gC X n i).isSome = true ∧ rise (upC (gC X n)) n i ≠ 0) ∨ e = .returned (.bool false) ∧ ∀ i, i64k i → (gC X n i).isSome = true → rise (upC (gC X n)) n i = 0) ∧ Touch [] w2 w' from tree_circular ht2 (by omega) HU.out)
      clear ht2 hr1 hr2 hrt hrt0 t2 RO HT
      go_wp2_with fail
      refine (CI.out).mono ?_
      rintro e w3 ⟨⟨rfl, i, hi, hs, hz⟩ | ⟨rfl, hall⟩, t3⟩
      · have T3 := Lib.hid (T2.out.trans t3 (by simp))
        have NZ := Lib.hid (show ∃ i ∈ L, rise (upC (gC X n)) n i ≠ 0 from ⟨i, (HL.out.2 i).2 ⟨hi, hs⟩, hz⟩)
        clear hi hs hz t3 CI
        go_wp2_with fail
        go_ret2
        exact ⟨.inr ⟨HG.out, L, HL.out, hLn, .inr (.inl ⟨RP.out, NZ.out, rfl⟩)⟩, T3.out⟩
      · have T3 := Lib.hid (T2.out.trans t3 (by simp))
        have H3 := Lib.hid (H2.out.new t3)
        have hid1 : ∀ i c, gC X n i = some c → 1 ≤ i := fun i c h => by
          obtain ⟨j, hj, rfl, he⟩ := gC_some h
          have := right_ids (HR.out j hj)
          omega
        have FO := Lib.hid (show Forest (upC (gC X n)) L from ⟨ids_nodup HL.out, fun i hi => by
            obtain ⟨_, hs⟩ := (HL.out.2 i).1 hi
            obtain ⟨c, hc⟩ := Option.isSome_iff_exists.1 hs
            exact hid1 i c hc, by
            cases h0 : gC X n 0 with
            | none => exact up_none h0
            | some c => exact absurd (hid1 0 c h0) (by omega), fun i hi => by
            rcases RP.out.2 i hi with h | h
            · exact .inl h
            · exact .inr ((HL.out.2 _).2 ⟨HU.out i, h⟩), fun i hi => by
            obtain ⟨hk, hs⟩ := (HL.out.2 i).1 hi
            rw [hLn]
            exact hall i hk hs⟩)
        have ME := Lib.hid (tree_measure (d := ⟨rt, gC X n, V, kidsK (gC X n) L, fun _ => Option.none⟩) (sK := sK) (show TreeAt w3 b _ n sK 0 from H3.out) (by omega) HU.out HL.out FO.out hLn)
        clear hall hid1 t3 CI H2
        go_wp2_with fail
        refine (ME.out).mono ?_
        rintro e w4 ⟨rfl, Lm, sL, ht4, hlv, hsl, t4⟩
        have H5 := Lib.hid (show TreeAt w4 b (treeD (gC X n) L rt V Lm) n sK sL from ht4)
        have LV := Lib.hid (show LvOK (upC (gC X n)) (onWay (upC (gC X n)) (leavesOf (gC X n) L)) (lvF Lm) from hlv)
        have T4 := Lib.hid (T3.out.trans t4 (fun y hy => .inr (by have := HB.out; simp at hy; rcases hy with rfl; omega)))
        have hri := ((HL.out.2 rt).1 RT.out.1).1
        have LKL := Lib.hid (show ∀ w', Touch [] w4 w' → (Instr.lookup 49 (.map (some b.bL)) (.int .i64 rt) false).run Try.prog w' = .ok (.int .i64 (lvF Lm rt)) w' from fun w' t => (H5.out.new t).lookL rt hri)
        clear ht4 hlv t4 ME H3 hri
        generalize elv : lvF Lm rt = lv at LKL
        have ELV := Lib.hid elv
        clear elv
        have w5e : w4 = w4 := rfl
        by_cases hd : 8 < lv
        · have hdp : decide (8 < lv) = true := by simpa using hd
          have HD := Lib.hid hd
          clear hd
          go_upto_region 9 with fail
          refine wp_region_leaves (wd := w4) (Leaf.const (.pointer (some ⟨b.p, 0, Option.none⟩)) :: Leaf.const ((.pointer (some ⟨b.p, 0, Option.none⟩))) :: Leaf.const (.pointer (some ⟨b.p, 3, Option.none⟩)) :: Leaf.const (.map (some b.bL)) :: Leaf.const (.pointer (some ⟨b.p, 0, Option.none⟩)) :: Leaf.const ((.pointer (some ⟨b.p, 0, Option.none⟩))) :: Leaf.const (.pointer (some ⟨b.p, 0, Option.none⟩)) :: Leaf.const (.int .i64 rt) :: Leaf.const (.int .i64 lv) :: Leaf.const (.bool true) :: []) (by kernel_rfl) (by kernel_rfl) (by kernel_rfl) ((Touch.refl _ _).drew) (trivial) ?_ ?_
          · intro i o ho ac w ht hk hd
            match i, ho with
            | 0, ho =>
              have ho' : some _ = some o := ho
              cases ho'
              clear ho
              have e4 := known_slot hk 4 (by kernel_rfl) (v := .pointer (some ⟨b.p, 0, Option.none⟩)) rfl
              exact do_value (wanted_none rfl) (by rw [BigFrame.run_move (.tmp 4) rfl, e4]) rfl
            | 1, ho =>
              have ho' : some _ = some o := ho
              cases ho'
              clear ho
              have e21 := has_const (has_dep hd 0 (by kernel_rfl)) rfl rfl rfl (c := (.pointer (some ⟨b.p, 0, Option.none⟩)))
              exact do_value (wanted_none rfl) (v := (.pointer (some ⟨b.p, 0, Option.none⟩))) (by unfold execOp; simp only [e21]; rfl) rfl
            | 2, ho =>
              have ho' : some _ = some o := ho
              cases ho'
              clear ho
              have e22 := has_const (has_dep hd 1 (by kernel_rfl)) rfl rfl rfl (c := (.pointer (some ⟨b.p, 0, Option.none⟩)))
              exact do_value (wanted_none rfl) (v := .pointer (some ⟨b.p, 3, Option.none⟩)) (run_value rfl (by rw [e22]; simp [go_sem])) rfl
            | 3, ho =>
              have ho' : some _ = some o := ho
              cases ho'
              clear ho
              have e23 := has_const (has_dep hd 2 (by kernel_rfl)) rfl rfl rfl (c := (.pointer (some ⟨b.p, 3, Option.none⟩)))
              obtain ⟨c0, c1, c2, c3⟩ := (H5.out.new ht).cells
              exact do_value (wanted_none rfl) (v := .map (some b.bL)) (run_value rfl (by rw [e23]; simp [go_sem, c3])) rfl
            | 4, ho =>
              have ho' : some _ = some o := ho
              cases ho'
              clear ho
              have e4 := known_slot hk 4 (by kernel_rfl) (v := .pointer (some ⟨b.p, 0, Option.none⟩)) rfl
              exact do_value (wanted_none rfl) (by rw [BigFrame.run_move (.tmp 4) rfl, e4]) rfl
            | 5, ho =>
              have ho' : some _ = some o := ho
              cases ho'
              clear ho
              have e25 := has_const (has_dep hd 4 (by kernel_rfl)) rfl rfl rfl (c := (.pointer (some ⟨b.p, 0, Option.none⟩)))
              exact do_value (wanted_none rfl) (v := (.pointer (some ⟨b.p, 0, Option.none⟩))) (by unfold execOp; simp only [e25]; rfl) rfl
            | 6, ho =>
              have ho' : some _ = some o := ho
              cases ho'
              clear ho
              have e26 := has_const (has_dep hd 5 (by kernel_rfl)) rfl rfl rfl (c := (.pointer (some ⟨b.p, 0, Option.none⟩)))
              exact do_value (wanted_none rfl) (v := .pointer (some ⟨b.p, 0, Option.none⟩)) (run_value rfl (by rw [e26]; simp [go_sem])) rfl
            | 7, ho =>
              have ho' : some _ = some o := ho
              cases ho'
              clear ho
              have e27 := has_const (has_dep hd 6 (by kernel_rfl)) rfl rfl rfl (c := (.pointer (some ⟨b.p, 0, Option.none⟩)))
              obtain ⟨c0, c1, c2, c3⟩ := (H5.out.new ht).cells
              exact do_value (wanted_none rfl) (v := .int .i64 rt) (run_value rfl (by rw [e27]; simp [go_sem, c0, treeD])) rfl
            | 8, ho =>
              have ho' : some _ = some o := ho
              cases ho'
              clear ho
              have e24 := has_const (has_dep hd 3 (by kernel_rfl)) rfl rfl rfl (c := (.map (some b.bL)))
              have e28 := has_const (has_dep hd 7 (by kernel_rfl)) rfl rfl rfl (c := (.int .i64 rt))
              have hl := LKL.out _ ht
              exact do_value (wanted_none rfl) (v := .int .i64 lv) (run_value rfl (by rw [e24, e28, hl])) rfl
            | 9, ho =>
              have ho' : some _ = some o := ho
              cases ho'
              clear ho
              have e29 := has_const (has_dep hd 8 (by kernel_rfl)) rfl rfl rfl (c := (.int .i64 lv))
              exact do_value (wanted_none rfl) (v := .bool true) (run_value rfl (by rw [e29]; simp [go_sem, hdp])) rfl
            | q + 10, ho => exact absurd ho (by simp)
          · intro x' w6 t6 hkn
            simp only [putL, Act.put, List.setIfInBounds_toArray, List.set_cons_succ, List.set_cons_zero]
            have T6 := Lib.hid (T4.out.trans t6 (by simp))
            clear t6 hkn
            go_wp2_with fail
            go_ret2
            exact ⟨.inr ⟨HG.out, L, HL.out, hLn, .inr (.inr ⟨RP.out, FO.out, rt, Lm, RT.out.1, RT.out.2, LV.out, .inl ⟨by rw [ELV.out]; exact HD.out, rfl⟩⟩)⟩, T6.out⟩
        · have hdp : decide (8 < lv) = false := by simpa using hd
          have HD := Lib.hid hd
          clear hd
          go_upto_region 9 with fail
          refine wp_region_leaves (wd := w4) (Leaf.const (.pointer (some ⟨b.p, 0, Option.none⟩)) :: Leaf.const ((.pointer (some ⟨b.p, 0, Option.none⟩))) :: Leaf.const (.pointer (some ⟨b.p, 3, Option.none⟩)) :: Leaf.const (.map (some b.bL)) :: Leaf.const (.pointer (some ⟨b.p, 0, Option.none⟩)) :: Leaf.const ((.pointer (some ⟨b.p, 0, Option.none⟩))) :: Leaf.const (.pointer (some ⟨b.p, 0, Option.none⟩)) :: Leaf.const (.int .i64 rt) :: Leaf.const (.int .i64 lv) :: Leaf.const (.bool false) :: []) (by kernel_rfl) (by kernel_rfl) (by kernel_rfl) ((Touch.refl _ _).drew) (trivial) ?_ ?_
          · intro i o ho ac w ht hk hd
            match i, ho with
            | 0, ho =>
              have ho' : some _ = some o := ho
              cases ho'
              clear ho
              have e4 := known_slot hk 4 (by kernel_rfl) (v := .pointer (some ⟨b.p, 0, Option.none⟩)) rfl
              exact do_value (wanted_none rfl) (by rw [BigFrame.run_move (.tmp 4) rfl, e4]) rfl
            | 1, ho =>
              have ho' : some _ = some o := ho
              cases ho'
              clear ho
              have e21 := has_const (has_dep hd 0 (by kernel_rfl)) rfl rfl rfl (c := (.pointer (some ⟨b.p, 0, Option.none⟩)))
              exact do_value (wanted_none rfl) (v := (.pointer (some ⟨b.p, 0, Option.none⟩))) (by unfold execOp; simp only [e21]; rfl) rfl
            | 2, ho =>
              have ho' : some _ = some o := ho
              cases ho'
              clear ho
              have e22 := has_const (has_dep hd 1 (by kernel_rfl)) rfl rfl rfl (c := (.pointer (some ⟨b.p, 0, Option.none⟩)))
              exact do_value (wanted_none rfl) (v := .pointer (some ⟨b.p, 3, Option.none⟩)) (run_value rfl (by rw [e22]; simp [go_sem])) rfl
            | 3, ho =>
              have ho' : some _ = some o := ho
              cases ho'
              clear ho
              have e23 := has_const (has_dep hd 2 (by kernel_rfl)) rfl rfl rfl (c := (.pointer (some ⟨b.p, 3, Option.none⟩)))
              obtain ⟨c0, c1, c2, c3⟩ := (H5.out.new ht).cells
              exact do_value (wanted_none rfl) (v := .map (some b.bL)) (run_value rfl (by rw [e23]; simp [go_sem, c3])) rfl
            | 4, ho =>
              have ho' : some _ = some o := ho
              cases ho'
              clear ho
              have e4 := known_slot hk 4 (by kernel_rfl) (v := .pointer (some ⟨b.p, 0, Option.none⟩)) rfl
              exact do_value (wanted_none rfl) (by rw [BigFrame.run_move (.tmp 4) rfl, e4]) rfl
            | 5, ho =>
              have ho' : some _ = some o := ho
              cases ho'
              clear ho
              have e25 := has_const (has_dep hd 4 (by kernel_rfl)) rfl rfl rfl (c := (.pointer (some ⟨b.p, 0, Option.none⟩)))
              exact do_value (wanted_none rfl) (v := (.pointer (some ⟨b.p, 0, Option.none⟩))) (by unfold execOp; simp only [e25]; rfl) rfl
            | 6, ho =>
              have ho' : some _ = some o := ho
              cases ho'
              clear ho
              have e26 := has_const (has_dep hd 5 (by kernel_rfl)) rfl rfl rfl (c := (.pointer (some ⟨b.p, 0, Option.none⟩)))
              exact do_value (wanted_none rfl) (v := .pointer (some ⟨b.p, 0, Option.none⟩)) (run_value rfl (by rw [e26]; simp [go_sem])) rfl
            | 7, ho =>
              have ho' : some _ = some o := ho
              cases ho'
              clear ho
              have e27 := has_const (has_dep hd 6 (by kernel_rfl)) rfl rfl rfl (c := (.pointer (some ⟨b.p, 0, Option.none⟩)))
              obtain ⟨c0, c1, c2, c3⟩ := (H5.out.new ht).cells
              exact do_value (wanted_none rfl) (v := .int .i64 rt) (run_value rfl (by rw [e27]; simp [go_sem, c0, treeD])) rfl
            | 8, ho =>
              have ho' : some _ = some o := ho
              cases ho'
              clear ho
              have e24 := has_const (has_dep hd 3 (by kernel_rfl)) rfl rfl rfl (c := (.map (some b.bL)))
              have e28 := has_const (has_dep hd 7 (by kernel_rfl)) rfl rfl rfl (c := (.int .i64 rt))
              have hl := LKL.out _ ht
              exact do_value (wanted_none rfl) (v := .int .i64 lv) (run_value rfl (by rw [e24, e28, hl])) rfl
            | 9, ho =>
              have ho' : some _ = some o := ho
              cases ho'
              clear ho
              have e29 := has_const (has_dep hd 8 (by kernel_rfl)) rfl rfl rfl (c := (.int .i64 lv))
              exact do_value (wanted_none rfl) (v := .bool false) (run_value rfl (by rw [e29]; simp [go_sem, hdp])) rfl
            | q + 10, ho => exact absurd ho (by simp)
          · intro x' w6 t6 hkn
            simp only [putL, Act.put, List.setIfInBounds_toArray, List.set_cons_succ, List.set_cons_zero]
            have T6 := Lib.hid (T4.out.trans t6 (by simp))
            have H6 := Lib.hid (H5.out.new t6)
            clear t6 hkn
            go_wp2_with fail
            go_ret2
            exact ⟨.inr ⟨HG.out, L, HL.out, hLn, .inr (.inr ⟨RP.out, FO.out, rt, Lm, RT.out.1, RT.out.2, LV.out, .inr ⟨by rw [ELV.out]; have := HD.out; omega, b, V, sK, sL, rfl, H6.out⟩⟩)⟩, T6.out⟩
    · have T2 := Lib.hid (T1.out.trans t2 (fun y hy => .inr (by have := HB.out; simp at hy; rcases hy with rfl | rfl <;> omega)))
      have NR := Lib.hid (show ¬ rootedP (gC X n) L from hnr)
      clear hnr t2 RO
      go_wp2_with fail
      go_ret2
      exact ⟨.inr ⟨HG.out, L, HL.out, hLn, .inl ⟨NR.out, rfl⟩⟩, T2.out⟩
end
end Go.Proofs.Ytcfogoepoghedaa
