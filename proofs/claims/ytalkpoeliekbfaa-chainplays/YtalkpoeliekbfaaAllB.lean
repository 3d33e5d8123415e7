/-
  The contracts on which the law's proof rests, bound together in build order: Chain2, Phi4, Phi8, Chain3, SlabRef, SlabRef2, SlabRef3, SlabRef4, Chain4, Box, Chain5, Chain6, Phi9, SlabRef5, SlabRef6.
-/
import Derived.Test.YtalkpoeliekbfaaAllA
import Derived.Deep.MidRow
import Derived.Deep.DeepCutAuto
import Derived.OwnWalk
import Derived.IntWalk
import Derived.Deep.LoopGhost
import Derived.Laws.OwnMore
/-
  Contracts of layer 7 (chain): attach, Push.
-/
namespace Go.Proofs.Ytalkpoeliekbfaa
open Go.ChangeShapes Go.WideShapes Go.ChangeAt Go.RowKit Go.Deep
set_option linter.unusedVariables false
set_option linter.unusedSimpArgs false

section
variable {w : World} {p gn gw gl n cn cw k cl : Nat} {N V E : Nat → Int}
set_option maxHeartbeats 1600000 in
theorem attach_first (h : ChainAt w p gn gw gl n cn cw k cl N V E) (a : Nat) (ha : a < k) (h0 : E (a * 3 + 2) = 0) (f la cnt : Int) :
    Calls Try.prog 45 #[.pointer (some ⟨p, 0, none⟩), .int .i64 (a : Int), .agg #[.int .i64 f, .int .i64 la, .int .i64 cnt]] w fun e w' => e = .returned (.tuple #[]) ∧
      ChainAt w' p gn gw gl n cn cw k cl N V (upd (upd (upd E (a * 3) f) (a * 3 + 1) la) (a * 3 + 2) cnt) ∧ Touch [gl] w w' := by
  have t1 : Touch [] w (w.alloc (.cells #[.int .i64 f, .int .i64 la, .int .i64 cnt] 96)) := (Touch.refl [] w).alloc _
  have HB5 := Lib.hid (BoxV.new w 96 #[.int .i64 f, .int .i64 la, .int .i64 cnt])
  have H1 := Lib.hid (h.new t1)
  have T1 := Lib.hid t1
  clear h t1
  go_enter Try.func45, Try.ntmps45
  go_upto_region 1 with fail
  generalize w.alloc (.cells #[.int .i64 f, .int .i64 la, .int .i64 cnt] 96) = w1 at *
  generalize w.heap.size = b5 at *
  have c2 := H1.out.c2
  have hk := own_cap H1.out.ends
  obtain ⟨lp, ln, lw, ll⟩ := H1.out.lts
  unfold maxLen at hk
  have e0 := H1.out.cE (i := a * 3) (by omega)
  have e1 := H1.out.cE (i := a * 3 + 1) (by omega)
  have e2 := H1.out.cE (i := a * 3 + 2) (by omega)
  rw [h0] at e2
  have f0 := H1.out.ends.frozenAt (a * 3)
  have f1 := H1.out.ends.frozenAt (a * 3 + 1)
  have f2 := H1.out.ends.frozenAt (a * 3 + 2)
  have lb := HB5.out.lt
  have d0 := HB5.out.cell 0
  have d1 := HB5.out.cell 1
  have d2 := HB5.out.cell 2
  simp only [List.getElem?_toArray, List.getElem?_cons_zero, List.getElem?_cons_succ] at d0 d1 d2
  have HE := Lib.hid (((H1.out.setE (a * 3) f).setE (a * 3 + 1) la).setE (a * 3 + 2) cnt)
  have ha' : (a : Int) < (k : Int) := by omega
  clear h0
  go_wp2_with fail
  exact bodyPost_ret (results_none rfl _ _ _) rfl ⟨rfl, HE.out, ((((T1.out.mono (S' := [gl]) (by simp)).setCell (a := ⟨gl, a * 3, none⟩) (.inl (by simp)) _).setCell (a := ⟨gl, a * 3 + 1, none⟩) (.inl (by simp)) _).setCell (a := ⟨gl, a * 3 + 2, none⟩) (.inl (by simp)) _)⟩
set_option maxHeartbeats 1600000 in
set_option maxRecDepth 100000 in
theorem attach_more (h : ChainAt w p gn gw gl n cn cw k cl N V E) (a : Nat) (ha : a < k) (x : Nat) (hx : E (a * 3 + 1) = x) (hxn : x < n) (q : Int) (hq : E (a * 3 + 2) = q) (h0 : q ≠ 0) (f la cnt : Int) (hb : 0 ≤ q ∧ q ≤ 10000) (hc : 0 ≤ cnt ∧ cnt ≤ 10000) :
    Calls Try.prog 45 #[.pointer (some ⟨p, 0, none⟩), .int .i64 (a : Int), .agg #[.int .i64 f, .int .i64 la, .int .i64 cnt]] w fun e w' => e = .returned (.tuple #[]) ∧
      ChainAt w' p gn gw gl n cn cw k cl (upd N x f) V (upd (upd E (a * 3 + 1) la) (a * 3 + 2) (q + cnt)) ∧ Touch [gn, gl] w w' := by
  have t1 : Touch [] w (w.alloc (.cells #[.int .i64 f, .int .i64 la, .int .i64 cnt] 96)) := (Touch.refl [] w).alloc _
  have HB5 := Lib.hid (BoxV.new w 96 #[.int .i64 f, .int .i64 la, .int .i64 cnt])
  have HCH := Lib.hid (h.new t1)
  have T1 := Lib.hid t1
  have HB5L := Lib.hid (show gn ≠ w.heap.size ∧ gl ≠ w.heap.size from ⟨Nat.ne_of_lt h.lts.2.1, Nat.ne_of_lt h.lts.2.2.2⟩)
  have HFAR := Lib.hid h.far
  clear h t1
  have HA1 := Lib.hid (show a * 3 + 1 < k * 3 by omega)
  have HA2 := Lib.hid (show a * 3 + 2 < k * 3 by omega)
  have HX1 := Lib.hid hx
  have HXN := Lib.hid hxn
  have HWR := Lib.hid (show IntKind.i64.wrap (q + cnt) = q + cnt by rw [IntKind.wrap_i64]; omega)
  have b1 : (q == 0) = false := by simpa using h0
  go_enter Try.func45, Try.ntmps45
  go_upto_region 1 with fail
  generalize w.alloc (.cells #[.int .i64 f, .int .i64 la, .int .i64 cnt] 96) = w1 at *
  generalize w.heap.size = b5 at *
  have c2 := HCH.out.c2
  have hk := own_cap HCH.out.ends
  obtain ⟨lp, ln, lw, ll⟩ := HCH.out.lts
  unfold maxLen at hk
  have e2 := HCH.out.cE HA2.out
  rw [hq] at e2
  have HQ := Lib.hid hq
  have ha' : (a : Int) < (k : Int) := by omega
  clear hq hx h0
  go_upto_region 4 with fail
  have hkn := own_cap HCH.out.next
  unfold maxLen at hkn
  refine wp_region_store (wd := _) 11 (Leaf.const (.pointer (some ⟨p, 0, none⟩)) :: Leaf.const ((.pointer (some ⟨p, 0, none⟩))) :: Leaf.const (.pointer (some ⟨p, 0, none⟩)) :: Leaf.const (.slice (some ⟨gn, 0, none⟩) n cn) :: Leaf.const (.pointer (some ⟨gl, a * 3, none⟩)) :: Leaf.const ((.pointer (some ⟨gl, a * 3, none⟩))) :: Leaf.const (.pointer (some ⟨gl, a * 3 + 1, none⟩)) :: Leaf.const (.int .i64 (x : Int)) :: Leaf.const (.pointer (some ⟨b5, 0, none⟩)) :: Leaf.const (.int .i64 f) :: Leaf.const (.pointer (some ⟨gn, x, none⟩)) :: Leaf.const undef :: []) (by kernel_rfl) (by kernel_rfl) (by kernel_rfl) (by kernel_rfl) ((Touch.refl _ _).drew) (trivial) ?_ ?_
  · intro i o ho hin ac w ht hk hd
    match i, ho, hin with
    | 0, ho, hin =>
      have ho' : some _ = some o := ho
      cases ho'
      clear ho
      have e0 := known_slot hk 0 (by kernel_rfl) (v := .pointer (some ⟨p, 0, none⟩)) rfl
      exact do_value (wanted_none rfl) (by rw [BigFrame.run_move (.tmp 0) rfl, e0]) rfl
    | 1, ho, hin =>
      have ho' : some _ = some o := ho
      cases ho'
      clear ho
      have e21 := has_const (has_dep hd 0 (by kernel_rfl)) rfl rfl rfl (c := (.pointer (some ⟨p, 0, none⟩)))
      exact do_value (wanted_none rfl) (v := (.pointer (some ⟨p, 0, none⟩))) (by unfold execOp; simp only [e21]; rfl) rfl
    | 2, ho, hin =>
      have ho' : some _ = some o := ho
      cases ho'
      clear ho
      have e22 := has_const (has_dep hd 1 (by kernel_rfl)) rfl rfl rfl (c := (.pointer (some ⟨p, 0, none⟩)))
      exact do_value (wanted_none rfl) (v := .pointer (some ⟨p, 0, none⟩)) (run_value rfl (by rw [e22]; simp [go_sem])) rfl
    | 3, ho, hin =>
      have ho' : some _ = some o := ho
      cases ho'
      clear ho
      have e23 := has_const (has_dep hd 2 (by kernel_rfl)) rfl rfl rfl (c := (.pointer (some ⟨p, 0, none⟩)))
      have c0 := (HCH.out.new ht).c0
      exact do_value (wanted_none rfl) (v := .slice (some ⟨gn, 0, none⟩) n cn) (run_value rfl (by rw [e23]; simp [go_sem, c0])) rfl
    | 4, ho, hin =>
      have ho' : some _ = some o := ho
      cases ho'
      clear ho
      have e6 := known_slot hk 6 (by kernel_rfl) (v := .pointer (some ⟨gl, a * 3, none⟩)) rfl
      exact do_value (wanted_none rfl) (by rw [BigFrame.run_move (.tmp 6) rfl, e6]) rfl
    | 5, ho, hin =>
      have ho' : some _ = some o := ho
      cases ho'
      clear ho
      have e25 := has_const (has_dep hd 4 (by kernel_rfl)) rfl rfl rfl (c := (.pointer (some ⟨gl, a * 3, none⟩)))
      exact do_value (wanted_none rfl) (v := (.pointer (some ⟨gl, a * 3, none⟩))) (by unfold execOp; simp only [e25]; rfl) rfl
    | 6, ho, hin =>
      have ho' : some _ = some o := ho
      cases ho'
      clear ho
      have e26 := has_const (has_dep hd 5 (by kernel_rfl)) rfl rfl rfl (c := (.pointer (some ⟨gl, a * 3, none⟩)))
      exact do_value (wanted_none rfl) (v := .pointer (some ⟨gl, a * 3 + 1, none⟩)) (run_value rfl (by rw [e26]; simp [go_sem])) rfl
    | 7, ho, hin =>
      have ho' : some _ = some o := ho
      cases ho'
      clear ho
      have e27 := has_const (has_dep hd 6 (by kernel_rfl)) rfl rfl rfl (c := (.pointer (some ⟨gl, a * 3 + 1, none⟩)))
      have c1 := (HCH.out.new ht).cE HA1.out
      rw [HX1.out] at c1
      exact do_value (wanted_none rfl) (v := .int .i64 (x : Int)) (run_value rfl (by rw [e27]; simp [go_sem, c1])) rfl
    | 8, ho, hin =>
      have ho' : some _ = some o := ho
      cases ho'
      clear ho
      have e5 := known_slot hk 5 (by kernel_rfl) (v := .pointer (some ⟨b5, 0, none⟩)) rfl
      exact do_value (wanted_none rfl) (v := .pointer (some ⟨b5, 0, none⟩)) (run_value rfl (by rw [e5]; simp [go_sem])) rfl
    | 9, ho, hin =>
      have ho' : some _ = some o := ho
      cases ho'
      clear ho
      have e29 := has_const (has_dep hd 8 (by kernel_rfl)) rfl rfl rfl (c := (.pointer (some ⟨b5, 0, none⟩)))
      have c0 := (HB5.out.carry ht (by simp)).cell 0
      simp only [List.getElem?_toArray, List.getElem?_cons_zero, List.getElem?_cons_succ] at c0
      exact do_value (wanted_none rfl) (v := .int .i64 f) (run_value rfl (by rw [e29]; simp [go_sem, c0])) rfl
    | 10, ho, hin =>
      have ho' : some _ = some o := ho
      cases ho'
      clear ho
      have e24 := has_const (has_dep hd 3 (by kernel_rfl)) rfl rfl rfl (c := (.slice (some ⟨gn, 0, none⟩) n cn))
      have e28 := has_const (has_dep hd 7 (by kernel_rfl)) rfl rfl rfl (c := (.int .i64 (x : Int)))
      exact do_value (wanted_none rfl) (v := .pointer (some ⟨gn, x, none⟩)) (run_value rfl (by rw [e24, e28]; have hxn := HXN.out; (first | (simp [go_sem]; done) | (simp [go_sem]; omega)))) rfl
    | 11, ho, hin => exact absurd hin (by omega)
    | q + 12, ho, hin => exact absurd ho (by simp)
  · intro y w2 T2 hkw
    simp only [putL, Act.put, List.setIfInBounds_toArray, List.set_cons_succ, List.set_cons_zero, List.drop]
    clear hkw c2 e2 lp ln lw ll
    have HCH2 := Lib.hid (HCH.out.new T2)
    have HB52 := Lib.hid (HB5.out.carry T2 (by simp))
    have TT := Lib.hid (T1.out.trans T2 (by simp))
    clear T2 HCH HB5 T1
    obtain ⟨lp, ln, lw, ll⟩ := HCH2.out.lts
    have s0 := HCH2.out.cN HXN.out
    have s1 := HCH2.out.next.frozenAt x
    go_upto_region 5 with fail
    have t3 : Touch [gn] w2 (w2.setCell ⟨gn, x, none⟩ (.int .i64 f)) := (Touch.refl [gn] w2).setCell (a := ⟨gn, x, none⟩) (.inl (by simp)) _
    have HCH3 := Lib.hid (HCH2.out.setN x f)
    have HB53 := Lib.hid (HB52.out.carry t3 (by have := HB5L.out; simp; omega))
    have TT3 := Lib.hid ((TT.out.mono (S' := [gn, gl]) (by simp)).trans t3 (fun b hb => .inl (by simp at hb; simp [hb])))
    obtain ⟨w3, hw3⟩ : ∃ w3, w3 = w2.setCell ⟨gn, x, none⟩ (.int .i64 f) := ⟨_, rfl⟩
    rw [← hw3] at HCH3 HB53 TT3 ⊢
    clear hw3 t3 HCH2 HB52 TT s0 s1 lp ln lw ll
    obtain ⟨lp, ln, lw, ll⟩ := HCH3.out.lts
    have u1 := HCH3.out.cE HA1.out
    have u2 := HCH3.out.ends.frozenAt (a * 3 + 1)
    have lb := HB53.out.lt
    have d1 := HB53.out.cell 1
    simp only [List.getElem?_toArray, List.getElem?_cons_zero, List.getElem?_cons_succ] at d1
    go_upto_region 6 with fail
    have t4 : Touch [gl] w3 (w3.setCell ⟨gl, a * 3 + 1, none⟩ (.int .i64 la)) := (Touch.refl [gl] w3).setCell (a := ⟨gl, a * 3 + 1, none⟩) (.inl (by simp)) _
    have HCH := Lib.hid (HCH3.out.setE (a * 3 + 1) la)
    have HB5 := Lib.hid (HB53.out.carry t4 (by have := HB5L.out; simp; omega))
    have TT4 := Lib.hid (TT3.out.trans t4 (fun b hb => .inl (by simp at hb; simp [hb])))
    obtain ⟨w4, hw4⟩ : ∃ w4, w4 = w3.setCell ⟨gl, a * 3 + 1, none⟩ (.int .i64 la) := ⟨_, rfl⟩
    rw [← hw4] at HCH HB5 TT4 ⊢
    clear hw4 t4 HCH3 HB53 TT3 u1 u2 lb d1 lp ln lw ll
    have HE2 := Lib.hid (show upd E (a * 3 + 1) la (a * 3 + 2) = q by rw [upd_other _ _ (by omega)]; exact HQ.out)
    refine wp_region_store2 (wd := _) 9 (Leaf.const (.pointer (some ⟨gl, a * 3, none⟩)) :: Leaf.const ((.pointer (some ⟨gl, a * 3, none⟩))) :: Leaf.const (.pointer (some ⟨gl, a * 3 + 2, none⟩)) :: Leaf.const (.int .i64 q) :: Leaf.const (.pointer (some ⟨b5, 2, none⟩)) :: Leaf.const (.int .i64 cnt) :: Leaf.const (.int .i64 (q + cnt)) :: Leaf.const ((.pointer (some ⟨gl, a * 3, none⟩))) :: Leaf.const (.pointer (some ⟨gl, a * 3 + 2, none⟩)) :: Leaf.const undef :: []) (by kernel_rfl) (by kernel_rfl) (by kernel_rfl) (by kernel_rfl) ((Touch.refl _ _).drew) (trivial) ?_ ?_
    · intro i o ho hin ac w ht hk hd
      match i, ho, hin with
      | 0, ho, hin =>
        have ho' : some _ = some o := ho
        cases ho'
        clear ho
        have e6 := known_slot hk 6 (by kernel_rfl) (v := .pointer (some ⟨gl, a * 3, none⟩)) rfl
        exact do_value (wanted_none rfl) (by rw [BigFrame.run_move (.tmp 6) rfl, e6]) rfl
      | 1, ho, hin =>
        have ho' : some _ = some o := ho
        cases ho'
        clear ho
        have e37 := has_const (has_dep hd 0 (by kernel_rfl)) rfl rfl rfl (c := (.pointer (some ⟨gl, a * 3, none⟩)))
        exact do_value (wanted_none rfl) (v := (.pointer (some ⟨gl, a * 3, none⟩))) (by unfold execOp; simp only [e37]; rfl) rfl
      | 2, ho, hin =>
        have ho' : some _ = some o := ho
        cases ho'
        clear ho
        have e38 := has_const (has_dep hd 1 (by kernel_rfl)) rfl rfl rfl (c := (.pointer (some ⟨gl, a * 3, none⟩)))
        exact do_value (wanted_none rfl) (v := .pointer (some ⟨gl, a * 3 + 2, none⟩)) (run_value rfl (by rw [e38]; simp [go_sem])) rfl
      | 3, ho, hin =>
        have ho' : some _ = some o := ho
        cases ho'
        clear ho
        have e39 := has_const (has_dep hd 2 (by kernel_rfl)) rfl rfl rfl (c := (.pointer (some ⟨gl, a * 3 + 2, none⟩)))
        have c1 := (HCH.out.new ht).cE HA2.out
        rw [HE2.out] at c1
        exact do_value (wanted_none rfl) (v := .int .i64 q) (run_value rfl (by rw [e39]; simp [go_sem, c1])) rfl
      | 4, ho, hin =>
        have ho' : some _ = some o := ho
        cases ho'
        clear ho
        have e5 := known_slot hk 5 (by kernel_rfl) (v := .pointer (some ⟨b5, 0, none⟩)) rfl
        exact do_value (wanted_none rfl) (v := .pointer (some ⟨b5, 2, none⟩)) (run_value rfl (by rw [e5]; simp [go_sem])) rfl
      | 5, ho, hin =>
        have ho' : some _ = some o := ho
        cases ho'
        clear ho
        have e41 := has_const (has_dep hd 4 (by kernel_rfl)) rfl rfl rfl (c := (.pointer (some ⟨b5, 2, none⟩)))
        have c0 := (HB5.out.carry ht (by simp)).cell 2
        simp only [List.getElem?_toArray, List.getElem?_cons_zero, List.getElem?_cons_succ] at c0
        exact do_value (wanted_none rfl) (v := .int .i64 cnt) (run_value rfl (by rw [e41]; simp [go_sem, c0])) rfl
      | 6, ho, hin =>
        have ho' : some _ = some o := ho
        cases ho'
        clear ho
        have e40 := has_const (has_dep hd 3 (by kernel_rfl)) rfl rfl rfl (c := (.int .i64 q))
        have e42 := has_const (has_dep hd 5 (by kernel_rfl)) rfl rfl rfl (c := (.int .i64 cnt))
        exact do_value (wanted_none rfl) (v := .int .i64 (q + cnt)) (run_value rfl (by rw [e40, e42]; simp [go_sem, HWR.out])) rfl
      | 7, ho, hin =>
        have ho' : some _ = some o := ho
        cases ho'
        clear ho
        have e37 := has_const (has_dep hd 0 (by kernel_rfl)) rfl rfl rfl (c := (.pointer (some ⟨gl, a * 3, none⟩)))
        exact do_value (wanted_none rfl) (v := (.pointer (some ⟨gl, a * 3, none⟩))) (by unfold execOp; simp only [e37]; rfl) rfl
      | 8, ho, hin =>
        have ho' : some _ = some o := ho
        cases ho'
        clear ho
        have e44 := has_const (has_dep hd 7 (by kernel_rfl)) rfl rfl rfl (c := (.pointer (some ⟨gl, a * 3, none⟩)))
        exact do_value (wanted_none rfl) (v := .pointer (some ⟨gl, a * 3 + 2, none⟩)) (run_value rfl (by rw [e44]; simp [go_sem])) rfl
      | 9, ho, hin => exact absurd hin (by omega)
      | q + 10, ho, hin => exact absurd ho (by simp)
    · intro y w5 T5 hkw
      simp only [putL, Act.put, List.setIfInBounds_toArray, List.set_cons_succ, List.set_cons_zero, List.drop]
      clear hkw
      have HCH5 := Lib.hid (HCH.out.new T5)
      have TT5 := Lib.hid (TT4.out.trans T5 (by simp))
      clear T5 HCH HB5 TT4
      obtain ⟨lp, ln, lw, ll⟩ := HCH5.out.lts
      have u1 := HCH5.out.cE HA2.out
      have u2 := HCH5.out.ends.frozenAt (a * 3 + 2)
      have HE := Lib.hid (HCH5.out.setE (a * 3 + 2) (q + cnt))
      go_wp2_with fail
      exact bodyPost_end (results_none rfl _ _ _) rfl ⟨rfl, HE.out, TT5.out.setCell (a := ⟨gl, a * 3 + 2, none⟩) (.inl (by simp)) _⟩
/-- Push appends nothing. -/
theorem push_nil (l x : Int) (w : World) : Calls Try.prog 10 #[.pointer none, .int .i64 l, .int .i64 x] w fun e w' => e = .returned (.bool false) ∧ w' = w := by
  have D := Lib.hid (hasList_nil l w)
  go_enter Try.func10, Try.ntmps10
  go_wp2_with fail
  refine (D.out).mono ?_
  rintro e w1 ⟨rfl, rfl⟩
  go_wp2
  go_ret
  exact ⟨rfl, rfl⟩
theorem push_no (h : ChainAt w p gn gw gl n cn cw k cl N V E) (l x : Int) (hno : inR l k = false ∨ inR x n = false ∨ placeOf n V x ≠ -1) : Calls Try.prog 10 #[.pointer (some ⟨p, 0, none⟩), .int .i64 l, .int .i64 x] w fun e w' => e = .returned (.bool false) ∧ w' = w := by
  have D := Lib.hid (hasList_any h l)
  have D2 := Lib.hid (hasNode_any h x)
  have c1 := h.c1
  have hk := own_cap h.wher
  obtain ⟨lp, ln, lw, ll⟩ := h.lts
  unfold maxLen at hk
  cases hl : inR l k
  · rw [hl] at D
    clear h hno
    go_enter Try.func10, Try.ntmps10
    go_wp2_with fail
    refine (D.out).mono ?_
    rintro e w1 ⟨rfl, rfl⟩
    go_wp2
    go_ret
    exact ⟨rfl, rfl⟩
  · rw [hl] at D
    by_cases h0 : 0 ≤ x ∧ x < n
    · obtain ⟨a, rfl⟩ := Int.eq_ofNat_of_zero_le h0.1
      have ha : a < n := by omega
      rw [inR_yes h0] at D2
      have hv : V a ≠ -1 := by
        rcases hno with h1 | h1 | h1
        · rw [hl] at h1; cases h1
        · rw [inR_yes h0] at h1; cases h1
        · unfold placeOf at h1
          rwa [inR_yes h0, if_pos rfl, Int.toNat_natCast] at h1
      have ce := h.cV ha
      have b1 : (V a != -1) = true := by simpa using hv
      have ha0 : (0 : Int) ≤ (a : Int) := Int.natCast_nonneg _
      have ha1 : (a : Int) < (n : Int) := by omega
      generalize V a = y at *
      clear h hno h0 hv hl
      go_enter Try.func10, Try.ntmps10
      go_wp2_with fail
      refine (D.out).mono ?_
      rintro e w1 ⟨rfl, rfl⟩
      go_wp2_with fail
      refine (D2.out).mono ?_
      rintro e w1 ⟨rfl, rfl⟩
      go_wp2
      go_ret
      exact ⟨rfl, rfl⟩
    · rw [inR_no h0] at D2
      clear h hno h0 hl
      go_enter Try.func10, Try.ntmps10
      go_wp2_with fail
      refine (D.out).mono ?_
      rintro e w1 ⟨rfl, rfl⟩
      go_wp2_with fail
      refine (D2.out).mono ?_
      rintro e w1 ⟨rfl, rfl⟩
      go_wp2
      go_ret
      exact ⟨rfl, rfl⟩
/-- Push onto a list: what attach makes of it. -/
theorem push_of (h : ChainAt w p gn gw gl n cn cw k cl N V E) (l x : Nat) (hl : l < k) (hx : x < n) (hv : V x = -1) (Q : World → Prop)
    (D : ChainAt (w.setCell ⟨gw, x, none⟩ (.int .i64 (l : Int))) p gn gw gl n cn cw k cl N (upd V x l) E →
      Calls Try.prog 45 #[.pointer (some ⟨p, 0, none⟩), .int .i64 (l : Int), .agg #[.int .i64 (x : Int), .int .i64 (x : Int), .int .i64 1]] (w.setCell ⟨gw, x, none⟩ (.int .i64 (l : Int))) fun e w' => e = .returned (.tuple #[]) ∧ Q w') :
    Calls Try.prog 10 #[.pointer (some ⟨p, 0, none⟩), .int .i64 (l : Int), .int .i64 (x : Int)] w fun e w' => e = .returned (.bool true) ∧ Q w' := by
  have D0 := hasList_any h l
  rw [inR_yes ⟨by omega, by omega⟩] at D0
  have D1 := hasNode_any h x
  rw [inR_yes ⟨by omega, by omega⟩] at D1
  have DL := Lib.hid D0
  have DN := Lib.hid D1
  have c1 := h.c1
  have hk := own_cap h.wher
  obtain ⟨lp, ln, lw, ll⟩ := h.lts
  unfold maxLen at hk
  have ce := h.cV hx
  rw [hv] at ce
  have cf := h.wher.frozenAt x
  have DA := Lib.hid (D (h.setV x l))
  have hx0 : (0 : Int) ≤ (x : Int) := Int.natCast_nonneg _
  have hx1 : (x : Int) < (n : Int) := by omega
  clear h hv D D0 D1
  go_enter Try.func10, Try.ntmps10
  go_wp2_with fail
  refine (DL.out).mono ?_
  rintro e w1 ⟨rfl, rfl⟩
  go_wp2_with fail
  refine (DN.out).mono ?_
  rintro e w1 ⟨rfl, rfl⟩
  go_wp2_with fail
  refine (DA.out).mono ?_
  rintro e w1 ⟨rfl, hq⟩
  have HQ := Lib.hid hq
  clear hq
  go_wp2_with fail
  go_ret
  exact ⟨rfl, HQ.out⟩
end
end Go.Proofs.Ytalkpoeliekbfaa

/-
  Regions that draw their order, one of whose operations writes known blocks; the others make new memory alone.
-/
namespace Go.Proofs.Ytalkpoeliekbfaa
open Go.ChangeShapes Go.WideShapes Go.ChangeAt Go.RowKit Go.Deep
set_option linter.unusedVariables false

/-- A predicate that writing those blocks does not disturb. -/
def StabS (S : List Nat) (φ : Value → World → Prop) : Prop := ∀ v w w', φ v w → Touch S w w' → φ v w'
def RunsToS (P : Program) (S : List Nat) (φ : Value → World → Prop) (w : World) : Result Next → Prop
  | .ok (.value v) w' => φ v w' ∧ Touch S w w'
  | .ok .skip w' => φ undef w' ∧ Touch S w w'
  | .ok (.enter f args) w' => Touch [] w w' ∧ Calls P f args w' fun e w'' => ∃ v, e = .returned v ∧ φ v w'' ∧ Touch S w' w''
  | _ => False
def DoesS (P : Program) (ops : Array Oper) (S : List Nat) (φ : Value → World → Prop) (o : Oper) (a : Act) (w : World) : Prop :=
  (Region.wanted o (yielded ops a.tmps) = true ∧ RunsToS P S φ w ((execOp a.eval o).run P w)) ∨ (Region.wanted o (yielded ops a.tmps) = false ∧ φ undef w)
/-- What each leaves stays: of the writer's under new memory, of the others' under what the writer writes, too. -/
def StabW (S : List Nat) (jw : Nat) : List Leaf → Nat → Prop
  | [], _ => True
  | .const _ :: L, k => StabW S jw L (k + 1)
  | .pred φ :: L, k => (if k = jw then StabS [] φ else StabS S φ) ∧ StabW S jw L (k + 1)
theorem okL_stabW {S : List Nat} {jw : Nat} : ∀ {L : List Leaf} {k : Nat}, StabW S jw L k → ∀ j, (k + j ≠ jw → StabS S (okL L j)) ∧ (k + j = jw → StabS [] (okL L j))
  | [], _, _, j => ⟨fun _ v w w' h t => by simp [okL], fun _ v w w' h t => by simp [okL]⟩
  | .const c :: L, k, hs, 0 => ⟨fun _ v w w' h t => by simpa [okL, Leaf.ok] using h, fun _ v w w' h t => by simpa [okL, Leaf.ok] using h⟩
  | .pred φ :: L, k, hs, 0 => by
    have h1 := hs.1
    refine ⟨fun hne v w w' h t => ?_, fun heq v w w' h t => ?_⟩
    · rw [if_neg (by simpa using hne)] at h1
      have : φ v w' := h1 v w w' (by simpa [okL, Leaf.ok] using h) t
      simpa [okL, Leaf.ok] using this
    · rw [if_pos (by simpa using heq)] at h1
      have : φ v w' := h1 v w w' (by simpa [okL, Leaf.ok] using h) t
      simpa [okL, Leaf.ok] using this
  | .const c :: L, k, hs, j + 1 => by
    have := okL_stabW (L := L) (k := k + 1) hs j
    rw [show k + (j + 1) = k + 1 + j by omega]
    exact this
  | .pred φ :: L, k, hs, j + 1 => by
    have := okL_stabW (L := L) (k := k + 1) hs.2 j
    rw [show k + (j + 1) = k + 1 + j by omega]
    exact this

section
variable {P : Program} {ops : Array Oper} {Q : Exit → Act → World → Prop}
theorem DoesS.wpOp {S : List Nat} {i : Nat} {o : Oper} {a : Act} {w : World} {φ : Value → World → Prop} {K : Act → World → Prop} (hi : ops[i]? = some o) (h : DoesS P ops S φ o a w) (hK : ∀ v w', φ v w' → Touch S w w' → K (a.put o.dst v) w') :
    wpOp P ops Q i K a w := by
  unfold Go.wpOp
  simp only [hi]
  rcases h with ⟨h1, h2⟩ | ⟨h1, h2⟩
  · rw [if_pos h1]
    left
    unfold Oper.wp
    generalize (execOp a.eval o).run P w = r at *
    cases r with
    | ok n w' =>
      cases n with
      | value v => exact hK v w' h2.1 h2.2
      | skip => exact hK undef w' h2.1 h2.2
      | enter f args =>
        obtain ⟨t, hc⟩ := h2
        show Calls P f args w' _
        exact hc.mono fun e w'' ⟨v, he, hφ, t'⟩ => by subst he; exact hK v w'' hφ ((t.mono (S' := S) (by simp)).trans t' (fun b hb => .inl hb))
      | _ => exact h2.elim
    | halt x w' => exact h2.elim
  · rw [if_neg (by rw [h1]; decide)]
    exact hK _ _ h2 (Touch.refl _ _)

/-- The worlds on the way: till the writer is through, new memory alone. -/
def OnWay (S : List Nat) (jw : Nat) (listed : Array Bool) (wd w : World) : Prop := if listed.getD jw false = true then Touch S wd w else Touch [] wd w
theorem OnWay.all {S : List Nat} {jw : Nat} {listed : Array Bool} {wd w : World} (h : OnWay S jw listed wd w) : Touch S wd w := by
  unfold OnWay at h
  split at h
  · exact h
  · exact h.mono (by simp)

theorem wpAny_phiW {a0 : Act} {wd : World} {S : List Nat} {jw : Nat} {Φ : Nat → Value → World → Prop} (hst : ∀ j, (j ≠ jw → StabS S (Φ j)) ∧ (j = jw → StabS [] (Φ j))) (hdst : ∀ (i j : Nat) (o o' : Oper) (d : Tmp), ops[i]? = some o → ops[j]? = some o' → o.dst = some d → o'.dst = some d → i = j)
    (hin : ∀ (i : Nat) (o : Oper) (d : Tmp), ops[i]? = some o → o.dst = some d → d < a0.tmps.size) (hacy : ∀ (i : Nat) (o : Oper) (e : Edge), ops[i]? = some o → e ∈ o.after → Region.binds .any e = true → e.on < i)
    (hop : ∀ (i : Nat) (o : Oper), ops[i]? = some o → i ≠ jw → ∀ a w, Touch S wd w → Known ops a0 a → (∀ e ∈ o.after, Region.binds .any e = true → Has ops Φ a w e.on) → DoesG P ops (Φ i) o a w)
    (hwr : ∀ (o : Oper), ops[jw]? = some o → ∀ a w, Touch [] wd w → Known ops a0 a → (∀ e ∈ o.after, Region.binds .any e = true → Has ops Φ a w e.on) → DoesS P ops S (Φ jw) o a w)
    (hend : ∀ a w, Touch S wd w → Known ops a0 a → (∀ j, j < ops.size → Has ops Φ a w j) → Q .normal a w) :
    ∀ (fuel : Nat) (listed : Array Bool) (a : Act) (w : World), listed.size = ops.size → listed.toList.count false ≤ fuel → OnWay S jw listed wd w → Known ops a0 a → (∀ j, listed.getD j false = true → Has ops Φ a w j) → wpAny P .any ops Q fuel listed a w := by
  intro fuel
  induction fuel with
  | zero =>
    intro listed a w hs hc ht hk hh
    have hall : ∀ i, i < ops.size → listed.getD i false = true := by
      intro i hi
      have hil : i < listed.size := by omega
      have h0 : listed.toList.count false = 0 := by omega
      rw [List.count_eq_zero] at h0
      simp only [Array.getD_eq_getD_getElem?, Array.getElem?_eq_getElem hil, Option.getD_some]
      cases hx : listed[i]
      · exact absurd (by rw [← hx]; simp) h0
      · rfl
    exact ⟨none_ready hall, hend a w ht.all hk fun j hj => hh j (hall j hj)⟩
  | succ fuel ih =>
    intro listed a w hs hc ht hk hh
    refine ⟨fun h0 => hend a w ht.all hk fun j hj => hh j (all_listed hacy hs h0 j hj), fun i hi => ?_⟩
    obtain ⟨hun, o, ho, hall⟩ := mem_ready.1 hi
    have hlt : i < ops.size := (Array.getElem?_eq_some_iff.1 ho).1
    have hil : i < listed.size := by omega
    have hif : listed[i] = false := by simpa [Array.getD_eq_getD_getElem?, Array.getElem?_eq_getElem hil] using hun
    have step : ∀ (T : List Nat) (v : Value) (w' : World), (∀ j, j ≠ i → StabS T (Φ j) ∨ listed.getD j false = false) → Φ i v w' → Touch T w w' → OnWay S jw (listed.setIfInBounds i true) wd w' → wpAny P .any ops Q fuel (listed.setIfInBounds i true) (a.put o.dst v) w' := by
      intro T v w' hT hφ t hway
      refine ih _ _ _ (by simpa using hs) ?_ hway ?_ ?_
      · rw [Array.toList_setIfInBounds, List.count_set (by simpa using hil)]
        have : listed.toList[i]'(by simpa using hil) = false := by simpa using hif
        rw [this]
        have hpos : 0 < listed.toList.count false := List.count_pos_iff.2 (by rw [← this]; simp)
        have e1 : (if (false == false) = true then 1 else 0 : Nat) = 1 := rfl
        have e2 : (if (true == false) = true then 1 else 0 : Nat) = 0 := rfl
        rw [e1, e2]
        omega
      · obtain ⟨k1, k2, k3⟩ := hk
        cases hd : o.dst with
        | none => exact ⟨k1, k2, k3⟩
        | some d =>
          refine ⟨k1, by simp [Act.put, k2], fun q hq => ?_⟩
          have hne : d ≠ q := fun e => hq i o ho (by rw [hd, e])
          simp only [Act.put]
          rw [Array.getElem?_setIfInBounds_ne hne]
          exact k3 q hq
      · intro j hj o' d' ho' hd'
        by_cases e : j = i
        · subst e
          obtain rfl : o = o' := by rw [ho] at ho'; simpa using ho'
          refine ⟨v, ?_, hφ⟩
          rw [hd']
          have := hin j o d' ho hd'
          simp [Act.put, hk.2.1, this]
        · have hjl : listed.getD j false = true := by
            simp only [Array.getD_eq_getD_getElem?] at hj ⊢
            rwa [Array.getElem?_setIfInBounds_ne (fun h => e h.symm)] at hj
          obtain ⟨u, hu, hΦ⟩ := hh j hjl o' d' ho' hd'
          have hs' : StabS T (Φ j) := by
            rcases hT j e with h | h
            · exact h
            · rw [hjl] at h; cases h
          refine ⟨u, ?_, hs' u w w' hΦ t⟩
          cases hd : o.dst with
          | none => exact hu
          | some d =>
            have hne : d ≠ d' := fun e2 => e (hdst j i o' o d' ho' ho hd' (by rw [hd, e2]))
            simp only [Act.put]
            rw [Array.getElem?_setIfInBounds_ne hne]
            exact hu
    by_cases hij : i = jw
    · subst hij
      have hnl : listed.getD i false = false := by simp only [Array.getD_eq_getD_getElem?, Array.getElem?_eq_getElem hil, Option.getD_some]; exact hif
      have ht0 : Touch [] wd w := by
        unfold OnWay at ht
        rwa [if_neg (by rw [hnl]; decide)] at ht
      refine DoesS.wpOp ho (hwr o ho a w ht0 hk fun e he hb => hh e.on (hall e he hb)) fun v w' hφ t => ?_
      refine step S v w' (fun j hj => .inl ((hst j).1 hj)) hφ t ?_
      unfold OnWay
      rw [if_pos (by simp [Array.getD_eq_getD_getElem?, hil])]
      exact (ht0.mono (S' := S) (by simp)).trans t (fun b hb => .inl hb)
    · refine DoesG.wpOp ho (hop i o ho hij a w ht.all hk fun e he hb => hh e.on (hall e he hb)) fun v w' hφ t => ?_
      refine step [] v w' (fun j hj => .inl ?_) hφ t ?_
      · by_cases hjw : j = jw
        · exact (hst j).2 hjw
        · exact fun v w w' h t => (hst j).1 hjw v w w' h (t.mono (by simp))
      · unfold OnWay at ht ⊢
        have : (listed.setIfInBounds i true).getD jw false = listed.getD jw false := by
          simp only [Array.getD_eq_getD_getElem?]
          rw [Array.getElem?_setIfInBounds_ne hij]
        rw [this]
        split at ht
        · rename_i h
          rw [if_pos h]
          exact ht.trans t (by simp)
        · rename_i h
          rw [if_neg h]
          exact ht.trans t (by simp)

/-- A region one of whose operations (jw) writes the blocks S. -/
theorem wp_region_writes {id : Nat} {a0 : Act} {w wd : World} {l : List Oper} (S : List Nat) (jw : Nat) (L : List Leaf) (hm : P.follows .mixedOrders = true) (hB : phiB l.toArray a0.tmps.size = true) (hL : slotsB L l = true) (hw : Touch [] wd w.drew) (hst : StabW S jw L 0)
    (hop : ∀ (i : Nat) (o : Oper), l[i]? = some o → i ≠ jw → ∀ a w, Touch S wd w → Known l.toArray a0 a → (∀ e ∈ o.after, Region.binds .any e = true → Has l.toArray (okL L) a w e.on) → DoesG P l.toArray (okL L i) o a w)
    (hwr : ∀ (o : Oper), l[jw]? = some o → ∀ a w, Touch [] wd w → Known l.toArray a0 a → (∀ e ∈ o.after, Region.binds .any e = true → Has l.toArray (okL L) a w e.on) → DoesS P l.toArray S (okL L jw) o a w)
    (hend : ∀ (x : Nat → Value) (w : World), Touch S wd w → KnowL x w L 0 → Q .normal (putL x L l 0 a0) w) : (Code.region id l.toArray true).wp P Q a0 w := by
  obtain ⟨h1, h2, h3⟩ := phiB_spec hB
  have hs := okL_stabW hst
  simp only [Nat.zero_add] at hs
  refine wp_region_any hm (wpAny_phiW hs h1 h2 h3 (fun i o ho => hop i o (by simpa using ho)) (fun o ho => hwr o (by simpa using ho)) (fun a w ht hk hh => ?_) l.toArray.size (Array.replicate l.toArray.size false) a0 _ (by simp) (by simp) (by
      unfold OnWay
      rw [if_neg (by
        simp only [Array.getD_eq_getD_getElem?]
        rcases Nat.lt_or_ge jw l.toArray.size with hlt | hge
        · simp [show jw < l.length by simpa using hlt]
        · rw [Array.getElem?_eq_none (by simpa using hge)]; simp)]
      exact hw) ⟨rfl, rfl, fun _ _ => rfl⟩ (fun j hj => ?_))
  · have hx : ∀ (j : Nat) (o : Oper) (d : Tmp), l.toArray[j]? = some o → o.dst = some d → (fun j => a.tmps.getD (((l[j]?).bind (·.dst)).getD 0) undef) j = a.tmps.getD d undef := fun j o d ho hd => by
      have ho' : l[j]? = some o := by simpa using ho
      simp [ho', hd]
    have e := putL_all (a := a) (w := w) (L0 := L) (fun j => a.tmps.getD (((l[j]?).bind (·.dst)).getD 0) undef) hx hh L l 0 a0 (fun j => by rw [Nat.zero_add]) (fun j => by rw [Nat.zero_add]; simp) (slotsB_length hL) hk.1.symm hk.2.1.symm
      (fun t hn => (hk.2.2 t fun j o ho => hn j o (Nat.zero_le _) ho).symm)
    have k := knowL_of (a := a) (w := w) (L0 := L) _ hx hh L l 0 (fun j => by rw [Nat.zero_add]) (fun j => by rw [Nat.zero_add]; simp) hL
    have := hend _ w ht k
    rwa [e] at this
  · simp only [Array.getD_eq_getD_getElem?] at hj
    rcases Nat.lt_or_ge j l.toArray.size with hlt | hge
    · simp [show j < l.length by simpa using hlt] at hj
    · simp only [List.size_toArray] at hj hge
      rw [Array.getElem?_eq_none (by simpa using hge)] at hj
      simp at hj
end
section
variable {P : Program} {ops : Array Oper} {a a0 : Act} {w : World} {φ : Value → World → Prop} {o : Oper} {S : List Nat}
theorem doS_enter (hw : Region.wanted o (yielded ops a.tmps) = true) {f : FuncId} {args : Array Value} (hrun : (execOp a.eval o).run P w = .ok (.enter f args) w)
    (h : Calls P f args w fun e w'' => ∃ v, e = .returned v ∧ φ v w'' ∧ Touch S w w'') : DoesS P ops S φ o a w := .inl ⟨hw, by rw [hrun]; exact ⟨Touch.refl _ _, h⟩⟩
end
end Go.Proofs.Ytalkpoeliekbfaa

/-
  Regions that draw their order and hold several stores: what memory is, by which operations are through (J).
-/
namespace Go.Proofs.Ytalkpoeliekbfaa
open Go.ChangeShapes Go.WideShapes Go.ChangeAt Go.RowKit Go.Deep
set_option linter.unusedVariables false

def RunsToJ (P : Program) (S : List Nat) (φ : Value → World → Prop) (ψ : World → Prop) (w : World) : Result Next → Prop
  | .ok (.value v) w' => φ v w' ∧ ψ w' ∧ Touch S w w'
  | .ok .skip w' => φ undef w' ∧ ψ w' ∧ Touch S w w'
  | .ok (.enter f args) w' => Touch [] w w' ∧ Calls P f args w' fun e w'' => ∃ v, e = .returned v ∧ φ v w'' ∧ ψ w'' ∧ Touch S w' w''
  | _ => False
def DoesJ (P : Program) (ops : Array Oper) (S : List Nat) (φ : Value → World → Prop) (ψ : World → Prop) (o : Oper) (a : Act) (w : World) : Prop :=
  (Region.wanted o (yielded ops a.tmps) = true ∧ RunsToJ P S φ ψ w ((execOp a.eval o).run P w)) ∨ (Region.wanted o (yielded ops a.tmps) = false ∧ φ undef w ∧ ψ w)
def mark (f : Nat → Bool) (i : Nat) : Nat → Bool := fun j => if j = i then true else f j
theorem mark_same (f : Nat → Bool) (i : Nat) : mark f i i = true := by simp [mark]
theorem mark_other (f : Nat → Bool) {i j : Nat} (h : j ≠ i) : mark f i j = f j := by simp [mark, h]
def listedF (l : Array Bool) : Nat → Bool := fun j => l.getD j false

section
variable {P : Program} {ops : Array Oper} {Q : Exit → Act → World → Prop}
theorem DoesG.toJ {S : List Nat} {o : Oper} {a : Act} {w : World} {φ : Value → World → Prop} {ψ : World → Prop} (h : DoesG P ops φ o a w) (hψ : ∀ w', Touch [] w w' → ψ w') : DoesJ P ops S φ ψ o a w := by
  rcases h with ⟨h1, h2⟩ | ⟨h1, h2⟩
  · refine .inl ⟨h1, ?_⟩
    generalize (execOp a.eval o).run P w = r at *
    cases r with
    | ok n w' =>
      cases n with
      | value v => exact ⟨h2.1, hψ _ h2.2, h2.2.mono (by simp)⟩
      | skip => exact h2.elim
      | enter f args =>
        obtain ⟨t, hc⟩ := h2
        exact ⟨t, hc.mono fun e w'' ⟨v, he, hφ, t'⟩ => ⟨v, he, hφ, hψ _ (t.trans t' (by simp)), t'.mono (by simp)⟩⟩
      | _ => exact h2.elim
    | halt x w' => exact h2.elim
  · exact .inr ⟨h1, h2, hψ _ (Touch.refl _ _)⟩
theorem DoesJ.wpOp {S : List Nat} {i : Nat} {o : Oper} {a : Act} {w : World} {φ : Value → World → Prop} {ψ : World → Prop} {K : Act → World → Prop} (hi : ops[i]? = some o) (h : DoesJ P ops S φ ψ o a w) (hK : ∀ v w', φ v w' → ψ w' → Touch S w w' → K (a.put o.dst v) w') :
    wpOp P ops Q i K a w := by
  unfold Go.wpOp
  simp only [hi]
  rcases h with ⟨h1, h2⟩ | ⟨h1, h2, h3⟩
  · rw [if_pos h1]
    left
    unfold Oper.wp
    generalize (execOp a.eval o).run P w = r at *
    cases r with
    | ok n w' =>
      cases n with
      | value v => exact hK v w' h2.1 h2.2.1 h2.2.2
      | skip => exact hK undef w' h2.1 h2.2.1 h2.2.2
      | enter f args =>
        obtain ⟨t, hc⟩ := h2
        show Calls P f args w' _
        exact hc.mono fun e w'' ⟨v, he, hφ, hψ, t'⟩ => by subst he; exact hK v w'' hφ hψ ((t.mono (S' := S) (by simp)).trans t' (fun b hb => .inl hb))
      | _ => exact h2.elim
    | halt x w' => exact h2.elim
  · rw [if_neg (by rw [h1]; decide)]
    exact hK _ _ h2 h3 (Touch.refl _ _)

theorem wpAny_phi8 {a0 : Act} {wd : World} {S : List Nat} {J : (Nat → Bool) → World → Prop} {Φ : Nat → Value → World → Prop} (hst : ∀ j, StabS S (Φ j)) (hdst : ∀ (i j : Nat) (o o' : Oper) (d : Tmp), ops[i]? = some o → ops[j]? = some o' → o.dst = some d → o'.dst = some d → i = j)
    (hin : ∀ (i : Nat) (o : Oper) (d : Tmp), ops[i]? = some o → o.dst = some d → d < a0.tmps.size) (hacy : ∀ (i : Nat) (o : Oper) (e : Edge), ops[i]? = some o → e ∈ o.after → Region.binds .any e = true → e.on < i)
    (hop : ∀ (i : Nat) (o : Oper), ops[i]? = some o → ∀ f a w, f i = false → Touch S wd w → J f w → Known ops a0 a → (∀ e ∈ o.after, Region.binds .any e = true → f e.on = true) → (∀ e ∈ o.after, Region.binds .any e = true → Has ops Φ a w e.on) → DoesJ P ops S (Φ i) (J (mark f i)) o a w)
    (hend : ∀ a w f, Touch S wd w → J f w → (∀ j, j < ops.size → f j = true) → Known ops a0 a → (∀ j, j < ops.size → Has ops Φ a w j) → Q .normal a w) :
    ∀ (fuel : Nat) (listed : Array Bool) (a : Act) (w : World), listed.size = ops.size → listed.toList.count false ≤ fuel → Touch S wd w → J (listedF listed) w → Known ops a0 a → (∀ j, listed.getD j false = true → Has ops Φ a w j) → wpAny P .any ops Q fuel listed a w := by
  intro fuel
  induction fuel with
  | zero =>
    intro listed a w hs hc ht hj hk hh
    have hall : ∀ i, i < ops.size → listed.getD i false = true := by
      intro i hi
      have hil : i < listed.size := by omega
      have h0 : listed.toList.count false = 0 := by omega
      rw [List.count_eq_zero] at h0
      simp only [Array.getD_eq_getD_getElem?, Array.getElem?_eq_getElem hil, Option.getD_some]
      cases hx : listed[i]
      · exact absurd (by rw [← hx]; simp) h0
      · rfl
    exact ⟨none_ready hall, hend a w _ ht hj (fun j hj' => hall j hj') hk fun j hj' => hh j (hall j hj')⟩
  | succ fuel ih =>
    intro listed a w hs hc ht hj hk hh
    refine ⟨fun h0 => hend a w _ ht hj (fun j hj' => all_listed hacy hs h0 j hj') hk fun j hj' => hh j (all_listed hacy hs h0 j hj'), fun i hi => ?_⟩
    obtain ⟨hun, o, ho, hall⟩ := mem_ready.1 hi
    have hlt : i < ops.size := (Array.getElem?_eq_some_iff.1 ho).1
    have hil : i < listed.size := by omega
    have hif : listed[i] = false := by simpa [Array.getD_eq_getD_getElem?, Array.getElem?_eq_getElem hil] using hun
    have hnl : listedF listed i = false := by simp only [listedF, Array.getD_eq_getD_getElem?, Array.getElem?_eq_getElem hil, Option.getD_some]; exact hif
    have hmk : mark (listedF listed) i = listedF (listed.setIfInBounds i true) := by
      funext j
      unfold mark listedF
      by_cases e : j = i
      · subst e
        simp [Array.getD_eq_getD_getElem?, hil]
      · rw [if_neg e]
        simp only [Array.getD_eq_getD_getElem?]
        rw [Array.getElem?_setIfInBounds_ne (fun h => e h.symm)]
    refine DoesJ.wpOp ho (hop i o ho (listedF listed) a w hnl ht hj hk (fun e he hb => hall e he hb) fun e he hb => hh e.on (hall e he hb)) fun v w' hφ hψ t => ?_
    rw [hmk] at hψ
    refine ih _ _ _ (by simpa using hs) ?_ (ht.trans t (fun b hb => .inl hb)) hψ ?_ ?_
    · rw [Array.toList_setIfInBounds, List.count_set (by simpa using hil)]
      have : listed.toList[i]'(by simpa using hil) = false := by simpa using hif
      rw [this]
      have hpos : 0 < listed.toList.count false := List.count_pos_iff.2 (by rw [← this]; simp)
      have e1 : (if (false == false) = true then 1 else 0 : Nat) = 1 := rfl
      have e2 : (if (true == false) = true then 1 else 0 : Nat) = 0 := rfl
      rw [e1, e2]
      omega
    · obtain ⟨k1, k2, k3⟩ := hk
      cases hd : o.dst with
      | none => exact ⟨k1, k2, k3⟩
      | some d =>
        refine ⟨k1, by simp [Act.put, k2], fun q hq => ?_⟩
        have hne : d ≠ q := fun e => hq i o ho (by rw [hd, e])
        simp only [Act.put]
        rw [Array.getElem?_setIfInBounds_ne hne]
        exact k3 q hq
    · intro j hjj o' d' ho' hd'
      by_cases e : j = i
      · subst e
        obtain rfl : o = o' := by rw [ho] at ho'; simpa using ho'
        refine ⟨v, ?_, hφ⟩
        rw [hd']
        have := hin j o d' ho hd'
        simp [Act.put, hk.2.1, this]
      · have hjl : listed.getD j false = true := by
          simp only [Array.getD_eq_getD_getElem?] at hjj ⊢
          rwa [Array.getElem?_setIfInBounds_ne (fun h => e h.symm)] at hjj
        obtain ⟨u, hu, hΦ⟩ := hh j hjl o' d' ho' hd'
        refine ⟨u, ?_, hst j u w w' hΦ t⟩
        cases hd : o.dst with
        | none => exact hu
        | some d =>
          have hne : d ≠ d' := fun e2 => e (hdst j i o' o d' ho' ho hd' (by rw [hd, e2]))
          simp only [Act.put]
          rw [Array.getElem?_setIfInBounds_ne hne]
          exact hu

def StabLS (S : List Nat) : List Leaf → Prop
  | [] => True
  | .const _ :: L => StabLS S L
  | .pred φ :: L => StabS S φ ∧ StabLS S L
theorem okL_stabS {S : List Nat} : ∀ {L : List Leaf}, StabLS S L → ∀ j, StabS S (okL L j)
  | [], _, j, v, w, w', h, t => by simp [okL]
  | .const c :: L, hs, 0, v, w, w', h, t => by simpa [okL, Leaf.ok] using h
  | .pred φ :: L, hs, 0, v, w, w', h, t => by
    have : φ v w' := hs.1 v w w' (by simpa [okL, Leaf.ok] using h) t
    simpa [okL, Leaf.ok] using this
  | .const c :: L, hs, j + 1, v, w, w', h, t => okL_stabS (L := L) hs j v w w' h t
  | .pred φ :: L, hs, j + 1, v, w, w', h, t => okL_stabS (L := L) hs.2 j v w w' h t

/-- A region with several stores, which write the blocks S; J tells what is in memory by what is through. -/
theorem wp_region_stores {id : Nat} {a0 : Act} {w wd : World} {l : List Oper} (S : List Nat) (J : (Nat → Bool) → World → Prop) (L : List Leaf) (hm : P.follows .mixedOrders = true) (hB : phiB l.toArray a0.tmps.size = true) (hL : slotsB L l = true) (hw : Touch S wd w.drew) (hst : StabLS S L)
    (hJ : ∀ f, (∀ j, f j = false) → J f w.drew)
    (hop : ∀ (i : Nat) (o : Oper), l[i]? = some o → ∀ f a w, f i = false → Touch S wd w → J f w → Known l.toArray a0 a → (∀ e ∈ o.after, Region.binds .any e = true → f e.on = true) → (∀ e ∈ o.after, Region.binds .any e = true → Has l.toArray (okL L) a w e.on) → DoesJ P l.toArray S (okL L i) (J (mark f i)) o a w)
    (hend : ∀ (x : Nat → Value) (w : World) (f : Nat → Bool), Touch S wd w → J f w → (∀ j, j < l.length → f j = true) → KnowL x w L 0 → Q .normal (putL x L l 0 a0) w) : (Code.region id l.toArray true).wp P Q a0 w := by
  obtain ⟨h1, h2, h3⟩ := phiB_spec hB
  refine wp_region_any hm (wpAny_phi8 (J := J) (okL_stabS hst) h1 h2 h3 (fun i o ho => hop i o (by simpa using ho)) (fun a w f ht hj hf hk hh => ?_) l.toArray.size (Array.replicate l.toArray.size false) a0 _ (by simp) (by simp) hw (hJ _ fun j => ?_) ⟨rfl, rfl, fun _ _ => rfl⟩ (fun j hj => ?_))
  · have hx : ∀ (j : Nat) (o : Oper) (d : Tmp), l.toArray[j]? = some o → o.dst = some d → (fun j => a.tmps.getD (((l[j]?).bind (·.dst)).getD 0) undef) j = a.tmps.getD d undef := fun j o d ho hd => by
      have ho' : l[j]? = some o := by simpa using ho
      simp [ho', hd]
    have e := putL_all (a := a) (w := w) (L0 := L) (fun j => a.tmps.getD (((l[j]?).bind (·.dst)).getD 0) undef) hx hh L l 0 a0 (fun j => by rw [Nat.zero_add]) (fun j => by rw [Nat.zero_add]; simp) (slotsB_length hL) hk.1.symm hk.2.1.symm
      (fun t hn => (hk.2.2 t fun j o ho => hn j o (Nat.zero_le _) ho).symm)
    have k := knowL_of (a := a) (w := w) (L0 := L) _ hx hh L l 0 (fun j => by rw [Nat.zero_add]) (fun j => by rw [Nat.zero_add]; simp) hL
    have := hend _ w f ht hj (fun j hj => hf j (by simpa using hj)) k
    rwa [e] at this
  · simp only [listedF, Array.getD_eq_getD_getElem?]
    rcases Nat.lt_or_ge j l.toArray.size with hlt | hge
    · simp [show j < l.length by simpa using hlt]
    · rw [Array.getElem?_eq_none (by simpa using hge)]
      rfl
  · simp only [Array.getD_eq_getD_getElem?] at hj
    rcases Nat.lt_or_ge j l.toArray.size with hlt | hge
    · simp [show j < l.length by simpa using hlt] at hj
    · simp only [List.size_toArray] at hj hge
      rw [Array.getElem?_eq_none (by simpa using hge)] at hj
      simp at hj
/-- A store of a whole struct into a block, at such a step. -/
theorem doJ_store {S : List Nat} {o : Oper} {a : Act} {w : World} {φ : Value → World → Prop} {ψ : World → Prop} (hw : Region.wanted o (yielded ops a.tmps) = true) {ty : TypeId} {x y : Operand} (ho : o.op = .store ty x y) {b n : Nat} {cells : Array Value} (hx : a.eval x = .pointer (some ⟨b, n, none⟩)) (hy : a.eval y = .agg cells)
    (ht : w.there b n cells.size) (hi : (P.info? ty).map (·.size) = some cells.size) (h1 : cells.all (·.oneCell') = true) (h : φ undef (w.setCells b n cells.toList) ∧ ψ (w.setCells b n cells.toList) ∧ Touch S w (w.setCells b n cells.toList)) : DoesJ P ops S φ ψ o a w := by
  refine .inl ⟨hw, ?_⟩
  unfold execOp
  simp only [ho, hx, hy, Instr.storeAt, Instr.sureAddr, Sem.run_bind, Sem.run_pure, Result.andThen_ok, run_storeVar_mid w b n ty cells ht hi h1]
  exact h
end
/-- Two blocks, each stored whole by one operation (i1, i2). -/
def TwoJ (b1 b2 i1 i2 : Nat) (T1 T2 : TypeId) (c1 c1' c2 c2' : Array Value) (f : Nat → Bool) (w : World) : Prop := BoxV w b1 T1 (if f i1 = true then c1' else c1) ∧ BoxV w b2 T2 (if f i2 = true then c2' else c2)
section
variable {b1 b2 i1 i2 : Nat} {T1 T2 : TypeId} {c1 c1' c2 c2' : Array Value} {f : Nat → Bool} {w w' : World}
theorem TwoJ.keep (h : TwoJ b1 b2 i1 i2 T1 T2 c1 c1' c2 c2' f w) (t : Touch [] w w') {i : Nat} (h1 : i ≠ i1) (h2 : i ≠ i2) : TwoJ b1 b2 i1 i2 T1 T2 c1 c1' c2 c2' (mark f i) w' := by
  unfold TwoJ
  rw [mark_other f (Ne.symm h1), mark_other f (Ne.symm h2)]
  exact ⟨h.1.carry t (by simp), h.2.carry t (by simp)⟩
theorem TwoJ.put1 (h : TwoJ b1 b2 i1 i2 T1 T2 c1 c1' c2 c2' f w) (hf : f i1 = false) (hs : c1'.size = c1.size) (hb : b1 ≠ b2) (hi : i1 ≠ i2) : TwoJ b1 b2 i1 i2 T1 T2 c1 c1' c2 c2' (mark f i1) (w.setCells b1 0 c1'.toList) := by
  have h1 := h.1
  have h2 := h.2
  rw [if_neg (by rw [hf]; decide)] at h1
  unfold TwoJ
  rw [mark_same, mark_other f (Ne.symm hi), if_pos rfl]
  exact ⟨h1.wholeW c1' hs, h2.carry (touch_cellsW _ _ _) (by simpa using Ne.symm hb)⟩
theorem TwoJ.put2 (h : TwoJ b1 b2 i1 i2 T1 T2 c1 c1' c2 c2' f w) (hf : f i2 = false) (hs : c2'.size = c2.size) (hb : b1 ≠ b2) (hi : i1 ≠ i2) : TwoJ b1 b2 i1 i2 T1 T2 c1 c1' c2 c2' (mark f i2) (w.setCells b2 0 c2'.toList) := by
  have h1 := h.1
  have h2 := h.2
  rw [if_neg (by rw [hf]; decide)] at h2
  unfold TwoJ
  rw [mark_same, mark_other f hi, if_pos rfl]
  exact ⟨h1.carry (touch_cellsW _ _ _) (by simpa using hb), h2.wholeW c2' hs⟩
theorem TwoJ.there1 (h : TwoJ b1 b2 i1 i2 T1 T2 c1 c1' c2 c2' f w) (hs : c1'.size = c1.size) : w.there b1 0 c1'.size := h.1.thereW 0 _ (by split <;> omega)
theorem TwoJ.there2 (h : TwoJ b1 b2 i1 i2 T1 T2 c1 c1' c2 c2' f w) (hs : c2'.size = c2.size) : w.there b2 0 c2'.size := h.2.thereW 0 _ (by split <;> omega)
end
end Go.Proofs.Ytalkpoeliekbfaa

/-
  Contracts of layer 7 (chain): Pop.
-/
namespace Go.Proofs.Ytalkpoeliekbfaa
open Go.ChangeShapes Go.WideShapes Go.ChangeAt Go.RowKit Go.Deep
set_option linter.unusedVariables false
set_option linter.unusedSimpArgs false

/-- A store of one cell, at a step of a region with several. -/
theorem doJ_set {P : Program} {ops : Array Oper} {S : List Nat} {o : Oper} {a : Act} {w w' : World} {φ : Value → World → Prop} {ψ : World → Prop} (hw : Region.wanted o (yielded ops a.tmps) = true) {ty : TypeId} {x y : Operand} (ho : o.op = .store ty x y) {px v : Value} (hx : a.eval x = px) (hy : a.eval y = v)
    (hr : (Instr.storeAt ty px v).run P w = .ok () w') (h : φ undef w' ∧ ψ w' ∧ Touch S w w') : DoesJ P ops S φ ψ o a w := by
  refine .inl ⟨hw, ?_⟩
  unfold execOp
  simp only [ho, hx, hy, Sem.run_bind, Sem.run_pure, Result.andThen_ok, hr]
  exact h
/-- Pop's last stores: what is behind the node, and where it is. -/
def PopJ (p gn gw gl n cn cw k cl : Nat) (N V E : Nat → Int) (x : Nat) (f : Nat → Bool) (w : World) : Prop :=
  ChainAt w p gn gw gl n cn cw k cl (if f 11 = true then upd N x (-1) else N) (if f 13 = true then upd V x (-1) else V) E
section
variable {w w' : World} {p gn gw gl n cn cw k cl x : Nat} {N V E : Nat → Int} {f : Nat → Bool}
theorem popJ_start (h : ChainAt w p gn gw gl n cn cw k cl N V E) (h1 : f 11 = false) (h2 : f 13 = false) : PopJ p gn gw gl n cn cw k cl N V E x f w := by
  unfold PopJ
  rw [h1, h2]
  exact h
theorem PopJ.keep (h : PopJ p gn gw gl n cn cw k cl N V E x f w) (t : Touch [] w w') {i : Nat} (h1 : i ≠ 11) (h2 : i ≠ 13) : PopJ p gn gw gl n cn cw k cl N V E x (mark f i) w' := by
  unfold PopJ
  rw [mark_other f (Ne.symm h1), mark_other f (Ne.symm h2)]
  exact ChainAt.new h t
theorem PopJ.setN (h : PopJ p gn gw gl n cn cw k cl N V E x f w) (hf : f 11 = false) : PopJ p gn gw gl n cn cw k cl N V E x (mark f 11) (w.setCell ⟨gn, x, none⟩ (.int .i64 (-1))) := by
  unfold PopJ at h ⊢
  rw [mark_same, mark_other f (by omega), if_pos rfl]
  rw [hf] at h
  exact ChainAt.setN h x (-1)
theorem PopJ.setV (h : PopJ p gn gw gl n cn cw k cl N V E x f w) (hf : f 13 = false) : PopJ p gn gw gl n cn cw k cl N V E x (mark f 13) (w.setCell ⟨gw, x, none⟩ (.int .i64 (-1))) := by
  unfold PopJ at h ⊢
  rw [mark_same, mark_other f (by omega), if_pos rfl]
  rw [hf] at h
  exact ChainAt.setV h x (-1)
theorem PopJ.c0 (h : PopJ p gn gw gl n cn cw k cl N V E x f w) : w.cell? ⟨p, 0, none⟩ = some (.slice (some ⟨gn, 0, none⟩) n cn) := ChainAt.c0 h
theorem PopJ.c1 (h : PopJ p gn gw gl n cn cw k cl N V E x f w) : w.cell? ⟨p, 1, none⟩ = some (.slice (some ⟨gw, 0, none⟩) n cw) := ChainAt.c1 h
theorem PopJ.cN (h : PopJ p gn gw gl n cn cw k cl N V E x f w) {i : Nat} (hi : i < n) : w.cell? ⟨gn, i, none⟩ = some (.int .i64 ((if f 11 = true then upd N x (-1) else N) i)) := ChainAt.cN h hi
theorem PopJ.cV (h : PopJ p gn gw gl n cn cw k cl N V E x f w) {i : Nat} (hi : i < n) : w.cell? ⟨gw, i, none⟩ = some (.int .i64 ((if f 13 = true then upd V x (-1) else V) i)) := ChainAt.cV h hi
theorem PopJ.fN (h : PopJ p gn gw gl n cn cw k cl N V E x f w) (i : Nat) : w.frozen? ⟨gn, i, none⟩ = false := (ChainAt.next h).frozenAt i
theorem PopJ.fV (h : PopJ p gn gw gl n cn cw k cl N V E x f w) (i : Nat) : w.frozen? ⟨gw, i, none⟩ = false := (ChainAt.wher h).frozenAt i
theorem pop_of_none (v : Value) (l : Int) (w : World) (D : Hid (Calls Try.prog 11 #[v, .int .i64 l] w fun e w' => e = firstTold 0 false ∧ w' = w)) :
    Calls Try.prog 12 #[v, .int .i64 l] w fun e w' => e = firstTold 0 false ∧ w' = w := by
  unfold firstTold at *
  go_enter Try.func12, Try.ntmps12
  go_wp2_with fail
  refine (D.out).mono ?_
  rintro e w1 ⟨rfl, rfl⟩
  go_wp2
  go_ret2
  exact ⟨rfl, rfl⟩
theorem pop_nil (l : Int) (w : World) : Calls Try.prog 12 #[.pointer none, .int .i64 l] w fun e w' => e = firstTold 0 false ∧ w' = w :=
  pop_of_none _ l w (Lib.hid (first_of_none _ l w (Lib.hid (len_nil l w))))
theorem pop_none (h : ChainAt w p gn gw gl n cn cw k cl N V E) (l : Int) (hl : lenV k E l = 0) : Calls Try.prog 12 #[.pointer (some ⟨p, 0, none⟩), .int .i64 l] w fun e w' => e = firstTold 0 false ∧ w' = w :=
  pop_of_none _ l w (Lib.hid (first_none h l hl))
set_option maxHeartbeats 1600000 in
set_option maxRecDepth 100000 in
theorem pop_some (h : ChainAt w p gn gw gl n cn cw k cl N V E) (a : Nat) (ha : a < k) (q : Int) (hq : E (a * 3 + 2) = q) (hq0 : 0 < q ∧ q ≤ 10000) (hx : E (a * 3) = (x : Int)) (hxn : x < n) (y : Int) (hy : N x = y) :
    Calls Try.prog 12 #[.pointer (some ⟨p, 0, none⟩), .int .i64 (a : Int)] w fun e w' => e = firstTold x true ∧
      ChainAt w' p gn gw gl n cn cw k cl (upd N x (-1)) (upd V x (-1)) (upd (upd E (a * 3) y) (a * 3 + 2) (q - 1)) ∧ Touch [gn, gw, gl] w w' := by
  have D0 := first_some h a ha (by omega)
  rw [hx] at D0
  have D := Lib.hid D0
  have c0 := h.c0
  have c2 := h.c2
  have hk := own_cap h.ends
  have hkn := own_cap h.next
  obtain ⟨lp, ln, lw, ll⟩ := h.lts
  unfold maxLen at hk hkn
  unfold firstTold at *
  have e0 := h.cE (i := a * 3) (by omega)
  have e2 := h.cE (i := a * 3 + 2) (by omega)
  rw [hq] at e2
  have f0 := h.ends.frozenAt (a * 3)
  have n0 := h.cN hxn
  rw [hy] at n0
  have HXN := Lib.hid hxn
  have HE := Lib.hid (h.setE (a * 3) y)
  have ha1 : (a : Int) < (k : Int) := by omega
  have hx1 : (x : Int) < (n : Int) := by omega
  have hwr : IntKind.i64.wrap (q - 1) = q - 1 := by rw [IntKind.wrap_i64]; omega
  have HQ := Lib.hid hq
  have t1 : Touch [gn, gw, gl] w (w.setCell ⟨gl, a * 3, none⟩ (.int .i64 y)) := (Touch.refl _ w).setCell (a := ⟨gl, a * 3, none⟩) (.inl (by simp)) _
  have T1 := Lib.hid t1
  clear h D0 hx hy hq t1
  go_enter Try.func12, Try.ntmps12
  go_wp2_with fail
  refine (D.out).mono ?_
  rintro e w1 ⟨rfl, rfl⟩
  go_upto_region 6 with fail
  obtain ⟨w2, hw2⟩ : ∃ w2, w2 = w1.setCell ⟨gl, a * 3, none⟩ (.int .i64 y) := ⟨_, rfl⟩
  rw [← hw2] at HE T1 ⊢
  clear hw2 c0 c2 e0 e2 f0 n0 lp ln lw ll D
  obtain ⟨lp, ln, lw, ll⟩ := HE.out.lts
  have e2 := HE.out.cE (i := a * 3 + 2) (by omega)
  rw [upd_other _ _ (by omega), HQ.out] at e2
  have f2 := HE.out.ends.frozenAt (a * 3 + 2)
  have HCH := Lib.hid (HE.out.setE (a * 3 + 2) (q - 1))
  have T2 := Lib.hid (T1.out.setCell (a := ⟨gl, a * 3 + 2, none⟩) (.inl (by simp)) (.int .i64 (q - 1)))
  go_upto_region 7 with fail
  obtain ⟨w3, hw3⟩ : ∃ w3, w3 = w2.setCell ⟨gl, a * 3 + 2, none⟩ (.int .i64 (q - 1)) := ⟨_, rfl⟩
  rw [← hw3] at HCH T2 ⊢
  clear hw3 HE T1 e2 f2 lp ln lw ll
  refine wp_region_stores (wd := _) [gn, gw] (PopJ p gn gw gl n cn cw k cl N V (upd (upd E (a * 3) y) (a * 3 + 2) (q - 1)) x) (Leaf.const (.pointer (some ⟨p, 0, none⟩)) :: Leaf.const ((.pointer (some ⟨p, 0, none⟩))) :: Leaf.const (.pointer (some ⟨p, 0, none⟩)) :: Leaf.const (.slice (some ⟨gn, 0, none⟩) n cn) :: Leaf.const (.int .i64 (x : Int)) :: Leaf.const (.pointer (some ⟨p, 0, none⟩)) :: Leaf.const ((.pointer (some ⟨p, 0, none⟩))) :: Leaf.const (.pointer (some ⟨p, 1, none⟩)) :: Leaf.const (.slice (some ⟨gw, 0, none⟩) n cw) :: Leaf.const (.int .i64 (x : Int)) :: Leaf.const (.pointer (some ⟨gn, x, none⟩)) :: Leaf.const undef :: Leaf.const (.pointer (some ⟨gw, x, none⟩)) :: Leaf.const undef :: []) (by kernel_rfl) (by kernel_rfl) (by kernel_rfl) ((Touch.refl _ _).drew) (trivial) (fun f hf => popJ_start (HCH.out.new ((Touch.refl [] _).drew)) (hf 11) (hf 13)) ?_ ?_
  · intro i o ho f ac w hfi ht hJ hk hf hd
    match i, ho, hfi with
    | 0, ho, hfi =>
      have ho' : some _ = some o := ho
      cases ho'
      clear ho
      refine DoesG.toJ ?_ (fun w' t' => hJ.keep t' (by omega) (by omega))
      have e0 := known_slot hk 0 (by kernel_rfl) (v := .pointer (some ⟨p, 0, none⟩)) rfl
      exact do_value (wanted_none rfl) (by rw [BigFrame.run_move (.tmp 0) rfl, e0]) rfl
    | 1, ho, hfi =>
      have ho' : some _ = some o := ho
      cases ho'
      clear ho
      refine DoesG.toJ ?_ (fun w' t' => hJ.keep t' (by omega) (by omega))
      have e40 := has_const (has_dep hd 0 (by kernel_rfl)) rfl rfl rfl (c := (.pointer (some ⟨p, 0, none⟩)))
      exact do_value (wanted_none rfl) (v := (.pointer (some ⟨p, 0, none⟩))) (by unfold execOp; simp only [e40]; rfl) rfl
    | 2, ho, hfi =>
      have ho' : some _ = some o := ho
      cases ho'
      clear ho
      refine DoesG.toJ ?_ (fun w' t' => hJ.keep t' (by omega) (by omega))
      have e41 := has_const (has_dep hd 1 (by kernel_rfl)) rfl rfl rfl (c := (.pointer (some ⟨p, 0, none⟩)))
      exact do_value (wanted_none rfl) (v := .pointer (some ⟨p, 0, none⟩)) (run_value rfl (by rw [e41]; simp [go_sem])) rfl
    | 3, ho, hfi =>
      have ho' : some _ = some o := ho
      cases ho'
      clear ho
      refine DoesG.toJ ?_ (fun w' t' => hJ.keep t' (by omega) (by omega))
      have e42 := has_const (has_dep hd 2 (by kernel_rfl)) rfl rfl rfl (c := (.pointer (some ⟨p, 0, none⟩)))
      have c0 := hJ.c0
      exact do_value (wanted_none rfl) (v := .slice (some ⟨gn, 0, none⟩) n cn) (run_value rfl (by rw [e42]; simp [go_sem, c0])) rfl
    | 4, ho, hfi =>
      have ho' : some _ = some o := ho
      cases ho'
      clear ho
      refine DoesG.toJ ?_ (fun w' t' => hJ.keep t' (by omega) (by omega))
      have e6 := known_slot hk 6 (by kernel_rfl) (v := .int .i64 (x : Int)) rfl
      exact do_value (wanted_none rfl) (by rw [BigFrame.run_move (.tmp 6) rfl, e6]) rfl
    | 5, ho, hfi =>
      have ho' : some _ = some o := ho
      cases ho'
      clear ho
      refine DoesG.toJ ?_ (fun w' t' => hJ.keep t' (by omega) (by omega))
      have e0 := known_slot hk 0 (by kernel_rfl) (v := .pointer (some ⟨p, 0, none⟩)) rfl
      exact do_value (wanted_none rfl) (by rw [BigFrame.run_move (.tmp 0) rfl, e0]) rfl
    | 6, ho, hfi =>
      have ho' : some _ = some o := ho
      cases ho'
      clear ho
      refine DoesG.toJ ?_ (fun w' t' => hJ.keep t' (by omega) (by omega))
      have e45 := has_const (has_dep hd 5 (by kernel_rfl)) rfl rfl rfl (c := (.pointer (some ⟨p, 0, none⟩)))
      exact do_value (wanted_none rfl) (v := (.pointer (some ⟨p, 0, none⟩))) (by unfold execOp; simp only [e45]; rfl) rfl
    | 7, ho, hfi =>
      have ho' : some _ = some o := ho
      cases ho'
      clear ho
      refine DoesG.toJ ?_ (fun w' t' => hJ.keep t' (by omega) (by omega))
      have e46 := has_const (has_dep hd 6 (by kernel_rfl)) rfl rfl rfl (c := (.pointer (some ⟨p, 0, none⟩)))
      exact do_value (wanted_none rfl) (v := .pointer (some ⟨p, 1, none⟩)) (run_value rfl (by rw [e46]; simp [go_sem])) rfl
    | 8, ho, hfi =>
      have ho' : some _ = some o := ho
      cases ho'
      clear ho
      refine DoesG.toJ ?_ (fun w' t' => hJ.keep t' (by omega) (by omega))
      have e47 := has_const (has_dep hd 7 (by kernel_rfl)) rfl rfl rfl (c := (.pointer (some ⟨p, 1, none⟩)))
      have c0 := hJ.c1
      exact do_value (wanted_none rfl) (v := .slice (some ⟨gw, 0, none⟩) n cw) (run_value rfl (by rw [e47]; simp [go_sem, c0])) rfl
    | 9, ho, hfi =>
      have ho' : some _ = some o := ho
      cases ho'
      clear ho
      refine DoesG.toJ ?_ (fun w' t' => hJ.keep t' (by omega) (by omega))
      have e6 := known_slot hk 6 (by kernel_rfl) (v := .int .i64 (x : Int)) rfl
      exact do_value (wanted_none rfl) (by rw [BigFrame.run_move (.tmp 6) rfl, e6]) rfl
    | 10, ho, hfi =>
      have ho' : some _ = some o := ho
      cases ho'
      clear ho
      refine DoesG.toJ ?_ (fun w' t' => hJ.keep t' (by omega) (by omega))
      have e43 := has_const (has_dep hd 3 (by kernel_rfl)) rfl rfl rfl (c := (.slice (some ⟨gn, 0, none⟩) n cn))
      have e44 := has_const (has_dep hd 4 (by kernel_rfl)) rfl rfl rfl (c := (.int .i64 (x : Int)))
      exact do_value (wanted_none rfl) (v := .pointer (some ⟨gn, x, none⟩)) (run_value rfl (by rw [e43, e44]; have hxn := HXN.out; (first | (simp [go_sem]; done) | (simp [go_sem]; omega)))) rfl
    | 11, ho, hfi =>
      have ho' : some _ = some o := ho
      cases ho'
      clear ho
      have e50 := has_const (has_dep hd 10 (by kernel_rfl)) rfl rfl rfl (c := (.pointer (some ⟨gn, x, none⟩)))
      have c1 := hJ.cN HXN.out
      have f1 := hJ.fN x
      exact doJ_set (wanted_none rfl) rfl e50 (eval_c _ _) (by simp [go_sem, c1, f1]) ⟨rfl, hJ.setN hfi, (Touch.refl _ _).setCell (a := ⟨gn, x, none⟩) (.inl (by simp)) _⟩
    | 12, ho, hfi =>
      have ho' : some _ = some o := ho
      cases ho'
      clear ho
      refine DoesG.toJ ?_ (fun w' t' => hJ.keep t' (by omega) (by omega))
      have e48 := has_const (has_dep hd 8 (by kernel_rfl)) rfl rfl rfl (c := (.slice (some ⟨gw, 0, none⟩) n cw))
      have e49 := has_const (has_dep hd 9 (by kernel_rfl)) rfl rfl rfl (c := (.int .i64 (x : Int)))
      exact do_value (wanted_none rfl) (v := .pointer (some ⟨gw, x, none⟩)) (run_value rfl (by rw [e48, e49]; have hxn := HXN.out; (first | (simp [go_sem]; done) | (simp [go_sem]; omega)))) rfl
    | 13, ho, hfi =>
      have ho' : some _ = some o := ho
      cases ho'
      clear ho
      have e51 := has_const (has_dep hd 12 (by kernel_rfl)) rfl rfl rfl (c := (.pointer (some ⟨gw, x, none⟩)))
      have c1 := hJ.cV HXN.out
      have f1 := hJ.fV x
      exact doJ_set (wanted_none rfl) rfl e51 (eval_c _ _) (by simp [go_sem, c1, f1]) ⟨rfl, hJ.setV hfi, (Touch.refl _ _).setCell (a := ⟨gw, x, none⟩) (.inl (by simp)) _⟩
    | q + 14, ho, hfi => exact absurd ho (by simp)
  · intro z w4 f T4 hJ hf hkw
    simp only [putL, Act.put, List.setIfInBounds_toArray, List.set_cons_succ, List.set_cons_zero, List.drop]
    have hC : ChainAt w4 p gn gw gl n cn cw k cl (upd N x (-1)) (upd V x (-1)) (upd (upd E (a * 3) y) (a * 3 + 2) (q - 1)) := by
      unfold PopJ at hJ
      rw [if_pos (hf 11 (by simp)), if_pos (hf 13 (by simp))] at hJ
      exact hJ
    have HC := Lib.hid hC
    have TT := Lib.hid (T2.out.trans T4 (fun b hb => .inl (by simp at hb; rcases hb with rfl | rfl <;> simp)))
    clear hC hJ hf hkw T4 T2 HCH
    go_wp2_with fail
    go_ret2
    exact ⟨rfl, HC.out, TT.out⟩
end
end Go.Proofs.Ytalkpoeliekbfaa

/-
  Contracts of the reference of layer 6 (slab): its slices are read, never written.
-/
namespace Go.Proofs.Ytalkpoeliekbfaa
open Go.ChangeShapes Go.WideShapes Go.ChangeAt Go.RowKit Go.Deep
set_option linter.unusedVariables false

/-- A slice of n one-cell elements X, none of them in a block of Z. -/
def Rd (Z : List Nat) (w : World) (v : Value) (n : Nat) (X : Nat → Value) : Prop :=
  ∃ A c, v = .slice A n c ∧ n ≤ c ∧ c ≤ maxLen ∧ ∀ i, i < n → ∃ b off, A = some ⟨b, off, none⟩ ∧ b < w.heap.size ∧ b ∉ Z ∧ w.cell? ⟨b, off + i, none⟩ = some (X i)

section
variable {Z Z' S : List Nat} {w w' : World} {v : Value} {n : Nat} {X Y : Nat → Value}
theorem Rd.carry (h : Rd Z w v n X) (t : Touch S w w') (hS : ∀ b ∈ S, b ∈ Z ∨ w.heap.size ≤ b) : Rd Z w' v n X := by
  obtain ⟨A, c, rfl, h1, h2, h3⟩ := h
  refine ⟨A, c, rfl, h1, h2, fun i hi => ?_⟩
  obtain ⟨b, off, hA, hb, hz, hc⟩ := h3 i hi
  exact ⟨b, off, hA, Nat.lt_of_lt_of_le hb t.size, hz, (t.cell (a := ⟨b, off + i, none⟩) hb (fun hm => by rcases hS b hm with h | h <;> first | exact hz h | omega)).trans hc⟩
theorem Rd.avoid (h : Rd Z w v n X) (hZ : ∀ b ∈ Z', b ∈ Z ∨ w.heap.size ≤ b) : Rd Z' w v n X := by
  obtain ⟨A, c, rfl, h1, h2, h3⟩ := h
  refine ⟨A, c, rfl, h1, h2, fun i hi => ?_⟩
  obtain ⟨b, off, hA, hb, hz, hc⟩ := h3 i hi
  exact ⟨b, off, hA, hb, fun hm => by rcases hZ b hm with h | h <;> first | exact hz h | omega, hc⟩
theorem Rd.congr (h : Rd Z w v n X) (e : ∀ i, i < n → X i = Y i) : Rd Z w v n Y := by
  obtain ⟨A, c, rfl, h1, h2, h3⟩ := h
  refine ⟨A, c, rfl, h1, h2, fun i hi => ?_⟩
  rw [← e i hi]
  exact h3 i hi
theorem Rd.own {base : Nat} {e : TypeId} {xs : List Value} (h : w.ownsRow base e 1 v n xs) (hx : ∀ i, i < n → xs[i]? = some (X i)) (hZ : ∀ b ∈ Z, b < base) : Rd Z w v n X := by
  have hc := h.2
  rcases h.2 with ⟨rfl, rfl⟩ | ⟨g, cap, cur, rfl, h1, hh, h2, h3, h4, h5⟩
  · exact ⟨none, 0, rfl, Nat.le_refl _, Nat.zero_le _, fun i hi => absurd hi (Nat.not_lt_zero _)⟩
  · refine ⟨_, _, rfl, h2, h3, fun i hi => ⟨g, 0, rfl, (Array.getElem?_eq_some_iff.1 hh).1, fun hm => by have := hZ g hm; omega, ?_⟩⟩
    rw [Nat.zero_add, h.cellAt i (by omega), hx i hi]
end

def bv (f : Nat → Bool) (n : Nat) : List Value := (List.range n).map fun i => .bool (f i)
theorem bv_get (f : Nat → Bool) {n i : Nat} (h : i < n) : (bv f n)[i]? = some (.bool (f i)) := by simp [bv, h]
theorem bv_succ (f : Nat → Bool) (n : Nat) : bv f (n + 1) = bv f n ++ [.bool (f n)] := by unfold bv; rw [List.range_succ, List.map_append]; rfl
theorem iv_next (f : Nat → Int) (n : Nat) : iv f (n + 1) = iv f n ++ [.int .i64 (f n)] := by unfold iv; rw [List.range_succ, List.map_append]; rfl

theorem bool_info : (Try.prog.info? 4).map (fun i => (i.zero, i.size, i.bytes)) = some (some (.bool false), 1, 1) := by kernel_rfl
theorem rint_info : (Try.prog.info? 3).map (fun i => (i.zero, i.size, i.bytes)) = some (some (.int .i64 0), 1, 8) := by kernel_rfl

/-- Behind an append of one element to what the call owns, old memory is as it was. -/
theorem below_push {B n size : Nat} {w wr w1 : World} {e : TypeId} {v : Value} {xs : List Value} {o : Obj} (hbl : Below B w wr) (hown : wr.ownsRow B e size v n xs) (hgrow : (wr.alloc o).grownBy w1 v.ownBlock) (hB : B ≤ wr.heap.size) : Below B w w1 := by
  refine (hbl.alloc hB _).grown hgrow (by simp; omega) ?_
  intro j hj
  rcases hown.2 with ⟨rfl, _⟩ | ⟨g, cap, cur, rfl, hg, _⟩
  · simp [Value.ownBlock] at hj
  · simp [Value.ownBlock] at hj
    omega

def withAt (B : Nat → Bool) (at' : Int) (b : Bool) : Nat → Bool := fun i => if (i : Int) = at' then b else B i

def WithPost (w : World) (n : Nat) (B : Nat → Bool) (e : Ending) (w' : World) : Prop := ∃ v, e = .returned v ∧ w'.ownsRow w.heap.size 4 1 v n (bv B n) ∧ Below w.heap.size w w'

set_option maxHeartbeats 1600000 in
theorem with_any {Z : List Nat} (v : Value) (n : Nat) (B : Nat → Bool) (at' : Int) (b : Bool) (w : World) (hn : n ≤ 5000) (h : Rd Z w v n (fun i => .bool (B i))) :
    Calls Try.prog 64 #[v, .int .i64 at', .bool b] w (WithPost w n (withAt B at' b)) := by
  obtain ⟨A, c, rfl, hc1, hc2, hc⟩ := h
  obtain ⟨i0, hi0, hz0, hz1, hz2⟩ := info_parts bool_info
  have HC := Lib.hid hc
  unfold maxLen at hc2
  clear hc
  go_enter Try.func64, Try.ntmps64
  go_wp2
  go_loopw [7, 8] (fun v i wr => ∃ k : Nat, k ≤ n ∧ i = .int .i64 k ∧ wr.ownsRow w.heap.size 4 1 v k (bv (withAt B at' b) k) ∧ Below w.heap.size w wr) (fun _ i _ => n - (intOf i).toNat)
  case atStart => exact ⟨0, Nat.zero_le _, rfl, World.ownsRow_nil _ _ _ _, Below.refl _ _⟩
  case round =>
    obtain ⟨k, hk, rfl, hown, hbl⟩ := hrel
    by_cases hlt : k < n
    · obtain ⟨bb, off, hA, hbB, _, hc⟩ := HC.out k hlt
      rw [← hbl.cell (p := ⟨bb, _, none⟩) hbB] at hc
      subst hA
      have HF := Lib.hid (bv_succ (withAt B at' b) k)
      have HV := Lib.hid (show withAt B at' b k = if (k : Int) = at' then b else B k from rfl)
      generalize withAt B at' b k = y at *
      generalize bv (withAt B at' b) k = L at *
      generalize B k = z at *
      have hsz := hbl.size
      by_cases e : (k : Int) = at'
      · subst e
        have hy : y = b := by rw [HV.out, if_pos rfl]
        subst hy
        clear HV
        go_wp2_with (at_builtin; refine wpList_append_own _ rfl (.tmp 18) (.tmp 20) 45 rfl w.heap.size 4 i0 (.bool false) 1 1 Try.underlying45 hi0 hz0 hz1 hz2 rfl (by decide) u7 k L rfl (hown.alloc _) ⟨wr.heap.size, 0, none⟩ 1 1 [.bool y] rfl rfl (cell_one_new _ _ _) (by intro u hu; simp at hu; subst hu; rfl) (by unfold maxLen; omega) (by omega) (by simp; omega) ?_; intro v' w1 hown' hgrow hnil)
        go_roundw
        case rel => exact ⟨k + 1, by omega, by go_num, by rw [HF.out]; exact hown', below_push hbl hown hgrow hsz⟩
        case measure => simp [intOf]; omega
      · have hy : y = z := by rw [HV.out, if_neg e]
        subst hy
        have b1 : ((k : Int) == at') = false := by simpa using e
        clear HV e
        go_wp2_with (at_builtin; refine wpList_append_own _ rfl (.tmp 22) (.tmp 27) 45 rfl w.heap.size 4 i0 (.bool false) 1 1 Try.underlying45 hi0 hz0 hz1 hz2 rfl (by decide) u7 k L rfl (hown.alloc _) ⟨wr.heap.size, 0, none⟩ 1 1 [.bool y] rfl rfl (cell_one_new _ _ _) (by intro u hu; simp at hu; subst hu; rfl) (by unfold maxLen; omega) (by omega) (by simp; omega) ?_; intro v' w1 hown' hgrow hnil)
        go_roundw
        case rel => exact ⟨k + 1, by omega, by go_num, by rw [HF.out]; exact hown', below_push hbl hown hgrow hsz⟩
        case measure => simp [intOf]; omega
    · obtain rfl : k = n := by omega
      go_wp2
      go_ret
      exact ⟨_, rfl, hown, hbl⟩

/-- The reference's slots: m free ones F, n slots with turns T, taken B. -/
structure RefAt (Z : List Nat) (w : World) (vf vt vb : Value) (m n : Nat) (F T : Nat → Int) (B : Nat → Bool) : Prop where
  free : Rd Z w vf m fun i => .int .i64 (F i)
  turns : Rd Z w vt n fun i => .int .i64 (T i)
  taken : Rd Z w vb n fun i => .bool (B i)

theorem RefAt.carry {Z S : List Nat} {w w' : World} {vf vt vb : Value} {m n : Nat} {F T : Nat → Int} {B : Nat → Bool} (h : RefAt Z w vf vt vb m n F T B) (t : Touch S w w') (hS : ∀ b ∈ S, b ∈ Z ∨ w.heap.size ≤ b) : RefAt Z w' vf vt vb m n F T B :=
  ⟨h.free.carry t hS, h.turns.carry t hS, h.taken.carry t hS⟩
theorem RefAt.avoid {Z Z' : List Nat} {w : World} {vf vt vb : Value} {m n : Nat} {F T : Nat → Int} {B : Nat → Bool} (h : RefAt Z w vf vt vb m n F T B) (hZ : ∀ b ∈ Z', b ∈ Z ∨ w.heap.size ≤ b) : RefAt Z' w vf vt vb m n F T B :=
  ⟨h.free.avoid hZ, h.turns.avoid hZ, h.taken.avoid hZ⟩

def rlive (n : Nat) (T : Nat → Int) (B : Nat → Bool) (a t : Int) : Bool := decide (0 ≤ a ∧ a < n ∧ B a.toNat = true ∧ T a.toNat = t)

set_option maxHeartbeats 1600000 in
theorem refLive_any {Z : List Nat} {w : World} {vf vt vb : Value} {m n : Nat} {F T : Nat → Int} {B : Nat → Bool} (h : RefAt Z w vf vt vb m n F T B) (a t : Int) :
    Calls Try.prog 57 #[.agg #[vf, vt, vb], .int .i64 a, .int .i64 t] w fun e w' => e = .returned (.bool (rlive n T B a t)) ∧ Touch [] w w' := by
  obtain ⟨A1, c1, rfl, _, _, _⟩ := h.free
  obtain ⟨A2, c2, rfl, hc2, hm2, h2⟩ := h.turns
  obtain ⟨A3, c3, rfl, hc3, hm3, h3⟩ := h.taken
  unfold maxLen at hm2 hm3
  clear h
  by_cases x0 : a < 0
  · have hr : rlive n T B a t = false := by simp only [rlive, decide_eq_false_iff_not]; omega
    rw [hr]
    clear h2 h3 hr
    go_enter Try.func57, Try.ntmps57
    go_wp2
    go_ret
    exact ⟨rfl, (Touch.refl _ _).alloc _⟩
  · obtain ⟨j, rfl⟩ : ∃ j : Nat, a = j := ⟨a.toNat, by omega⟩
    by_cases x1 : n ≤ j
    · have hr : rlive n T B j t = false := by simp only [rlive, decide_eq_false_iff_not]; omega
      rw [hr]
      clear h2 h3 hr x0
      go_enter Try.func57, Try.ntmps57
      go_wp2
      go_ret
      exact ⟨rfl, (Touch.refl _ _).alloc _⟩
    · have hlt : j < n := by omega
      obtain ⟨b2, o2, rfl, l2, _, d2⟩ := h2 j hlt
      obtain ⟨b3, o3, rfl, l3, _, d3⟩ := h3 j hlt
      dsimp only at d2 d3
      have hr : Hid (rlive n T B j t = (B j && decide (T j = t))) := Lib.hid (by
        simp [rlive, hlt, Bool.decide_and])
      generalize rlive n T B j t = r at *
      generalize B j = y at *
      generalize T j = s at *
      clear h2 h3 x0 x1
      cases y
      · have hrr : r = false := by rw [hr.out]; rfl
        subst hrr
        clear hr
        go_enter Try.func57, Try.ntmps57
        go_wp2
        go_ret
        exact ⟨rfl, (Touch.refl _ _).alloc _⟩
      · by_cases e : s = t
        · subst e
          have hrr : r = true := by rw [hr.out]; simp
          subst hrr
          clear hr
          go_enter Try.func57, Try.ntmps57
          go_wp2
          go_ret
          exact ⟨ret_bool (by simp), (Touch.refl _ _).alloc _⟩
        · have hrr : r = false := by rw [hr.out]; simp [e]
          subst hrr
          have b1 : (s == t) = false := by simpa using e
          clear hr e
          go_enter Try.func57, Try.ntmps57
          go_wp2
          go_ret
          exact ⟨ret_bool (by simp), (Touch.refl _ _).alloc _⟩
end Go.Proofs.Ytalkpoeliekbfaa

/-
  Contracts of the reference of layer 6 (slab): Take.
-/
namespace Go.Proofs.Ytalkpoeliekbfaa
open Go.ChangeShapes Go.WideShapes Go.ChangeAt Go.RowKit Go.Deep
set_option linter.unusedVariables false

section
variable {Z : List Nat} {w : World} {vf vt vb : Value} {m n : Nat} {F T : Nat → Int} {B : Nat → Bool}

theorem refTake_none (h : RefAt Z w vf vt vb 0 n F T B) :
    Calls Try.prog 55 #[.agg #[vf, vt, vb]] w fun e w' => e = .returned (.tuple #[.agg #[vf, vt, vb], .int .i64 0, .int .i64 0, .bool false]) ∧ Touch [] w w' := by
  obtain ⟨A1, c1, rfl, _, _, _⟩ := h.free
  obtain ⟨A2, c2, rfl, _, _, _⟩ := h.turns
  obtain ⟨A3, c3, rfl, _, _, _⟩ := h.taken
  clear h
  go_enter Try.func55, Try.ntmps55
  go_wp2
  exact bodyPost_ret (v := .tuple #[.agg #[.slice A1 0 c1, .slice A2 n c2, .slice A3 n c3], .int .i64 0, .int .i64 0, .bool false]) (by simp [results, Try.results55, go_sem]) rfl ⟨rfl, ((Touch.refl _ _).alloc _).alloc _⟩

def RefTaken (Z : List Nat) (w : World) (vt : Value) (m n : Nat) (F T : Nat → Int) (B : Nat → Bool) (a : Nat) (t : Int) (e : Ending) (w' : World) : Prop :=
  ∃ vf' vb' ad c, e = .returned (.tuple #[.agg #[vf', vt, vb'], .int .i64 a, .int .i64 t, .bool true]) ∧ vf' = .slice (some ad) m c ∧ RefAt Z w' vf' vt vb' m n (fun i => F (i + 1)) T (withAt B a true) ∧ Touch [] w w'

set_option maxHeartbeats 1600000 in
theorem refTake_some (h : RefAt Z w vf vt vb (m + 1) n F T B) (hZ : ∀ b ∈ Z, b < w.heap.size) (hn : n ≤ 5000) (hm : m ≤ 5000) (a : Nat) (ha : F 0 = a) (han : a < n) :
    Calls Try.prog 55 #[.agg #[vf, vt, vb]] w (RefTaken Z w vt m n F T B a (T a)) := by
  have H := Lib.hid h
  obtain ⟨A1, c1, rfl, hc1, hm1, h1⟩ := h.free
  obtain ⟨A2, c2, rfl, hc2, hm2, h2⟩ := h.turns
  obtain ⟨A3, c3, rfl, hc3, hm3, h3⟩ := h.taken
  unfold maxLen at hm1 hm2 hm3
  obtain ⟨b1, o1, rfl, l1, z1, d1⟩ := h1 0 (by omega)
  obtain ⟨b2, o2, rfl, l2, z2, d2⟩ := h2 a han
  dsimp only at d1 d2
  rw [ha, Nat.add_zero] at d1
  obtain ⟨A', hA', HA'⟩ : ∃ A', (if c1 = 1 then some (⟨b1, o1, none⟩ : Addr) else some ⟨b1, o1 + 1, none⟩) = some A' ∧ Hid (∀ i, i < m → A' = ⟨b1, o1 + 1, none⟩) := by
    by_cases e : c1 = 1
    · exact ⟨_, if_pos e, Lib.hid fun i hi => by omega⟩
    · exact ⟨_, if_neg e, Lib.hid fun i hi => rfl⟩
  have Hc : Hid (∀ i, i < m → w.cell? ⟨b1, o1 + 1 + i, none⟩ = some (.int .i64 (F (i + 1)))) := Lib.hid fun i hi => by
    obtain ⟨b, off, e, _, _, hc⟩ := h1 (i + 1) (by omega)
    cases e
    rw [show o1 + 1 + i = o1 + (i + 1) by omega]
    exact hc
  have HT := fun w1 (t : Touch [] w w1) => Lib.hid (with_any (Z := Z) (.slice A3 n c3) n B a true w1 hn (h.taken.carry t (by simp)))
  generalize T a = t at *
  have hl1 : 1 ≤ c1 := by omega
  have hm' : m + 1 - 1 = m := by omega
  have hml : 1 ≤ m + 1 := by omega
  clear h h1 h2 h3 ha
  have a0 : (0 : Int) ≤ (a : Int) := Int.natCast_nonneg _
  have a1 : (a : Int) < (n : Int) := by omega
  go_enter Try.func55, Try.ntmps55
  go_wp2_with fail
  have tW := ((Touch.refl [] w).alloc (.cells #[.slice (some A') m (c1 - 1), .slice (some ⟨b2, o2, none⟩) n c2, .slice A3 n c3] 55)).alloc (.cells #[.slice none 0 0, .slice none 0 0, .slice none 0 0] 55)
  refine ((HT _ tW).out).mono ?_
  rintro e w2 ⟨v3, rfl, hown, hb⟩
  have hsz : w.heap.size + 2 ≤ w2.heap.size := by have := hb.size; simp at this; omega
  have e0 := hb.cell (p := ⟨w.heap.size, 0, none⟩) (by simp; omega)
  have e1 := hb.cell (p := ⟨w.heap.size, 1, none⟩) (by simp; omega)
  have e2 := hb.cell (p := ⟨w.heap.size, 2, none⟩) (by simp; omega)
  have r0 := hb.cell (p := ⟨w.heap.size + 1, 0, none⟩) (by simp)
  have r1 := hb.cell (p := ⟨w.heap.size + 1, 1, none⟩) (by simp)
  have r2 := hb.cell (p := ⟨w.heap.size + 1, 2, none⟩) (by simp)
  have f2 := hb.frozen (p := ⟨w.heap.size, 2, none⟩) (by simp; omega)
  have g0 := hb.frozen (p := ⟨w.heap.size + 1, 0, none⟩) (by simp)
  have g1 := hb.frozen (p := ⟨w.heap.size + 1, 1, none⟩) (by simp)
  have g2 := hb.frozen (p := ⟨w.heap.size + 1, 2, none⟩) (by simp)
  have dd := (hb.cell (p := ⟨b2, o2 + a, none⟩) (Nat.lt_of_lt_of_le l2 tW.size)).trans ((tW.cell (a := ⟨b2, o2 + a, none⟩) l2 (by simp)).trans d2)
  simp at e0 e1 e2 r0 r1 r2 f2 g0 g1 g2
  obtain ⟨A4, c4, rfl⟩ : ∃ A c, v3 = .slice A n c := by
    rcases hown.2 with ⟨h1, h2⟩ | ⟨g', cap, cur, h1, _⟩
    · exact ⟨_, _, by rw [h1, h2]⟩
    · exact ⟨_, _, h1⟩
  have HO := Lib.hid hown
  have HB := Lib.hid (tW.trans (Touch.ofBelow (S := []) hb) (by simp))
  clear hown hb HT tW
  go_wp2_with fail
  go_region
  all_goals
    go_wp2_with fail
    have tE := (((((HB.out.setCell (a := ⟨w.heap.size, 2, none⟩) (.inr (Nat.le_refl _)) (.slice A4 n c4)).setCell (a := ⟨w.heap.size + 1, 0, none⟩) (.inr (Nat.le_succ _)) (.slice (some A') m (c1 - 1))).setCell (a := ⟨w.heap.size + 1, 1, none⟩) (.inr (Nat.le_succ _)) (.slice (some ⟨b2, o2, none⟩) n c2)).setCell (a := ⟨w.heap.size + 1, 2, none⟩) (.inr (Nat.le_succ _)) (.slice A4 n c4))).drew
    have tR := (((((Touch.refl [w.heap.size, w.heap.size + 1] w2).setCell (a := ⟨w.heap.size, 2, none⟩) (by simp) (.slice A4 n c4)).setCell (a := ⟨w.heap.size + 1, 0, none⟩) (by simp) (.slice (some A') m (c1 - 1))).setCell (a := ⟨w.heap.size + 1, 1, none⟩) (by simp) (.slice (some ⟨b2, o2, none⟩) n c2)).setCell (a := ⟨w.heap.size + 1, 2, none⟩) (by simp) (.slice A4 n c4)).drew
    refine bodyPost_ret (v := .tuple #[.agg #[.slice (some A') m (c1 - 1), .slice (some ⟨b2, o2, none⟩) n c2, .slice A4 n c4], .int .i64 a, .int .i64 t, .bool true]) (by simp [results, Try.results55, go_sem, r0, r1, r2]) rfl ⟨_, _, A', c1 - 1, rfl, rfl, ⟨?_, H.out.turns.carry tE (by simp), ?_⟩, tE⟩
    · refine ⟨some A', c1 - 1, rfl, by omega, by unfold maxLen; omega, fun i hi => ⟨b1, o1 + 1, by rw [HA'.out i hi], Nat.lt_of_lt_of_le l1 tE.size, z1, ?_⟩⟩
      exact (tE.cell (a := ⟨b1, o1 + 1 + i, none⟩) l1 (by simp)).trans (Hc.out i hi)
    · refine Rd.own (tR.row HO.out (fun b hb hm => ?_)) (fun i hi => bv_get _ hi) (fun b hb => by have := hZ b hb; simp; omega)
      rcases HO.out.2 with ⟨h1, h2⟩ | ⟨g', cap, cur, h1, hbg, _⟩
      · rw [h1] at hb
        simp [Value.ownBlock] at hb
      · rw [h1] at hb
        simp [Value.ownBlock] at hb
        simp at hbg hm
        omega
end
end Go.Proofs.Ytalkpoeliekbfaa

/-
  Contracts of the reference of layer 6 (slab): Give.
-/
namespace Go.Proofs.Ytalkpoeliekbfaa
open Go.ChangeShapes Go.WideShapes Go.ChangeAt Go.RowKit Go.Deep
set_option linter.unusedVariables false

/-- A struct of three cells in a block of its own. -/
def Box3 (w : World) (b : Nat) (t : TypeId) (x y z : Value) : Prop := w.heap[b]? = some (.cells #[x, y, z] t (0, 0))
section
variable {w w' : World} {b : Nat} {t : TypeId} {x y z : Value}
theorem Box3.lt (h : Box3 w b t x y z) : b < w.heap.size := (Array.getElem?_eq_some_iff.1 h).1
theorem Box3.c0 (h : Box3 w b t x y z) : w.cell? ⟨b, 0, none⟩ = some x := cell_of_row w b 0 _ t (0, 0) h
theorem Box3.c1 (h : Box3 w b t x y z) : w.cell? ⟨b, 1, none⟩ = some y := cell_of_row w b 1 _ t (0, 0) h
theorem Box3.c2 (h : Box3 w b t x y z) : w.cell? ⟨b, 2, none⟩ = some z := cell_of_row w b 2 _ t (0, 0) h
theorem Box3.fr (h : Box3 w b t x y z) (i : Nat) : w.frozen? ⟨b, i, none⟩ = false := frozen_of_row w b i _ t h
theorem Box3.carry {S : List Nat} (h : Box3 w b t x y z) (k : Touch S w w') (hb : b ∉ S) : Box3 w' b t x y z := (k.block b h.lt hb).trans h
theorem Box3.set0 (h : Box3 w b t x y z) (v : Value) : Box3 (w.setCell ⟨b, 0, none⟩ v) b t v y z := heap_setCell_same w b 0 _ t v h
theorem Box3.set1 (h : Box3 w b t x y z) (v : Value) : Box3 (w.setCell ⟨b, 1, none⟩ v) b t x v z := heap_setCell_same w b 1 _ t v h
theorem Box3.set2 (h : Box3 w b t x y z) (v : Value) : Box3 (w.setCell ⟨b, 2, none⟩ v) b t x y v := heap_setCell_same w b 2 _ t v h
theorem Box3.new (w : World) (t : TypeId) (x y z : Value) : Box3 (w.alloc (.cells #[x, y, z] t)) w.heap.size t x y z := heap_alloc_new w _
end

section
variable {Z : List Nat} {w : World} {vf vt vb : Value} {m n : Nat} {F T : Nat → Int} {B : Nat → Bool}

theorem refGive_no (h : RefAt Z w vf vt vb m n F T B) (a t : Int) (hno : rlive n T B a t = false) :
    Calls Try.prog 59 #[.agg #[vf, vt, vb], .int .i64 a, .int .i64 t] w fun e w' => e = .returned (.tuple #[.agg #[vf, vt, vb], .bool false]) ∧ Touch [] w w' := by
  have tW := ((Touch.refl [] w).alloc (.cells #[vf, vt, vb] 55)).alloc (.cells #[.slice none 0 0, .slice none 0 0, .slice none 0 0] 55)
  have q := refLive_any (h.carry tW (by simp)) a t
  rw [hno] at q
  have Q := Lib.hid q
  obtain ⟨A1, c1, rfl, _, _, _⟩ := h.free
  obtain ⟨A2, c2, rfl, _, _, _⟩ := h.turns
  obtain ⟨A3, c3, rfl, _, _, _⟩ := h.taken
  have b0 := (Box3.new w 55 (.slice A1 m c1) (.slice A2 n c2) (.slice A3 n c3)).carry ((Touch.refl [] _).alloc (.cells #[.slice none 0 0, .slice none 0 0, .slice none 0 0] 55)) (by simp)
  have b1 := Box3.new (w.alloc (.cells #[.slice A1 m c1, .slice A2 n c2, .slice A3 n c3] 55)) 55 (.slice none 0 0) (.slice none 0 0) (.slice none 0 0)
  have B0 := Lib.hid b0
  have B1 := Lib.hid b1
  have TW := Lib.hid tW
  clear h hno q tW b0 b1
  go_enter Try.func59, Try.ntmps59
  go_wp2_with fail
  refine (Q.out).mono ?_
  rintro e w2 ⟨rfl, t2⟩
  have b0 := B0.out.carry t2 (by simp)
  have b1 := B1.out.carry t2 (by simp)
  rw [show (w.alloc (.cells #[.slice A1 m c1, .slice A2 n c2, .slice A3 n c3] 55)).heap.size = w.heap.size + 1 by simp] at b1
  have e0 := b0.c0
  have e1 := b0.c1
  have e2 := b0.c2
  have r0 := b1.c0
  have r1 := b1.c1
  have r2 := b1.c2
  have g0 := b1.fr 0
  have g1 := b1.fr 1
  have g2 := b1.fr 2
  have T2 := Lib.hid (TW.out.trans t2 (by simp))
  clear b0 b1 t2 Q B0 B1 TW
  go_wp2_with fail
  refine bodyPost_ret (v := .tuple #[.agg #[.slice A1 m c1, .slice A2 n c2, .slice A3 n c3], .bool false]) (by simp [results, Try.results59, go_sem, r0, r1, r2]) rfl ⟨rfl, ?_⟩
  exact ((T2.out.setCell (.inr (Nat.le_succ _)) _).setCell (.inr (Nat.le_succ _)) _).setCell (.inr (Nat.le_succ _)) _
end
end Go.Proofs.Ytalkpoeliekbfaa

/-
  Contracts of the reference of layer 6 (slab): Give of a live handle.
-/
namespace Go.Proofs.Ytalkpoeliekbfaa
open Go.ChangeShapes Go.WideShapes Go.ChangeAt Go.RowKit Go.Deep
set_option linter.unusedVariables false

def turned (T : Nat → Int) (a : Nat) : Nat → Int := fun i => if i = a then T i + 1 else T i
def freed (F : Nat → Int) (a : Nat) : Nat → Int := fun i => if i = 0 then a else F (i - 1)
theorem freed_iv (F : Nat → Int) (a m : Nat) : iv (freed F a) (m + 1) = [.int .i64 a] ++ iv F m := by
  unfold iv
  rw [List.range_succ_eq_map, List.map_cons, List.map_map]
  rfl

theorem own_form {w : World} {base : Nat} {e : TypeId} {size n : Nat} {v : Value} {xs : List Value} (h : w.ownsRow base e size v n xs) : ∃ A c, v = .slice A n c := by
  rcases h.2 with ⟨h1, h2⟩ | ⟨g', cap, cur, h1, _⟩
  · exact ⟨_, _, by rw [h1, h2]⟩
  · exact ⟨_, _, h1⟩
theorem own_base {w : World} {base : Nat} {e : TypeId} {size n b : Nat} {v : Value} {xs : List Value} (h : w.ownsRow base e size v n xs) (hb : v.ownBlock = some b) : base ≤ b := by
  rcases h.2 with ⟨h1, h2⟩ | ⟨g', cap, cur, h1, hg, _⟩
  · rw [h1] at hb
    simp [Value.ownBlock] at hb
  · rw [h1] at hb
    simp [Value.ownBlock] at hb
    omega

theorem Rd.news {Z : List Nat} {w : World} {ad : Addr} {m c : Nat} {F : Nat → Int} (h : Rd Z w (.slice (some ad) m c) m fun i => .int .i64 (F i)) : ∀ j u, (iv F m)[j]? = some u → w.cell? (ad.add j) = some u := by
  intro j u hj
  have hlt : j < m := by have := (List.getElem?_eq_some_iff.1 hj).1; rwa [iv_length] at this
  obtain ⟨A, c', e, _, _, hc⟩ := h
  simp only [Value.slice.injEq, true_and] at e
  obtain ⟨rfl, _⟩ := e
  obtain ⟨b, off, e, _, _, hcell⟩ := hc j hlt
  cases e
  rw [iv_get _ hlt] at hj
  have hadd : (⟨b, off, none⟩ : Addr).add j = ⟨b, off + j, none⟩ := by unfold Addr.add; split <;> simp_all
  rw [hadd, hcell, ← hj]

def RefGiven (Z : List Nat) (w : World) (m n : Nat) (F T : Nat → Int) (B : Nat → Bool) (a : Nat) (e : Ending) (w' : World) : Prop :=
  ∃ vf' vt' vb' ad c, e = .returned (.tuple #[.agg #[vf', vt', vb'], .bool true]) ∧ vf' = .slice (some ad) (m + 1) c ∧ RefAt Z w' vf' vt' vb' (m + 1) n (freed F a) (turned T a) (withAt B a false) ∧ Touch [] w w'

section
variable {Z : List Nat} {w : World} {vt vb : Value} {m n : Nat} {F T : Nat → Int} {B : Nat → Bool}

set_option maxRecDepth 100000 in
set_option maxHeartbeats 3200000 in
theorem refGive_yes (ad : Addr) (c1 : Nat) (h : RefAt Z w (.slice (some ad) m c1) vt vb m n F T B) (hZ : ∀ b ∈ Z, b < w.heap.size) (hn : n ≤ 5000) (hm : m ≤ 5000) (a : Nat) (han : a < n) (h0 : 0 ≤ T a) (h1 : T a < 1000000) (hyes : rlive n T B a (T a) = true) :
    Calls Try.prog 59 #[.agg #[.slice (some ad) m c1, vt, vb], .int .i64 a, .int .i64 (T a)] w (RefGiven Z w m n F T B a) := by
  obtain ⟨i0, hi0, hz0, hz1, hz2⟩ := info_parts rint_info
  have tW := ((Touch.refl [] w).alloc (.cells #[.slice (some ad) m c1, vt, vb] 55)).alloc (.cells #[.slice none 0 0, .slice none 0 0, .slice none 0 0] 55)
  have q := refLive_any (h.carry tW (by simp)) a (T a)
  rw [hyes] at q
  have Q := Lib.hid q
  obtain ⟨A2, c2, rfl, hc2, hm2, ht⟩ := h.turns
  obtain ⟨A3, c3, rfl, _, _, _⟩ := h.taken
  unfold maxLen at hm2
  have b0 := (Box3.new w 55 (.slice (some ad) m c1) (.slice A2 n c2) (.slice A3 n c3)).carry ((Touch.refl [] _).alloc (.cells #[.slice none 0 0, .slice none 0 0, .slice none 0 0] 55)) (by simp)
  have b1 := Box3.new (w.alloc (.cells #[.slice (some ad) m c1, .slice A2 n c2, .slice A3 n c3] 55)) 55 (.slice none 0 0) (.slice none 0 0) (.slice none 0 0)
  rw [show (w.alloc (.cells #[.slice (some ad) m c1, .slice A2 n c2, .slice A3 n c3] 55)).heap.size = w.heap.size + 1 by simp] at b1
  have B0 := Lib.hid b0
  have B1 := Lib.hid b1
  have TW := Lib.hid tW
  have HR := Lib.hid h
  have HT := Lib.hid ht
  generalize hta : T a = t at *
  have HTA := Lib.hid hta
  clear h hyes q tW b0 b1 ht hta
  go_enter Try.func59, Try.ntmps59
  go_wp2_with fail
  refine (Q.out).mono ?_
  rintro e w2 ⟨rfl, t2⟩
  have b0 := B0.out.carry t2 (by simp)
  have b1 := B1.out.carry t2 (by simp)
  have T2 := Lib.hid (TW.out.trans t2 (by simp))
  have s2 : w.heap.size + 2 ≤ w2.heap.size := by have := b1.lt; omega
  clear B0 B1
  have B0 := Lib.hid b0
  have B1 := Lib.hid b1
  clear b0 b1 t2 Q TW
  go_wp2_with fail
  go_loopw [8, 9] (fun v i wr => ∃ k : Nat, k ≤ n ∧ i = .int .i64 k ∧ wr.ownsRow w2.heap.size 3 1 v k (iv (turned T a) k) ∧ Below w2.heap.size w2 wr) (fun _ i _ => n - (intOf i).toNat)
  case atStart => exact ⟨0, Nat.zero_le _, rfl, World.ownsRow_nil _ _ _ _, Below.refl _ _⟩
  case round =>
    obtain ⟨k, hk, rfl, hown, hbl⟩ := hrel
    have bw := B0.out.carry (Touch.ofBelow (S := []) hbl) (by simp)
    have hsz := hbl.size
    by_cases hlt : k < n
    · obtain ⟨bb, off, hA, hbB, _, hc⟩ := HT.out k hlt
      have hc := (hbl.cell (p := ⟨bb, off + k, none⟩) (Nat.lt_of_lt_of_le hbB T2.out.size)).trans ((T2.out.cell (a := ⟨bb, off + k, none⟩) hbB (by simp)).trans hc)
      subst hA
      have e1 := bw.c1
      have HF := Lib.hid (iv_next (turned T a) k)
      have HV := Lib.hid (show turned T a k = if k = a then T k + 1 else T k from rfl)
      generalize turned T a k = y at *
      generalize iv (turned T a) k = L at *
      by_cases e : k = a
      · subst e
        have hy : y = t + 1 := by rw [HV.out, if_pos rfl, HTA.out]
        rw [HTA.out] at hc
        subst hy
        clear HV bw
        go_wp2_with (at_builtin; refine wpList_append_own _ rfl (.tmp 34) (.tmp 36) 40 rfl w2.heap.size 3 i0 (.int .i64 0) 1 8 Try.underlying40 hi0 hz0 hz1 hz2 rfl (by decide) u8 k L rfl (hown.alloc _) ⟨wr.heap.size, 0, none⟩ 1 1 [.int .i64 (t + 1)] rfl rfl (cell_one_new _ _ _) (by intro u hu; simp at hu; subst hu; rfl) (by unfold maxLen; omega) (by omega) (by simp; omega) ?_; intro v' w1 hown' hgrow hnil)
        go_roundw
        case rel => exact ⟨k + 1, by omega, by go_num, by rw [HF.out]; exact hown', below_push hbl hown hgrow hsz⟩
        case measure => simp [intOf]; omega
      · have hy : y = T k := by rw [HV.out, if_neg e]
        rw [← hy] at hc
        have b1 : ((k : Int) == (a : Int)) = false := by rw [beq_eq_false_iff_ne]; omega
        have b2 : (k == a) = false := by rw [beq_eq_false_iff_ne]; exact e
        clear HV hy bw
        go_wp2_with (at_builtin; refine wpList_append_own _ rfl (.tmp 34) (.tmp 36) 40 rfl w2.heap.size 3 i0 (.int .i64 0) 1 8 Try.underlying40 hi0 hz0 hz1 hz2 rfl (by decide) u8 k L rfl (hown.alloc _) ⟨wr.heap.size, 0, none⟩ 1 1 [.int .i64 y] rfl rfl (cell_one_new _ _ _) (by intro u hu; simp at hu; subst hu; rfl) (by unfold maxLen; omega) (by omega) (by simp; omega) ?_; intro v' w1 hown' hgrow hnil)
        go_roundw
        case rel => exact ⟨k + 1, by omega, by go_num, by rw [HF.out]; exact hown', below_push hbl hown hgrow hsz⟩
        case measure => simp [intOf]; omega
    · obtain rfl : k = n := by omega
      obtain ⟨A8, c8, rfl⟩ := own_form hown
      have e1 := bw.c1
      have e2 := bw.c2
      have f1 := bw.fr 1
      have lb := bw.lt
      have t3 := Touch.ofBelow (S := []) hbl
      have t4 := (Touch.refl [w.heap.size] wr).setCell (a := ⟨w.heap.size, 1, none⟩) (by simp) (.slice A8 k c8)
      have TB := Lib.hid ((T2.out.trans t3 (by simp)).setCell (a := ⟨w.heap.size, 1, none⟩) (.inr (Nat.le_refl _)) (.slice A8 k c8))
      have Q3 := Lib.hid (with_any (Z := Z) (.slice A3 k c3) k B a false (wr.setCell ⟨w.heap.size, 1, none⟩ (.slice A8 k c8)) hn (HR.out.taken.carry TB.out (by simp)))
      have B0' := Lib.hid (bw.set1 (.slice A8 k c8))
      have B1' := Lib.hid ((B1.out.carry t3 (by simp)).carry t4 (by simp))
      have O8 := Lib.hid (t4.row hown (fun b hb hm => by have := own_base hown hb; simp at hm; omega))
      clear hown hbl bw t3 t4 B0 B1
      go_wp2_with fail
      refine (Q3.out).mono ?_
      rintro e w5 ⟨v5, rfl, hown5, hb5⟩
      obtain ⟨A5, c5, rfl⟩ := own_form hown5
      have t5 := Touch.ofBelow (S := []) hb5
      have s5 := t5.size
      have s4 : (wr.setCell ⟨w.heap.size, 1, none⟩ (.slice A8 k c8)).heap.size = wr.heap.size := by simp
      rw [s4] at s5 hown5
      have x0 := B0'.out.carry t5 (by simp)
      have x1 := B1'.out.carry t5 (by simp)
      have f2 := x0.fr 2
      have d0 := x0.c0
      have d2 := x0.c2
      have t6 := (Touch.refl [w.heap.size] w5).setCell (a := ⟨w.heap.size, 2, none⟩) (by simp) (.slice A5 k c5)
      have t7 := t6.alloc (.cells #[.int .i64 a] 3)
      have T5 := Lib.hid (TB.out.trans t5 (by simp))
      have T7 := Lib.hid ((T5.out.setCell (a := ⟨w.heap.size, 2, none⟩) (.inr (Nat.le_refl _)) (.slice A5 k c5)).alloc (.cells #[.int .i64 a] 3))
      have FB := Lib.hid (show ∀ w9, ((w5.setCell ⟨w.heap.size, 2, none⟩ (.slice A5 k c5)).alloc (.cells #[.int .i64 a] 3)).grownBy w9 (some w5.heap.size) →
          Box3 w9 w.heap.size 55 (.slice (some ad) m c1) (.slice A8 k c8) (.slice A5 k c5) ∧ Box3 w9 (w.heap.size + 1) 55 (.slice none 0 0) (.slice none 0 0) (.slice none 0 0) from fun w9 hg => by
        have tA := ((Touch.refl [w5.heap.size] (w5.setCell ⟨w.heap.size, 2, none⟩ (.slice A5 k c5))).alloc (.cells #[.int .i64 a] 3)).grown hg (by simp)
        exact ⟨(x0.set2 _).carry tA (by simp; omega), (x1.carry t6 (by simp)).carry tA (by simp; omega)⟩)
      have RW := Lib.hid (show ((w5.setCell ⟨w.heap.size, 2, none⟩ (.slice A5 k c5)).alloc (.cells #[.int .i64 a] 3)).ownsRow w2.heap.size 3 1 (.slice (some ⟨w5.heap.size, 0, none⟩) 1 1) 1 [.int .i64 a] by
        have := World.ownsRow_lit (base := w2.heap.size) (e := 3) (size := 1) (w5.setCell ⟨w.heap.size, 2, none⟩ (.slice A5 k c5)) #[.int .i64 a] 1 (by simp; omega) (by unfold maxLen; omega) rfl
        simpa using this)
      have NW := Lib.hid ((HR.out.free.carry T7.out (by simp)).news)
      have SW : w2.heap.size ≤ ((w5.setCell ⟨w.heap.size, 2, none⟩ (.slice A5 k c5)).alloc (.cells #[.int .i64 a] 3)).heap.size := by simp; omega
      have SW' := Lib.hid SW
      have lw5 : w.heap.size < w5.heap.size := by omega
      have O5 := Lib.hid hown5
      have t7' := Lib.hid (t7.mono (S' := [w.heap.size, w.heap.size + 1, w5.heap.size]) (by simp))
      have BL8 := Lib.hid (show ∀ b, (Value.slice A8 k c8).ownBlock = some b → b < w5.heap.size from fun b hb => by have := own_lt O8.out hb; simp at this; omega)
      have O8' := Lib.hid (t5.row O8.out (by simp))
      clear hown5 hb5 x0 x1 t5 t6 t7 B0' B1' O8 Q3 TB s4 SW
      go_wp2_with (at_builtin; refine wpList_append_own _ rfl (.tmp 46) (.tmp 48) 40 rfl w2.heap.size 3 i0 (.int .i64 0) 1 8 Try.underlying40 hi0 hz0 hz1 hz2 rfl (by decide) (.slice (some ⟨w5.heap.size, 0, none⟩) 1 1) 1 [.int .i64 a] rfl RW.out ad m c1 (iv F m) rfl (by rw [iv_length, Nat.mul_one]) NW.out (iv_one _ _) (by unfold maxLen; omega) (by omega) SW'.out ?_; intro v9 w9 hown9 hgrow9 hnil9; obtain ⟨g9, cp9, rfl, _, _⟩ := hown9.form (by omega); obtain ⟨x0, x1⟩ := FB.out _ hgrow9; have d0 := x0.c0; have d1 := x0.c1; have d2 := x0.c2; have f0 := x0.fr 0; have r0 := x1.c0; have r1 := x1.c1; have r2 := x1.c2; have p0 := x1.fr 0; have p1 := x1.fr 1; have p2 := x1.fr 2; have HO9 := Lib.hid hown9; have HG9 := Lib.hid hgrow9; clear hown9 hgrow9 hnil9 x0 x1)
      have tG := ((t7'.out).grown HG9.out (by simp [Value.ownBlock]))
      have tE := ((((tG.setCell (a := ⟨w.heap.size, 0, none⟩) (by simp) (.slice (some ⟨g9, 0, none⟩) (1 + m) cp9)).setCell (a := ⟨w.heap.size + 1, 0, none⟩) (by simp) (.slice (some ⟨g9, 0, none⟩) (1 + m) cp9)).setCell (a := ⟨w.heap.size + 1, 1, none⟩) (by simp) (.slice A8 k c8)).setCell (a := ⟨w.heap.size + 1, 2, none⟩) (by simp) (.slice A5 k c5))
      have tR := (((((Touch.refl [w.heap.size, w.heap.size + 1] w9).setCell (a := ⟨w.heap.size, 0, none⟩) (by simp) (.slice (some ⟨g9, 0, none⟩) (1 + m) cp9)).setCell (a := ⟨w.heap.size + 1, 0, none⟩) (by simp) (.slice (some ⟨g9, 0, none⟩) (1 + m) cp9)).setCell (a := ⟨w.heap.size + 1, 1, none⟩) (by simp) (.slice A8 k c8)).setCell (a := ⟨w.heap.size + 1, 2, none⟩) (by simp) (.slice A5 k c5))
      have tF := T5.out.trans tE (by simp; omega)
      refine bodyPost_ret (v := .tuple #[.agg #[.slice (some ⟨g9, 0, none⟩) (1 + m) cp9, .slice A8 k c8, .slice A5 k c5], .bool true]) (by simp [results, Try.results59, go_sem, r0, r1, r2]) rfl ⟨_, _, _, ⟨g9, 0, none⟩, cp9, rfl, by rw [Nat.add_comm], ⟨?_, ?_, ?_⟩, tF⟩
      · have hr := tR.row HO9.out (fun b hb hm => by have := own_base HO9.out hb; simp at hm; omega)
        rw [Nat.add_comm 1 m, ← freed_iv] at hr
        rw [Nat.add_comm 1 m]
        exact Rd.own hr (fun i hi => iv_get _ hi) (fun b hb => by have := hZ b hb; omega)
      · exact Rd.own (tE.row O8'.out (fun b hb hm => by
          have h1 := own_base O8'.out hb
          have h2 := BL8.out b hb
          simp at hm
          omega)) (fun i hi => iv_get _ hi) (fun b hb => by have := hZ b hb; omega)
      · exact Rd.own (tE.row O5.out (fun b hb hm => by
          have h1 := own_base O5.out hb
          have h2 := own_lt O5.out hb
          simp at hm
          omega)) (fun i hi => bv_get _ hi) (fun b hb => by have := hZ b hb; omega)
end
end Go.Proofs.Ytalkpoeliekbfaa

/-
  Layer 7 (chain): what a list holds; the row of its nodes.
-/
namespace Go.Proofs.Ytalkpoeliekbfaa
open Go.ChangeShapes Go.WideShapes Go.ChangeAt Go.RowKit Go.Deep
set_option linter.unusedVariables false
set_option linter.unusedSimpArgs false

def headI : List Nat → Int
  | [] => -1
  | x :: _ => x
/-- Each node's next one. -/
def Linked (N : Nat → Int) : List Nat → Prop
  | [] => True
  | x :: l => N x = headI l ∧ Linked N l
/-- List a holds the nodes L. -/
structure ListAt (n : Nat) (N E : Nat → Int) (a : Nat) (L : List Nat) : Prop where
  count : E (a * 3 + 2) = L.length
  first : L ≠ [] → E (a * 3) = headI L
  last : ∀ x, L.getLast? = some x → E (a * 3 + 1) = x
  link : Linked N L
  lt : ∀ x ∈ L, x < n
def nv (L : List Nat) : List Value := L.map fun x : Nat => .int .i64 (x : Int)
theorem nv_append (A B : List Nat) : nv (A ++ B) = nv A ++ nv B := by simp [nv]
theorem nv_length (L : List Nat) : (nv L).length = L.length := by simp [nv]
theorem nv_get {L : List Nat} {i x : Nat} (h : L[i]? = some x) : (nv L)[i]? = some (.int .i64 (x : Int)) := by simp [nv, h]
def sliceLen : Value → Nat
  | .slice _ l _ => l
  | _ => 0
theorem cint_info : (Try.prog.info? 3).map (fun i => (i.zero, i.size, i.bytes)) = some (some (.int .i64 0), 1, 8) := by kernel_rfl
section
variable {w : World} {p gn gw gl n cn cw k cl : Nat} {N V E : Nat → Int}
theorem lenV_list {a : Nat} {L : List Nat} (h : ListAt n N E a L) (ha : a < k) : lenV k E a = L.length := by
  unfold lenV
  rw [if_pos (inR_yes ⟨by omega, by omega⟩), Int.toNat_natCast, h.count]
def NodesPost (w : World) (L : List Nat) (e : Ending) (w' : World) : Prop := ∃ v, e = .returned v ∧ w'.ownsRow w.heap.size 3 1 v L.length (nv L) ∧ Below w.heap.size w w'
theorem nodes_none (v : Value) (l : Int) (w : World) (D : Hid (Calls Try.prog 11 #[v, .int .i64 l] w fun e w' => e = firstTold 0 false ∧ w' = w)) :
    Calls Try.prog 50 #[v, .int .i64 l] w (NodesPost w []) := by
  unfold firstTold at D
  go_enter Try.func50, Try.ntmps50
  go_wp2_with fail
  refine (D.out).mono ?_
  rintro e w1 ⟨rfl, rfl⟩
  go_wp2
  go_ret
  exact ⟨.slice none 0 0, rfl, World.ownsRow_nil _ _ _ _, Below.refl _ _⟩
set_option maxHeartbeats 1600000 in
set_option maxRecDepth 100000 in
theorem nodes_any (h : ChainAt w p gn gw gl n cn cw k cl N V E) (a : Nat) (ha : a < k) (L : List Nat) (hL : ListAt n N E a L) (hl5 : L.length ≤ 5000) :
    Calls Try.prog 50 #[.pointer (some ⟨p, 0, none⟩), .int .i64 (a : Int)] w (NodesPost w L) := by
  cases L with
  | nil => exact nodes_none _ _ w (Lib.hid (first_none h a (by rw [lenV_list hL ha]; rfl)))
  | cons x0 L0 =>
    have D0 := first_some h a ha (by rw [hL.count]; simp; omega)
    rw [hL.first (by simp)] at D0
    have D := Lib.hid D0
    have D1 := len_any h a
    rw [lenV_list hL ha] at D1
    have DL := Lib.hid D1
    unfold firstTold at D
    obtain ⟨i0, hi0, hz0, hz1, hz2⟩ := info_parts cint_info
    generalize hLL : x0 :: L0 = L at *
    have hpos : 0 < L.length := by rw [← hLL]; simp
    obtain ⟨w2, hmk, hown, hgrow⟩ := run_makeSlice_owned (P := Try.prog) w w.heap.size 40 3 i0 (.int .i64 0) 1 Try.underlying40 hi0 hz0 hz1 .i64 .i64 L.length (by omega) (by rw [hz2]; omega) (by unfold maxLen; omega) (Nat.le_refl _)
    have t2 : Touch [] w w2 := (Touch.refl [] w).grown hgrow (by simp)
    have H2 := Lib.hid (h.new t2)
    have H0 := Lib.hid h
    have HOW := Lib.hid hown
    have T2 := Lib.hid t2
    have HL := Lib.hid hL
    have hbl := t2.below (by simp) (Nat.le_refl w.heap.size)
    have HB := Lib.hid hbl
    clear h D0 D1 hown hgrow t2 hbl hL
    unfold NodesPost
    go_enter Try.func50, Try.ntmps50
    go_wp2_with fail
    refine (D.out).mono ?_
    rintro e w1 ⟨rfl, hw⟩
    rw [hw]
    clear hw w1
    go_wp2_with fail
    refine (DL.out).mono ?_
    rintro e w1 ⟨rfl, hw⟩
    rw [hw]
    clear hw w1
    go_wp2_with fail
    clear hmk
    go_loopw [5, 7] (fun i v wr => ∃ A B : List Nat, L = A ++ B ∧ Linked N B ∧ i = .int .i64 (headI B) ∧ wr.ownsRow w.heap.size 3 1 v A.length (nv A) ∧ Touch [] w wr) (fun _ v _ => L.length - sliceLen v)
    case atStart => exact ⟨[], L, rfl, HL.out.link, rfl, HOW.out, T2.out⟩
    case round =>
      obtain ⟨A, B, hAB, hlk, rfl, hown, ht⟩ := hrel
      obtain ⟨Av, cv, rfl⟩ := own_form hown
      cases B with
      | nil =>
        rw [List.append_nil] at hAB
        subst hAB
        have HO := Lib.hid hown
        have HT := Lib.hid ht
        have hm1 : headI [] = -1 := rfl
        rw [hm1]
        clear hown ht hlk hm1
        go_wp2_with fail
        go_ret
        exact ⟨_, rfl, HO.out, HT.out.below (by simp) (Nat.le_refl _)⟩
      | cons x B =>
        have hx := HL.out.lt x (by rw [hAB]; simp)
        have hAl : A.length < L.length := by rw [hAB]; simp
        have hnx := hlk.1
        have hH := H0.out.new ht
        have c0 := hH.c0
        have n0 := hH.cN hx
        rw [hnx] at n0
        have hkn := own_cap hH.next
        obtain ⟨lp, ln, lw, ll⟩ := hH.lts
        have HO := Lib.hid hown
        have HT := Lib.hid ht
        have HK := Lib.hid hlk.2
        have hcv : A.length ≤ cv ∧ cv ≤ maxLen := by
          rcases hown.2 with ⟨h', _⟩ | ⟨g', cap', cur, h', h1, hh, h2, h3, h4, h5⟩
          · simp at h'
            omega
          · simp only [Value.slice.injEq, true_and] at h'
            omega
        have hsz := ht.size
        have hh1 : headI (x :: B) = (x : Int) := rfl
        have hb1 : ((x : Int) == -1) = false := by simp
        have hb2 : ((x : Int) != -1) = true := by simp
        have hx1 : (x : Int) < (n : Int) := by omega
        rw [hh1]
        unfold maxLen at hkn hcv
        have HAB := Lib.hid hAB
        obtain ⟨y, hy⟩ : ∃ y, headI B = y := ⟨_, rfl⟩
        rw [hy] at n0
        have HY := Lib.hid hy
        have NX := Lib.hid (show N x = y by rw [hnx, hy])
        clear hown ht hlk hnx hH hh1 hAB hy
        go_upto_region 6 with (at_builtin; refine wpList_append_own_at _ rfl (.tmp 29) (.tmp 31) 40 rfl w.heap.size 3 i0 (.int .i64 0) 1 8 Try.underlying40 hi0 hz0 hz1 hz2 rfl (by decide) (.slice Av A.length cv) A.length (nv A) rfl (HO.out.alloc _) ⟨wr.heap.size, 0, none⟩ 1 1 [.int .i64 (x : Int)] rfl rfl (World.news_of_block (cs := #[.int .i64 (x : Int)]) (t := 3) (fr := (0, 0)) (heap_alloc_new wr _)) (by simp [Value.oneCell']) (by unfold maxLen; omega) (by omega) (by simp; omega) ?_; intro v2 w9 hown2 hgrow2 hnil2 hat2)
        have tr : Touch (Value.slice Av A.length cv).ownBlock.toList wr w9 := ((Touch.refl (Value.slice Av A.length cv).ownBlock.toList wr).alloc _).grown hgrow2 (by intro b hb; rw [hb]; simp)
        have T9 := Lib.hid (HT.out.trans tr (fun b hb => .inr (own_base HO.out (by simpa using hb))))
        have HO2 := Lib.hid (show w9.ownsRow w.heap.size 3 1 v2 (A ++ [x]).length (nv (A ++ [x])) by rw [nv_append, List.length_append]; exact hown2)
        clear tr hown2 hgrow2 hnil2 hat2 c0 n0 lp ln lw ll
        have hH := H0.out.new T9.out
        have c0 := hH.c0
        have n0 := hH.cN hx
        rw [NX.out] at n0
        obtain ⟨lp, ln, lw, ll⟩ := hH.lts
        clear hH
        obtain ⟨Aw, cv2, rfl⟩ := own_form HO2.out
        go_wp2_with fail
        go_roundw
        case rel => exact ⟨A ++ [x], B, by rw [HAB.out]; simp, HK.out, by rw [HY.out], HO2.out, T9.out⟩
        case measure => simp [sliceLen]; omega
end
end Go.Proofs.Ytalkpoeliekbfaa

/-
  Structs of two cells in a block of their own.
-/
namespace Go.Proofs.Ytalkpoeliekbfaa
open Go.ChangeShapes Go.WideShapes Go.ChangeAt Go.RowKit Go.Deep
set_option linter.unusedVariables false


/-- A struct of one cell in a block of its own. -/
def Box1 (w : World) (b : Nat) (t : TypeId) (x : Value) : Prop := w.heap[b]? = some (.cells #[x] t (0, 0))
section
variable {w w' : World} {b : Nat} {t : TypeId} {x : Value}
theorem Box1.lt (h : Box1 w b t x) : b < w.heap.size := (Array.getElem?_eq_some_iff.1 h).1
theorem Box1.c0 (h : Box1 w b t x) : w.cell? ⟨b, 0, none⟩ = some x := cell_of_row w b 0 _ t (0, 0) h
theorem Box1.fr (h : Box1 w b t x) (i : Nat) : w.frozen? ⟨b, i, none⟩ = false := frozen_of_row w b i _ t h
theorem Box1.carry {S : List Nat} (h : Box1 w b t x) (k : Touch S w w') (hb : b ∉ S) : Box1 w' b t x := (k.block b h.lt hb).trans h
theorem Box1.set0 (h : Box1 w b t x) (v : Value) : Box1 (w.setCell ⟨b, 0, none⟩ v) b t v := heap_setCell_same w b 0 _ t v h
theorem Box1.new (w : World) (t : TypeId) (x : Value) : Box1 (w.alloc (.cells #[x] t)) w.heap.size t x := heap_alloc_new w _
end

/-- A struct of two cells in a block of its own. -/
def Box2 (w : World) (b : Nat) (t : TypeId) (x y : Value) : Prop := w.heap[b]? = some (.cells #[x, y] t (0, 0))
section
variable {w w' : World} {b : Nat} {t : TypeId} {x y : Value}
theorem Box2.lt (h : Box2 w b t x y) : b < w.heap.size := (Array.getElem?_eq_some_iff.1 h).1
theorem Box2.c0 (h : Box2 w b t x y) : w.cell? ⟨b, 0, none⟩ = some x := cell_of_row w b 0 _ t (0, 0) h
theorem Box2.c1 (h : Box2 w b t x y) : w.cell? ⟨b, 1, none⟩ = some y := cell_of_row w b 1 _ t (0, 0) h
theorem Box2.fr (h : Box2 w b t x y) (i : Nat) : w.frozen? ⟨b, i, none⟩ = false := frozen_of_row w b i _ t h
theorem Box2.carry {S : List Nat} (h : Box2 w b t x y) (k : Touch S w w') (hb : b ∉ S) : Box2 w' b t x y := (k.block b h.lt hb).trans h
theorem Box2.set0 (h : Box2 w b t x y) (v : Value) : Box2 (w.setCell ⟨b, 0, none⟩ v) b t v y := heap_setCell_same w b 0 _ t v h
theorem Box2.set1 (h : Box2 w b t x y) (v : Value) : Box2 (w.setCell ⟨b, 1, none⟩ v) b t x v := heap_setCell_same w b 1 _ t v h
theorem Box2.new (w : World) (t : TypeId) (x y : Value) : Box2 (w.alloc (.cells #[x, y] t)) w.heap.size t x y := heap_alloc_new w _
end

/-- A struct of three cells in a block of its own. -/
def Box3C (w : World) (b : Nat) (t : TypeId) (x y z : Value) : Prop := w.heap[b]? = some (.cells #[x, y, z] t (0, 0))
section
variable {w w' : World} {b : Nat} {t : TypeId} {x y z : Value}
theorem Box3C.lt (h : Box3C w b t x y z) : b < w.heap.size := (Array.getElem?_eq_some_iff.1 h).1
theorem Box3C.c0 (h : Box3C w b t x y z) : w.cell? ⟨b, 0, none⟩ = some x := cell_of_row w b 0 _ t (0, 0) h
theorem Box3C.c1 (h : Box3C w b t x y z) : w.cell? ⟨b, 1, none⟩ = some y := cell_of_row w b 1 _ t (0, 0) h
theorem Box3C.c2 (h : Box3C w b t x y z) : w.cell? ⟨b, 2, none⟩ = some z := cell_of_row w b 2 _ t (0, 0) h
theorem Box3C.carry {S : List Nat} (h : Box3C w b t x y z) (k : Touch S w w') (hb : b ∉ S) : Box3C w' b t x y z := (k.block b h.lt hb).trans h
end
end Go.Proofs.Ytalkpoeliekbfaa

/-
  Layer 7 (chain): All's function called with the law's function that gathers.
-/
namespace Go.Proofs.Ytalkpoeliekbfaa
open Go.ChangeShapes Go.WideShapes Go.ChangeAt Go.RowKit Go.Deep
set_option linter.unusedVariables false
set_option linter.unusedSimpArgs false

/-- What has been gathered at block b, in a row of the call's own. -/
structure Out (w : World) (b base : Nat) (L : List Nat) (v : Value) : Prop where
  box : Box1 w b 40 v
  row : w.ownsRow base 3 1 v L.length (nv L)
  low : b < base
section
variable {w w' : World} {b base : Nat} {L : List Nat} {v : Value}
def Pushed (w : World) (b base : Nat) (L : List Nat) (x : Nat) (v : Value) (e : Ending) (w' : World) : Prop :=
  e = .returned (.bool true) ∧ ∃ v2, Out w' b base (L ++ [x]) v2 ∧ Touch (b :: v.ownBlock.toList) w w' ∧ (v2.ownBlock = v.ownBlock ∨ ∃ g, v2.ownBlock = some g ∧ w.heap.size ≤ g)
set_option maxHeartbeats 1600000 in
set_option maxRecDepth 100000 in
theorem allPush (h : Out w b base L v) (x : Nat) (hl : L.length ≤ 5000) (hb : base ≤ w.heap.size) :
    Calls Try.prog 48 #[.int .i64 (x : Int), .pointer (some ⟨b, 0, none⟩)] w (Pushed w b base L x v) := by
  obtain ⟨i0, hi0, hz0, hz1, hz2⟩ := info_parts cint_info
  obtain ⟨A, c, rfl⟩ := own_form h.row
  have hc : L.length ≤ c ∧ c ≤ maxLen := by
    rcases h.row.2 with ⟨h', _⟩ | ⟨g', cap', cur, h', h1, hh, h2, h3, h4, h5⟩
    · simp at h'
      omega
    · simp only [Value.slice.injEq, true_and] at h'
      omega
  unfold maxLen at hc
  have c0 := h.box.c0
  have lb := h.box.lt
  have HO := Lib.hid h.row
  have HB := Lib.hid h.box
  have HL := Lib.hid h.low
  have hlt : ((L.length : Int) + 1 < 9999) := by omega
  clear h
  unfold Pushed
  go_enter Try.func48, Try.ntmps48
  go_upto_region 2 with (at_builtin; refine wpList_append_own_at _ rfl (.tmp 4) (.tmp 6) 40 rfl base 3 i0 (.int .i64 0) 1 8 Try.underlying40 hi0 hz0 hz1 hz2 rfl (by decide) (.slice A L.length c) L.length (nv L) rfl (HO.out.alloc _) ⟨w.heap.size, 0, none⟩ 1 1 [.int .i64 (x : Int)] rfl rfl (World.news_of_block (cs := #[.int .i64 (x : Int)]) (t := 3) (fr := (0, 0)) (heap_alloc_new w _)) (by simp [Value.oneCell']) (by unfold maxLen; omega) (by omega) (by simp; omega) ?_; intro v2 w9 hown2 hgrow2 hnil2 hat2; obtain ⟨A2, c2, rfl⟩ := own_form hown2; have tr : Touch (Value.slice A L.length c).ownBlock.toList w w9 := ((Touch.refl (Value.slice A L.length c).ownBlock.toList w).alloc _).grown hgrow2 (by intro b hb; rw [hb]; simp); have hb9 := HB.out.carry tr (fun hm => by have h1 := own_base HO.out (by simpa using hm); have h2 := HL.out; omega); have d0 := hb9.c0; have f0 := hb9.fr 0; have l9 := hb9.lt; have HB9 := Lib.hid hb9; have TR := Lib.hid tr; have HO2 := Lib.hid hown2; have HAT := Lib.hid hat2; clear hb9 tr hown2 hgrow2 hnil2 hat2)
  have hb10 := HB9.out.set0 (.slice A2 (L.length + 1) c2)
  have t10 : Touch [b] w9 (w9.setCell ⟨b, 0, none⟩ (.slice A2 (L.length + 1) c2)) := (Touch.refl [b] w9).setCell (a := ⟨b, 0, none⟩) (.inl (by simp)) _
  obtain ⟨w10, hw10⟩ : ∃ w10, w10 = w9.setCell ⟨b, 0, none⟩ (.slice A2 (L.length + 1) c2) := ⟨_, rfl⟩
  rw [← hw10] at hb10 t10 ⊢
  clear hw10 d0 f0 l9
  have d0 := hb10.c0
  have l9 := hb10.lt
  have HOUT := Lib.hid (show Out w10 b base (L ++ [x]) (.slice A2 (L.length + 1) c2) from ⟨hb10, by
    rw [nv_append, List.length_append]
    exact t10.row HO2.out (fun g hg hm => by
      have h1 := own_base HO2.out hg
      have h2 := HL.out
      simp at hm
      omega), HL.out⟩)
  have HT := Lib.hid (show Touch (b :: (Value.slice A L.length c).ownBlock.toList) w w10 from (TR.out.mono (S' := b :: (Value.slice A L.length c).ownBlock.toList) (fun y hy => .inl (List.mem_cons_of_mem _ hy))).trans t10 (fun y hy => .inl (by simp at hy; simp [hy])))
  clear hb10 t10 HB9 TR HO2
  go_wp2_with fail
  go_ret
  exact ⟨rfl, _, HOUT.out, HT.out, HAT.out.imp_right fun h => ⟨_, h, by simp⟩⟩
/-- All's function hands the nodes of the list on, one by one. -/
def Gathered (w : World) (b : Nat) (L : List Nat) (e : Ending) (w' : World) : Prop := e = .returned (.tuple #[]) ∧ ∃ v, Out w' b w.heap.size L v ∧ Touch [b] w w'
set_option maxHeartbeats 3200000 in
set_option maxRecDepth 100000 in
theorem allNodes {p l : Value} {B2 B3 : Nat} (hl5 : L.length ≤ 5000) (hb : Box1 w b 40 (.slice none 0 0)) (h2 : w.cell? ⟨B2, 0, none⟩ = some p) (h3 : w.cell? ⟨B3, 0, none⟩ = some l)
    (hp : (∃ q, p = .pointer q) ∧ ∃ z, l = .int .i64 z) (D : Hid (Calls Try.prog 50 #[p, l] w (NodesPost w L))) :
    Calls Try.prog 49 #[.func (.func 48) #[] #[.pointer (some ⟨b, 0, none⟩)], .pointer (some ⟨B2, 0, none⟩), .pointer (some ⟨B3, 0, none⟩)] w (Gathered w b L) := by
  obtain ⟨⟨q, rfl⟩, z, rfl⟩ := hp
  unfold NodesPost at D
  have HB := Lib.hid hb
  have lb := hb.lt
  clear hb
  unfold Gathered
  go_enter Try.func49, Try.ntmps49
  go_wp2_with fail
  refine (D.out).mono ?_
  rintro e w2 ⟨v2, rfl, hrow, hbel⟩
  obtain ⟨An, cn, rfl⟩ := own_form hrow
  have t2 := Touch.ofBelow (S := []) hbel
  have HR := Lib.hid hrow
  have T2 := Lib.hid t2
  have HB2 := Lib.hid (HB.out.carry t2 (by simp))
  have hsz := t2.size
  have hcap : L.length ≤ cn ∧ cn ≤ maxLen := by
    rcases hrow.2 with ⟨h', _⟩ | ⟨g', cap', cur, h', h1, hh, h2, h3, h4, h5⟩
    · simp at h'
      omega
    · simp only [Value.slice.injEq, true_and] at h'
      omega
  unfold maxLen at hcap
  clear hrow hbel t2 D h2 h3
  go_wp2_with fail
  go_loopw [10] (fun i wr => ∃ (k : Nat) (v : Value), k ≤ L.length ∧ i = .int .i64 k ∧ Out wr b w.heap.size (L.take k) v ∧ Touch [b] w wr ∧ w.heap.size ≤ wr.heap.size ∧ wr.ownsRow w.heap.size 3 1 (.slice An L.length cn) L.length (nv L) ∧ (∀ g, (Value.slice An L.length cn).ownBlock = some g → v.ownBlock ≠ some g)) (fun i _ => L.length - (intOf i).toNat)
  case atStart => exact ⟨0, .slice none 0 0, Nat.zero_le _, rfl, ⟨HB2.out, World.ownsRow_nil _ _ _ _, lb⟩, T2.out.mono (by simp), hsz, HR.out, fun g hg => by simp [Value.ownBlock]⟩
  case round =>
    obtain ⟨k, v, hk, rfl, hout, ht, hs, hrow, hne⟩ := hrel
    by_cases hlt : k < L.length
    · obtain ⟨gn, cn', hAn, _, _⟩ := hrow.form (by omega)
      simp only [Value.slice.injEq, true_and] at hAn
      obtain ⟨rfl, rfl⟩ := hAn
      obtain ⟨x, hx⟩ : ∃ x, L[k]? = some x := ⟨L[k]'hlt, List.getElem?_eq_getElem _⟩
      have z0 := hrow.cellAt k (by omega)
      rw [nv_get hx] at z0
      have Y := Lib.hid (allPush hout x (by rw [List.length_take]; omega) hs)
      unfold Pushed at Y
      have HX := Lib.hid hx
      have HW := Lib.hid hrow
      have HNE := Lib.hid hne
      have HT := Lib.hid ht
      have HO := Lib.hid hout
      have lgn := own_lt hrow rfl
      clear hout ht hrow hne hx
      go_wp2_with fail
      refine (Y.out).mono ?_
      rintro e w3 ⟨rfl, v3, ho3, t3, hv3⟩
      have hlow : w.heap.size ≤ w3.heap.size := Nat.le_trans hs t3.size
      have T3 := Lib.hid (HT.out.trans t3 (fun y hy => by
        simp only [List.mem_cons, Option.mem_toList] at hy
        rcases hy with rfl | hy
        · exact .inl (by simp)
        · exact .inr (own_base HO.out.row hy)))
      have HO3 := Lib.hid (show Out w3 b w.heap.size (L.take (k + 1)) v3 by
        have e := List.take_add_one (l := L) (i := k)
        rw [HX.out] at e
        rw [e]
        exact ho3)
      have HW3 := Lib.hid (t3.row HW.out (fun g hg hm => by
        simp only [List.mem_cons, Option.mem_toList] at hm
        rcases hm with rfl | hm
        · have h1 := own_base HW.out hg
          omega
        · exact HNE.out g hg hm))
      have HN3 := Lib.hid (show ∀ g, (Value.slice (some ⟨gn, 0, none⟩) L.length cn).ownBlock = some g → v3.ownBlock ≠ some g from fun g hg => by
        rcases hv3 with e | ⟨g3, e, hg3⟩
        · rw [e]
          exact HNE.out g hg
        · rw [e]
          intro h
          simp [Value.ownBlock] at hg h
          omega)
      clear ho3 t3 hv3 Y HO HT HW HNE z0
      go_wp2_with fail
      go_roundw
      case rel => exact ⟨k + 1, v3, by omega, by go_num, HO3.out, T3.out, hlow, HW3.out, HN3.out⟩
      case measure => simp [intOf]; omega
    · obtain rfl : k = L.length := by omega
      rw [List.take_length] at hout
      have HO := Lib.hid hout
      have HT := Lib.hid ht
      clear hout ht hrow hne
      go_wp2
      go_end0
      exact ⟨rfl, v, HO.out, HT.out⟩
end
end Go.Proofs.Ytalkpoeliekbfaa

/-
  Layer 7 (chain): All, and the law's list of a list's nodes.
-/
namespace Go.Proofs.Ytalkpoeliekbfaa
open Go.ChangeShapes Go.WideShapes Go.ChangeAt Go.RowKit Go.Deep
set_option linter.unusedVariables false
set_option linter.unusedSimpArgs false

theorem own_down {w : World} {base base' : Nat} {e : TypeId} {size n : Nat} {v : Value} {xs : List Value} (h : w.ownsRow base e size v n xs) (hb : base' ≤ base) : w.ownsRow base' e size v n xs := by
  rcases h.2 with h' | ⟨g, cap, cur, h1, h2, h3⟩
  · exact ⟨h.1, .inl h'⟩
  · exact ⟨h.1, .inr ⟨g, cap, cur, h1, by omega, h3⟩⟩
theorem all_fn (q : Option Addr) (l : Int) (w : World) : Calls Try.prog 23 #[.pointer q, .int .i64 l] w fun e w' =>
    e = .returned (.func (.func 49) #[] #[.pointer (some ⟨w.heap.size, 0, none⟩), .pointer (some ⟨w.heap.size + 1, 0, none⟩)]) ∧ w' = (w.alloc (.cells #[.pointer q] 23)).alloc (.cells #[.int .i64 l] 3) := by
  go_enter Try.func23, Try.ntmps23
  go_wp2
  go_ret
  exact ⟨by simp, rfl⟩
set_option maxHeartbeats 1600000 in
set_option maxRecDepth 100000 in
theorem all_any {w : World} {L : List Nat} (q : Option Addr) (l : Int) (hl5 : L.length ≤ 5000) (D : Hid (∀ w1, Touch [] w w1 → Calls Try.prog 50 #[.pointer q, .int .i64 l] w1 (NodesPost w1 L))) :
    Calls Try.prog 22 #[.pointer q, .int .i64 l] w fun e w' => ∃ u, e = .returned u ∧ w'.ownsRow w.heap.size 3 1 u L.length (nv L) ∧ Touch [] w w' := by
  have t1 : Touch [] w (w.alloc (.cells #[.slice none 0 0] 40)) := (Touch.refl [] w).alloc _
  have HB := Lib.hid (Box1.new w 40 (.slice none 0 0))
  have T1 := Lib.hid t1
  have hs1 : (w.alloc (.cells #[.slice none 0 0] 40)).heap.size = w.heap.size + 1 := by simp
  have AF := Lib.hid (all_fn q l (w.alloc (.cells #[.slice none 0 0] 40)))
  have hnf : ∀ (a b : Option Addr) (w : World), (binOp .eql 47 (.func (.func 49) #[] #[.pointer a, .pointer b]) .nilFunc).run Try.prog w = .ok (.bool false) w := fun a b w => by kernel_rfl
  clear t1
  go_enter Try.func22, Try.ntmps22
  go_wp2_with fail
  refine (AF.out).mono ?_
  rintro e w2 ⟨rfl, hw2⟩
  rw [hs1]
  have t2 : Touch [] (w.alloc (.cells #[.slice none 0 0] 40)) w2 := by rw [hw2]; exact ((Touch.refl [] _).alloc _).alloc _
  have p2 : w2.cell? ⟨w.heap.size + 1, 0, none⟩ = some (.pointer q) := by
    have := ((Box1.new (w.alloc (.cells #[.slice none 0 0] 40)) 23 (.pointer q)).carry ((Touch.refl [] _).alloc (.cells #[.int .i64 l] 3)) (by simp)).c0
    rw [hs1] at this
    rw [hw2]
    exact this
  have p3 : w2.cell? ⟨w.heap.size + 1 + 1, 0, none⟩ = some (.int .i64 l) := by
    have := (Box1.new ((w.alloc (.cells #[.slice none 0 0] 40)).alloc (.cells #[.pointer q] 23)) 3 (.int .i64 l)).c0
    rw [show ((w.alloc (.cells #[.slice none 0 0] 40)).alloc (.cells #[.pointer q] 23)).heap.size = w.heap.size + 1 + 1 by simp] at this
    rw [hw2]
    exact this
  have hb2 := HB.out.carry t2 (by simp)
  have T2 := Lib.hid (T1.out.trans t2 (by simp))
  have K := Lib.hid (allNodes hl5 hb2 p2 p3 ⟨⟨q, rfl⟩, l, rfl⟩ (Lib.hid (D.out w2 T2.out)))
  unfold Gathered at K
  clear hw2 t2 p2 p3 hb2 HB T1 AF D
  go_wp2_with fail
  refine (K.out).mono ?_
  rintro e w3 ⟨rfl, v, ho, t3⟩
  obtain ⟨A, c, rfl⟩ := own_form ho.row
  have c0 := ho.box.c0
  have lb := ho.box.lt
  have HO := Lib.hid ho
  have T3 := Lib.hid (T2.out.trans t3 (fun b hb => by simp at hb; subst hb; exact .inr (Nat.le_refl _)))
  have hs := T2.out.size
  clear ho t3 K
  go_wp2_with fail
  go_ret
  exact ⟨_, rfl, own_down HO.out.row hs, T3.out⟩
end Go.Proofs.Ytalkpoeliekbfaa

/-
  Regions that draw their order, whose operations hold together by what is in the slots and in memory (fresh blocks of several calls, apart).
-/
namespace Go.Proofs.Ytalkpoeliekbfaa
open Go.ChangeShapes Go.WideShapes Go.ChangeAt Go.RowKit Go.Deep
set_option linter.unusedVariables false

section
variable {P : Program} {ops : Array Oper} {Q : Exit → Act → World → Prop}
theorem wpAny_phi9 {a0 : Act} {wd : World} {S : List Nat} {J : (Nat → Bool) → Act → World → Prop} {Φ : Nat → Value → World → Prop} (hst : ∀ j, StabS S (Φ j)) (hdst : ∀ (i j : Nat) (o o' : Oper) (d : Tmp), ops[i]? = some o → ops[j]? = some o' → o.dst = some d → o'.dst = some d → i = j)
    (hin : ∀ (i : Nat) (o : Oper) (d : Tmp), ops[i]? = some o → o.dst = some d → d < a0.tmps.size) (hacy : ∀ (i : Nat) (o : Oper) (e : Edge), ops[i]? = some o → e ∈ o.after → Region.binds .any e = true → e.on < i)
    (hop : ∀ (i : Nat) (o : Oper), ops[i]? = some o → ∀ f a w, f i = false → Touch S wd w → J f a w → Known ops a0 a → (∀ e ∈ o.after, Region.binds .any e = true → f e.on = true) → (∀ e ∈ o.after, Region.binds .any e = true → Has ops Φ a w e.on) → DoesJ P ops S (fun v w' => Φ i v w' ∧ J (mark f i) (a.put o.dst v) w') (fun _ => True) o a w)
    (hend : ∀ a w f, Touch S wd w → J f a w → (∀ j, j < ops.size → f j = true) → Known ops a0 a → (∀ j, j < ops.size → Has ops Φ a w j) → Q .normal a w) :
    ∀ (fuel : Nat) (listed : Array Bool) (a : Act) (w : World), listed.size = ops.size → listed.toList.count false ≤ fuel → Touch S wd w → J (listedF listed) a w → Known ops a0 a → (∀ j, listed.getD j false = true → Has ops Φ a w j) → wpAny P .any ops Q fuel listed a w := by
  intro fuel
  induction fuel with
  | zero =>
    intro listed a w hs hc ht hj hk hh
    have hall : ∀ i, i < ops.size → listed.getD i false = true := by
      intro i hi
      have hil : i < listed.size := by omega
      have h0 : listed.toList.count false = 0 := by omega
      rw [List.count_eq_zero] at h0
      simp only [Array.getD_eq_getD_getElem?, Array.getElem?_eq_getElem hil, Option.getD_some]
      cases hx : listed[i]
      · exact absurd (by rw [← hx]; simp) h0
      · rfl
    exact ⟨none_ready hall, hend a w _ ht hj (fun j hj' => hall j hj') hk fun j hj' => hh j (hall j hj')⟩
  | succ fuel ih =>
    intro listed a w hs hc ht hj hk hh
    refine ⟨fun h0 => hend a w _ ht hj (fun j hj' => all_listed hacy hs h0 j hj') hk fun j hj' => hh j (all_listed hacy hs h0 j hj'), fun i hi => ?_⟩
    obtain ⟨hun, o, ho, hall⟩ := mem_ready.1 hi
    have hlt : i < ops.size := (Array.getElem?_eq_some_iff.1 ho).1
    have hil : i < listed.size := by omega
    have hif : listed[i] = false := by simpa [Array.getD_eq_getD_getElem?, Array.getElem?_eq_getElem hil] using hun
    have hnl : listedF listed i = false := by simp only [listedF, Array.getD_eq_getD_getElem?, Array.getElem?_eq_getElem hil, Option.getD_some]; exact hif
    have hmk : mark (listedF listed) i = listedF (listed.setIfInBounds i true) := by
      funext j
      unfold mark listedF
      by_cases e : j = i
      · subst e
        simp [Array.getD_eq_getD_getElem?, hil]
      · rw [if_neg e]
        simp only [Array.getD_eq_getD_getElem?]
        rw [Array.getElem?_setIfInBounds_ne (fun h => e h.symm)]
    refine DoesJ.wpOp ho (hop i o ho (listedF listed) a w hnl ht hj hk (fun e he hb => hall e he hb) fun e he hb => hh e.on (hall e he hb)) fun v w' hφψ _ t => ?_
    obtain ⟨hφ, hψ⟩ := hφψ
    rw [hmk] at hψ
    refine ih _ _ _ (by simpa using hs) ?_ (ht.trans t (fun b hb => .inl hb)) hψ ?_ ?_
    · rw [Array.toList_setIfInBounds, List.count_set (by simpa using hil)]
      have : listed.toList[i]'(by simpa using hil) = false := by simpa using hif
      rw [this]
      have hpos : 0 < listed.toList.count false := List.count_pos_iff.2 (by rw [← this]; simp)
      have e1 : (if (false == false) = true then 1 else 0 : Nat) = 1 := rfl
      have e2 : (if (true == false) = true then 1 else 0 : Nat) = 0 := rfl
      rw [e1, e2]
      omega
    · obtain ⟨k1, k2, k3⟩ := hk
      cases hd : o.dst with
      | none => exact ⟨k1, k2, k3⟩
      | some d =>
        refine ⟨k1, by simp [Act.put, k2], fun q hq => ?_⟩
        have hne : d ≠ q := fun e => hq i o ho (by rw [hd, e])
        simp only [Act.put]
        rw [Array.getElem?_setIfInBounds_ne hne]
        exact k3 q hq
    · intro j hjj o' d' ho' hd'
      by_cases e : j = i
      · subst e
        obtain rfl : o = o' := by rw [ho] at ho'; simpa using ho'
        refine ⟨v, ?_, hφ⟩
        rw [hd']
        have := hin j o d' ho hd'
        simp [Act.put, hk.2.1, this]
      · have hjl : listed.getD j false = true := by
          simp only [Array.getD_eq_getD_getElem?] at hjj ⊢
          rwa [Array.getElem?_setIfInBounds_ne (fun h => e h.symm)] at hjj
        obtain ⟨u, hu, hΦ⟩ := hh j hjl o' d' ho' hd'
        refine ⟨u, ?_, hst j u w w' hΦ t⟩
        cases hd : o.dst with
        | none => exact hu
        | some d =>
          have hne : d ≠ d' := fun e2 => e (hdst j i o' o d' ho' ho hd' (by rw [hd, e2]))
          simp only [Act.put]
          rw [Array.getElem?_setIfInBounds_ne hne]
          exact hu

/-- A region whose operations hold together: J tells of the slots and of memory by what is through. -/
theorem wp_region_joint {id : Nat} {a0 : Act} {w wd : World} {l : List Oper} (S : List Nat) (J : (Nat → Bool) → Act → World → Prop) (L : List Leaf) (hm : P.follows .mixedOrders = true) (hB : phiB l.toArray a0.tmps.size = true) (hL : slotsB L l = true) (hw : Touch S wd w.drew) (hst : StabLS S L)
    (hJ : ∀ f, (∀ j, f j = false) → J f a0 w.drew)
    (hop : ∀ (i : Nat) (o : Oper), l[i]? = some o → ∀ f a w, f i = false → Touch S wd w → J f a w → Known l.toArray a0 a → (∀ e ∈ o.after, Region.binds .any e = true → f e.on = true) → (∀ e ∈ o.after, Region.binds .any e = true → Has l.toArray (okL L) a w e.on) → DoesJ P l.toArray S (fun v w' => okL L i v w' ∧ J (mark f i) (a.put o.dst v) w') (fun _ => True) o a w)
    (hend : ∀ (x : Nat → Value) (w : World) (f : Nat → Bool), Touch S wd w → J f (putL x L l 0 a0) w → (∀ j, j < l.length → f j = true) → KnowL x w L 0 → Q .normal (putL x L l 0 a0) w) : (Code.region id l.toArray true).wp P Q a0 w := by
  obtain ⟨h1, h2, h3⟩ := phiB_spec hB
  refine wp_region_any hm (wpAny_phi9 (J := J) (okL_stabS hst) h1 h2 h3 (fun i o ho => hop i o (by simpa using ho)) (fun a w f ht hj hf hk hh => ?_) l.toArray.size (Array.replicate l.toArray.size false) a0 _ (by simp) (by simp) hw (hJ _ fun j => ?_) ⟨rfl, rfl, fun _ _ => rfl⟩ (fun j hj => ?_))
  · have hx : ∀ (j : Nat) (o : Oper) (d : Tmp), l.toArray[j]? = some o → o.dst = some d → (fun j => a.tmps.getD (((l[j]?).bind (·.dst)).getD 0) undef) j = a.tmps.getD d undef := fun j o d ho hd => by
      have ho' : l[j]? = some o := by simpa using ho
      simp [ho', hd]
    have e := putL_all (a := a) (w := w) (L0 := L) (fun j => a.tmps.getD (((l[j]?).bind (·.dst)).getD 0) undef) hx hh L l 0 a0 (fun j => by rw [Nat.zero_add]) (fun j => by rw [Nat.zero_add]; simp) (slotsB_length hL) hk.1.symm hk.2.1.symm
      (fun t hn => (hk.2.2 t fun j o ho => hn j o (Nat.zero_le _) ho).symm)
    have k := knowL_of (a := a) (w := w) (L0 := L) _ hx hh L l 0 (fun j => by rw [Nat.zero_add]) (fun j => by rw [Nat.zero_add]; simp) hL
    have := hend _ w f ht (by rw [e]; exact hj) (fun j hj => hf j (by simpa using hj)) k
    rwa [e] at this
  · simp only [listedF, Array.getD_eq_getD_getElem?]
    rcases Nat.lt_or_ge j l.toArray.size with hlt | hge
    · simp [show j < l.length by simpa using hlt]
    · rw [Array.getElem?_eq_none (by simpa using hge)]
      rfl
  · simp only [Array.getD_eq_getD_getElem?] at hj
    rcases Nat.lt_or_ge j l.toArray.size with hlt | hge
    · simp [show j < l.length by simpa using hlt] at hj
    · simp only [List.size_toArray] at hj hge
      rw [Array.getElem?_eq_none (by simpa using hge)] at hj
      simp at hj
end
section
variable {P : Program} {ops : Array Oper} {a : Act} {w : World} {φ : Value → World → Prop} {o : Oper} {S : List Nat}
/-- An operation that leaves a value and memory as it is. -/
theorem doJ_value (hw : Region.wanted o (yielded ops a.tmps) = true) {v : Value} (hrun : (execOp a.eval o).run P w = .ok (.value v) w) (h : φ v w) : DoesJ P ops S φ (fun _ => True) o a w := .inl ⟨hw, by rw [hrun]; exact ⟨h, trivial, Touch.refl _ _⟩⟩
/-- An operation that leaves a value and makes new memory. -/
theorem doJ_made (hw : Region.wanted o (yielded ops a.tmps) = true) {v : Value} {w' : World} (hrun : (execOp a.eval o).run P w = .ok (.value v) w') (t : Touch S w w') (h : φ v w') : DoesJ P ops S φ (fun _ => True) o a w := .inl ⟨hw, by rw [hrun]; exact ⟨h, trivial, t⟩⟩
theorem doJ_enter (hw : Region.wanted o (yielded ops a.tmps) = true) {f : FuncId} {args : Array Value} (hrun : (execOp a.eval o).run P w = .ok (.enter f args) w)
    (h : Calls P f args w fun e w'' => ∃ v, e = .returned v ∧ φ v w'' ∧ Touch S w w'') : DoesJ P ops S φ (fun _ => True) o a w := .inl ⟨hw, by rw [hrun]; exact ⟨Touch.refl _ _, h.mono fun e w'' ⟨v, he, hφ, t⟩ => ⟨v, he, hφ, trivial, t⟩⟩⟩
end
section
variable {P : Program} {ops : Array Oper} {a : Act} {w : World} {φ : Value → World → Prop} {J' : Value → World → Prop} {o : Oper} {S : List Nat}
theorem DoesG.toJoint (h : DoesG P ops φ o a w) (hJ : ∀ v w', φ v w' → Touch [] w w' → J' v w') : DoesJ P ops S (fun v w' => φ v w' ∧ J' v w') (fun _ => True) o a w := by
  rcases h with ⟨h1, h2⟩ | ⟨h1, h2⟩
  · refine .inl ⟨h1, ?_⟩
    generalize (execOp a.eval o).run P w = r at *
    cases r with
    | ok n w' =>
      cases n with
      | value v => exact ⟨⟨h2.1, hJ _ _ h2.1 h2.2⟩, trivial, h2.2.mono (by simp)⟩
      | skip => exact h2.elim
      | enter f args =>
        obtain ⟨t, hc⟩ := h2
        exact ⟨t, hc.mono fun e w'' ⟨v, he, hφ, t'⟩ => ⟨v, he, ⟨hφ, hJ _ _ hφ (t.trans t' (by simp))⟩, trivial, t'.mono (by simp)⟩⟩
      | _ => exact h2.elim
    | halt x w' => exact h2.elim
  · exact .inr ⟨h1, ⟨h2, hJ _ _ h2 (Touch.refl _ _)⟩, trivial⟩
end
/-- The blocks that some operations have made lie apart: T tells their numbers and slots. -/
def Apart (T : List (Nat × Nat)) (f : Nat → Bool) (a : Act) (w : World) : Prop :=
  (∀ x ∈ T, f x.1 = true → ∀ g, (a.tmps.getD x.2 undef).ownBlock = some g → g < w.heap.size) ∧
  ∀ x ∈ T, ∀ y ∈ T, x.2 ≠ y.2 → f x.1 = true → f y.1 = true → ∀ g, (a.tmps.getD x.2 undef).ownBlock = some g → (a.tmps.getD y.2 undef).ownBlock ≠ some g
section
variable {T : List (Nat × Nat)} {f : Nat → Bool} {a : Act} {w w' : World} {S : List Nat}
theorem apart_start (hf : ∀ j, f j = false) : Apart T f a w := by
  constructor
  · intro x _ h
    rw [hf] at h
    cases h
  · intro x _ y _ _ h
    rw [hf] at h
    cases h
theorem getD_put_other {a : Act} {d e : Nat} (h : d ≠ e) (v : Value) : (a.put (some d) v).tmps.getD e undef = a.tmps.getD e undef := by
  simp only [Act.put, Array.getD_eq_getD_getElem?]
  rw [Array.getElem?_setIfInBounds_ne h]
theorem getD_put_same {a : Act} {d : Nat} (h : d < a.tmps.size) (v : Value) : (a.put (some d) v).tmps.getD d undef = v := by
  simp only [Act.put, Array.getD_eq_getD_getElem?]
  simp [h]
theorem Apart.keep (h : Apart T f a w) (t : Touch S w w') {i d : Nat} (hi : ∀ x ∈ T, x.1 ≠ i) (hd : ∀ x ∈ T, d ≠ x.2) (v : Value) : Apart T (mark f i) (a.put (some d) v) w' := by
  refine ⟨fun x hx hf g hg => ?_, fun x hx y hy hne hf1 hf2 g hg => ?_⟩
  · rw [mark_other f (hi x hx)] at hf
    rw [getD_put_other (hd x hx)] at hg
    exact Nat.lt_of_lt_of_le (h.1 x hx hf g hg) t.size
  · rw [mark_other f (hi x hx)] at hf1
    rw [mark_other f (hi y hy)] at hf2
    rw [getD_put_other (hd x hx)] at hg
    rw [getD_put_other (hd y hy)]
    exact h.2 x hx y hy hne hf1 hf2 g hg
theorem Apart.made (h : Apart T f a w) (t : Touch S w w') {i d : Nat} (hT : ∀ x ∈ T, x.2 = d ↔ x.1 = i) (hd : d < a.tmps.size) {v : Value} (hv : ∀ g, v.ownBlock = some g → w.heap.size ≤ g ∧ g < w'.heap.size) : Apart T (mark f i) (a.put (some d) v) w' := by
  refine ⟨fun x hx hf g hg => ?_, fun x hx y hy hne hf1 hf2 g hg hg2 => ?_⟩
  · by_cases e : x.2 = d
    · rw [e, getD_put_same hd] at hg
      exact (hv g hg).2
    · rw [mark_other f (fun e2 => e ((hT x hx).2 e2))] at hf
      rw [getD_put_other (Ne.symm e)] at hg
      exact Nat.lt_of_lt_of_le (h.1 x hx hf g hg) t.size
  · by_cases e : x.2 = d
    · have e3 : y.2 ≠ d := fun e4 => hne (e.trans e4.symm)
      rw [e, getD_put_same hd] at hg
      rw [getD_put_other (Ne.symm e3)] at hg2
      rw [mark_other f (fun e2 => e3 ((hT y hy).2 e2))] at hf2
      have h1 := h.1 y hy hf2 g hg2
      have h2 := (hv g hg).1
      omega
    · rw [getD_put_other (Ne.symm e)] at hg
      rw [mark_other f (fun e2 => e ((hT x hx).2 e2))] at hf1
      by_cases e3 : y.2 = d
      · rw [e3, getD_put_same hd] at hg2
        have h1 := h.1 x hx hf1 g hg
        have h2 := (hv g hg2).1
        omega
      · rw [getD_put_other (Ne.symm e3)] at hg2
        rw [mark_other f (fun e2 => e3 ((hT y hy).2 e2))] at hf2
        exact h.2 x hx y hy hne hf1 hf2 g hg hg2
end
end Go.Proofs.Ytalkpoeliekbfaa

/-
  Contracts of the reference of layer 6 (slab): New.
-/
namespace Go.Proofs.Ytalkpoeliekbfaa
open Go.ChangeShapes Go.WideShapes Go.ChangeAt Go.RowKit Go.Deep
set_option linter.unusedVariables false

/-- The three rows while they are built. -/
structure NewAt (w wr : World) (vf vt vb : Value) (kf kt kb : Nat) : Prop where
  box : Box3 wr (w.heap.size + 1) 55 vf vt vb
  res : Box3 wr w.heap.size 55 (.slice none 0 0) (.slice none 0 0) (.slice none 0 0)
  rf : wr.ownsRow (w.heap.size + 2) 3 1 vf kf (iv (fun i => i) kf)
  rt : wr.ownsRow (w.heap.size + 2) 3 1 vt kt (iv (fun _ => 0) kt)
  rb : wr.ownsRow (w.heap.size + 2) 4 1 vb kb (bv (fun _ => false) kb)
  ft : ∀ b, vf.ownBlock = some b → vt.ownBlock ≠ some b
  fb : ∀ b, vf.ownBlock = some b → vb.ownBlock ≠ some b
  tb : ∀ b, vt.ownBlock = some b → vb.ownBlock ≠ some b
  touch : Touch [] w wr

theorem push_touch {wr w1 : World} {o : Obj} {row : Option Nat} (hg : (wr.alloc o).grownBy w1 row) : Touch row.toList wr w1 := ((Touch.refl row.toList wr).alloc o).grown hg (by intro k hk; rw [hk]; simp)
theorem not_row {row : Option Nat} {b : Nat} (h : row ≠ some b) : b ∉ row.toList := fun hm => h (by simpa using hm)

section
variable {w wr w1 : World} {vf vt vb v : Value} {kf kt kb : Nat} {o : Obj}

/-- The box's cells behind the append, ahead of the store. -/
theorem NewAt.boxf (h : NewAt w wr vf vt vb kf kt kb) (hg : (wr.alloc o).grownBy w1 vf.ownBlock) :
    Box3 w1 (w.heap.size + 1) 55 vf vt vb ∧ Box3 w1 w.heap.size 55 (.slice none 0 0) (.slice none 0 0) (.slice none 0 0) :=
  ⟨h.box.carry (push_touch hg) (not_row fun e => by have := own_base h.rf e; omega), h.res.carry (push_touch hg) (not_row fun e => by have := own_base h.rf e; omega)⟩
theorem NewAt.pushf (h : NewAt w wr vf vt vb kf kt kb) (hg : (wr.alloc o).grownBy w1 vf.ownBlock) (ow : w1.ownsRow (w.heap.size + 2) 3 1 v (kf + 1) (iv (fun i => i) kf ++ [.int .i64 kf])) (hat : v.ownBlock = vf.ownBlock ∨ v.ownBlock = some (wr.heap.size + 1)) :
    NewAt w (w1.setCell ⟨w.heap.size + 1, 0, none⟩ v) v vt vb (kf + 1) kt kb := by
  have t1 := push_touch hg
  have t2 := (Touch.refl [w.heap.size + 1] w1).setCell (a := ⟨w.heap.size + 1, 0, none⟩) (by simp) v
  have far : ∀ {u : Value} {e : TypeId} {l : Nat} {xs : List Value} {x : World}, x.ownsRow (w.heap.size + 2) e 1 u l xs → ∀ b, u.ownBlock = some b → b ∉ [w.heap.size + 1] := fun hu b hb hm => by have := own_base hu hb; simp at hm; omega
  have new : ∀ {u : Value} {e : TypeId} {l : Nat} {xs : List Value}, wr.ownsRow (w.heap.size + 2) e 1 u l xs → (∀ b, vf.ownBlock = some b → u.ownBlock ≠ some b) → ∀ b, v.ownBlock = some b → u.ownBlock ≠ some b := fun hu hd b hb he => by
    rcases hat with e | e
    · exact hd b (e ▸ hb) he
    · have := own_lt hu he
      rw [e] at hb
      cases hb
      omega
  obtain ⟨x0, x1⟩ := h.boxf hg
  have tt : Touch [] w w1 := h.touch.trans t1 (fun b hb => by
    have := own_base h.rf (b := b) (by simpa using hb)
    right
    omega)
  exact ⟨x0.set0 v, x1.carry t2 (by simp), t2.row (by rw [iv_next]; exact ow) (far ow), t2.row (t1.row h.rt (fun b hb => not_row fun e => h.ft b e hb)) (far h.rt), t2.row (t1.row h.rb (fun b hb => not_row fun e => h.fb b e hb)) (far h.rb), new h.rt h.ft, new h.rb h.fb, h.tb, tt.setCell (.inr (Nat.le_succ _)) v⟩

/-- The box's cells behind the append, ahead of the store. -/
theorem NewAt.boxt (h : NewAt w wr vf vt vb kf kt kb) (hg : (wr.alloc o).grownBy w1 vt.ownBlock) :
    Box3 w1 (w.heap.size + 1) 55 vf vt vb ∧ Box3 w1 w.heap.size 55 (.slice none 0 0) (.slice none 0 0) (.slice none 0 0) :=
  ⟨h.box.carry (push_touch hg) (not_row fun e => by have := own_base h.rt e; omega), h.res.carry (push_touch hg) (not_row fun e => by have := own_base h.rt e; omega)⟩
theorem NewAt.pusht (h : NewAt w wr vf vt vb kf kt kb) (hg : (wr.alloc o).grownBy w1 vt.ownBlock) (ow : w1.ownsRow (w.heap.size + 2) 3 1 v (kt + 1) (iv (fun _ => 0) kt ++ [.int .i64 0])) (hat : v.ownBlock = vt.ownBlock ∨ v.ownBlock = some (wr.heap.size + 1)) :
    NewAt w (w1.setCell ⟨w.heap.size + 1, 1, none⟩ v) vf v vb kf (kt + 1) kb := by
  have t1 := push_touch hg
  have t2 := (Touch.refl [w.heap.size + 1] w1).setCell (a := ⟨w.heap.size + 1, 1, none⟩) (by simp) v
  have far : ∀ {u : Value} {e : TypeId} {l : Nat} {xs : List Value} {x : World}, x.ownsRow (w.heap.size + 2) e 1 u l xs → ∀ b, u.ownBlock = some b → b ∉ [w.heap.size + 1] := fun hu b hb hm => by have := own_base hu hb; simp at hm; omega
  have new : ∀ {u : Value} {e : TypeId} {l : Nat} {xs : List Value}, wr.ownsRow (w.heap.size + 2) e 1 u l xs → (∀ b, vt.ownBlock = some b → u.ownBlock ≠ some b) → ∀ b, v.ownBlock = some b → u.ownBlock ≠ some b := fun hu hd b hb he => by
    rcases hat with e | e
    · exact hd b (e ▸ hb) he
    · have := own_lt hu he
      rw [e] at hb
      cases hb
      omega
  obtain ⟨x0, x1⟩ := h.boxt hg
  have tt : Touch [] w w1 := h.touch.trans t1 (fun b hb => by
    have := own_base h.rt (b := b) (by simpa using hb)
    right
    omega)
  exact ⟨x0.set1 v, x1.carry t2 (by simp), t2.row (t1.row h.rf (fun b hb => not_row fun e => (fun b hb he => h.ft b he hb) b e hb)) (far h.rf), t2.row (by rw [iv_next]; exact ow) (far ow), t2.row (t1.row h.rb (fun b hb => not_row fun e => h.tb b e hb)) (far h.rb), fun b hb he => new h.rf (fun b hb he => h.ft b he hb) b he hb, h.fb, new h.rb h.tb, tt.setCell (.inr (Nat.le_succ _)) v⟩

/-- The box's cells behind the append, ahead of the store. -/
theorem NewAt.boxb (h : NewAt w wr vf vt vb kf kt kb) (hg : (wr.alloc o).grownBy w1 vb.ownBlock) :
    Box3 w1 (w.heap.size + 1) 55 vf vt vb ∧ Box3 w1 w.heap.size 55 (.slice none 0 0) (.slice none 0 0) (.slice none 0 0) :=
  ⟨h.box.carry (push_touch hg) (not_row fun e => by have := own_base h.rb e; omega), h.res.carry (push_touch hg) (not_row fun e => by have := own_base h.rb e; omega)⟩
theorem NewAt.pushb (h : NewAt w wr vf vt vb kf kt kb) (hg : (wr.alloc o).grownBy w1 vb.ownBlock) (ow : w1.ownsRow (w.heap.size + 2) 4 1 v (kb + 1) (bv (fun _ => false) kb ++ [.bool false])) (hat : v.ownBlock = vb.ownBlock ∨ v.ownBlock = some (wr.heap.size + 1)) :
    NewAt w (w1.setCell ⟨w.heap.size + 1, 2, none⟩ v) vf vt v kf kt (kb + 1) := by
  have t1 := push_touch hg
  have t2 := (Touch.refl [w.heap.size + 1] w1).setCell (a := ⟨w.heap.size + 1, 2, none⟩) (by simp) v
  have far : ∀ {u : Value} {e : TypeId} {l : Nat} {xs : List Value} {x : World}, x.ownsRow (w.heap.size + 2) e 1 u l xs → ∀ b, u.ownBlock = some b → b ∉ [w.heap.size + 1] := fun hu b hb hm => by have := own_base hu hb; simp at hm; omega
  have new : ∀ {u : Value} {e : TypeId} {l : Nat} {xs : List Value}, wr.ownsRow (w.heap.size + 2) e 1 u l xs → (∀ b, vb.ownBlock = some b → u.ownBlock ≠ some b) → ∀ b, v.ownBlock = some b → u.ownBlock ≠ some b := fun hu hd b hb he => by
    rcases hat with e | e
    · exact hd b (e ▸ hb) he
    · have := own_lt hu he
      rw [e] at hb
      cases hb
      omega
  obtain ⟨x0, x1⟩ := h.boxb hg
  have tt : Touch [] w w1 := h.touch.trans t1 (fun b hb => by
    have := own_base h.rb (b := b) (by simpa using hb)
    right
    omega)
  exact ⟨x0.set2 v, x1.carry t2 (by simp), t2.row (t1.row h.rf (fun b hb => not_row fun e => (fun b hb he => h.fb b he hb) b e hb)) (far h.rf), t2.row (t1.row h.rt (fun b hb => not_row fun e => (fun b hb he => h.tb b he hb) b e hb)) (far h.rt), t2.row (by rw [bv_succ]; exact ow) (far ow), h.ft, fun b hb he => new h.rf (fun b hb he => h.fb b he hb) b he hb, fun b hb he => new h.rt (fun b hb he => h.tb b he hb) b he hb, tt.setCell (.inr (Nat.le_succ _)) v⟩
end
end Go.Proofs.Ytalkpoeliekbfaa

/-
  The contract of the reference's New (layer 6).
-/
namespace Go.Proofs.Ytalkpoeliekbfaa
open Go.ChangeShapes Go.WideShapes Go.ChangeAt Go.RowKit Go.Deep
set_option linter.unusedVariables false

def RefNewed (w : World) (n : Nat) (e : Ending) (w' : World) : Prop :=
  ∃ vf vt vb ad c, e = .returned (.agg #[vf, vt, vb]) ∧ vf = .slice (some ad) n c ∧ (∀ Z, (∀ b ∈ Z, b < w.heap.size) → RefAt Z w' vf vt vb n n (fun i => i) (fun _ => 0) (fun _ => false)) ∧ Touch [] w w'

set_option maxHeartbeats 3200000 in
theorem refNew_any (n : Nat) (w : World) (h1 : 1 ≤ n) (hn : n ≤ 5000) :
    Calls Try.prog 52 #[.int .i64 n] w (RefNewed w n) := by
  obtain ⟨i0, hi0, hz0, hz1, hz2⟩ := info_parts rint_info
  obtain ⟨j0, hj0, hy0, hy1, hy2⟩ := info_parts bool_info
  have HN := Lib.hid (show NewAt w ((w.alloc (.cells #[.slice none 0 0, .slice none 0 0, .slice none 0 0] 55)).alloc (.cells #[.slice none 0 0, .slice none 0 0, .slice none 0 0] 55)) (.slice none 0 0) (.slice none 0 0) (.slice none 0 0) 0 0 0 from by
    have b1 := Box3.new (w.alloc (.cells #[.slice none 0 0, .slice none 0 0, .slice none 0 0] 55)) 55 (.slice none 0 0) (.slice none 0 0) (.slice none 0 0)
    rw [show (w.alloc (.cells #[.slice none 0 0, .slice none 0 0, .slice none 0 0] 55)).heap.size = w.heap.size + 1 by simp] at b1
    exact ⟨b1, (Box3.new w _ _ _ _).carry ((Touch.refl [] _).alloc _) (by simp), World.ownsRow_nil _ _ _ _, World.ownsRow_nil _ _ _ _, World.ownsRow_nil _ _ _ _, by simp [Value.ownBlock], by simp [Value.ownBlock], by simp [Value.ownBlock], ((Touch.refl _ _).alloc _).alloc _⟩)
  go_enter Try.func52, Try.ntmps52
  go_wp2_with fail
  go_loopw [4] (fun i wr => ∃ (k : Nat) (vf vt vb : Value), k ≤ n ∧ i = .int .i64 k ∧ NewAt w wr vf vt vb k k k) (fun i _ => n - (intOf i).toNat)
  case atStart => exact ⟨0, _, _, _, Nat.zero_le _, rfl, HN.out⟩
  case round =>
    clear HN
    obtain ⟨k, vf, vt, vb, hk, rfl, h⟩ := hrel
    obtain ⟨A1, c1, rfl⟩ := own_form h.rf
    obtain ⟨A2, c2, rfl⟩ := own_form h.rt
    obtain ⟨A3, c3, rfl⟩ := own_form h.rb
    have sz := h.box.lt
    have HN := Lib.hid h
    have d0 := h.box.c0
    have d1 := h.box.c1
    have d2 := h.box.c2
    by_cases hlt : k < n
    · clear h
      go_wp2_with (first
        | (at_builtin; refine wpList_append_own_at _ rfl (.tmp 12) (.tmp 14) 40 rfl (w.heap.size + 2) 3 i0 (.int .i64 0) 1 8 Try.underlying40 hi0 hz0 hz1 hz2 rfl (by decide) (.slice A1 k c1) k (iv (fun i => i) k) rfl (HN.out.rf.alloc _) ⟨wr.heap.size, 0, none⟩ 1 1 [.int .i64 k] rfl rfl (cell_one_new _ _ _) (by intro u hu; simp at hu; subst hu; rfl) (by unfold maxLen; omega) (by omega) (by simp; omega) ?_; intro v' w1 hown hgrow hnil hat; obtain ⟨A4, c4, rfl⟩ := own_form hown; obtain ⟨x0, x1⟩ := HN.out.boxf hgrow; have d0 := x0.c0; have d1 := x0.c1; have d2 := x0.c2; have f0 := x0.fr 0; have s1 := x0.lt; have N1 := Lib.hid (HN.out.pushf hgrow hown (by simpa using hat)); clear hown hgrow hnil hat x0 x1)
        | (at_builtin; refine wpList_append_own_at _ rfl (.tmp 18) (.tmp 19) 40 rfl (w.heap.size + 2) 3 i0 (.int .i64 0) 1 8 Try.underlying40 hi0 hz0 hz1 hz2 rfl (by decide) (.slice A2 k c2) k (iv (fun _ => 0) k) rfl (N1.out.rt.alloc _) ⟨w1.heap.size, 0, none⟩ 1 1 [.int .i64 0] rfl rfl (by simpa using cell_one_new (w1.setCell ⟨w.heap.size + 1, 0, none⟩ (.slice A4 (k + 1) c4)) (.int .i64 0) 3) (by intro u hu; simp at hu; subst hu; rfl) (by unfold maxLen; omega) (by omega) (by simp; omega) ?_; intro v' w2 hown hgrow hnil hat; obtain ⟨A5, c5, rfl⟩ := own_form hown; obtain ⟨x0, x1⟩ := N1.out.boxt hgrow; have d0 := x0.c0; have d1 := x0.c1; have d2 := x0.c2; have f1 := x0.fr 1; have s2 := x0.lt; have N2 := Lib.hid (N1.out.pusht hgrow hown (by simpa using hat)); clear hown hgrow hnil hat x0 x1)
        | (at_builtin; refine wpList_append_own_at _ rfl (.tmp 23) (.tmp 24) 45 rfl (w.heap.size + 2) 4 j0 (.bool false) 1 1 Try.underlying45 hj0 hy0 hy1 hy2 rfl (by decide) (.slice A3 k c3) k (bv (fun _ => false) k) rfl (N2.out.rb.alloc _) ⟨w2.heap.size, 0, none⟩ 1 1 [.bool false] rfl rfl (by simpa using cell_one_new (w2.setCell ⟨w.heap.size + 1, 1, none⟩ (.slice A5 (k + 1) c5)) (.bool false) 4) (by intro u hu; simp at hu; subst hu; rfl) (by unfold maxLen; omega) (by omega) (by simp; omega) ?_; intro v' w3 hown hgrow hnil hat; obtain ⟨A6, c6, rfl⟩ := own_form hown; obtain ⟨x0, x1⟩ := N2.out.boxb hgrow; have d0 := x0.c0; have d1 := x0.c1; have d2 := x0.c2; have f2 := x0.fr 2; have s3 := x0.lt; have N3 := Lib.hid (N2.out.pushb hgrow hown (by simpa using hat)); clear hown hgrow hnil hat x0 x1))
      go_roundw
      case rel => exact ⟨k + 1, _, _, _, by omega, by go_num, N3.out⟩
      case measure => simp [intOf]; omega
    · obtain rfl : k = n := by omega
      have r0 := h.res.c0
      have r1 := h.res.c1
      have r2 := h.res.c2
      have g0 := h.res.fr 0
      have g1 := h.res.fr 1
      have g2 := h.res.fr 2
      obtain ⟨ad, c, hA1, _, _⟩ := h.rf.form (by omega)
      simp only [Value.slice.injEq, true_and] at hA1
      obtain ⟨rfl, rfl⟩ := hA1
      clear h
      go_wp2_with fail
      have tE := ((HN.out.touch.setCell (a := ⟨w.heap.size, 0, none⟩) (.inr (Nat.le_refl _)) (.slice (some ⟨ad, 0, none⟩) k c1)).setCell (a := ⟨w.heap.size, 1, none⟩) (.inr (Nat.le_refl _)) (.slice A2 k c2)).setCell (a := ⟨w.heap.size, 2, none⟩) (.inr (Nat.le_refl _)) (.slice A3 k c3)
      have tR := (((Touch.refl [w.heap.size] wr).setCell (a := ⟨w.heap.size, 0, none⟩) (by simp) (.slice (some ⟨ad, 0, none⟩) k c1)).setCell (a := ⟨w.heap.size, 1, none⟩) (by simp) (.slice A2 k c2)).setCell (a := ⟨w.heap.size, 2, none⟩) (by simp) (.slice A3 k c3)
      have far : ∀ {u : Value} {e : TypeId} {l : Nat} {xs : List Value}, wr.ownsRow (w.heap.size + 2) e 1 u l xs → ∀ b, u.ownBlock = some b → b ∉ [w.heap.size] := fun hu b hb hm => by have := own_base hu hb; simp at hm; omega
      refine bodyPost_ret (v := .agg #[.slice (some ⟨ad, 0, none⟩) k c1, .slice A2 k c2, .slice A3 k c3]) (by simp [results, Try.results52, go_sem, r0, r1, r2]) rfl ⟨_, _, _, _, _, rfl, rfl, fun Z hZ => ⟨?_, ?_, ?_⟩, tE⟩
      · exact Rd.own (tR.row HN.out.rf (far HN.out.rf)) (fun i hi => iv_get _ hi) (fun b hb => by have := hZ b hb; omega)
      · exact Rd.own (tR.row HN.out.rt (far HN.out.rt)) (fun i hi => iv_get _ hi) (fun b hb => by have := hZ b hb; omega)
      · exact Rd.own (tR.row HN.out.rb (far HN.out.rb)) (fun i hi => bv_get _ hi) (fun b hb => by have := hZ b hb; omega)
end Go.Proofs.Ytalkpoeliekbfaa
