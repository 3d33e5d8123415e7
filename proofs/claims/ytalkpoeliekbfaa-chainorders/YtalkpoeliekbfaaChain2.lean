/-
  Contracts of layer 7 (chain): attach, Push.
-/
import Derived.Test.YtalkpoeliekbfaaChain1
namespace Go.Proofs.Ytalkpoeliekbfaa
open Go.ChangeShapes Go.WideShapes Go.ChangeAt Go.RowKit Go.Deep
set_option linter.unusedVariables false
set_option linter.unusedSimpArgs false

section
variable {w : World} {p gn gw gl n cn cw k cl : Nat} {N V E : Nat → Int}
set_option maxHeartbeats 1600000 in
theorem attach_first (h : ChainAt w p gn gw gl n cn cw k cl N V E) (a : Nat) (ha : a < k) (h0 : E (a * 3 + 2) = 0) (f la cnt : Int) :
    Calls Try.prog 45 #[.pointer (some ⟨p, 0, none⟩), .int .i64 (a : Int), .agg #[.int .i64 f, .int .i64 la, .int .i64 cnt]] w fun e w' => e = .returned (.tuple #[]) ∧
      ChainAt w' p gn gw gl n cn cw k cl N V (upd (upd (upd E (a * 3) f) (a * 3 + 1) la) (a * 3 + 2) cnt) ∧ Touch [gl] w w' := by
  have t1 : Touch [] w (w.alloc (.cells #[.int .i64 f, .int .i64 la, .int .i64 cnt] 96)) := (Touch.refl [] w).alloc _
  have HB5 := Lib.hid (BoxV.new w 96 #[.int .i64 f, .int .i64 la, .int .i64 cnt])
  have H1 := Lib.hid (h.new t1)
  have T1 := Lib.hid t1
  clear h t1
  go_enter Try.func45, Try.ntmps45
  go_upto_region 1 with fail
  generalize w.alloc (.cells #[.int .i64 f, .int .i64 la, .int .i64 cnt] 96) = w1 at *
  generalize w.heap.size = b5 at *
  have c2 := H1.out.c2
  have hk := own_cap H1.out.ends
  obtain ⟨lp, ln, lw, ll⟩ := H1.out.lts
  unfold maxLen at hk
  have e0 := H1.out.cE (i := a * 3) (by omega)
  have e1 := H1.out.cE (i := a * 3 + 1) (by omega)
  have e2 := H1.out.cE (i := a * 3 + 2) (by omega)
  rw [h0] at e2
  have f0 := H1.out.ends.frozenAt (a * 3)
  have f1 := H1.out.ends.frozenAt (a * 3 + 1)
  have f2 := H1.out.ends.frozenAt (a * 3 + 2)
  have lb := HB5.out.lt
  have d0 := HB5.out.cell 0
  have d1 := HB5.out.cell 1
  have d2 := HB5.out.cell 2
  simp only [List.getElem?_toArray, List.getElem?_cons_zero, List.getElem?_cons_succ] at d0 d1 d2
  have HE := Lib.hid (((H1.out.setE (a * 3) f).setE (a * 3 + 1) la).setE (a * 3 + 2) cnt)
  have ha' : (a : Int) < (k : Int) := by omega
  clear h0
  go_wp2_with fail
  exact bodyPost_ret (results_none rfl _ _ _) rfl ⟨rfl, HE.out, ((((T1.out.mono (S' := [gl]) (by simp)).setCell (a := ⟨gl, a * 3, none⟩) (.inl (by simp)) _).setCell (a := ⟨gl, a * 3 + 1, none⟩) (.inl (by simp)) _).setCell (a := ⟨gl, a * 3 + 2, none⟩) (.inl (by simp)) _)⟩
set_option maxHeartbeats 1600000 in
set_option maxRecDepth 100000 in
theorem attach_more (h : ChainAt w p gn gw gl n cn cw k cl N V E) (a : Nat) (ha : a < k) (x : Nat) (hx : E (a * 3 + 1) = x) (hxn : x < n) (q : Int) (hq : E (a * 3 + 2) = q) (h0 : q ≠ 0) (f la cnt : Int) (hb : 0 ≤ q ∧ q ≤ 10000) (hc : 0 ≤ cnt ∧ cnt ≤ 10000) :
    Calls Try.prog 45 #[.pointer (some ⟨p, 0, none⟩), .int .i64 (a : Int), .agg #[.int .i64 f, .int .i64 la, .int .i64 cnt]] w fun e w' => e = .returned (.tuple #[]) ∧
      ChainAt w' p gn gw gl n cn cw k cl (upd N x f) V (upd (upd E (a * 3 + 1) la) (a * 3 + 2) (q + cnt)) ∧ Touch [gn, gl] w w' := by
  have t1 : Touch [] w (w.alloc (.cells #[.int .i64 f, .int .i64 la, .int .i64 cnt] 96)) := (Touch.refl [] w).alloc _
  have HB5 := Lib.hid (BoxV.new w 96 #[.int .i64 f, .int .i64 la, .int .i64 cnt])
  have HCH := Lib.hid (h.new t1)
  have T1 := Lib.hid t1
  have HB5L := Lib.hid (show gn ≠ w.heap.size ∧ gl ≠ w.heap.size from ⟨Nat.ne_of_lt h.lts.2.1, Nat.ne_of_lt h.lts.2.2.2⟩)
  have HFAR := Lib.hid h.far
  clear h t1
  have HA1 := Lib.hid (show a * 3 + 1 < k * 3 by omega)
  have HA2 := Lib.hid (show a * 3 + 2 < k * 3 by omega)
  have HX1 := Lib.hid hx
  have HXN := Lib.hid hxn
  have HWR := Lib.hid (show IntKind.i64.wrap (q + cnt) = q + cnt by rw [IntKind.wrap_i64]; omega)
  have b1 : (q == 0) = false := by simpa using h0
  go_enter Try.func45, Try.ntmps45
  go_upto_region 1 with fail
  generalize w.alloc (.cells #[.int .i64 f, .int .i64 la, .int .i64 cnt] 96) = w1 at *
  generalize w.heap.size = b5 at *
  have c2 := HCH.out.c2
  have hk := own_cap HCH.out.ends
  obtain ⟨lp, ln, lw, ll⟩ := HCH.out.lts
  unfold maxLen at hk
  have e2 := HCH.out.cE HA2.out
  rw [hq] at e2
  have HQ := Lib.hid hq
  have ha' : (a : Int) < (k : Int) := by omega
  clear hq hx h0
  go_upto_region 4 with fail
  have hkn := own_cap HCH.out.next
  unfold maxLen at hkn
  refine wp_region_store (wd := _) 11 (Leaf.const (.pointer (some ⟨p, 0, none⟩)) :: Leaf.const ((.pointer (some ⟨p, 0, none⟩))) :: Leaf.const (.pointer (some ⟨p, 0, none⟩)) :: Leaf.const (.slice (some ⟨gn, 0, none⟩) n cn) :: Leaf.const (.pointer (some ⟨gl, a * 3, none⟩)) :: Leaf.const ((.pointer (some ⟨gl, a * 3, none⟩))) :: Leaf.const (.pointer (some ⟨gl, a * 3 + 1, none⟩)) :: Leaf.const (.int .i64 (x : Int)) :: Leaf.const (.pointer (some ⟨b5, 0, none⟩)) :: Leaf.const (.int .i64 f) :: Leaf.const (.pointer (some ⟨gn, x, none⟩)) :: Leaf.const undef :: []) (by kernel_rfl) (by kernel_rfl) (by kernel_rfl) (by kernel_rfl) ((Touch.refl _ _).drew) (trivial) ?_ ?_
  · intro i o ho hin ac w ht hk hd
    match i, ho, hin with
    | 0, ho, hin =>
      have ho' : some _ = some o := ho
      cases ho'
      clear ho
      have e0 := known_slot hk 0 (by kernel_rfl) (v := .pointer (some ⟨p, 0, none⟩)) rfl
      exact do_value (wanted_none rfl) (by rw [BigFrame.run_move (.tmp 0) rfl, e0]) rfl
    | 1, ho, hin =>
      have ho' : some _ = some o := ho
      cases ho'
      clear ho
      have e21 := has_const (has_dep hd 0 (by kernel_rfl)) rfl rfl rfl (c := (.pointer (some ⟨p, 0, none⟩)))
      exact do_value (wanted_none rfl) (v := (.pointer (some ⟨p, 0, none⟩))) (by unfold execOp; simp only [e21]; rfl) rfl
    | 2, ho, hin =>
      have ho' : some _ = some o := ho
      cases ho'
      clear ho
      have e22 := has_const (has_dep hd 1 (by kernel_rfl)) rfl rfl rfl (c := (.pointer (some ⟨p, 0, none⟩)))
      exact do_value (wanted_none rfl) (v := .pointer (some ⟨p, 0, none⟩)) (run_value rfl (by rw [e22]; simp [go_sem])) rfl
    | 3, ho, hin =>
      have ho' : some _ = some o := ho
      cases ho'
      clear ho
      have e23 := has_const (has_dep hd 2 (by kernel_rfl)) rfl rfl rfl (c := (.pointer (some ⟨p, 0, none⟩)))
      have c0 := (HCH.out.new ht).c0
      exact do_value (wanted_none rfl) (v := .slice (some ⟨gn, 0, none⟩) n cn) (run_value rfl (by rw [e23]; simp [go_sem, c0])) rfl
    | 4, ho, hin =>
      have ho' : some _ = some o := ho
      cases ho'
      clear ho
      have e6 := known_slot hk 6 (by kernel_rfl) (v := .pointer (some ⟨gl, a * 3, none⟩)) rfl
      exact do_value (wanted_none rfl) (by rw [BigFrame.run_move (.tmp 6) rfl, e6]) rfl
    | 5, ho, hin =>
      have ho' : some _ = some o := ho
      cases ho'
      clear ho
      have e25 := has_const (has_dep hd 4 (by kernel_rfl)) rfl rfl rfl (c := (.pointer (some ⟨gl, a * 3, none⟩)))
      exact do_value (wanted_none rfl) (v := (.pointer (some ⟨gl, a * 3, none⟩))) (by unfold execOp; simp only [e25]; rfl) rfl
    | 6, ho, hin =>
      have ho' : some _ = some o := ho
      cases ho'
      clear ho
      have e26 := has_const (has_dep hd 5 (by kernel_rfl)) rfl rfl rfl (c := (.pointer (some ⟨gl, a * 3, none⟩)))
      exact do_value (wanted_none rfl) (v := .pointer (some ⟨gl, a * 3 + 1, none⟩)) (run_value rfl (by rw [e26]; simp [go_sem])) rfl
    | 7, ho, hin =>
      have ho' : some _ = some o := ho
      cases ho'
      clear ho
      have e27 := has_const (has_dep hd 6 (by kernel_rfl)) rfl rfl rfl (c := (.pointer (some ⟨gl, a * 3 + 1, none⟩)))
      have c1 := (HCH.out.new ht).cE HA1.out
      rw [HX1.out] at c1
      exact do_value (wanted_none rfl) (v := .int .i64 (x : Int)) (run_value rfl (by rw [e27]; simp [go_sem, c1])) rfl
    | 8, ho, hin =>
      have ho' : some _ = some o := ho
      cases ho'
      clear ho
      have e5 := known_slot hk 5 (by kernel_rfl) (v := .pointer (some ⟨b5, 0, none⟩)) rfl
      exact do_value (wanted_none rfl) (v := .pointer (some ⟨b5, 0, none⟩)) (run_value rfl (by rw [e5]; simp [go_sem])) rfl
    | 9, ho, hin =>
      have ho' : some _ = some o := ho
      cases ho'
      clear ho
      have e29 := has_const (has_dep hd 8 (by kernel_rfl)) rfl rfl rfl (c := (.pointer (some ⟨b5, 0, none⟩)))
      have c0 := (HB5.out.carry ht (by simp)).cell 0
      simp only [List.getElem?_toArray, List.getElem?_cons_zero, List.getElem?_cons_succ] at c0
      exact do_value (wanted_none rfl) (v := .int .i64 f) (run_value rfl (by rw [e29]; simp [go_sem, c0])) rfl
    | 10, ho, hin =>
      have ho' : some _ = some o := ho
      cases ho'
      clear ho
      have e24 := has_const (has_dep hd 3 (by kernel_rfl)) rfl rfl rfl (c := (.slice (some ⟨gn, 0, none⟩) n cn))
      have e28 := has_const (has_dep hd 7 (by kernel_rfl)) rfl rfl rfl (c := (.int .i64 (x : Int)))
      exact do_value (wanted_none rfl) (v := .pointer (some ⟨gn, x, none⟩)) (run_value rfl (by rw [e24, e28]; have hxn := HXN.out; (first | (simp [go_sem]; done) | (simp [go_sem]; omega)))) rfl
    | 11, ho, hin => exact absurd hin (by omega)
    | q + 12, ho, hin => exact absurd ho (by simp)
  · intro y w2 T2 hkw
    simp only [putL, Act.put, List.setIfInBounds_toArray, List.set_cons_succ, List.set_cons_zero, List.drop]
    clear hkw c2 e2 lp ln lw ll
    have HCH2 := Lib.hid (HCH.out.new T2)
    have HB52 := Lib.hid (HB5.out.carry T2 (by simp))
    have TT := Lib.hid (T1.out.trans T2 (by simp))
    clear T2 HCH HB5 T1
    obtain ⟨lp, ln, lw, ll⟩ := HCH2.out.lts
    have s0 := HCH2.out.cN HXN.out
    have s1 := HCH2.out.next.frozenAt x
    go_upto_region 5 with fail
    have t3 : Touch [gn] w2 (w2.setCell ⟨gn, x, none⟩ (.int .i64 f)) := (Touch.refl [gn] w2).setCell (a := ⟨gn, x, none⟩) (.inl (by simp)) _
    have HCH3 := Lib.hid (HCH2.out.setN x f)
    have HB53 := Lib.hid (HB52.out.carry t3 (by have := HB5L.out; simp; omega))
    have TT3 := Lib.hid ((TT.out.mono (S' := [gn, gl]) (by simp)).trans t3 (fun b hb => .inl (by simp at hb; simp [hb])))
    obtain ⟨w3, hw3⟩ : ∃ w3, w3 = w2.setCell ⟨gn, x, none⟩ (.int .i64 f) := ⟨_, rfl⟩
    rw [← hw3] at HCH3 HB53 TT3 ⊢
    clear hw3 t3 HCH2 HB52 TT s0 s1 lp ln lw ll
    obtain ⟨lp, ln, lw, ll⟩ := HCH3.out.lts
    have u1 := HCH3.out.cE HA1.out
    have u2 := HCH3.out.ends.frozenAt (a * 3 + 1)
    have lb := HB53.out.lt
    have d1 := HB53.out.cell 1
    simp only [List.getElem?_toArray, List.getElem?_cons_zero, List.getElem?_cons_succ] at d1
    go_upto_region 6 with fail
    have t4 : Touch [gl] w3 (w3.setCell ⟨gl, a * 3 + 1, none⟩ (.int .i64 la)) := (Touch.refl [gl] w3).setCell (a := ⟨gl, a * 3 + 1, none⟩) (.inl (by simp)) _
    have HCH := Lib.hid (HCH3.out.setE (a * 3 + 1) la)
    have HB5 := Lib.hid (HB53.out.carry t4 (by have := HB5L.out; simp; omega))
    have TT4 := Lib.hid (TT3.out.trans t4 (fun b hb => .inl (by simp at hb; simp [hb])))
    obtain ⟨w4, hw4⟩ : ∃ w4, w4 = w3.setCell ⟨gl, a * 3 + 1, none⟩ (.int .i64 la) := ⟨_, rfl⟩
    rw [← hw4] at HCH HB5 TT4 ⊢
    clear hw4 t4 HCH3 HB53 TT3 u1 u2 lb d1 lp ln lw ll
    have HE2 := Lib.hid (show upd E (a * 3 + 1) la (a * 3 + 2) = q by rw [upd_other _ _ (by omega)]; exact HQ.out)
    refine wp_region_store2 (wd := _) 9 (Leaf.const (.pointer (some ⟨gl, a * 3, none⟩)) :: Leaf.const ((.pointer (some ⟨gl, a * 3, none⟩))) :: Leaf.const (.pointer (some ⟨gl, a * 3 + 2, none⟩)) :: Leaf.const (.int .i64 q) :: Leaf.const (.pointer (some ⟨b5, 2, none⟩)) :: Leaf.const (.int .i64 cnt) :: Leaf.const (.int .i64 (q + cnt)) :: Leaf.const ((.pointer (some ⟨gl, a * 3, none⟩))) :: Leaf.const (.pointer (some ⟨gl, a * 3 + 2, none⟩)) :: Leaf.const undef :: []) (by kernel_rfl) (by kernel_rfl) (by kernel_rfl) (by kernel_rfl) ((Touch.refl _ _).drew) (trivial) ?_ ?_
    · intro i o ho hin ac w ht hk hd
      match i, ho, hin with
      | 0, ho, hin =>
        have ho' : some _ = some o := ho
        cases ho'
        clear ho
        have e6 := known_slot hk 6 (by kernel_rfl) (v := .pointer (some ⟨gl, a * 3, none⟩)) rfl
        exact do_value (wanted_none rfl) (by rw [BigFrame.run_move (.tmp 6) rfl, e6]) rfl
      | 1, ho, hin =>
        have ho' : some _ = some o := ho
        cases ho'
        clear ho
        have e37 := has_const (has_dep hd 0 (by kernel_rfl)) rfl rfl rfl (c := (.pointer (some ⟨gl, a * 3, none⟩)))
        exact do_value (wanted_none rfl) (v := (.pointer (some ⟨gl, a * 3, none⟩))) (by unfold execOp; simp only [e37]; rfl) rfl
      | 2, ho, hin =>
        have ho' : some _ = some o := ho
        cases ho'
        clear ho
        have e38 := has_const (has_dep hd 1 (by kernel_rfl)) rfl rfl rfl (c := (.pointer (some ⟨gl, a * 3, none⟩)))
        exact do_value (wanted_none rfl) (v := .pointer (some ⟨gl, a * 3 + 2, none⟩)) (run_value rfl (by rw [e38]; simp [go_sem])) rfl
      | 3, ho, hin =>
        have ho' : some _ = some o := ho
        cases ho'
        clear ho
        have e39 := has_const (has_dep hd 2 (by kernel_rfl)) rfl rfl rfl (c := (.pointer (some ⟨gl, a * 3 + 2, none⟩)))
        have c1 := (HCH.out.new ht).cE HA2.out
        rw [HE2.out] at c1
        exact do_value (wanted_none rfl) (v := .int .i64 q) (run_value rfl (by rw [e39]; simp [go_sem, c1])) rfl
      | 4, ho, hin =>
        have ho' : some _ = some o := ho
        cases ho'
        clear ho
        have e5 := known_slot hk 5 (by kernel_rfl) (v := .pointer (some ⟨b5, 0, none⟩)) rfl
        exact do_value (wanted_none rfl) (v := .pointer (some ⟨b5, 2, none⟩)) (run_value rfl (by rw [e5]; simp [go_sem])) rfl
      | 5, ho, hin =>
        have ho' : some _ = some o := ho
        cases ho'
        clear ho
        have e41 := has_const (has_dep hd 4 (by kernel_rfl)) rfl rfl rfl (c := (.pointer (some ⟨b5, 2, none⟩)))
        have c0 := (HB5.out.carry ht (by simp)).cell 2
        simp only [List.getElem?_toArray, List.getElem?_cons_zero, List.getElem?_cons_succ] at c0
        exact do_value (wanted_none rfl) (v := .int .i64 cnt) (run_value rfl (by rw [e41]; simp [go_sem, c0])) rfl
      | 6, ho, hin =>
        have ho' : some _ = some o := ho
        cases ho'
        clear ho
        have e40 := has_const (has_dep hd 3 (by kernel_rfl)) rfl rfl rfl (c := (.int .i64 q))
        have e42 := has_const (has_dep hd 5 (by kernel_rfl)) rfl rfl rfl (c := (.int .i64 cnt))
        exact do_value (wanted_none rfl) (v := .int .i64 (q + cnt)) (run_value rfl (by rw [e40, e42]; simp [go_sem, HWR.out])) rfl
      | 7, ho, hin =>
        have ho' : some _ = some o := ho
        cases ho'
        clear ho
        have e37 := has_const (has_dep hd 0 (by kernel_rfl)) rfl rfl rfl (c := (.pointer (some ⟨gl, a * 3, none⟩)))
        exact do_value (wanted_none rfl) (v := (.pointer (some ⟨gl, a * 3, none⟩))) (by unfold execOp; simp only [e37]; rfl) rfl
      | 8, ho, hin =>
        have ho' : some _ = some o := ho
        cases ho'
        clear ho
        have e44 := has_const (has_dep hd 7 (by kernel_rfl)) rfl rfl rfl (c := (.pointer (some ⟨gl, a * 3, none⟩)))
        exact do_value (wanted_none rfl) (v := .pointer (some ⟨gl, a * 3 + 2, none⟩)) (run_value rfl (by rw [e44]; simp [go_sem])) rfl
      | 9, ho, hin => exact absurd hin (by omega)
      | q + 10, ho, hin => exact absurd ho (by simp)
    · intro y w5 T5 hkw
      simp only [putL, Act.put, List.setIfInBounds_toArray, List.set_cons_succ, List.set_cons_zero, List.drop]
      clear hkw
      have HCH5 := Lib.hid (HCH.out.new T5)
      have TT5 := Lib.hid (TT4.out.trans T5 (by simp))
      clear T5 HCH HB5 TT4
      obtain ⟨lp, ln, lw, ll⟩ := HCH5.out.lts
      have u1 := HCH5.out.cE HA2.out
      have u2 := HCH5.out.ends.frozenAt (a * 3 + 2)
      have HE := Lib.hid (HCH5.out.setE (a * 3 + 2) (q + cnt))
      go_wp2_with fail
      exact bodyPost_end (results_none rfl _ _ _) rfl ⟨rfl, HE.out, TT5.out.setCell (a := ⟨gl, a * 3 + 2, none⟩) (.inl (by simp)) _⟩
/-- Push appends nothing. -/
theorem push_nil (l x : Int) (w : World) : Calls Try.prog 10 #[.pointer none, .int .i64 l, .int .i64 x] w fun e w' => e = .returned (.bool false) ∧ w' = w := by
  have D := Lib.hid (hasList_nil l w)
  go_enter Try.func10, Try.ntmps10
  go_wp2_with fail
  refine (D.out).mono ?_
  rintro e w1 ⟨rfl, rfl⟩
  go_wp2
  go_ret
  exact ⟨rfl, rfl⟩
theorem push_no (h : ChainAt w p gn gw gl n cn cw k cl N V E) (l x : Int) (hno : inR l k = false ∨ inR x n = false ∨ placeOf n V x ≠ -1) : Calls Try.prog 10 #[.pointer (some ⟨p, 0, none⟩), .int .i64 l, .int .i64 x] w fun e w' => e = .returned (.bool false) ∧ w' = w := by
  have D := Lib.hid (hasList_any h l)
  have D2 := Lib.hid (hasNode_any h x)
  have c1 := h.c1
  have hk := own_cap h.wher
  obtain ⟨lp, ln, lw, ll⟩ := h.lts
  unfold maxLen at hk
  cases hl : inR l k
  · rw [hl] at D
    clear h hno
    go_enter Try.func10, Try.ntmps10
    go_wp2_with fail
    refine (D.out).mono ?_
    rintro e w1 ⟨rfl, rfl⟩
    go_wp2
    go_ret
    exact ⟨rfl, rfl⟩
  · rw [hl] at D
    by_cases h0 : 0 ≤ x ∧ x < n
    · obtain ⟨a, rfl⟩ := Int.eq_ofNat_of_zero_le h0.1
      have ha : a < n := by omega
      rw [inR_yes h0] at D2
      have hv : V a ≠ -1 := by
        rcases hno with h1 | h1 | h1
        · rw [hl] at h1; cases h1
        · rw [inR_yes h0] at h1; cases h1
        · unfold placeOf at h1
          rwa [inR_yes h0, if_pos rfl, Int.toNat_natCast] at h1
      have ce := h.cV ha
      have b1 : (V a != -1) = true := by simpa using hv
      have ha0 : (0 : Int) ≤ (a : Int) := Int.natCast_nonneg _
      have ha1 : (a : Int) < (n : Int) := by omega
      generalize V a = y at *
      clear h hno h0 hv hl
      go_enter Try.func10, Try.ntmps10
      go_wp2_with fail
      refine (D.out).mono ?_
      rintro e w1 ⟨rfl, rfl⟩
      go_wp2_with fail
      refine (D2.out).mono ?_
      rintro e w1 ⟨rfl, rfl⟩
      go_wp2
      go_ret
      exact ⟨rfl, rfl⟩
    · rw [inR_no h0] at D2
      clear h hno h0 hl
      go_enter Try.func10, Try.ntmps10
      go_wp2_with fail
      refine (D.out).mono ?_
      rintro e w1 ⟨rfl, rfl⟩
      go_wp2_with fail
      refine (D2.out).mono ?_
      rintro e w1 ⟨rfl, rfl⟩
      go_wp2
      go_ret
      exact ⟨rfl, rfl⟩
/-- Push onto a list: what attach makes of it. -/
theorem push_of (h : ChainAt w p gn gw gl n cn cw k cl N V E) (l x : Nat) (hl : l < k) (hx : x < n) (hv : V x = -1) (Q : World → Prop)
    (D : ChainAt (w.setCell ⟨gw, x, none⟩ (.int .i64 (l : Int))) p gn gw gl n cn cw k cl N (upd V x l) E →
      Calls Try.prog 45 #[.pointer (some ⟨p, 0, none⟩), .int .i64 (l : Int), .agg #[.int .i64 (x : Int), .int .i64 (x : Int), .int .i64 1]] (w.setCell ⟨gw, x, none⟩ (.int .i64 (l : Int))) fun e w' => e = .returned (.tuple #[]) ∧ Q w') :
    Calls Try.prog 10 #[.pointer (some ⟨p, 0, none⟩), .int .i64 (l : Int), .int .i64 (x : Int)] w fun e w' => e = .returned (.bool true) ∧ Q w' := by
  have D0 := hasList_any h l
  rw [inR_yes ⟨by omega, by omega⟩] at D0
  have D1 := hasNode_any h x
  rw [inR_yes ⟨by omega, by omega⟩] at D1
  have DL := Lib.hid D0
  have DN := Lib.hid D1
  have c1 := h.c1
  have hk := own_cap h.wher
  obtain ⟨lp, ln, lw, ll⟩ := h.lts
  unfold maxLen at hk
  have ce := h.cV hx
  rw [hv] at ce
  have cf := h.wher.frozenAt x
  have DA := Lib.hid (D (h.setV x l))
  have hx0 : (0 : Int) ≤ (x : Int) := Int.natCast_nonneg _
  have hx1 : (x : Int) < (n : Int) := by omega
  clear h hv D D0 D1
  go_enter Try.func10, Try.ntmps10
  go_wp2_with fail
  refine (DL.out).mono ?_
  rintro e w1 ⟨rfl, rfl⟩
  go_wp2_with fail
  refine (DN.out).mono ?_
  rintro e w1 ⟨rfl, rfl⟩
  go_wp2_with fail
  refine (DA.out).mono ?_
  rintro e w1 ⟨rfl, hq⟩
  have HQ := Lib.hid hq
  clear hq
  go_wp2_with fail
  go_ret
  exact ⟨rfl, HQ.out⟩
end
end Go.Proofs.Ytalkpoeliekbfaa
