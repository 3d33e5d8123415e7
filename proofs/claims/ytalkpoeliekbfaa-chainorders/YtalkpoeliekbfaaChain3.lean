/-
  Contracts of layer 7 (chain): Pop.
-/
import Derived.Test.YtalkpoeliekbfaaChain2
import Derived.Test.YtalkpoeliekbfaaPhi8
namespace Go.Proofs.Ytalkpoeliekbfaa
open Go.ChangeShapes Go.WideShapes Go.ChangeAt Go.RowKit Go.Deep
set_option linter.unusedVariables false
set_option linter.unusedSimpArgs false

/-- A store of one cell, at a step of a region with several. -/
theorem doJ_set {P : Program} {ops : Array Oper} {S : List Nat} {o : Oper} {a : Act} {w w' : World} {φ : Value → World → Prop} {ψ : World → Prop} (hw : Region.wanted o (yielded ops a.tmps) = true) {ty : TypeId} {x y : Operand} (ho : o.op = .store ty x y) {px v : Value} (hx : a.eval x = px) (hy : a.eval y = v)
    (hr : (Instr.storeAt ty px v).run P w = .ok () w') (h : φ undef w' ∧ ψ w' ∧ Touch S w w') : DoesJ P ops S φ ψ o a w := by
  refine .inl ⟨hw, ?_⟩
  unfold execOp
  simp only [ho, hx, hy, Sem.run_bind, Sem.run_pure, Result.andThen_ok, hr]
  exact h
/-- Pop's last stores: what is behind the node, and where it is. -/
def PopJ (p gn gw gl n cn cw k cl : Nat) (N V E : Nat → Int) (x : Nat) (f : Nat → Bool) (w : World) : Prop :=
  ChainAt w p gn gw gl n cn cw k cl (if f 11 = true then upd N x (-1) else N) (if f 13 = true then upd V x (-1) else V) E
section
variable {w w' : World} {p gn gw gl n cn cw k cl x : Nat} {N V E : Nat → Int} {f : Nat → Bool}
theorem popJ_start (h : ChainAt w p gn gw gl n cn cw k cl N V E) (h1 : f 11 = false) (h2 : f 13 = false) : PopJ p gn gw gl n cn cw k cl N V E x f w := by
  unfold PopJ
  rw [h1, h2]
  exact h
theorem PopJ.keep (h : PopJ p gn gw gl n cn cw k cl N V E x f w) (t : Touch [] w w') {i : Nat} (h1 : i ≠ 11) (h2 : i ≠ 13) : PopJ p gn gw gl n cn cw k cl N V E x (mark f i) w' := by
  unfold PopJ
  rw [mark_other f (Ne.symm h1), mark_other f (Ne.symm h2)]
  exact ChainAt.new h t
theorem PopJ.setN (h : PopJ p gn gw gl n cn cw k cl N V E x f w) (hf : f 11 = false) : PopJ p gn gw gl n cn cw k cl N V E x (mark f 11) (w.setCell ⟨gn, x, none⟩ (.int .i64 (-1))) := by
  unfold PopJ at h ⊢
  rw [mark_same, mark_other f (by omega), if_pos rfl]
  rw [hf] at h
  exact ChainAt.setN h x (-1)
theorem PopJ.setV (h : PopJ p gn gw gl n cn cw k cl N V E x f w) (hf : f 13 = false) : PopJ p gn gw gl n cn cw k cl N V E x (mark f 13) (w.setCell ⟨gw, x, none⟩ (.int .i64 (-1))) := by
  unfold PopJ at h ⊢
  rw [mark_same, mark_other f (by omega), if_pos rfl]
  rw [hf] at h
  exact ChainAt.setV h x (-1)
theorem PopJ.c0 (h : PopJ p gn gw gl n cn cw k cl N V E x f w) : w.cell? ⟨p, 0, none⟩ = some (.slice (some ⟨gn, 0, none⟩) n cn) := ChainAt.c0 h
theorem PopJ.c1 (h : PopJ p gn gw gl n cn cw k cl N V E x f w) : w.cell? ⟨p, 1, none⟩ = some (.slice (some ⟨gw, 0, none⟩) n cw) := ChainAt.c1 h
theorem PopJ.cN (h : PopJ p gn gw gl n cn cw k cl N V E x f w) {i : Nat} (hi : i < n) : w.cell? ⟨gn, i, none⟩ = some (.int .i64 ((if f 11 = true then upd N x (-1) else N) i)) := ChainAt.cN h hi
theorem PopJ.cV (h : PopJ p gn gw gl n cn cw k cl N V E x f w) {i : Nat} (hi : i < n) : w.cell? ⟨gw, i, none⟩ = some (.int .i64 ((if f 13 = true then upd V x (-1) else V) i)) := ChainAt.cV h hi
theorem PopJ.fN (h : PopJ p gn gw gl n cn cw k cl N V E x f w) (i : Nat) : w.frozen? ⟨gn, i, none⟩ = false := (ChainAt.next h).frozenAt i
theorem PopJ.fV (h : PopJ p gn gw gl n cn cw k cl N V E x f w) (i : Nat) : w.frozen? ⟨gw, i, none⟩ = false := (ChainAt.wher h).frozenAt i
theorem pop_of_none (v : Value) (l : Int) (w : World) (D : Hid (Calls Try.prog 11 #[v, .int .i64 l] w fun e w' => e = firstTold 0 false ∧ w' = w)) :
    Calls Try.prog 12 #[v, .int .i64 l] w fun e w' => e = firstTold 0 false ∧ w' = w := by
  unfold firstTold at *
  go_enter Try.func12, Try.ntmps12
  go_wp2_with fail
  refine (D.out).mono ?_
  rintro e w1 ⟨rfl, rfl⟩
  go_wp2
  go_ret2
  exact ⟨rfl, rfl⟩
theorem pop_nil (l : Int) (w : World) : Calls Try.prog 12 #[.pointer none, .int .i64 l] w fun e w' => e = firstTold 0 false ∧ w' = w :=
  pop_of_none _ l w (Lib.hid (first_of_none _ l w (Lib.hid (len_nil l w))))
theorem pop_none (h : ChainAt w p gn gw gl n cn cw k cl N V E) (l : Int) (hl : lenV k E l = 0) : Calls Try.prog 12 #[.pointer (some ⟨p, 0, none⟩), .int .i64 l] w fun e w' => e = firstTold 0 false ∧ w' = w :=
  pop_of_none _ l w (Lib.hid (first_none h l hl))
set_option maxHeartbeats 1600000 in
set_option maxRecDepth 100000 in
theorem pop_some (h : ChainAt w p gn gw gl n cn cw k cl N V E) (a : Nat) (ha : a < k) (q : Int) (hq : E (a * 3 + 2) = q) (hq0 : 0 < q ∧ q ≤ 10000) (hx : E (a * 3) = (x : Int)) (hxn : x < n) (y : Int) (hy : N x = y) :
    Calls Try.prog 12 #[.pointer (some ⟨p, 0, none⟩), .int .i64 (a : Int)] w fun e w' => e = firstTold x true ∧
      ChainAt w' p gn gw gl n cn cw k cl (upd N x (-1)) (upd V x (-1)) (upd (upd E (a * 3) y) (a * 3 + 2) (q - 1)) ∧ Touch [gn, gw, gl] w w' := by
  have D0 := first_some h a ha (by omega)
  rw [hx] at D0
  have D := Lib.hid D0
  have c0 := h.c0
  have c2 := h.c2
  have hk := own_cap h.ends
  have hkn := own_cap h.next
  obtain ⟨lp, ln, lw, ll⟩ := h.lts
  unfold maxLen at hk hkn
  unfold firstTold at *
  have e0 := h.cE (i := a * 3) (by omega)
  have e2 := h.cE (i := a * 3 + 2) (by omega)
  rw [hq] at e2
  have f0 := h.ends.frozenAt (a * 3)
  have n0 := h.cN hxn
  rw [hy] at n0
  have HXN := Lib.hid hxn
  have HE := Lib.hid (h.setE (a * 3) y)
  have ha1 : (a : Int) < (k : Int) := by omega
  have hx1 : (x : Int) < (n : Int) := by omega
  have hwr : IntKind.i64.wrap (q - 1) = q - 1 := by rw [IntKind.wrap_i64]; omega
  have HQ := Lib.hid hq
  have t1 : Touch [gn, gw, gl] w (w.setCell ⟨gl, a * 3, none⟩ (.int .i64 y)) := (Touch.refl _ w).setCell (a := ⟨gl, a * 3, none⟩) (.inl (by simp)) _
  have T1 := Lib.hid t1
  clear h D0 hx hy hq t1
  go_enter Try.func12, Try.ntmps12
  go_wp2_with fail
  refine (D.out).mono ?_
  rintro e w1 ⟨rfl, rfl⟩
  go_upto_region 6 with fail
  obtain ⟨w2, hw2⟩ : ∃ w2, w2 = w1.setCell ⟨gl, a * 3, none⟩ (.int .i64 y) := ⟨_, rfl⟩
  rw [← hw2] at HE T1 ⊢
  clear hw2 c0 c2 e0 e2 f0 n0 lp ln lw ll D
  obtain ⟨lp, ln, lw, ll⟩ := HE.out.lts
  have e2 := HE.out.cE (i := a * 3 + 2) (by omega)
  rw [upd_other _ _ (by omega), HQ.out] at e2
  have f2 := HE.out.ends.frozenAt (a * 3 + 2)
  have HCH := Lib.hid (HE.out.setE (a * 3 + 2) (q - 1))
  have T2 := Lib.hid (T1.out.setCell (a := ⟨gl, a * 3 + 2, none⟩) (.inl (by simp)) (.int .i64 (q - 1)))
  go_upto_region 7 with fail
  obtain ⟨w3, hw3⟩ : ∃ w3, w3 = w2.setCell ⟨gl, a * 3 + 2, none⟩ (.int .i64 (q - 1)) := ⟨_, rfl⟩
  rw [← hw3] at HCH T2 ⊢
  clear hw3 HE T1 e2 f2 lp ln lw ll
  refine wp_region_stores (wd := _) [gn, gw] (PopJ p gn gw gl n cn cw k cl N V (upd (upd E (a * 3) y) (a * 3 + 2) (q - 1)) x) (Leaf.const (.pointer (some ⟨p, 0, none⟩)) :: Leaf.const ((.pointer (some ⟨p, 0, none⟩))) :: Leaf.const (.pointer (some ⟨p, 0, none⟩)) :: Leaf.const (.slice (some ⟨gn, 0, none⟩) n cn) :: Leaf.const (.int .i64 (x : Int)) :: Leaf.const (.pointer (some ⟨p, 0, none⟩)) :: Leaf.const ((.pointer (some ⟨p, 0, none⟩))) :: Leaf.const (.pointer (some ⟨p, 1, none⟩)) :: Leaf.const (.slice (some ⟨gw, 0, none⟩) n cw) :: Leaf.const (.int .i64 (x : Int)) :: Leaf.const (.pointer (some ⟨gn, x, none⟩)) :: Leaf.const undef :: Leaf.const (.pointer (some ⟨gw, x, none⟩)) :: Leaf.const undef :: []) (by kernel_rfl) (by kernel_rfl) (by kernel_rfl) ((Touch.refl _ _).drew) (trivial) (fun f hf => popJ_start (HCH.out.new ((Touch.refl [] _).drew)) (hf 11) (hf 13)) ?_ ?_
  · intro i o ho f ac w hfi ht hJ hk hf hd
    match i, ho, hfi with
    | 0, ho, hfi =>
      have ho' : some _ = some o := ho
      cases ho'
      clear ho
      refine DoesG.toJ ?_ (fun w' t' => hJ.keep t' (by omega) (by omega))
      have e0 := known_slot hk 0 (by kernel_rfl) (v := .pointer (some ⟨p, 0, none⟩)) rfl
      exact do_value (wanted_none rfl) (by rw [BigFrame.run_move (.tmp 0) rfl, e0]) rfl
    | 1, ho, hfi =>
      have ho' : some _ = some o := ho
      cases ho'
      clear ho
      refine DoesG.toJ ?_ (fun w' t' => hJ.keep t' (by omega) (by omega))
      have e40 := has_const (has_dep hd 0 (by kernel_rfl)) rfl rfl rfl (c := (.pointer (some ⟨p, 0, none⟩)))
      exact do_value (wanted_none rfl) (v := (.pointer (some ⟨p, 0, none⟩))) (by unfold execOp; simp only [e40]; rfl) rfl
    | 2, ho, hfi =>
      have ho' : some _ = some o := ho
      cases ho'
      clear ho
      refine DoesG.toJ ?_ (fun w' t' => hJ.keep t' (by omega) (by omega))
      have e41 := has_const (has_dep hd 1 (by kernel_rfl)) rfl rfl rfl (c := (.pointer (some ⟨p, 0, none⟩)))
      exact do_value (wanted_none rfl) (v := .pointer (some ⟨p, 0, none⟩)) (run_value rfl (by rw [e41]; simp [go_sem])) rfl
    | 3, ho, hfi =>
      have ho' : some _ = some o := ho
      cases ho'
      clear ho
      refine DoesG.toJ ?_ (fun w' t' => hJ.keep t' (by omega) (by omega))
      have e42 := has_const (has_dep hd 2 (by kernel_rfl)) rfl rfl rfl (c := (.pointer (some ⟨p, 0, none⟩)))
      have c0 := hJ.c0
      exact do_value (wanted_none rfl) (v := .slice (some ⟨gn, 0, none⟩) n cn) (run_value rfl (by rw [e42]; simp [go_sem, c0])) rfl
    | 4, ho, hfi =>
      have ho' : some _ = some o := ho
      cases ho'
      clear ho
      refine DoesG.toJ ?_ (fun w' t' => hJ.keep t' (by omega) (by omega))
      have e6 := known_slot hk 6 (by kernel_rfl) (v := .int .i64 (x : Int)) rfl
      exact do_value (wanted_none rfl) (by rw [BigFrame.run_move (.tmp 6) rfl, e6]) rfl
    | 5, ho, hfi =>
      have ho' : some _ = some o := ho
      cases ho'
      clear ho
      refine DoesG.toJ ?_ (fun w' t' => hJ.keep t' (by omega) (by omega))
      have e0 := known_slot hk 0 (by kernel_rfl) (v := .pointer (some ⟨p, 0, none⟩)) rfl
      exact do_value (wanted_none rfl) (by rw [BigFrame.run_move (.tmp 0) rfl, e0]) rfl
    | 6, ho, hfi =>
      have ho' : some _ = some o := ho
      cases ho'
      clear ho
      refine DoesG.toJ ?_ (fun w' t' => hJ.keep t' (by omega) (by omega))
      have e45 := has_const (has_dep hd 5 (by kernel_rfl)) rfl rfl rfl (c := (.pointer (some ⟨p, 0, none⟩)))
      exact do_value (wanted_none rfl) (v := (.pointer (some ⟨p, 0, none⟩))) (by unfold execOp; simp only [e45]; rfl) rfl
    | 7, ho, hfi =>
      have ho' : some _ = some o := ho
      cases ho'
      clear ho
      refine DoesG.toJ ?_ (fun w' t' => hJ.keep t' (by omega) (by omega))
      have e46 := has_const (has_dep hd 6 (by kernel_rfl)) rfl rfl rfl (c := (.pointer (some ⟨p, 0, none⟩)))
      exact do_value (wanted_none rfl) (v := .pointer (some ⟨p, 1, none⟩)) (run_value rfl (by rw [e46]; simp [go_sem])) rfl
    | 8, ho, hfi =>
      have ho' : some _ = some o := ho
      cases ho'
      clear ho
      refine DoesG.toJ ?_ (fun w' t' => hJ.keep t' (by omega) (by omega))
      have e47 := has_const (has_dep hd 7 (by kernel_rfl)) rfl rfl rfl (c := (.pointer (some ⟨p, 1, none⟩)))
      have c0 := hJ.c1
      exact do_value (wanted_none rfl) (v := .slice (some ⟨gw, 0, none⟩) n cw) (run_value rfl (by rw [e47]; simp [go_sem, c0])) rfl
    | 9, ho, hfi =>
      have ho' : some _ = some o := ho
      cases ho'
      clear ho
      refine DoesG.toJ ?_ (fun w' t' => hJ.keep t' (by omega) (by omega))
      have e6 := known_slot hk 6 (by kernel_rfl) (v := .int .i64 (x : Int)) rfl
      exact do_value (wanted_none rfl) (by rw [BigFrame.run_move (.tmp 6) rfl, e6]) rfl
    | 10, ho, hfi =>
      have ho' : some _ = some o := ho
      cases ho'
      clear ho
      refine DoesG.toJ ?_ (fun w' t' => hJ.keep t' (by omega) (by omega))
      have e43 := has_const (has_dep hd 3 (by kernel_rfl)) rfl rfl rfl (c := (.slice (some ⟨gn, 0, none⟩) n cn))
      have e44 := has_const (has_dep hd 4 (by kernel_rfl)) rfl rfl rfl (c := (.int .i64 (x : Int)))
      exact do_value (wanted_none rfl) (v := .pointer (some ⟨gn, x, none⟩)) (run_value rfl (by rw [e43, e44]; have hxn := HXN.out; (first | (simp [go_sem]; done) | (simp [go_sem]; omega)))) rfl
    | 11, ho, hfi =>
      have ho' : some _ = some o := ho
      cases ho'
      clear ho
      have e50 := has_const (has_dep hd 10 (by kernel_rfl)) rfl rfl rfl (c := (.pointer (some ⟨gn, x, none⟩)))
      have c1 := hJ.cN HXN.out
      have f1 := hJ.fN x
      exact doJ_set (wanted_none rfl) rfl e50 (eval_c _ _) (by simp [go_sem, c1, f1]) ⟨rfl, hJ.setN hfi, (Touch.refl _ _).setCell (a := ⟨gn, x, none⟩) (.inl (by simp)) _⟩
    | 12, ho, hfi =>
      have ho' : some _ = some o := ho
      cases ho'
      clear ho
      refine DoesG.toJ ?_ (fun w' t' => hJ.keep t' (by omega) (by omega))
      have e48 := has_const (has_dep hd 8 (by kernel_rfl)) rfl rfl rfl (c := (.slice (some ⟨gw, 0, none⟩) n cw))
      have e49 := has_const (has_dep hd 9 (by kernel_rfl)) rfl rfl rfl (c := (.int .i64 (x : Int)))
      exact do_value (wanted_none rfl) (v := .pointer (some ⟨gw, x, none⟩)) (run_value rfl (by rw [e48, e49]; have hxn := HXN.out; (first | (simp [go_sem]; done) | (simp [go_sem]; omega)))) rfl
    | 13, ho, hfi =>
      have ho' : some _ = some o := ho
      cases ho'
      clear ho
      have e51 := has_const (has_dep hd 12 (by kernel_rfl)) rfl rfl rfl (c := (.pointer (some ⟨gw, x, none⟩)))
      have c1 := hJ.cV HXN.out
      have f1 := hJ.fV x
      exact doJ_set (wanted_none rfl) rfl e51 (eval_c _ _) (by simp [go_sem, c1, f1]) ⟨rfl, hJ.setV hfi, (Touch.refl _ _).setCell (a := ⟨gw, x, none⟩) (.inl (by simp)) _⟩
    | q + 14, ho, hfi => exact absurd ho (by simp)
  · intro z w4 f T4 hJ hf hkw
    simp only [putL, Act.put, List.setIfInBounds_toArray, List.set_cons_succ, List.set_cons_zero, List.drop]
    have hC : ChainAt w4 p gn gw gl n cn cw k cl (upd N x (-1)) (upd V x (-1)) (upd (upd E (a * 3) y) (a * 3 + 2) (q - 1)) := by
      unfold PopJ at hJ
      rw [if_pos (hf 11 (by simp)), if_pos (hf 13 (by simp))] at hJ
      exact hJ
    have HC := Lib.hid hC
    have TT := Lib.hid (T2.out.trans T4 (fun b hb => .inl (by simp at hb; rcases hb with rfl | rfl <;> simp)))
    clear hC hJ hf hkw T4 T2 HCH
    go_wp2_with fail
    go_ret2
    exact ⟨rfl, HC.out, TT.out⟩
end
end Go.Proofs.Ytalkpoeliekbfaa
