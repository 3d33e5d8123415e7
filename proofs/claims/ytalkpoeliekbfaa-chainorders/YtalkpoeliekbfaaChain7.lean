/-
  Layer 7 (chain): Copy.
-/
import Derived.Test.YtalkpoeliekbfaaChain6
import Derived.Test.YtalkpoeliekbfaaPhi9
import Derived.Test.YtalkpoeliekbfaaSlabCopy
namespace Go.Proofs.Ytalkpoeliekbfaa
open Go.ChangeShapes Go.WideShapes Go.ChangeAt Go.RowKit Go.Deep
set_option linter.unusedVariables false
set_option linter.unusedSimpArgs false

theorem dep_f {o : Oper} {f : Nat → Bool} (hf : ∀ e ∈ o.after, Region.binds .any e = true → f e.on = true) (j : Nat) (hb : (o.after.any fun e => (e.on == j) && Region.binds .any e) = true) : f j = true := by
  rw [Array.any_eq_true'] at hb
  obtain ⟨e, he, h⟩ := hb
  simp only [Bool.and_eq_true, beq_iff_eq] at h
  have := hf e he h.2
  rwa [h.1] at this
theorem Apart.of {T : List (Nat × Nat)} {f : Nat → Bool} {a : Act} {w : World} (h : Apart T f a w) {x y : Nat × Nat} (hx : x ∈ T) (hy : y ∈ T) (hne : x.2 ≠ y.2) (f1 : f x.1 = true) (f2 : f y.1 = true) {g g' n c m d : Nat}
    (e1 : a.eval (.tmp x.2) = .slice (some ⟨g, 0, none⟩) n c) (e2 : a.eval (.tmp y.2) = .slice (some ⟨g', 0, none⟩) m d) : g ≠ g' := by
  rintro rfl
  simp only [Act.eval] at e1 e2
  exact h.2 x hx y hy hne f1 f2 g (by rw [e1]; rfl) (by rw [e2]; rfl)
theorem ends_info : (Try.prog.info? 96).map (fun i => (i.zero, i.size, i.bytes)) = some (some (.agg #[.int .i64 0, .int .i64 0, .int .i64 0]), 3, 24) := by kernel_rfl
set_option maxRecDepth 100000 in
theorem clone_ends {w : World} {g n c : Nat} {xs : List Value} (h : w.ownsRow 0 96 3 (.slice (some ⟨g, 0, none⟩) n c) n xs) (hx : ∀ u ∈ xs, u.oneCell' = true) (hn : n ≤ 5000) :
    Calls Try.prog 47 #[.slice (some ⟨g, 0, none⟩) n c] w (Cloned w 96 3 n xs) := by
  obtain ⟨i0, hi0, hz0, hz1, hz2⟩ := info_parts ends_info
  have R1 := Lib.hid (World.ownsRow_lit (base := w.heap.size) (e := 96) (size := 3) w #[] 0 (Nat.le_refl _) (by unfold maxLen; omega) rfl)
  have R2 := Lib.hid (whole_news (h.alloc (.cells #[] 96)))
  have R3 := Lib.hid h.1
  have HX := Lib.hid hx
  clear h hx
  have he : ∀ w : World, (binOp .eql 89 (.slice (some ⟨g, 0, none⟩) n c) (.slice none 0 0)).run Try.prog w = .ok (.bool false) w := fun _ => rfl
  go_enter Try.func47, Try.ntmps47
  go_wp2_with (at_builtin; refine wpList_append_own _ rfl (.tmp 5) (.tmp 6) 89 rfl w.heap.size 96 i0 _ 3 24 Try.underlying89 hi0 hz0 hz1 hz2 rfl (by decide) (.slice (some ⟨w.heap.size, 0, none⟩) 0 0) 0 [] rfl R1.out ⟨g, 0, none⟩ n c xs rfl R3.out R2.out HX.out (by unfold maxLen; omega) (by omega) (by simp) ?_; intro v' w1 hown hgrow hnil; obtain ⟨g', c', rfl, q1, q2, q3, q4⟩ := cloned_of hown hgrow hnil; clear hown hgrow hnil)
  go_ret
  exact ⟨g', c', rfl, q1, q2, q3, q4⟩

theorem ent46 (args : Array Value) (w : World) : (callFunc 46 args).run Try.prog w = .ok (.enter 46 args) w := by
  simp [callFunc, Try.func46]
  rfl
theorem ent47 (args : Array Value) (w : World) : (callFunc 47 args).run Try.prog w = .ok (.enter 47 args) w := by
  simp [callFunc, Try.func47]
  rfl
def RowNew (w0 : World) (e : TypeId) (size n : Nat) (xs : List Value) (v : Value) (w : World) : Prop := ∃ g c, v = .slice (some ⟨g, 0, none⟩) n c ∧ w.ownsRow 0 e size v n xs ∧ w0.heap.size ≤ g
def PartsC (w0 : World) (n k : Nat) (N V E : Nat → Int) (v : Value) (w : World) : Prop :=
  ∃ g1 d1 g2 d2 g3 d3, v = .agg #[.slice (some ⟨g1, 0, none⟩) n d1, .slice (some ⟨g2, 0, none⟩) n d2, .slice (some ⟨g3, 0, none⟩) k d3] ∧ w.ownsRow 0 3 1 (.slice (some ⟨g1, 0, none⟩) n d1) n (iv N n) ∧ w.ownsRow 0 3 1 (.slice (some ⟨g2, 0, none⟩) n d2) n (iv V n) ∧
    w.ownsRow 0 96 3 (.slice (some ⟨g3, 0, none⟩) k d3) k (iv E (k * 3)) ∧ w0.heap.size ≤ g1 ∧ w0.heap.size ≤ g2 ∧ w0.heap.size ≤ g3 ∧ g1 ≠ g2 ∧ g1 ≠ g3 ∧ g2 ≠ g3
def ChainNew (w0 : World) (n k : Nat) (N V E : Nat → Int) (v : Value) (w : World) : Prop :=
  ∃ p gn gw gl cn cw cl, v = .pointer (some ⟨p, 0, none⟩) ∧ ChainAt w p gn gw gl n cn cw k cl N V E ∧ w0.heap.size ≤ p ∧ w0.heap.size ≤ gn ∧ w0.heap.size ≤ gw ∧ w0.heap.size ≤ gl
section
variable {w0 : World} {n k : Nat} {N V E : Nat → Int}
theorem RowNew.stab {e : TypeId} {size : Nat} {xs : List Value} : Stab (RowNew w0 e size n xs) := fun v w w' ⟨g, c, h0, h1, h2⟩ t => ⟨g, c, h0, t.row h1 (by simp), h2⟩
theorem PartsC.stab : Stab (PartsC w0 n k N V E) := fun v w w' ⟨g1, d1, g2, d2, g3, d3, h0, r1, r2, r3, h⟩ t => ⟨g1, d1, g2, d2, g3, d3, h0, t.row r1 (by simp), t.row r2 (by simp), t.row r3 (by simp), h⟩
theorem ChainNew.stab : Stab (ChainNew w0 n k N V E) := fun v w w' ⟨p, gn, gw, gl, cn, cw, cl, h0, h1, h2⟩ t => ⟨p, gn, gw, gl, cn, cw, cl, h0, h1.new t, h2⟩
theorem RowNew.stabS {e : TypeId} {size : Nat} {xs : List Value} : StabS [] (RowNew w0 e size n xs) := fun v w w' h t => RowNew.stab v w w' h t
theorem buildC (g1 d1 g2 d2 g3 d3 n k : Nat) (w : World) : (Instr.build 91 #[(0, .slice (some ⟨g1, 0, none⟩) n d1), (1, .slice (some ⟨g2, 0, none⟩) n d2), (2, .slice (some ⟨g3, 0, none⟩) k d3)]).run Try.prog w = .ok (.agg #[.slice (some ⟨g1, 0, none⟩) n d1, .slice (some ⟨g2, 0, none⟩) n d2, .slice (some ⟨g3, 0, none⟩) k d3]) w := run_build w _ _ _ (by kernel_rfl)
theorem run_boxC {a : Act} {o : Oper} {s : Tmp} {w : World} {cs : Array Value} (h : o.op = .box 91 (.tmp s)) (hv : a.eval (.tmp s) = .agg cs) : (execOp a.eval o).run Try.prog w = .ok (.value (.pointer (some ⟨w.heap.size, 0, none⟩))) (w.alloc (.cells cs 91)) := by
  unfold execOp
  rw [h]
  simp only [hv]
  simp [go_sem]
theorem chainNew_box {w : World} {g1 d1 g2 d2 g3 d3 : Nat} (r1 : w.ownsRow 0 3 1 (.slice (some ⟨g1, 0, none⟩) n d1) n (iv N n)) (r2 : w.ownsRow 0 3 1 (.slice (some ⟨g2, 0, none⟩) n d2) n (iv V n)) (r3 : w.ownsRow 0 96 3 (.slice (some ⟨g3, 0, none⟩) k d3) k (iv E (k * 3)))
    (l1 : w0.heap.size ≤ g1) (l2 : w0.heap.size ≤ g2) (l3 : w0.heap.size ≤ g3) (n1 : g1 ≠ g2) (n2 : g1 ≠ g3) (n3 : g2 ≠ g3) (hs : w0.heap.size ≤ w.heap.size) :
    ChainNew w0 n k N V E (.pointer (some ⟨w.heap.size, 0, none⟩)) (w.alloc (.cells #[.slice (some ⟨g1, 0, none⟩) n d1, .slice (some ⟨g2, 0, none⟩) n d2, .slice (some ⟨g3, 0, none⟩) k d3] 91)) := by
  have t : Touch [] w (w.alloc (.cells #[.slice (some ⟨g1, 0, none⟩) n d1, .slice (some ⟨g2, 0, none⟩) n d2, .slice (some ⟨g3, 0, none⟩) k d3] 91)) := (Touch.refl [] w).alloc _
  have a1 : g1 < w.heap.size := own_lt r1 rfl
  have a2 : g2 < w.heap.size := own_lt r2 rfl
  have a3 : g3 < w.heap.size := own_lt r3 rfl
  exact ⟨w.heap.size, g1, g2, g3, d1, d2, d3, rfl, ⟨BoxV.new w 91 _, t.row r1 (by simp), t.row r2 (by simp), t.row r3 (by simp), by omega⟩, hs, l1, l2, l3⟩
end
theorem copyC_nil (w : World) : Calls Try.prog 16 #[.pointer none] w fun e w' => e = .returned (.pointer none) ∧ w' = w := by
  go_enter Try.func16, Try.ntmps16
  go_wp2
  go_ret
  exact ⟨rfl, rfl⟩
set_option maxRecDepth 100000 in
set_option maxHeartbeats 3200000 in
theorem copyC_any {w : World} {p gn gw gl n cn cw k cl : Nat} {N V E : Nat → Int} (h : ChainAt w p gn gw gl n cn cw k cl N V E) (hn5 : n ≤ 5000) (hk5 : k ≤ 5000) :
    Calls Try.prog 16 #[.pointer (some ⟨p, 0, none⟩)] w fun e w' => ∃ v, e = .returned v ∧ ChainNew w n k N V E v w' ∧ Touch [] w w' := by
  have HCH := Lib.hid h
  clear h
  generalize hw0 : w = w0 at *
  go_enter Try.func16, Try.ntmps16
  go_upto_region 3 with fail
  refine wp_region_joint (wd := w0) [] (Apart [(4, 9), (9, 14), (14, 19)]) (Leaf.const (.pointer (some ⟨p, 0, none⟩)) :: Leaf.const ((.pointer (some ⟨p, 0, none⟩))) :: Leaf.const (.pointer (some ⟨p, 0, none⟩)) :: Leaf.const (.slice (some ⟨gn, 0, none⟩) n cn) :: Leaf.pred (RowNew w0 3 1 n (iv N n)) :: Leaf.const (.pointer (some ⟨p, 0, none⟩)) :: Leaf.const ((.pointer (some ⟨p, 0, none⟩))) :: Leaf.const (.pointer (some ⟨p, 1, none⟩)) :: Leaf.const (.slice (some ⟨gw, 0, none⟩) n cw) :: Leaf.pred (RowNew w0 3 1 n (iv V n)) :: Leaf.const (.pointer (some ⟨p, 0, none⟩)) :: Leaf.const ((.pointer (some ⟨p, 0, none⟩))) :: Leaf.const (.pointer (some ⟨p, 2, none⟩)) :: Leaf.const (.slice (some ⟨gl, 0, none⟩) k cl) :: Leaf.pred (RowNew w0 96 3 k (iv E (k * 3))) :: Leaf.pred (PartsC w0 n k N V E) :: Leaf.pred (ChainNew w0 n k N V E) :: Leaf.pred (ChainNew w0 n k N V E) :: []) (by kernel_rfl) (by kernel_rfl) (by kernel_rfl) ((Touch.refl _ _).drew) (⟨RowNew.stab, RowNew.stab, RowNew.stab, PartsC.stab, ChainNew.stab, ChainNew.stab, trivial⟩) (fun f hf => apart_start hf) ?_ ?_
  · intro i o ho f ac w hfi ht hJ hk hf hd
    match i, ho, hfi with
    | 0, ho, hfi =>
      have ho' : some _ = some o := ho
      cases ho'
      clear ho
      refine DoesG.toJoint ?_ (fun v' w' hφ' t' => hJ.keep t' (by decide) (by decide) _)
      have e0 := known_slot hk 0 (by kernel_rfl) (v := .pointer (some ⟨p, 0, none⟩)) rfl
      exact do_value (wanted_none rfl) (by rw [BigFrame.run_move (.tmp 0) rfl, e0]) rfl
    | 1, ho, hfi =>
      have ho' : some _ = some o := ho
      cases ho'
      clear ho
      refine DoesG.toJoint ?_ (fun v' w' hφ' t' => hJ.keep t' (by decide) (by decide) _)
      have e5 := has_const (has_dep hd 0 (by kernel_rfl)) rfl rfl rfl (c := (.pointer (some ⟨p, 0, none⟩)))
      exact do_value (wanted_none rfl) (v := (.pointer (some ⟨p, 0, none⟩))) (by unfold execOp; simp only [e5]; rfl) rfl
    | 2, ho, hfi =>
      have ho' : some _ = some o := ho
      cases ho'
      clear ho
      refine DoesG.toJoint ?_ (fun v' w' hφ' t' => hJ.keep t' (by decide) (by decide) _)
      have e6 := has_const (has_dep hd 1 (by kernel_rfl)) rfl rfl rfl (c := (.pointer (some ⟨p, 0, none⟩)))
      exact do_value (wanted_none rfl) (v := .pointer (some ⟨p, 0, none⟩)) (run_value rfl (by rw [e6]; simp [go_sem])) rfl
    | 3, ho, hfi =>
      have ho' : some _ = some o := ho
      cases ho'
      clear ho
      refine DoesG.toJoint ?_ (fun v' w' hφ' t' => hJ.keep t' (by decide) (by decide) _)
      have e7 := has_const (has_dep hd 2 (by kernel_rfl)) rfl rfl rfl (c := (.pointer (some ⟨p, 0, none⟩)))
      have c0 := (HCH.out.new ht).c0
      exact do_value (wanted_none rfl) (v := .slice (some ⟨gn, 0, none⟩) n cn) (run_value rfl (by rw [e7]; simp [go_sem, c0])) rfl
    | 4, ho, hfi =>
      have ho' : some _ = some o := ho
      cases ho'
      clear ho
      have e8 := has_const (has_dep hd 3 (by kernel_rfl)) rfl rfl rfl (c := (.slice (some ⟨gn, 0, none⟩) n cn))
      refine doJ_enter (wanted_none rfl) (f := 46) (args := #[(.slice (some ⟨gn, 0, none⟩) n cn)]) (by rw [run_go3 46 _ _ rfl, ent46]; simp [eval_c, e8]) ?_
      exact (clone_ints (HCH.out.new ht).next (iv_one _ _) hn5).mono fun e w2 ⟨g, c, he, hr, t, h1, h2⟩ => ⟨_, he, ⟨⟨g, c, rfl, own_down hr (Nat.zero_le _), by have := ht.size; omega⟩, hJ.made t (by decide) (by rw [hk.2.1]; simp) (fun g' hg' => by simp [Value.ownBlock] at hg'; subst hg'; exact ⟨h1, h2⟩)⟩, t⟩
    | 5, ho, hfi =>
      have ho' : some _ = some o := ho
      cases ho'
      clear ho
      refine DoesG.toJoint ?_ (fun v' w' hφ' t' => hJ.keep t' (by decide) (by decide) _)
      have e0 := known_slot hk 0 (by kernel_rfl) (v := .pointer (some ⟨p, 0, none⟩)) rfl
      exact do_value (wanted_none rfl) (by rw [BigFrame.run_move (.tmp 0) rfl, e0]) rfl
    | 6, ho, hfi =>
      have ho' : some _ = some o := ho
      cases ho'
      clear ho
      refine DoesG.toJoint ?_ (fun v' w' hφ' t' => hJ.keep t' (by decide) (by decide) _)
      have e10 := has_const (has_dep hd 5 (by kernel_rfl)) rfl rfl rfl (c := (.pointer (some ⟨p, 0, none⟩)))
      exact do_value (wanted_none rfl) (v := (.pointer (some ⟨p, 0, none⟩))) (by unfold execOp; simp only [e10]; rfl) rfl
    | 7, ho, hfi =>
      have ho' : some _ = some o := ho
      cases ho'
      clear ho
      refine DoesG.toJoint ?_ (fun v' w' hφ' t' => hJ.keep t' (by decide) (by decide) _)
      have e11 := has_const (has_dep hd 6 (by kernel_rfl)) rfl rfl rfl (c := (.pointer (some ⟨p, 0, none⟩)))
      exact do_value (wanted_none rfl) (v := .pointer (some ⟨p, 1, none⟩)) (run_value rfl (by rw [e11]; simp [go_sem])) rfl
    | 8, ho, hfi =>
      have ho' : some _ = some o := ho
      cases ho'
      clear ho
      refine DoesG.toJoint ?_ (fun v' w' hφ' t' => hJ.keep t' (by decide) (by decide) _)
      have e12 := has_const (has_dep hd 7 (by kernel_rfl)) rfl rfl rfl (c := (.pointer (some ⟨p, 1, none⟩)))
      have c0 := (HCH.out.new ht).c1
      exact do_value (wanted_none rfl) (v := .slice (some ⟨gw, 0, none⟩) n cw) (run_value rfl (by rw [e12]; simp [go_sem, c0])) rfl
    | 9, ho, hfi =>
      have ho' : some _ = some o := ho
      cases ho'
      clear ho
      have e13 := has_const (has_dep hd 8 (by kernel_rfl)) rfl rfl rfl (c := (.slice (some ⟨gw, 0, none⟩) n cw))
      refine doJ_enter (wanted_none rfl) (f := 46) (args := #[(.slice (some ⟨gw, 0, none⟩) n cw)]) (by rw [run_go3 46 _ _ rfl, ent46]; simp [eval_c, e13]) ?_
      exact (clone_ints (HCH.out.new ht).wher (iv_one _ _) hn5).mono fun e w2 ⟨g, c, he, hr, t, h1, h2⟩ => ⟨_, he, ⟨⟨g, c, rfl, own_down hr (Nat.zero_le _), by have := ht.size; omega⟩, hJ.made t (by decide) (by rw [hk.2.1]; simp) (fun g' hg' => by simp [Value.ownBlock] at hg'; subst hg'; exact ⟨h1, h2⟩)⟩, t⟩
    | 10, ho, hfi =>
      have ho' : some _ = some o := ho
      cases ho'
      clear ho
      refine DoesG.toJoint ?_ (fun v' w' hφ' t' => hJ.keep t' (by decide) (by decide) _)
      have e0 := known_slot hk 0 (by kernel_rfl) (v := .pointer (some ⟨p, 0, none⟩)) rfl
      exact do_value (wanted_none rfl) (by rw [BigFrame.run_move (.tmp 0) rfl, e0]) rfl
    | 11, ho, hfi =>
      have ho' : some _ = some o := ho
      cases ho'
      clear ho
      refine DoesG.toJoint ?_ (fun v' w' hφ' t' => hJ.keep t' (by decide) (by decide) _)
      have e15 := has_const (has_dep hd 10 (by kernel_rfl)) rfl rfl rfl (c := (.pointer (some ⟨p, 0, none⟩)))
      exact do_value (wanted_none rfl) (v := (.pointer (some ⟨p, 0, none⟩))) (by unfold execOp; simp only [e15]; rfl) rfl
    | 12, ho, hfi =>
      have ho' : some _ = some o := ho
      cases ho'
      clear ho
      refine DoesG.toJoint ?_ (fun v' w' hφ' t' => hJ.keep t' (by decide) (by decide) _)
      have e16 := has_const (has_dep hd 11 (by kernel_rfl)) rfl rfl rfl (c := (.pointer (some ⟨p, 0, none⟩)))
      exact do_value (wanted_none rfl) (v := .pointer (some ⟨p, 2, none⟩)) (run_value rfl (by rw [e16]; simp [go_sem])) rfl
    | 13, ho, hfi =>
      have ho' : some _ = some o := ho
      cases ho'
      clear ho
      refine DoesG.toJoint ?_ (fun v' w' hφ' t' => hJ.keep t' (by decide) (by decide) _)
      have e17 := has_const (has_dep hd 12 (by kernel_rfl)) rfl rfl rfl (c := (.pointer (some ⟨p, 2, none⟩)))
      have c0 := (HCH.out.new ht).c2
      exact do_value (wanted_none rfl) (v := .slice (some ⟨gl, 0, none⟩) k cl) (run_value rfl (by rw [e17]; simp [go_sem, c0])) rfl
    | 14, ho, hfi =>
      have ho' : some _ = some o := ho
      cases ho'
      clear ho
      have e18 := has_const (has_dep hd 13 (by kernel_rfl)) rfl rfl rfl (c := (.slice (some ⟨gl, 0, none⟩) k cl))
      refine doJ_enter (wanted_none rfl) (f := 47) (args := #[(.slice (some ⟨gl, 0, none⟩) k cl)]) (by rw [run_go3 47 _ _ rfl, ent47]; simp [eval_c, e18]) ?_
      exact (clone_ends (HCH.out.new ht).ends (iv_one _ _) hk5).mono fun e w2 ⟨g, c, he, hr, t, h1, h2⟩ => ⟨_, he, ⟨⟨g, c, rfl, own_down hr (Nat.zero_le _), by have := ht.size; omega⟩, hJ.made t (by decide) (by rw [hk.2.1]; simp) (fun g' hg' => by simp [Value.ownBlock] at hg'; subst hg'; exact ⟨h1, h2⟩)⟩, t⟩
    | 15, ho, hfi =>
      have ho' : some _ = some o := ho
      cases ho'
      clear ho
      refine DoesG.toJoint ?_ (fun v' w' hφ' t' => hJ.keep t' (by decide) (by decide) _)
      obtain ⟨v9, e9, h9⟩ := has_pred (has_dep hd 4 (by kernel_rfl)) rfl rfl rfl (φ := RowNew w0 3 1 n (iv N n))
      obtain ⟨v14, e14, h14⟩ := has_pred (has_dep hd 9 (by kernel_rfl)) rfl rfl rfl (φ := RowNew w0 3 1 n (iv V n))
      obtain ⟨v19, e19, h19⟩ := has_pred (has_dep hd 14 (by kernel_rfl)) rfl rfl rfl (φ := RowNew w0 96 3 k (iv E (k * 3)))
      obtain ⟨g1, d1, rfl, r1, l1⟩ := h9
      obtain ⟨g2, d2, rfl, r2, l2⟩ := h14
      obtain ⟨g3, d3, rfl, r3, l3⟩ := h19
      have f4 := dep_f hf 4 (by kernel_rfl)
      have f9 := dep_f hf 9 (by kernel_rfl)
      have f14 := dep_f hf 14 (by kernel_rfl)
      exact do_value (wanted_none rfl) (v := .agg #[.slice (some ⟨g1, 0, none⟩) n d1, .slice (some ⟨g2, 0, none⟩) n d2, .slice (some ⟨g3, 0, none⟩) k d3]) (run_value rfl (by simp only [List.map_toArray, List.map_cons, List.map_nil, e9, e14, e19]; exact buildC _ _ _ _ _ _ _ _ w)) ⟨g1, d1, g2, d2, g3, d3, rfl, r1, r2, r3, l1, l2, l3, hJ.of (x := (4, 9)) (y := (9, 14)) (by decide) (by decide) (by decide) f4 f9 e9 e14, hJ.of (x := (4, 9)) (y := (14, 19)) (by decide) (by decide) (by decide) f4 f14 e9 e19, hJ.of (x := (9, 14)) (y := (14, 19)) (by decide) (by decide) (by decide) f9 f14 e14 e19⟩
    | 16, ho, hfi =>
      have ho' : some _ = some o := ho
      cases ho'
      clear ho
      refine DoesG.toJoint ?_ (fun v' w' hφ' t' => hJ.keep t' (by decide) (by decide) _)
      obtain ⟨v20, e20, h20⟩ := has_pred (has_dep hd 15 (by kernel_rfl)) rfl rfl rfl (φ := PartsC w0 n k N V E)
      obtain ⟨g1, d1, g2, d2, g3, d3, rfl, r1, r2, r3, l1, l2, l3, n1, n2, n3⟩ := h20
      exact .inl ⟨wanted_none rfl, by rw [run_boxC (a := ac) (o := _) (s := 20) rfl e20]; exact ⟨chainNew_box r1 r2 r3 l1 l2 l3 n1 n2 n3 ht.size, (Touch.refl [] w).alloc _⟩⟩
    | 17, ho, hfi =>
      have ho' : some _ = some o := ho
      cases ho'
      clear ho
      refine DoesG.toJoint ?_ (fun v' w' hφ' t' => hJ.keep t' (by decide) (by decide) _)
      obtain ⟨v21, e21, h21⟩ := has_pred (has_dep hd 16 (by kernel_rfl)) rfl rfl rfl (φ := ChainNew w0 n k N V E)
      exact do_value (wanted_none rfl) (by rw [BigFrame.run_assign (.tmp 21) rfl, e21]) h21
    | q + 18, ho, hfi => exact absurd ho (by simp)
  · intro x w9 f T9 hJ hf hkn
    obtain ⟨_, _, _, _, _, h2, _⟩ := hkn
    simp only [putL, Act.put, List.setIfInBounds_toArray, List.set_cons_succ, List.set_cons_zero]
    have H2 := Lib.hid h2
    have HT := Lib.hid T9
    clear hJ hf T9 h2
    go_wp2_with fail
    go_ret
    exact ⟨_, rfl, H2.out, HT.out⟩
end Go.Proofs.Ytalkpoeliekbfaa
