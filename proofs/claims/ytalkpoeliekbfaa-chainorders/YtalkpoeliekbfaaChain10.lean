/-
  Layer 7 (chain): New.
-/
import Derived.Test.YtalkpoeliekbfaaChain9
namespace Go.Proofs.Ytalkpoeliekbfaa
open Go.ChangeShapes Go.WideShapes Go.ChangeAt Go.RowKit Go.Deep
set_option linter.unusedVariables false
set_option linter.unusedSimpArgs false

theorem ent40 (args : Array Value) (w : World) : (callFunc 40 args).run Try.prog w = .ok (.enter 40 args) w := by
  simp [callFunc, Try.func40]
  rfl
def LitNew (v : Value) (w : World) : Prop := ∃ b, v = .slice (some ⟨b, 0, none⟩) 1 1 ∧ w.cell? ⟨b, 0, none⟩ = some (.int .i64 (-1))
theorem LitNew.stab : Stab LitNew := fun v w w' ⟨b, h0, h1⟩ t => ⟨b, h0, (t.cell (a := ⟨b, 0, none⟩) (cell_lt h1) (by simp)).trans h1⟩
theorem litNew_new (w : World) : LitNew (.slice (some ⟨w.heap.size, 0, none⟩) 1 1) (w.alloc (.cells #[.int .i64 (-1)] 3)) := ⟨_, rfl, (Box1.new w 3 (.int .i64 (-1))).c0⟩
theorem run_lit1 {a : Act} {o : Oper} {w : World} (h : o.op = .buildSlice 40 1 #[(0, .const (.int .i64 (-1)))]) : (execOp a.eval o).run Try.prog w = .ok (.value (.slice (some ⟨w.heap.size, 0, none⟩) 1 1)) (w.alloc (.cells #[.int .i64 (-1)] 3)) := by
  unfold execOp
  rw [h]
  simp [go_sem]
theorem own_rowM {w : World} {g n : Nat} (h : RowM w g n n) (hn : n ≤ 5000) : w.ownsRow 0 3 1 (.slice (some ⟨g, 0, none⟩) n n) n (iv (fun _ => -1) n) := by
  have e : rowM n n = iv (fun _ => -1) n := by
    unfold rowM iv
    rw [Nat.sub_self, List.replicate_zero, List.append_nil, List.map_const', List.length_range]
  refine ⟨by rw [iv_length]; omega, .inr ⟨g, n, _, rfl, Nat.zero_le _, h, Nat.le_refl _, by unfold maxLen; omega, by simp [rowM_length (Nat.le_refl n)], ?_⟩⟩
  rw [← e, Nat.mul_one]
  simp [rowM]
theorem made_ends (k : Nat) : (madeCells #[.int .i64 0, .int .i64 0, .int .i64 0] (k * 3)).toList = iv (fun _ => 0) (k * 3) := by
  apply List.ext_getElem?
  intro j
  by_cases hj : j < k * 3
  · rw [iv_get _ hj]
    have : j % 3 = 0 ∨ j % 3 = 1 ∨ j % 3 = 2 := by omega
    simp [madeCells, hj]
    rcases this with h | h | h <;> simp [h]
  · simp [madeCells, iv, hj]
theorem run_makeE {a : Act} {o : Oper} {k : Nat} {w : World} (h : o.op = .makeSlice 89 (.tmp 25) (.tmp 25)) (hv : a.eval (.tmp 25) = .int .i64 (k : Int)) (hk : k ≤ 5000) :
    (execOp a.eval o).run Try.prog w = .ok (.value (.slice (some ⟨w.heap.size, 0, none⟩) k k)) (w.alloc (.cells (madeCells #[.int .i64 0, .int .i64 0, .int .i64 0] (k * 3)) 96)) := by
  obtain ⟨i0, hi0, hz0, hz1, hz2⟩ := info_parts ends_info
  have := run_make (P := Try.prog) w 89 96 i0 _ Try.underlying89 hi0 hz0 .i64 .i64 k k (by omega) (by omega) (by rw [hz2]; omega) (by omega)
  rw [hz1] at this
  simp only [Int.toNat_natCast, Value.cells] at this
  unfold execOp
  rw [h]
  simp only [hv]
  simp [go_sem, this]
theorem endsNew_made {w0 w : World} (k : Nat) (hk : k ≤ 5000) (hs : w0.heap.size ≤ w.heap.size) : RowNew w0 96 3 k (iv (fun _ => 0) (k * 3)) (.slice (some ⟨w.heap.size, 0, none⟩) k k) (w.alloc (.cells (madeCells #[.int .i64 0, .int .i64 0, .int .i64 0] (k * 3)) 96)) := by
  refine ⟨_, _, rfl, ⟨by rw [iv_length], .inr ⟨_, k, _, rfl, Nat.zero_le _, heap_alloc_new w _, Nat.le_refl _, by unfold maxLen; omega, size_madeCells _ _, ?_⟩⟩, hs⟩
  rw [made_ends, iv_take _ (Nat.le_refl _)]
theorem newC_bad (n k : Int) (w : World) (h : n < 1 ∨ 4096 < n ∨ k < 1 ∨ 256 < k) : Calls Try.prog 7 #[.int .i64 n, .int .i64 k] w fun e w' => e = .returned (.pointer none) ∧ w' = w := by
  by_cases z0 : n < 1
  · have y0 : decide (n < 1) = true := by simpa using z0
    clear h z0
    go_enter Try.func7, Try.ntmps7
    go_wp2_with fail
    go_ret
    exact ⟨rfl, rfl⟩
  · have y0 : decide (n < 1) = false := by simpa using z0
    by_cases z1 : 4096 < n
    · have y1 : decide (4096 < n) = true := by simpa using z1
      clear h z0 z1
      go_enter Try.func7, Try.ntmps7
      go_wp2_with fail
      go_ret
      exact ⟨rfl, rfl⟩
    · have y1 : decide (4096 < n) = false := by simpa using z1
      by_cases z2 : k < 1
      · have y2 : decide (k < 1) = true := by simpa using z2
        clear h z0 z1 z2
        go_enter Try.func7, Try.ntmps7
        go_wp2_with fail
        go_ret
        exact ⟨rfl, rfl⟩
      · have y2 : decide (k < 1) = false := by simpa using z2
        by_cases z3 : 256 < k
        · have y3 : decide (256 < k) = true := by simpa using z3
          clear h z0 z1 z2 z3
          go_enter Try.func7, Try.ntmps7
          go_wp2_with fail
          go_ret
          exact ⟨rfl, rfl⟩
        · have y3 : decide (256 < k) = false := by simpa using z3
          omega
set_option maxRecDepth 100000 in
set_option maxHeartbeats 3200000 in
theorem newC_any (n k : Nat) (w : World) (hn1 : 1 ≤ n) (hn2 : n ≤ 4096) (hk1 : 1 ≤ k) (hk2 : k ≤ 256) :
    Calls Try.prog 7 #[.int .i64 (n : Int), .int .i64 (k : Int)] w fun e w' => ∃ v, e = .returned v ∧ ChainNew w n k (fun _ => -1) (fun _ => -1) (fun _ => 0) v w' ∧ Touch [] w w' := by
  have y0 : decide ((n : Int) < 1) = false := by simp; omega
  have y1 : decide (4096 < (n : Int)) = false := by simp; omega
  have y2 : decide ((k : Int) < 1) = false := by simp; omega
  have y3 : decide (256 < (k : Int)) = false := by simp; omega
  have hn5 : n ≤ 5000 := by omega
  have hk5 : k ≤ 5000 := by omega
  generalize hw0 : w = w0 at *
  go_enter Try.func7, Try.ntmps7
  go_upto_region 3 with fail
  refine wp_region_joint (wd := w0) [] (Apart [(2, 21), (5, 24), (7, 26)]) (Leaf.pred (LitNew) :: Leaf.const (.int .i64 (n : Int)) :: Leaf.pred (RowNew w0 3 1 n (iv (fun _ => -1) n)) :: Leaf.pred (LitNew) :: Leaf.const (.int .i64 (n : Int)) :: Leaf.pred (RowNew w0 3 1 n (iv (fun _ => -1) n)) :: Leaf.const (.int .i64 (k : Int)) :: Leaf.pred (RowNew w0 96 3 k (iv (fun _ => 0) (k * 3))) :: Leaf.pred (PartsC w0 n k (fun _ => -1) (fun _ => -1) (fun _ => 0)) :: Leaf.pred (ChainNew w0 n k (fun _ => -1) (fun _ => -1) (fun _ => 0)) :: Leaf.pred (ChainNew w0 n k (fun _ => -1) (fun _ => -1) (fun _ => 0)) :: []) (by kernel_rfl) (by kernel_rfl) (by kernel_rfl) ((Touch.refl _ _).drew) (⟨LitNew.stab, RowNew.stab, LitNew.stab, RowNew.stab, RowNew.stab, PartsC.stab, ChainNew.stab, ChainNew.stab, trivial⟩) (fun f hf => apart_start hf) ?_ ?_
  · intro i o ho f ac w hfi ht hJ hk hf hd
    match i, ho, hfi with
    | 0, ho, hfi =>
      have ho' : some _ = some o := ho
      cases ho'
      clear ho
      refine DoesG.toJoint ?_ (fun v' w' hφ' t' => hJ.keep t' (by decide) (by decide) _)
      exact .inl ⟨wanted_none rfl, by rw [run_lit1 rfl]; exact ⟨litNew_new w, (Touch.refl [] w).alloc _⟩⟩
    | 1, ho, hfi =>
      have ho' : some _ = some o := ho
      cases ho'
      clear ho
      refine DoesG.toJoint ?_ (fun v' w' hφ' t' => hJ.keep t' (by decide) (by decide) _)
      have e0 := known_slot hk 0 (by kernel_rfl) (v := .int .i64 (n : Int)) rfl
      exact do_value (wanted_none rfl) (by rw [BigFrame.run_move (.tmp 0) rfl, e0]) rfl
    | 2, ho, hfi =>
      have ho' : some _ = some o := ho
      cases ho'
      clear ho
      obtain ⟨v19, e19, h19⟩ := has_pred (has_dep hd 0 (by kernel_rfl)) rfl rfl rfl (φ := LitNew)
      have e20 := has_const (has_dep hd 1 (by kernel_rfl)) rfl rfl rfl (c := (.int .i64 (n : Int)))
      obtain ⟨b, rfl, hb⟩ := h19
      refine doJ_enter (wanted_none rfl) (f := 40) (args := #[.slice (some ⟨b, 0, none⟩) 1 1, .int .i64 (n : Int)]) (by rw [run_go3 40 _ _ rfl, ent40]; simp [eval_c, e19, e20]) ?_
      exact (repeat_one n hn1 hn5 hb).mono fun e w2 ⟨g, he, hr, h1, t⟩ => ⟨_, he, ⟨⟨g, n, rfl, own_rowM hr hn5, by have := ht.size; omega⟩, hJ.made t (by decide) (by rw [hk.2.1]; simp) (fun g' hg' => by simp [Value.ownBlock] at hg'; subst hg'; exact ⟨h1, hr.lt⟩)⟩, t⟩
    | 3, ho, hfi =>
      have ho' : some _ = some o := ho
      cases ho'
      clear ho
      refine DoesG.toJoint ?_ (fun v' w' hφ' t' => hJ.keep t' (by decide) (by decide) _)
      exact .inl ⟨wanted_none rfl, by rw [run_lit1 rfl]; exact ⟨litNew_new w, (Touch.refl [] w).alloc _⟩⟩
    | 4, ho, hfi =>
      have ho' : some _ = some o := ho
      cases ho'
      clear ho
      refine DoesG.toJoint ?_ (fun v' w' hφ' t' => hJ.keep t' (by decide) (by decide) _)
      have e0 := known_slot hk 0 (by kernel_rfl) (v := .int .i64 (n : Int)) rfl
      exact do_value (wanted_none rfl) (by rw [BigFrame.run_move (.tmp 0) rfl, e0]) rfl
    | 5, ho, hfi =>
      have ho' : some _ = some o := ho
      cases ho'
      clear ho
      obtain ⟨v22, e22, h22⟩ := has_pred (has_dep hd 3 (by kernel_rfl)) rfl rfl rfl (φ := LitNew)
      have e23 := has_const (has_dep hd 4 (by kernel_rfl)) rfl rfl rfl (c := (.int .i64 (n : Int)))
      obtain ⟨b, rfl, hb⟩ := h22
      refine doJ_enter (wanted_none rfl) (f := 40) (args := #[.slice (some ⟨b, 0, none⟩) 1 1, .int .i64 (n : Int)]) (by rw [run_go3 40 _ _ rfl, ent40]; simp [eval_c, e22, e23]) ?_
      exact (repeat_one n hn1 hn5 hb).mono fun e w2 ⟨g, he, hr, h1, t⟩ => ⟨_, he, ⟨⟨g, n, rfl, own_rowM hr hn5, by have := ht.size; omega⟩, hJ.made t (by decide) (by rw [hk.2.1]; simp) (fun g' hg' => by simp [Value.ownBlock] at hg'; subst hg'; exact ⟨h1, hr.lt⟩)⟩, t⟩
    | 6, ho, hfi =>
      have ho' : some _ = some o := ho
      cases ho'
      clear ho
      refine DoesG.toJoint ?_ (fun v' w' hφ' t' => hJ.keep t' (by decide) (by decide) _)
      have e1 := known_slot hk 1 (by kernel_rfl) (v := .int .i64 (k : Int)) rfl
      exact do_value (wanted_none rfl) (by rw [BigFrame.run_move (.tmp 1) rfl, e1]) rfl
    | 7, ho, hfi =>
      have ho' : some _ = some o := ho
      cases ho'
      clear ho
      have e25 := has_const (has_dep hd 6 (by kernel_rfl)) rfl rfl rfl (c := (.int .i64 (k : Int)))
      exact doJ_made (wanted_none rfl) (run_makeE (k := k) rfl e25 hk5) ((Touch.refl [] w).alloc _) ⟨endsNew_made k hk5 ht.size, hJ.made ((Touch.refl [] w).alloc _) (by decide) (by rw [hk.2.1]; simp) (fun g' hg' => by simp [Value.ownBlock] at hg'; subst hg'; exact ⟨Nat.le_refl _, by simp⟩)⟩
    | 8, ho, hfi =>
      have ho' : some _ = some o := ho
      cases ho'
      clear ho
      refine DoesG.toJoint ?_ (fun v' w' hφ' t' => hJ.keep t' (by decide) (by decide) _)
      obtain ⟨v21, e21, h21⟩ := has_pred (has_dep hd 2 (by kernel_rfl)) rfl rfl rfl (φ := RowNew w0 3 1 n (iv (fun _ => -1) n))
      obtain ⟨v24, e24, h24⟩ := has_pred (has_dep hd 5 (by kernel_rfl)) rfl rfl rfl (φ := RowNew w0 3 1 n (iv (fun _ => -1) n))
      obtain ⟨v26, e26, h26⟩ := has_pred (has_dep hd 7 (by kernel_rfl)) rfl rfl rfl (φ := RowNew w0 96 3 k (iv (fun _ => 0) (k * 3)))
      obtain ⟨g1, d1, rfl, r1, l1⟩ := h21
      obtain ⟨g2, d2, rfl, r2, l2⟩ := h24
      obtain ⟨g3, d3, rfl, r3, l3⟩ := h26
      have f2 := dep_f hf 2 (by kernel_rfl)
      have f5 := dep_f hf 5 (by kernel_rfl)
      have f7 := dep_f hf 7 (by kernel_rfl)
      exact do_value (wanted_none rfl) (v := .agg #[.slice (some ⟨g1, 0, none⟩) n d1, .slice (some ⟨g2, 0, none⟩) n d2, .slice (some ⟨g3, 0, none⟩) k d3]) (run_value rfl (by simp only [List.map_toArray, List.map_cons, List.map_nil, e21, e24, e26]; exact buildC _ _ _ _ _ _ _ _ w)) ⟨g1, d1, g2, d2, g3, d3, rfl, r1, r2, r3, l1, l2, l3, hJ.of (x := (2, 21)) (y := (5, 24)) (by decide) (by decide) (by decide) f2 f5 e21 e24, hJ.of (x := (2, 21)) (y := (7, 26)) (by decide) (by decide) (by decide) f2 f7 e21 e26, hJ.of (x := (5, 24)) (y := (7, 26)) (by decide) (by decide) (by decide) f5 f7 e24 e26⟩
    | 9, ho, hfi =>
      have ho' : some _ = some o := ho
      cases ho'
      clear ho
      refine DoesG.toJoint ?_ (fun v' w' hφ' t' => hJ.keep t' (by decide) (by decide) _)
      obtain ⟨v27, e27, h27⟩ := has_pred (has_dep hd 8 (by kernel_rfl)) rfl rfl rfl (φ := PartsC w0 n k (fun _ => -1) (fun _ => -1) (fun _ => 0))
      obtain ⟨g1, d1, g2, d2, g3, d3, rfl, r1, r2, r3, l1, l2, l3, n1, n2, n3⟩ := h27
      exact .inl ⟨wanted_none rfl, by rw [run_boxC (a := ac) (o := _) (s := 27) rfl e27]; exact ⟨chainNew_box r1 r2 r3 l1 l2 l3 n1 n2 n3 ht.size, (Touch.refl [] w).alloc _⟩⟩
    | 10, ho, hfi =>
      have ho' : some _ = some o := ho
      cases ho'
      clear ho
      refine DoesG.toJoint ?_ (fun v' w' hφ' t' => hJ.keep t' (by decide) (by decide) _)
      obtain ⟨v28, e28, h28⟩ := has_pred (has_dep hd 9 (by kernel_rfl)) rfl rfl rfl (φ := ChainNew w0 n k (fun _ => -1) (fun _ => -1) (fun _ => 0))
      exact do_value (wanted_none rfl) (by rw [BigFrame.run_assign (.tmp 28) rfl, e28]) h28
    | q + 11, ho, hfi => exact absurd ho (by simp)
  · intro x w9 f T9 hJ hf hkn
    obtain ⟨_, _, _, _, _, _, _, h2, _⟩ := hkn
    simp only [putL, Act.put, List.setIfInBounds_toArray, List.set_cons_succ, List.set_cons_zero]
    have H2 := Lib.hid h2
    have HT := Lib.hid T9
    clear hJ hf T9 h2
    go_wp2_with fail
    go_ret
    exact ⟨_, rfl, H2.out, HT.out⟩
end Go.Proofs.Ytalkpoeliekbfaa
