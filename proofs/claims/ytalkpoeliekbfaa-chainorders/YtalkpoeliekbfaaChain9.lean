/-
  slices.Repeat of a row of one, -1.
-/
import Derived.Test.YtalkpoeliekbfaaChain8
import Derived.Laws.CopyRow
import Derived.Deep.LoopGhost
namespace Go.Proofs.Ytalkpoeliekbfaa
open Go.ChangeShapes Go.WideShapes Go.ChangeAt Go.RowKit Go.Deep
set_option linter.unusedVariables false
set_option linter.unusedSimpArgs false

theorem mul_one_any (n : Nat) (hn : n ≤ 5000) (w : World) : Calls Try.prog 62 #[.int .u64 1, .int .u64 (n : Int)] w fun e w' => e = .returned (.tuple #[.int .u64 0, .int .u64 (n : Int)]) ∧ w' = w := by
  have D := Lib.hid (mul64_one n hn w)
  go_enter Try.func62, Try.ntmps62
  go_wp2_with fail
  refine (D.out).mono ?_
  rintro e w1 ⟨rfl, rfl⟩
  go_wp2
  go_ret2
  exact ⟨rfl, rfl⟩
/-- A row of n integers, the first m of them -1, the others 0. -/
def rowM (n m : Nat) : List Value := List.replicate m (.int .i64 (-1)) ++ List.replicate (n - m) (.int .i64 0)
def RowM (w : World) (g n m : Nat) : Prop := w.heap[g]? = some (.cells (rowM n m).toArray 3 (0, 0))
theorem rowM_length {n m : Nat} (h : m ≤ n) : (rowM n m).length = n := by simp [rowM]; omega
section
variable {w w' : World} {g n m q : Nat}
theorem RowM.lt (h : RowM w g n m) : g < w.heap.size := (Array.getElem?_eq_some_iff.1 h).1
theorem RowM.carry {S : List Nat} (h : RowM w g n m) (t : Touch S w w') (hg : g ∉ S) : RowM w' g n m := (t.block g h.lt hg).trans h
theorem RowM.cell (h : RowM w g n m) (i : Nat) : w.cell? ⟨g, i, none⟩ = (rowM n m)[i]? := by
  rw [cell_of_row w g i _ _ (0, 0) h]
  simp
theorem touch_setR (w : World) (g : Nat) (cs : Array Value) : Touch [g] w (w.setRow g cs) := ⟨rfl, rfl, rfl, by simp [World.setRow], fun b _ hb => setRow_other w g b cs (by simpa using hb)⟩
theorem cint_size : (Try.prog.info? 3).map (·.size) = some 1 := by kernel_rfl
theorem rowM_copy (hq : m + q ≤ n) : List.take m (rowM n m) ++ List.replicate q (Value.int .i64 (-1)) ++ List.drop (m + q) (rowM n m) = rowM n (m + q) := by
  unfold rowM
  rw [List.take_left' (by simp), List.drop_append, List.drop_eq_nil_of_le (by simp), List.nil_append, List.drop_replicate, List.replicate_append_replicate, List.length_replicate]
  congr 2
  omega
/-- The first m go into the next ones. -/
theorem copyM (h : RowM w g n m) (hm : m < n) (hq : q = min m (n - m)) (ty : TypeId) :
    ∃ w', (Builtin.copy_ #[40, 40] ty #[.slice (some ⟨g, m, none⟩) (n - m) (n - m), .slice (some ⟨g, 0, none⟩) m n]).run Try.prog w = .ok (.int .i64 (q : Int)) w' ∧ RowM w' g n (m + q) ∧ Touch [g] w w' := by
  have hlen : (List.replicate q (Value.int .i64 (-1))).length = Nat.min m (n - m) := by simp [hq]
  have hr := run_copy_row (P := Try.prog) w 40 40 ty 3 g m (n - m) (n - m) ⟨g, 0, none⟩ m n (rowM n m).toArray 3 (List.replicate q (.int .i64 (-1))) Try.underlying40 cint_size h hlen
    (fun j v hv => by
      have hj := (List.getElem?_eq_some_iff.1 hv).1
      rw [List.length_replicate] at hj
      rw [show (⟨g, 0, none⟩ : Addr).add j = ⟨g, j, none⟩ by unfold Addr.add; split <;> simp_all, h.cell]
      unfold rowM
      rw [List.getElem?_append_left (by simp; omega)]
      rw [List.getElem?_replicate] at hv ⊢
      rw [if_pos hj] at hv
      rw [if_pos (by omega)]
      exact hv) (by simp [rowM]; omega) (fun v hv => by rw [List.eq_of_mem_replicate hv]; rfl)
  have hl : List.take m (rowM n m).toArray.toList ++ List.replicate q (Value.int .i64 (-1)) ++ List.drop (m + (List.replicate q (Value.int .i64 (-1))).length) (rowM n m).toArray.toList = rowM n (m + q) := by
    rw [List.length_replicate]
    exact rowM_copy (by omega)
  rw [hl, List.length_replicate] at hr
  exact ⟨w.setRow g (rowM n (m + q)).toArray, hr, setRow_heap w g _ _ 3 (0, 0) h, touch_setR w g _⟩
/-- A round's state, by what is through: slot 8 before it is assigned, the row before and behind the copy. -/
def RepJ (g n m q : Nat) (f : Nat → Bool) (a : Act) (w : World) : Prop :=
  (f 9 = true → ∀ j, j < 9 → f j = true) ∧ (f 9 = false → a.eval (.tmp 8) = .int .i64 (m : Int)) ∧ (f 7 = false → RowM w g n m) ∧ (f 7 = true → RowM w g n (m + q))
section
variable {f : Nat → Bool} {a : Act} {i d : Nat}
theorem repJ_start (hf : ∀ j, f j = false) (h8 : a.eval (.tmp 8) = .int .i64 (m : Int)) (h : RowM w g n m) : RepJ g n m q f a w.drew := by
  refine ⟨fun h9 => ?_, fun _ => h8, fun _ => h, fun h7 => ?_⟩
  · rw [hf] at h9; cases h9
  · rw [hf] at h7; cases h7
theorem RepJ.nine (h : RepJ g n m q f a w) (hi : i < 9) (hfi : f i = false) : f 9 = false := by
  cases h9 : f 9
  · rfl
  · rw [h.1 h9 i hi] at hfi
    cases hfi
theorem RepJ.slot (h : RepJ g n m q f a w) (h9 : f 9 = false) : a.eval (.tmp 8) = .int .i64 (m : Int) := h.2.1 h9
theorem eval_put_other {a : Act} {d e : Nat} (h : d ≠ e) (v : Value) : (a.put (some d) v).eval (.tmp e) = a.eval (.tmp e) := by
  simp only [Act.eval]
  have := getD_put_other (a := a) h v
  simpa [Array.getD_eq_getD_getElem?] using this
theorem RepJ.keep (h : RepJ g n m q f a w) (t : Touch [] w w') (hd : d ≠ 8) (hi : i ≠ 7) (hi9 : i < 9) (hfi : f i = false) (v : Value) : RepJ g n m q (mark f i) (a.put (some d) v) w' := by
  have h9 := h.nine hi9 hfi
  have e9 : mark f i 9 = false := by rw [mark_other f (by omega)]; exact h9
  have e7 : mark f i 7 = f 7 := mark_other f (Ne.symm hi)
  refine ⟨fun hh => ?_, fun _ => ?_, fun h7 => ?_, fun h7 => ?_⟩
  · rw [e9] at hh; cases hh
  · rw [eval_put_other hd]
    exact h.2.1 h9
  · rw [e7] at h7
    exact (h.2.2.1 h7).carry t (by simp)
  · rw [e7] at h7
    exact (h.2.2.2 h7).carry t (by simp)
theorem RepJ.last (h : RepJ g n m q f a w) (t : Touch [] w w') (hall : ∀ j, j < 9 → f j = true) (v : Value) : RepJ g n m q (mark f 9) (a.put (some 8) v) w' := by
  have e7 : mark f 9 7 = f 7 := mark_other f (by omega)
  refine ⟨fun _ j hj => ?_, fun hh => ?_, fun h7 => ?_, fun h7 => ?_⟩
  · rw [mark_other f (by omega)]
    exact hall j hj
  · rw [mark_same] at hh
    cases hh
  · rw [e7] at h7
    exact (h.2.2.1 h7).carry t (by simp)
  · rw [e7] at h7
    exact (h.2.2.2 h7).carry t (by simp)
theorem dep_all9 {o : Oper} (hf : ∀ e ∈ o.after, Region.binds .any e = true → f e.on = true) (hb : ((List.range 9).all fun j => o.after.any fun e => (e.on == j) && Region.binds .any e) = true) (j : Nat) (hj : j < 9) : f j = true :=
  dep_f hf j ((List.all_eq_true.1 hb) j (by simpa using hj))
theorem doJ_copy {ops : Array Oper} {o : Oper} {L : List Leaf} {s x : Tmp} (hw : Region.wanted o (yielded ops a.tmps) = true) (ho : o.op = .call { callee := .builtin .copy, args := #[.tmp s, .tmp x], argTypes := #[40, 40] } ∧ o.dst = some 45 ∧ okL L 7 = fun v _ => v = .int .i64 (q : Int))
    (hs : a.eval (.tmp s) = .slice (some ⟨g, m, none⟩) (n - m) (n - m)) (hx : a.eval (.tmp x) = .slice (some ⟨g, 0, none⟩) m n) (h : RepJ g n m q f a w) (hfi : f 7 = false) (hm : 1 ≤ m ∧ m < n ∧ n ≤ 5000 ∧ q = min m (n - m)) :
    DoesJ Try.prog ops [g] (fun v w' => okL L 7 v w' ∧ RepJ g n m q (mark f 7) (a.put o.dst v) w') (fun _ => True) o a w := by
  obtain ⟨w', hr, h1, h2⟩ := copyM (h.2.2.1 hfi) hm.2.1 hm.2.2.2 o.type
  refine .inl ⟨hw, ?_⟩
  unfold execOp
  simp only [ho.1, resolve, invoke, builtin, Sem.run_bind, Sem.run_pure, Result.andThen_ok, List.map_toArray, List.map_cons, List.map_nil, hs, hx, hr]
  have h9 := h.nine (by omega) hfi
  refine ⟨⟨by rw [ho.2.2], fun hh => ?_, fun _ => ?_, fun h7 => ?_, fun _ => h1⟩, trivial, h2⟩
  · rw [mark_other f (by omega), h9] at hh
    cases hh
  · rw [ho.2.1, eval_put_other (by decide)]
    exact h.2.1 h9
  · rw [mark_same] at h7
    cases h7
end
/-- What the copy of a round leaves. -/
def RowQ (g n m q : Nat) (v : Value) (w : World) : Prop := v = .int .i64 (q : Int) ∧ RowM w g n m
theorem rowQ_stab : StabS [] (RowQ g n m q) := fun v w w' h t => ⟨h.1, h.2.carry t (by simp)⟩
theorem doS_copy {ops : Array Oper} {o : Oper} {a : Act} {s x : Tmp} (hw : Region.wanted o (yielded ops a.tmps) = true) (ho : o.op = .call { callee := .builtin .copy, args := #[.tmp s, .tmp x], argTypes := #[40, 40] })
    (hs : a.eval (.tmp s) = .slice (some ⟨g, m, none⟩) (n - m) (n - m)) (hx : a.eval (.tmp x) = .slice (some ⟨g, 0, none⟩) m n) (h : RowM w g n m) (hm : 1 ≤ m ∧ m < n ∧ n ≤ 5000 ∧ q = min m (n - m)) : DoesS Try.prog ops [g] (RowQ g n (m + q) q) o a w := by
  obtain ⟨w', hr, h1, h2⟩ := copyM h hm.2.1 hm.2.2.2 o.type
  refine .inl ⟨hw, ?_⟩
  unfold execOp
  simp only [ho, resolve, invoke, builtin, Sem.run_bind, Sem.run_pure, Result.andThen_ok, List.map_toArray, List.map_cons, List.map_nil, hs, hx, hr]
  exact ⟨⟨rfl, h1⟩, h2⟩
theorem copy1 {b : Nat} (h : RowM w g n 0) (hn : 1 ≤ n) (hb : w.cell? ⟨b, 0, none⟩ = some (.int .i64 (-1))) :
    ∃ w', (∀ ty, (Builtin.copy_ #[40, 40] ty #[.slice (some ⟨g, 0, none⟩) n n, .slice (some ⟨b, 0, none⟩) 1 1]).run Try.prog w = .ok (.int .i64 1) w') ∧ RowM w' g n 1 ∧ Touch [g] w w' := by
  refine ⟨w.setRow g (rowM n 1).toArray, fun ty => ?_, setRow_heap w g _ _ 3 (0, 0) h, touch_setR w g _⟩
  have hr := run_copy_row (P := Try.prog) w 40 40 ty 3 g 0 n n ⟨b, 0, none⟩ 1 1 (rowM n 0).toArray 3 [.int .i64 (-1)] Try.underlying40 cint_size h (show 1 = Nat.min 1 n by simp [Nat.min_def]; omega)
    (fun j v hv => by
      match j, hv with
      | 0, hv => cases hv; exact hb) (by simp [rowM]; omega) (fun v hv => by simp at hv; subst hv; rfl)
  have hl : List.take 0 (rowM n 0).toArray.toList ++ [Value.int .i64 (-1)] ++ List.drop (0 + [Value.int .i64 (-1)].length) (rowM n 0).toArray.toList = rowM n 1 := by
    simp [rowM]
  rw [hl] at hr
  exact hr
theorem made_rowM (w : World) (n : Nat) : RowM (w.alloc (.cells (madeCells #[.int .i64 0] n) 3)) w.heap.size n 0 := by
  unfold RowM
  rw [heap_alloc_new]
  congr 2
  apply Array.ext'
  rw [toList_madeCells_one]
  simp [rowM]
set_option maxHeartbeats 1600000 in
set_option maxRecDepth 100000 in
theorem repeat_one (n : Nat) (h1 : 1 ≤ n) (hn : n ≤ 5000) {w : World} {b : Nat} (hb : w.cell? ⟨b, 0, none⟩ = some (.int .i64 (-1))) :
    Calls Try.prog 40 #[.slice (some ⟨b, 0, none⟩) 1 1, .int .i64 (n : Int)] w fun e w' => ∃ g, e = .returned (.slice (some ⟨g, 0, none⟩) n n) ∧ RowM w' g n n ∧ w.heap.size ≤ g ∧ Touch [] w w' := by
  have D := Lib.hid (mul_one_any n hn w)
  have hmk : (Instr.makeSlice 40 (.int .i64 (n : Int)) (.int .i64 (n : Int))).run Try.prog w = .ok (.slice (some ⟨w.heap.size, 0, none⟩) n n) (w.alloc (.cells (madeCells #[.int .i64 0] n) 3)) := by
    obtain ⟨i0, hi0, hz0, hz1, hz2⟩ := info_parts cint_info
    have := run_make (P := Try.prog) w 40 3 i0 _ Try.underlying40 hi0 hz0 .i64 .i64 n n (by omega) (by omega) (by rw [hz2]; omega) (by omega)
    rw [hz1] at this
    simpa [Value.cells] using this
  have wu : IntKind.u64.wrap (n : Int) = (n : Int) := by
    simp [IntKind.wrap, IntKind.signed, IntKind.bits]
    omega
  have lb : b < w.heap.size := cell_lt hb
  have t1 : Touch [] w (w.alloc (.cells (madeCells #[.int .i64 0] n) 3)) := (Touch.refl [] w).alloc _
  obtain ⟨w3, hcp, hr3, t3⟩ := copy1 (made_rowM w n) h1 ((t1.cell (a := ⟨b, 0, none⟩) lb (by simp)).trans hb)
  have HR3 := Lib.hid hr3
  have T3 := Lib.hid (t1.trans t3 (fun b hb => by simp at hb; subst hb; exact .inr (Nat.le_refl _)))
  have g1 : ¬ ((n : Int) < 0) := by omega
  have g2 : ¬ ((n : Int) > 9223372036854775807) := by omega
  clear hr3 t3 hb t1
  go_enter Try.func40, Try.ntmps40
  go_wp2_with fail
  refine (D.out).mono ?_
  rintro e w1 ⟨rfl, hw⟩
  rw [hw]
  clear hw w1
  go_wp2_with fail
  clear hcp hmk
  generalize hg : w.heap.size = g at *
  go_loopw [8] (fun i wr => ∃ m : Nat, 1 ≤ m ∧ m ≤ n ∧ i = .int .i64 (m : Int) ∧ RowM wr g n m ∧ Touch [] w wr) (fun i _ => n - (intOf i).toNat)
  case atStart => exact ⟨1, Nat.le_refl _, h1, rfl, HR3.out, T3.out⟩
  case round =>
    obtain ⟨m, hm1, hm2, rfl, hrow, ht⟩ := hrel
    have HRW := Lib.hid hrow
    have HT := Lib.hid ht
    clear hrow ht
    by_cases hlt : m < n
    · obtain ⟨q, hq⟩ : ∃ q, q = min m (n - m) := ⟨_, rfl⟩
      have HMN := Lib.hid (show 1 ≤ m ∧ m < n ∧ n ≤ 5000 ∧ q = min m (n - m) from ⟨hm1, hlt, hn, hq⟩)
      have HQ := Lib.hid (show q ≤ 5000 ∧ 1 ≤ q ∧ m + q ≤ n by omega)
      clear hq
      go_upto_region 9 with fail
      refine wp_region_joint (wd := _) [g] (RepJ g n m q) (Leaf.const (.int .i64 (m : Int)) :: Leaf.const (.slice (some ⟨g, 0, none⟩) n n) :: Leaf.const (.int .i64 (m : Int)) :: Leaf.const (.slice (some ⟨g, m, none⟩) (n - m) (n - m)) :: Leaf.const (.slice (some ⟨g, 0, none⟩) n n) :: Leaf.const (.int .i64 (m : Int)) :: Leaf.const (.slice (some ⟨g, 0, none⟩) m n) :: Leaf.const (.int .i64 (q : Int)) :: Leaf.const (.int .i64 ((m + q : Nat) : Int)) :: Leaf.const ((.int .i64 ((m + q : Nat) : Int))) :: []) (by kernel_rfl) (by kernel_rfl) (by kernel_rfl) ((Touch.refl _ _).drew) (trivial) (fun f hf => repJ_start hf rfl HRW.out) ?_ ?_
      · intro i o ho f ac w hfi ht hJ hk hf hd
        match i, ho, hfi with
        | 0, ho, hfi =>
          have ho' : some _ = some o := ho
          cases ho'
          clear ho
          refine DoesG.toJoint ?_ (fun v' w' hφ' t' => hJ.keep t' (by decide) (by omega) (by omega) hfi _)
          have e8 := hJ.slot (show f 9 = false from hJ.nine (by omega) hfi)
          exact do_value (wanted_none rfl) (by rw [BigFrame.run_move (.tmp 8) rfl, e8]) rfl
        | 1, ho, hfi =>
          have ho' : some _ = some o := ho
          cases ho'
          clear ho
          refine DoesG.toJoint ?_ (fun v' w' hφ' t' => hJ.keep t' (by decide) (by omega) (by omega) hfi _)
          have e7 := known_slot hk 7 (by kernel_rfl) (v := .slice (some ⟨g, 0, none⟩) n n) rfl
          exact do_value (wanted_none rfl) (by rw [BigFrame.run_move (.tmp 7) rfl, e7]) rfl
        | 2, ho, hfi =>
          have ho' : some _ = some o := ho
          cases ho'
          clear ho
          refine DoesG.toJoint ?_ (fun v' w' hφ' t' => hJ.keep t' (by decide) (by omega) (by omega) hfi _)
          have e8 := hJ.slot (show f 9 = false from hJ.nine (by omega) hfi)
          exact do_value (wanted_none rfl) (by rw [BigFrame.run_move (.tmp 8) rfl, e8]) rfl
        | 3, ho, hfi =>
          have ho' : some _ = some o := ho
          cases ho'
          clear ho
          refine DoesG.toJoint ?_ (fun v' w' hφ' t' => hJ.keep t' (by decide) (by omega) (by omega) hfi _)
          have e39 := has_const (has_dep hd 1 (by kernel_rfl)) rfl rfl rfl (c := (.slice (some ⟨g, 0, none⟩) n n))
          have e40 := has_const (has_dep hd 2 (by kernel_rfl)) rfl rfl rfl (c := (.int .i64 (m : Int)))
          exact do_value (wanted_none rfl) (v := .slice (some ⟨g, m, none⟩) (n - m) (n - m)) (run_value rfl (by rw [e39]; simp only [Option.map_some, Option.map_none, e40]; have h := HMN.out; have h3 : n ≠ m := (by omega); (first | (simp [go_sem, h3]; done) | (simp [go_sem, h3]; omega)))) rfl
        | 4, ho, hfi =>
          have ho' : some _ = some o := ho
          cases ho'
          clear ho
          refine DoesG.toJoint ?_ (fun v' w' hφ' t' => hJ.keep t' (by decide) (by omega) (by omega) hfi _)
          have e7 := known_slot hk 7 (by kernel_rfl) (v := .slice (some ⟨g, 0, none⟩) n n) rfl
          exact do_value (wanted_none rfl) (by rw [BigFrame.run_move (.tmp 7) rfl, e7]) rfl
        | 5, ho, hfi =>
          have ho' : some _ = some o := ho
          cases ho'
          clear ho
          refine DoesG.toJoint ?_ (fun v' w' hφ' t' => hJ.keep t' (by decide) (by omega) (by omega) hfi _)
          have e8 := hJ.slot (show f 9 = false from hJ.nine (by omega) hfi)
          exact do_value (wanted_none rfl) (by rw [BigFrame.run_move (.tmp 8) rfl, e8]) rfl
        | 6, ho, hfi =>
          have ho' : some _ = some o := ho
          cases ho'
          clear ho
          refine DoesG.toJoint ?_ (fun v' w' hφ' t' => hJ.keep t' (by decide) (by omega) (by omega) hfi _)
          have e42 := has_const (has_dep hd 4 (by kernel_rfl)) rfl rfl rfl (c := (.slice (some ⟨g, 0, none⟩) n n))
          have e43 := has_const (has_dep hd 5 (by kernel_rfl)) rfl rfl rfl (c := (.int .i64 (m : Int)))
          exact do_value (wanted_none rfl) (v := .slice (some ⟨g, 0, none⟩) m n) (run_value rfl (by rw [e42]; simp only [Option.map_some, Option.map_none, e43]; have h := HMN.out; have h3 : n ≠ m := (by omega); (first | (simp [go_sem, h3]; done) | (simp [go_sem, h3]; omega)))) rfl
        | 7, ho, hfi =>
          have ho' : some _ = some o := ho
          cases ho'
          clear ho
          have e41 := has_const (has_dep hd 3 (by kernel_rfl)) rfl rfl rfl (c := (.slice (some ⟨g, m, none⟩) (n - m) (n - m)))
          have e44 := has_const (has_dep hd 6 (by kernel_rfl)) rfl rfl rfl (c := (.slice (some ⟨g, 0, none⟩) m n))
          exact doJ_copy (wanted_none rfl) ⟨rfl, rfl, rfl⟩ e41 e44 hJ hfi HMN.out
        | 8, ho, hfi =>
          have ho' : some _ = some o := ho
          cases ho'
          clear ho
          refine DoesG.toJoint ?_ (fun v' w' hφ' t' => hJ.keep t' (by decide) (by omega) (by omega) hfi _)
          have e38 := has_const (has_dep hd 0 (by kernel_rfl)) rfl rfl rfl (c := (.int .i64 (m : Int)))
          have e45 := has_const (has_dep hd 7 (by kernel_rfl)) rfl rfl rfl (c := (.int .i64 (q : Int)))
          have h := HQ.out
          have h9 := HMN.out
          have hw : IntKind.i64.wrap ((m : Int) + (q : Int)) = (m : Int) + (q : Int) := by rw [IntKind.wrap_i64]; omega
          exact do_value (wanted_none rfl) (v := .int .i64 ((m + q : Nat) : Int)) (run_value rfl (by rw [e38, e45]; simp [go_sem, hw])) rfl
        | 9, ho, hfi =>
          have ho' : some _ = some o := ho
          cases ho'
          clear ho
          refine DoesG.toJoint ?_ (fun v' w' hφ' t' => hJ.last t' (fun j hj => dep_all9 hf (by kernel_rfl) j hj) _)
          have e46 := has_const (has_dep hd 8 (by kernel_rfl)) rfl rfl rfl (c := (.int .i64 ((m + q : Nat) : Int)))
          exact do_value (wanted_none rfl) (by rw [BigFrame.run_assign (.tmp 46) rfl, e46]) rfl
        | q + 10, ho, hfi => exact absurd ho (by simp)
      · intro y w9 f T9 hJ hf hkn
        have hr9 := hJ.2.2.2 (hf 7 (by simp))
        simp only [putL, Act.put, List.setIfInBounds_toArray, List.set_cons_succ, List.set_cons_zero]
        have HR9 := Lib.hid hr9
        have HT9 := Lib.hid (HT.out.trans T9 (fun b hb => by simp at hb; subst hb; right; omega))
        have hq2 := HQ.out
        clear hr9 T9 hJ hf hkn
        go_wp2_with fail
        go_roundw
        case rel => exact ⟨m + q, by omega, by omega, by go_num, HR9.out, HT9.out⟩
        case measure => simp [intOf]; omega
    · obtain rfl : m = n := by omega
      go_wp2_with fail
      go_ret
      exact ⟨g, rfl, HRW.out, by omega, HT.out⟩
end
end Go.Proofs.Ytalkpoeliekbfaa
