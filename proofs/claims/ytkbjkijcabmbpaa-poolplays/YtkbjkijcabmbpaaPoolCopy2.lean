/-
  Contracts of layer 8 (pool): Copy.
-/
import Derived.Test.YtkbjkijcabmbpaaPoolCopy
import Derived.Test.YtkbjkijcabmbpaaPool4
namespace Go.Proofs.Ytkbjkijcabmbpaa
open Go.ChangeShapes Go.WideShapes Go.ChangeAt Go.RowKit Go.Deep Go.Maps
set_option linter.unusedVariables false
set_option linter.unusedSimpArgs false

theorem ent49 (args : Array Value) (w : World) : (callFunc 60 args).run Try.prog w = .ok (.enter 60 args) w := by
  simp [callFunc, Try.func60]
  rfl
theorem ent50 (args : Array Value) (w : World) : (callFunc 61 args).run Try.prog w = .ok (.enter 61 args) w := by
  simp [callFunc, Try.func61]
  rfl
theorem buildPool (x y : Nat) (a b : Int) (w : World) : (Instr.build 105 #[(0, .pointer (some ⟨x, 0, none⟩)), (1, .map (some y)), (2, .int .i64 a), (3, .int .i64 b)]).run Try.prog w = .ok (.agg #[.pointer (some ⟨x, 0, none⟩), .map (some y), .int .i64 a, .int .i64 b]) w := run_build w _ _ _ (by kernel_rfl)
theorem run_boxPool {a : Act} {o : Oper} {s : Tmp} {w : World} {cs : Array Value} (h : o.op = .box 105 (.tmp s)) (hv : a.eval (.tmp s) = .agg cs) :
    (execOp a.eval o).run Try.prog w = .ok (.value (.pointer (some ⟨w.heap.size, 0, none⟩))) (w.alloc (.cells cs 105)) := by
  unfold execOp
  rw [h]
  simp only [hv]
  simp [go_sem]
section
variable {w0 : World} {n m s : Nat} {S K : Nat → Int} {M : Pks} {bytes room : Int}
def SlabNew (w0 : World) (n m : Nat) (S K : Nat → Int) (v : Value) (w : World) : Prop :=
  ∃ p g k ns c, v = .pointer (some ⟨p, 0, none⟩) ∧ SlabAt w p g k n ns m c S K ∧ w0.heap.size ≤ p ∧ w0.heap.size ≤ g ∧ w0.heap.size ≤ k
def MapNew (w0 : World) (s : Nat) (M : Pks) (v : Value) (w : World) : Prop := ∃ b, v = .map (some b) ∧ IMap Try.prog 3 w b s (pksM M) ∧ w0.heap.size ≤ b
def PartsNew (w0 : World) (n m : Nat) (S K : Nat → Int) (s : Nat) (M : Pks) (bytes room : Int) (v : Value) (w : World) : Prop :=
  ∃ p g k ns c b, v = .agg #[.pointer (some ⟨p, 0, none⟩), .map (some b), .int .i64 bytes, .int .i64 room] ∧ SlabAt w p g k n ns m c S K ∧ IMap Try.prog 3 w b s (pksM M) ∧ w0.heap.size ≤ p ∧ w0.heap.size ≤ g ∧ w0.heap.size ≤ k ∧ w0.heap.size ≤ b
def PoolNew (w0 : World) (n m : Nat) (S K : Nat → Int) (s : Nat) (M : Pks) (bytes room : Int) (v : Value) (w : World) : Prop :=
  ∃ q p g k ns c b, v = .pointer (some ⟨q, 0, none⟩) ∧ PoolAt w q p g k n ns m c S K b s M bytes room ∧ w0.heap.size ≤ q ∧ w0.heap.size ≤ p ∧ w0.heap.size ≤ g ∧ w0.heap.size ≤ k ∧ w0.heap.size ≤ b
theorem SlabNew.stab : Stab (SlabNew w0 n m S K) := fun v w w' ⟨p, g, k, ns, c, h0, h1, h2⟩ t => ⟨p, g, k, ns, c, h0, h1.carry t (by simp) (by simp) (by simp), h2⟩
theorem MapNew.stab : Stab (MapNew w0 s M) := fun v w w' ⟨b, h0, h1, h2⟩ t => ⟨b, h0, h1.carry t (by simp), h2⟩
theorem PartsNew.stab : Stab (PartsNew w0 n m S K s M bytes room) := fun v w w' ⟨p, g, k, ns, c, b, h0, h1, h2, h3⟩ t => ⟨p, g, k, ns, c, b, h0, h1.carry t (by simp) (by simp) (by simp), h2.carry t (by simp), h3⟩
theorem PoolNew.stab : Stab (PoolNew w0 n m S K s M bytes room) := fun v w w' ⟨q, p, g, k, ns, c, b, h0, h1, h2⟩ t => ⟨q, p, g, k, ns, c, b, h0, h1.new t, h2⟩
theorem own_notMap {w : World} {base : Nat} {e : TypeId} {size n c g b : Nat} {xs : List Value} {es : Array MapEntry} {cl : Nat} (h : w.ownsRow base e size (.slice (some ⟨g, 0, none⟩) n c) n xs) (hb : w.heap[b]? = some (.map es cl)) : b ≠ g := by
  rintro rfl
  rcases h.2 with h' | ⟨g', cap, cur, h1, _, h2, _⟩
  · simp at h'
  · cases h1
    rw [hb] at h2
    cases h2
theorem poolNew_box {w : World} {p g k ns c b : Nat} (h1 : SlabAt w p g k n ns m c S K) (h2 : IMap Try.prog 3 w b s (pksM M)) (l1 : w0.heap.size ≤ p) (l2 : w0.heap.size ≤ g) (l3 : w0.heap.size ≤ k) (l4 : w0.heap.size ≤ b) (l5 : w0.heap.size ≤ w.heap.size) :
    PoolNew w0 n m S K s M bytes room (.pointer (some ⟨w.heap.size, 0, none⟩)) (w.alloc (.cells #[.pointer (some ⟨p, 0, none⟩), .map (some b), .int .i64 bytes, .int .i64 room] 105)) := by
  have t : Touch [] w (w.alloc (.cells #[.pointer (some ⟨p, 0, none⟩), .map (some b), .int .i64 bytes, .int .i64 room] 105)) := (Touch.refl [] w).alloc _
  obtain ⟨es, cl, hb, _⟩ := h2.twin
  have n1 := h2.notCell (p := p) (a := ⟨p, 0, none⟩) rfl h1.c0
  have n2 := own_notMap h1.slots hb
  have n3 := own_notMap h1.stack hb
  have := h1.ltp
  have := h1.ltg
  have := h1.ltk
  have := h2.lt
  exact ⟨w.heap.size, p, g, k, ns, c, b, rfl, ⟨BoxV.new w 105 _, h1.carry t (by simp) (by simp) (by simp), h2.carry t (by simp), by omega⟩, l5, l1, l2, l3, l4⟩
end
set_option maxRecDepth 100000 in
set_option maxHeartbeats 2000000 in
theorem poolCopy_of {w : World} {q p g k n ns m c : Nat} {S K : Nat → Int} {mb s : Nat} {M : Pks} {bytes room : Int} (h : PoolAt w q p g k n ns m c S K mb s M bytes room)
    (D : Hid (∀ w1, Touch [] w w1 → Calls Try.prog 60 #[.pointer (some ⟨p, 0, none⟩)] w1 fun e w' => ∃ p1 g1 k1 ns1 c1, e = .returned (.pointer (some ⟨p1, 0, none⟩)) ∧ SlabAt w' p1 g1 k1 n ns1 m c1 S K ∧ Touch [] w1 w' ∧ w1.heap.size ≤ p1 ∧ w1.heap.size ≤ g1 ∧ w1.heap.size ≤ k1)) :
    Calls Try.prog 36 #[.pointer (some ⟨q, 0, none⟩)] w fun e w' => ∃ v, e = .returned v ∧ PoolNew w n m S K s M bytes room v w' ∧ Touch [] w w' := by
  have HBX := Lib.hid h.box
  have HMP := Lib.hid h.map
  clear h
  generalize hw0 : w = w0 at *
  go_enter Try.func36, Try.ntmps36
  go_upto_region 3 with fail
  refine wp_region_leaves (wd := w0) (Leaf.const (.pointer (some ⟨q, 0, none⟩)) :: Leaf.const ((.pointer (some ⟨q, 0, none⟩))) :: Leaf.const (.pointer (some ⟨q, 0, none⟩)) :: Leaf.const (.pointer (some ⟨p, 0, none⟩)) :: Leaf.pred (SlabNew w0 n m S K) :: Leaf.const (.pointer (some ⟨q, 0, none⟩)) :: Leaf.const ((.pointer (some ⟨q, 0, none⟩))) :: Leaf.const (.pointer (some ⟨q, 1, none⟩)) :: Leaf.const (.map (some mb)) :: Leaf.pred (MapNew w0 s M) :: Leaf.const (.pointer (some ⟨q, 0, none⟩)) :: Leaf.const ((.pointer (some ⟨q, 0, none⟩))) :: Leaf.const (.pointer (some ⟨q, 2, none⟩)) :: Leaf.const (.int .i64 bytes) :: Leaf.const (.pointer (some ⟨q, 0, none⟩)) :: Leaf.const ((.pointer (some ⟨q, 0, none⟩))) :: Leaf.const (.pointer (some ⟨q, 3, none⟩)) :: Leaf.const (.int .i64 room) :: Leaf.pred (PartsNew w0 n m S K s M bytes room) :: Leaf.pred (PoolNew w0 n m S K s M bytes room) :: Leaf.pred (PoolNew w0 n m S K s M bytes room) :: []) (by kernel_rfl) (by kernel_rfl) (by kernel_rfl) ((Touch.refl _ _).drew) (⟨SlabNew.stab, MapNew.stab, PartsNew.stab, PoolNew.stab, PoolNew.stab, trivial⟩) ?_ ?_
  · intro i o ho ac w ht hk hd
    match i, ho with
    | 0, ho =>
      have ho' : some _ = some o := ho
      cases ho'
      clear ho
      have e0 := known_slot hk 0 (by kernel_rfl) (v := .pointer (some ⟨q, 0, none⟩)) rfl
      exact do_value (wanted_none rfl) (by rw [BigFrame.run_move (.tmp 0) rfl, e0]) rfl
    | 1, ho =>
      have ho' : some _ = some o := ho
      cases ho'
      clear ho
      have e5 := has_const (has_dep hd 0 (by kernel_rfl)) rfl rfl rfl (c := (.pointer (some ⟨q, 0, none⟩)))
      exact do_value (wanted_none rfl) (v := (.pointer (some ⟨q, 0, none⟩))) (by unfold execOp; simp only [e5]; rfl) rfl
    | 2, ho =>
      have ho' : some _ = some o := ho
      cases ho'
      clear ho
      have e6 := has_const (has_dep hd 1 (by kernel_rfl)) rfl rfl rfl (c := (.pointer (some ⟨q, 0, none⟩)))
      exact do_value (wanted_none rfl) (v := .pointer (some ⟨q, 0, none⟩)) (run_value rfl (by rw [e6]; simp [go_sem])) rfl
    | 3, ho =>
      have ho' : some _ = some o := ho
      cases ho'
      clear ho
      have e7 := has_const (has_dep hd 2 (by kernel_rfl)) rfl rfl rfl (c := (.pointer (some ⟨q, 0, none⟩)))
      have c0 := (HBX.out.carry ht (by simp)).cell 0
      simp only [List.getElem?_toArray, List.getElem?_cons_zero, List.getElem?_cons_succ] at c0
      exact do_value (wanted_none rfl) (v := .pointer (some ⟨p, 0, none⟩)) (run_value rfl (by rw [e7]; simp [go_sem, c0])) rfl
    | 4, ho =>
      have ho' : some _ = some o := ho
      cases ho'
      clear ho
      have e8 := has_const (has_dep hd 3 (by kernel_rfl)) rfl rfl rfl (c := (.pointer (some ⟨p, 0, none⟩)))
      refine do_enter (wanted_none rfl) (f := 60) (args := #[(.pointer (some ⟨p, 0, none⟩))]) (by rw [run_go3 60 _ _ rfl, ent49]; simp [eval_c, e8]) ?_
      exact (D.out _ ht).mono fun e w2 ⟨p1, g1, k1, ns1, c1, he, h1, t1, l1, l2, l3⟩ => ⟨_, he, ⟨p1, g1, k1, ns1, c1, rfl, h1, by have := ht.size; omega, by have := ht.size; omega, by have := ht.size; omega⟩, t1⟩
    | 5, ho =>
      have ho' : some _ = some o := ho
      cases ho'
      clear ho
      have e0 := known_slot hk 0 (by kernel_rfl) (v := .pointer (some ⟨q, 0, none⟩)) rfl
      exact do_value (wanted_none rfl) (by rw [BigFrame.run_move (.tmp 0) rfl, e0]) rfl
    | 6, ho =>
      have ho' : some _ = some o := ho
      cases ho'
      clear ho
      have e10 := has_const (has_dep hd 5 (by kernel_rfl)) rfl rfl rfl (c := (.pointer (some ⟨q, 0, none⟩)))
      exact do_value (wanted_none rfl) (v := (.pointer (some ⟨q, 0, none⟩))) (by unfold execOp; simp only [e10]; rfl) rfl
    | 7, ho =>
      have ho' : some _ = some o := ho
      cases ho'
      clear ho
      have e11 := has_const (has_dep hd 6 (by kernel_rfl)) rfl rfl rfl (c := (.pointer (some ⟨q, 0, none⟩)))
      exact do_value (wanted_none rfl) (v := .pointer (some ⟨q, 1, none⟩)) (run_value rfl (by rw [e11]; simp [go_sem])) rfl
    | 8, ho =>
      have ho' : some _ = some o := ho
      cases ho'
      clear ho
      have e12 := has_const (has_dep hd 7 (by kernel_rfl)) rfl rfl rfl (c := (.pointer (some ⟨q, 1, none⟩)))
      have c0 := (HBX.out.carry ht (by simp)).cell 1
      simp only [List.getElem?_toArray, List.getElem?_cons_zero, List.getElem?_cons_succ] at c0
      exact do_value (wanted_none rfl) (v := .map (some mb)) (run_value rfl (by rw [e12]; simp [go_sem, c0])) rfl
    | 9, ho =>
      have ho' : some _ = some o := ho
      cases ho'
      clear ho
      have e13 := has_const (has_dep hd 8 (by kernel_rfl)) rfl rfl rfl (c := (.map (some mb)))
      refine do_enter (wanted_none rfl) (f := 61) (args := #[(.map (some mb))]) (by rw [run_go3 61 _ _ rfl, ent50]; simp [eval_c, e13]) ?_
      exact (cloneP_at (HMP.out.carry ht (by simp))).mono fun e w2 ⟨b1, he, h1, l1, t1⟩ => ⟨_, he, ⟨b1, rfl, h1, by have := ht.size; omega⟩, t1⟩
    | 10, ho =>
      have ho' : some _ = some o := ho
      cases ho'
      clear ho
      have e0 := known_slot hk 0 (by kernel_rfl) (v := .pointer (some ⟨q, 0, none⟩)) rfl
      exact do_value (wanted_none rfl) (by rw [BigFrame.run_move (.tmp 0) rfl, e0]) rfl
    | 11, ho =>
      have ho' : some _ = some o := ho
      cases ho'
      clear ho
      have e15 := has_const (has_dep hd 10 (by kernel_rfl)) rfl rfl rfl (c := (.pointer (some ⟨q, 0, none⟩)))
      exact do_value (wanted_none rfl) (v := (.pointer (some ⟨q, 0, none⟩))) (by unfold execOp; simp only [e15]; rfl) rfl
    | 12, ho =>
      have ho' : some _ = some o := ho
      cases ho'
      clear ho
      have e16 := has_const (has_dep hd 11 (by kernel_rfl)) rfl rfl rfl (c := (.pointer (some ⟨q, 0, none⟩)))
      exact do_value (wanted_none rfl) (v := .pointer (some ⟨q, 2, none⟩)) (run_value rfl (by rw [e16]; simp [go_sem])) rfl
    | 13, ho =>
      have ho' : some _ = some o := ho
      cases ho'
      clear ho
      have e17 := has_const (has_dep hd 12 (by kernel_rfl)) rfl rfl rfl (c := (.pointer (some ⟨q, 2, none⟩)))
      have c0 := (HBX.out.carry ht (by simp)).cell 2
      simp only [List.getElem?_toArray, List.getElem?_cons_zero, List.getElem?_cons_succ] at c0
      exact do_value (wanted_none rfl) (v := .int .i64 bytes) (run_value rfl (by rw [e17]; simp [go_sem, c0])) rfl
    | 14, ho =>
      have ho' : some _ = some o := ho
      cases ho'
      clear ho
      have e0 := known_slot hk 0 (by kernel_rfl) (v := .pointer (some ⟨q, 0, none⟩)) rfl
      exact do_value (wanted_none rfl) (by rw [BigFrame.run_move (.tmp 0) rfl, e0]) rfl
    | 15, ho =>
      have ho' : some _ = some o := ho
      cases ho'
      clear ho
      have e19 := has_const (has_dep hd 14 (by kernel_rfl)) rfl rfl rfl (c := (.pointer (some ⟨q, 0, none⟩)))
      exact do_value (wanted_none rfl) (v := (.pointer (some ⟨q, 0, none⟩))) (by unfold execOp; simp only [e19]; rfl) rfl
    | 16, ho =>
      have ho' : some _ = some o := ho
      cases ho'
      clear ho
      have e20 := has_const (has_dep hd 15 (by kernel_rfl)) rfl rfl rfl (c := (.pointer (some ⟨q, 0, none⟩)))
      exact do_value (wanted_none rfl) (v := .pointer (some ⟨q, 3, none⟩)) (run_value rfl (by rw [e20]; simp [go_sem])) rfl
    | 17, ho =>
      have ho' : some _ = some o := ho
      cases ho'
      clear ho
      have e21 := has_const (has_dep hd 16 (by kernel_rfl)) rfl rfl rfl (c := (.pointer (some ⟨q, 3, none⟩)))
      have c0 := (HBX.out.carry ht (by simp)).cell 3
      simp only [List.getElem?_toArray, List.getElem?_cons_zero, List.getElem?_cons_succ] at c0
      exact do_value (wanted_none rfl) (v := .int .i64 room) (run_value rfl (by rw [e21]; simp [go_sem, c0])) rfl
    | 18, ho =>
      have ho' : some _ = some o := ho
      cases ho'
      clear ho
      obtain ⟨v9, e9, h9⟩ := has_pred (has_dep hd 4 (by kernel_rfl)) rfl rfl rfl (φ := SlabNew w0 n m S K)
      obtain ⟨v14, e14, h14⟩ := has_pred (has_dep hd 9 (by kernel_rfl)) rfl rfl rfl (φ := MapNew w0 s M)
      have e18 := has_const (has_dep hd 13 (by kernel_rfl)) rfl rfl rfl (c := (.int .i64 bytes))
      have e22 := has_const (has_dep hd 17 (by kernel_rfl)) rfl rfl rfl (c := (.int .i64 room))
      obtain ⟨p1, g1, k1, ns1, c1, rfl, h1, l1, l2, l3⟩ := h9
      obtain ⟨b1, rfl, h2, l4⟩ := h14
      exact do_value (wanted_none rfl) (v := .agg #[.pointer (some ⟨p1, 0, none⟩), .map (some b1), .int .i64 bytes, .int .i64 room]) (run_value rfl (by simp only [List.map_toArray, List.map_cons, List.map_nil, e9, e14, e18, e22]; exact buildPool _ _ _ _ w)) ⟨p1, g1, k1, ns1, c1, b1, rfl, h1, h2, l1, l2, l3, l4⟩
    | 19, ho =>
      have ho' : some _ = some o := ho
      cases ho'
      clear ho
      obtain ⟨v23, e23, h23⟩ := has_pred (has_dep hd 18 (by kernel_rfl)) rfl rfl rfl (φ := PartsNew w0 n m S K s M bytes room)
      obtain ⟨p1, g1, k1, ns1, c1, b1, rfl, h1, h2, l1, l2, l3, l4⟩ := h23
      exact .inl ⟨wanted_none rfl, by rw [run_boxPool (a := ac) (o := _) (s := 23) rfl e23]; exact ⟨poolNew_box h1 h2 l1 l2 l3 l4 (by have := ht.size; omega), (Touch.refl [] w).alloc _⟩⟩
    | 20, ho =>
      have ho' : some _ = some o := ho
      cases ho'
      clear ho
      obtain ⟨v24, e24, h24⟩ := has_pred (has_dep hd 19 (by kernel_rfl)) rfl rfl rfl (φ := PoolNew w0 n m S K s M bytes room)
      exact do_value (wanted_none rfl) (by rw [BigFrame.run_assign (.tmp 24) rfl, e24]) h24
    | q + 21, ho => exact absurd ho (by simp)
  · intro x w2 T2 hkn
    obtain ⟨_, _, _, _, hx, _⟩ := hkn
    simp only [putL, Act.put, List.setIfInBounds_toArray, List.set_cons_succ, List.set_cons_zero]
    have HX := Lib.hid hx
    have HT := Lib.hid T2
    clear hx T2
    go_wp2_with fail
    go_ret
    exact ⟨_, rfl, HX.out, HT.out⟩
end Go.Proofs.Ytkbjkijcabmbpaa
