/-
  Layer 34 (ledger): sum.
-/
import Derived.Test.YtbppccmkmpgibaaLedger5
namespace Go.Proofs.Ytbppccmkmpgibaa
open Go.ChangeShapes Go.WideShapes Go.ChangeAt Go.RowKit Go.Deep Go.Maps
set_option linter.unusedVariables false
set_option linter.unusedSimpArgs false
def Few6 (A : Nat → Int) : Prop := ∀ i, i < 6 → 0 ≤ A i ∧ A i ≤ 1000000000
theorem ent33 (args : Array Value) (w : World) : (callFunc 33 args).run Try.prog w = .ok (.enter 33 args) w := by
  simp [callFunc, Try.func33]
  rfl
set_option maxRecDepth 100000 in
set_option maxHeartbeats 6400000 in
theorem sum_any (A C : Nat → Int) (hA : Few6 A) (hC : Few6 C) (w : World) :
    Calls Try.prog 27 #[.agg #[.int .i64 (A 0), .int .i64 (A 1), .int .i64 (A 2), .int .i64 (A 3), .int .i64 (A 4), .int .i64 (A 5)], .agg #[.int .i64 (C 0), .int .i64 (C 1), .int .i64 (C 2), .int .i64 (C 3), .int .i64 (C 4), .int .i64 (C 5)]] w fun e w' => e = .returned (.agg #[.int .i64 (A 0 + C 0), .int .i64 (A 1 + C 1), .int .i64 (A 2 + C 2), .int .i64 (A 3 + C 3), .int .i64 (A 4 + C 4), .int .i64 (A 5 + C 5)]) ∧ Touch [] w w' := by
  have AD := Lib.hid (show ∀ i, i < 6 → ∀ w : World, Calls Try.prog 33 #[.int .i64 (A i), .int .i64 (C i)] w fun e w' => e = .returned (.int .i64 (A i + C i)) ∧ Touch [] w w' from fun i hi w => by
    have h := add_any' (A i) (C i) w
    rw [satAdd_few (hA i hi) (hC i hi)] at h
    exact h.mono fun e w' q => ⟨q.1, q.2 ▸ Touch.refl [] w⟩)
  have t1 : Touch [] w (((w.alloc (.cells #[.int .i64 (A 0), .int .i64 (A 1), .int .i64 (A 2), .int .i64 (A 3), .int .i64 (A 4), .int .i64 (A 5)] 27)).alloc (.cells #[.int .i64 (C 0), .int .i64 (C 1), .int .i64 (C 2), .int .i64 (C 3), .int .i64 (C 4), .int .i64 (C 5)] 27)).alloc (.cells #[.int .i64 0, .int .i64 0, .int .i64 0, .int .i64 0, .int .i64 0, .int .i64 0] 27)) := (((Touch.refl [] w).alloc _).alloc _).alloc _
  have s1 : (w.alloc (.cells #[.int .i64 (A 0), .int .i64 (A 1), .int .i64 (A 2), .int .i64 (A 3), .int .i64 (A 4), .int .i64 (A 5)] 27)).heap.size = w.heap.size + 1 := by simp
  have s2 : ((w.alloc (.cells #[.int .i64 (A 0), .int .i64 (A 1), .int .i64 (A 2), .int .i64 (A 3), .int .i64 (A 4), .int .i64 (A 5)] 27)).alloc (.cells #[.int .i64 (C 0), .int .i64 (C 1), .int .i64 (C 2), .int .i64 (C 3), .int .i64 (C 4), .int .i64 (C 5)] 27)).heap.size = w.heap.size + 1 + 1 := by simp
  have HA := Lib.hid (show BoxV (((w.alloc (.cells #[.int .i64 (A 0), .int .i64 (A 1), .int .i64 (A 2), .int .i64 (A 3), .int .i64 (A 4), .int .i64 (A 5)] 27)).alloc (.cells #[.int .i64 (C 0), .int .i64 (C 1), .int .i64 (C 2), .int .i64 (C 3), .int .i64 (C 4), .int .i64 (C 5)] 27)).alloc (.cells #[.int .i64 0, .int .i64 0, .int .i64 0, .int .i64 0, .int .i64 0, .int .i64 0] 27)) w.heap.size 27 #[.int .i64 (A 0), .int .i64 (A 1), .int .i64 (A 2), .int .i64 (A 3), .int .i64 (A 4), .int .i64 (A 5)] from ((BoxV.new w 27 #[.int .i64 (A 0), .int .i64 (A 1), .int .i64 (A 2), .int .i64 (A 3), .int .i64 (A 4), .int .i64 (A 5)]).carry ((Touch.refl [] _).alloc _) (by simp)).carry ((Touch.refl [] _).alloc _) (by simp))
  have HC := Lib.hid (show BoxV (((w.alloc (.cells #[.int .i64 (A 0), .int .i64 (A 1), .int .i64 (A 2), .int .i64 (A 3), .int .i64 (A 4), .int .i64 (A 5)] 27)).alloc (.cells #[.int .i64 (C 0), .int .i64 (C 1), .int .i64 (C 2), .int .i64 (C 3), .int .i64 (C 4), .int .i64 (C 5)] 27)).alloc (.cells #[.int .i64 0, .int .i64 0, .int .i64 0, .int .i64 0, .int .i64 0, .int .i64 0] 27)) (w.heap.size + 1) 27 #[.int .i64 (C 0), .int .i64 (C 1), .int .i64 (C 2), .int .i64 (C 3), .int .i64 (C 4), .int .i64 (C 5)] from by
    have := (BoxV.new (w.alloc (.cells #[.int .i64 (A 0), .int .i64 (A 1), .int .i64 (A 2), .int .i64 (A 3), .int .i64 (A 4), .int .i64 (A 5)] 27)) 27 #[.int .i64 (C 0), .int .i64 (C 1), .int .i64 (C 2), .int .i64 (C 3), .int .i64 (C 4), .int .i64 (C 5)]).carry ((Touch.refl [] _).alloc (.cells #[.int .i64 0, .int .i64 0, .int .i64 0, .int .i64 0, .int .i64 0, .int .i64 0] 27)) (by simp)
    rwa [s1] at this)
  have HR := Lib.hid (show BoxV (((w.alloc (.cells #[.int .i64 (A 0), .int .i64 (A 1), .int .i64 (A 2), .int .i64 (A 3), .int .i64 (A 4), .int .i64 (A 5)] 27)).alloc (.cells #[.int .i64 (C 0), .int .i64 (C 1), .int .i64 (C 2), .int .i64 (C 3), .int .i64 (C 4), .int .i64 (C 5)] 27)).alloc (.cells #[.int .i64 0, .int .i64 0, .int .i64 0, .int .i64 0, .int .i64 0, .int .i64 0] 27)) (w.heap.size + 1 + 1) 27 #[.int .i64 0, .int .i64 0, .int .i64 0, .int .i64 0, .int .i64 0, .int .i64 0] from by
    have := BoxV.new ((w.alloc (.cells #[.int .i64 (A 0), .int .i64 (A 1), .int .i64 (A 2), .int .i64 (A 3), .int .i64 (A 4), .int .i64 (A 5)] 27)).alloc (.cells #[.int .i64 (C 0), .int .i64 (C 1), .int .i64 (C 2), .int .i64 (C 3), .int .i64 (C 4), .int .i64 (C 5)] 27)) 27 #[.int .i64 0, .int .i64 0, .int .i64 0, .int .i64 0, .int .i64 0, .int .i64 0]
    rwa [s2] at this)
  have T1 := Lib.hid t1
  clear t1 s1 s2
  go_enter Try.func27, Try.ntmps27
  go_upto_region 1 with fail
  generalize ((w.alloc (.cells #[.int .i64 (A 0), .int .i64 (A 1), .int .i64 (A 2), .int .i64 (A 3), .int .i64 (A 4), .int .i64 (A 5)] 27)).alloc (.cells #[.int .i64 (C 0), .int .i64 (C 1), .int .i64 (C 2), .int .i64 (C 3), .int .i64 (C 4), .int .i64 (C 5)] 27)).alloc (.cells #[.int .i64 0, .int .i64 0, .int .i64 0, .int .i64 0, .int .i64 0, .int .i64 0] 27) = w1 at *
  generalize eg : w.heap.size = g at *
  have lg : w.heap.size ≤ g + 1 + 1 := by omega
  clear eg
  refine wp_region_store (wd := w1) 31 (Leaf.const (.pointer (some ⟨g, 0, none⟩)) :: Leaf.const (.int .i64 (A 0)) :: Leaf.const (.pointer (some ⟨g + 1, 0, none⟩)) :: Leaf.const (.int .i64 (C 0)) :: Leaf.const (.int .i64 (A 0 + C 0)) :: Leaf.const (.pointer (some ⟨g, 1, none⟩)) :: Leaf.const (.int .i64 (A 1)) :: Leaf.const (.pointer (some ⟨g + 1, 1, none⟩)) :: Leaf.const (.int .i64 (C 1)) :: Leaf.const (.int .i64 (A 1 + C 1)) :: Leaf.const (.pointer (some ⟨g, 2, none⟩)) :: Leaf.const (.int .i64 (A 2)) :: Leaf.const (.pointer (some ⟨g + 1, 2, none⟩)) :: Leaf.const (.int .i64 (C 2)) :: Leaf.const (.int .i64 (A 2 + C 2)) :: Leaf.const (.pointer (some ⟨g, 3, none⟩)) :: Leaf.const (.int .i64 (A 3)) :: Leaf.const (.pointer (some ⟨g + 1, 3, none⟩)) :: Leaf.const (.int .i64 (C 3)) :: Leaf.const (.int .i64 (A 3 + C 3)) :: Leaf.const (.pointer (some ⟨g, 4, none⟩)) :: Leaf.const (.int .i64 (A 4)) :: Leaf.const (.pointer (some ⟨g + 1, 4, none⟩)) :: Leaf.const (.int .i64 (C 4)) :: Leaf.const (.int .i64 (A 4 + C 4)) :: Leaf.const (.pointer (some ⟨g, 5, none⟩)) :: Leaf.const (.int .i64 (A 5)) :: Leaf.const (.pointer (some ⟨g + 1, 5, none⟩)) :: Leaf.const (.int .i64 (C 5)) :: Leaf.const (.int .i64 (A 5 + C 5)) :: Leaf.const (.agg #[.int .i64 (A 0 + C 0), .int .i64 (A 1 + C 1), .int .i64 (A 2 + C 2), .int .i64 (A 3 + C 3), .int .i64 (A 4 + C 4), .int .i64 (A 5 + C 5)]) :: Leaf.const undef :: []) (by kernel_rfl) (by kernel_rfl) (by kernel_rfl) (by kernel_rfl) ((Touch.refl _ _).drew) (trivial) ?_ ?_
  · intro i o ho hin ac w ht hk hd
    match i, ho, hin with
    | 0, ho, hin =>
      have ho' : some _ = some o := ho
      cases ho'
      clear ho
      have e2 := known_slot hk 2 (by kernel_rfl) (v := .pointer (some ⟨g, 0, none⟩)) rfl
      exact do_value (wanted_none rfl) (v := .pointer (some ⟨g, 0, none⟩)) (run_value rfl (by rw [e2]; simp [go_sem])) rfl
    | 1, ho, hin =>
      have ho' : some _ = some o := ho
      cases ho'
      clear ho
      have e5 := has_const (has_dep hd 0 (by kernel_rfl)) rfl rfl rfl (c := (.pointer (some ⟨g, 0, none⟩)))
      have z6 := (HA.out.carry ht (by simp)).cell 0
      simp only [List.getElem?_toArray, List.getElem?_cons_zero, List.getElem?_cons_succ] at z6
      exact do_value (wanted_none rfl) (v := .int .i64 (A 0)) (run_value rfl (by rw [e5]; simp [go_sem, z6])) rfl
    | 2, ho, hin =>
      have ho' : some _ = some o := ho
      cases ho'
      clear ho
      have e3 := known_slot hk 3 (by kernel_rfl) (v := .pointer (some ⟨g + 1, 0, none⟩)) rfl
      exact do_value (wanted_none rfl) (v := .pointer (some ⟨g + 1, 0, none⟩)) (run_value rfl (by rw [e3]; simp [go_sem])) rfl
    | 3, ho, hin =>
      have ho' : some _ = some o := ho
      cases ho'
      clear ho
      have e7 := has_const (has_dep hd 2 (by kernel_rfl)) rfl rfl rfl (c := (.pointer (some ⟨g + 1, 0, none⟩)))
      have z8 := (HC.out.carry ht (by simp)).cell 0
      simp only [List.getElem?_toArray, List.getElem?_cons_zero, List.getElem?_cons_succ] at z8
      exact do_value (wanted_none rfl) (v := .int .i64 (C 0)) (run_value rfl (by rw [e7]; simp [go_sem, z8])) rfl
    | 4, ho, hin =>
      have ho' : some _ = some o := ho
      cases ho'
      clear ho
      have e6 := has_const (has_dep hd 1 (by kernel_rfl)) rfl rfl rfl (c := (.int .i64 (A 0)))
      have e8 := has_const (has_dep hd 3 (by kernel_rfl)) rfl rfl rfl (c := (.int .i64 (C 0)))
      refine do_enter (wanted_none rfl) (f := 33) (args := #[(.int .i64 (A 0)), (.int .i64 (C 0))]) (by rw [run_go3 33 _ _ rfl, ent33]; simp [eval_c, e6, e8]) ?_
      exact Calls.leaf (AD.out 0 (by omega) _)
    | 5, ho, hin =>
      have ho' : some _ = some o := ho
      cases ho'
      clear ho
      have e2 := known_slot hk 2 (by kernel_rfl) (v := .pointer (some ⟨g, 0, none⟩)) rfl
      exact do_value (wanted_none rfl) (v := .pointer (some ⟨g, 1, none⟩)) (run_value rfl (by rw [e2]; simp [go_sem])) rfl
    | 6, ho, hin =>
      have ho' : some _ = some o := ho
      cases ho'
      clear ho
      have e10 := has_const (has_dep hd 5 (by kernel_rfl)) rfl rfl rfl (c := (.pointer (some ⟨g, 1, none⟩)))
      have z11 := (HA.out.carry ht (by simp)).cell 1
      simp only [List.getElem?_toArray, List.getElem?_cons_zero, List.getElem?_cons_succ] at z11
      exact do_value (wanted_none rfl) (v := .int .i64 (A 1)) (run_value rfl (by rw [e10]; simp [go_sem, z11])) rfl
    | 7, ho, hin =>
      have ho' : some _ = some o := ho
      cases ho'
      clear ho
      have e3 := known_slot hk 3 (by kernel_rfl) (v := .pointer (some ⟨g + 1, 0, none⟩)) rfl
      exact do_value (wanted_none rfl) (v := .pointer (some ⟨g + 1, 1, none⟩)) (run_value rfl (by rw [e3]; simp [go_sem])) rfl
    | 8, ho, hin =>
      have ho' : some _ = some o := ho
      cases ho'
      clear ho
      have e12 := has_const (has_dep hd 7 (by kernel_rfl)) rfl rfl rfl (c := (.pointer (some ⟨g + 1, 1, none⟩)))
      have z13 := (HC.out.carry ht (by simp)).cell 1
      simp only [List.getElem?_toArray, List.getElem?_cons_zero, List.getElem?_cons_succ] at z13
      exact do_value (wanted_none rfl) (v := .int .i64 (C 1)) (run_value rfl (by rw [e12]; simp [go_sem, z13])) rfl
    | 9, ho, hin =>
      have ho' : some _ = some o := ho
      cases ho'
      clear ho
      have e11 := has_const (has_dep hd 6 (by kernel_rfl)) rfl rfl rfl (c := (.int .i64 (A 1)))
      have e13 := has_const (has_dep hd 8 (by kernel_rfl)) rfl rfl rfl (c := (.int .i64 (C 1)))
      refine do_enter (wanted_none rfl) (f := 33) (args := #[(.int .i64 (A 1)), (.int .i64 (C 1))]) (by rw [run_go3 33 _ _ rfl, ent33]; simp [eval_c, e11, e13]) ?_
      exact Calls.leaf (AD.out 1 (by omega) _)
    | 10, ho, hin =>
      have ho' : some _ = some o := ho
      cases ho'
      clear ho
      have e2 := known_slot hk 2 (by kernel_rfl) (v := .pointer (some ⟨g, 0, none⟩)) rfl
      exact do_value (wanted_none rfl) (v := .pointer (some ⟨g, 2, none⟩)) (run_value rfl (by rw [e2]; simp [go_sem])) rfl
    | 11, ho, hin =>
      have ho' : some _ = some o := ho
      cases ho'
      clear ho
      have e15 := has_const (has_dep hd 10 (by kernel_rfl)) rfl rfl rfl (c := (.pointer (some ⟨g, 2, none⟩)))
      have z16 := (HA.out.carry ht (by simp)).cell 2
      simp only [List.getElem?_toArray, List.getElem?_cons_zero, List.getElem?_cons_succ] at z16
      exact do_value (wanted_none rfl) (v := .int .i64 (A 2)) (run_value rfl (by rw [e15]; simp [go_sem, z16])) rfl
    | 12, ho, hin =>
      have ho' : some _ = some o := ho
      cases ho'
      clear ho
      have e3 := known_slot hk 3 (by kernel_rfl) (v := .pointer (some ⟨g + 1, 0, none⟩)) rfl
      exact do_value (wanted_none rfl) (v := .pointer (some ⟨g + 1, 2, none⟩)) (run_value rfl (by rw [e3]; simp [go_sem])) rfl
    | 13, ho, hin =>
      have ho' : some _ = some o := ho
      cases ho'
      clear ho
      have e17 := has_const (has_dep hd 12 (by kernel_rfl)) rfl rfl rfl (c := (.pointer (some ⟨g + 1, 2, none⟩)))
      have z18 := (HC.out.carry ht (by simp)).cell 2
      simp only [List.getElem?_toArray, List.getElem?_cons_zero, List.getElem?_cons_succ] at z18
      exact do_value (wanted_none rfl) (v := .int .i64 (C 2)) (run_value rfl (by rw [e17]; simp [go_sem, z18])) rfl
    | 14, ho, hin =>
      have ho' : some _ = some o := ho
      cases ho'
      clear ho
      have e16 := has_const (has_dep hd 11 (by kernel_rfl)) rfl rfl rfl (c := (.int .i64 (A 2)))
      have e18 := has_const (has_dep hd 13 (by kernel_rfl)) rfl rfl rfl (c := (.int .i64 (C 2)))
      refine do_enter (wanted_none rfl) (f := 33) (args := #[(.int .i64 (A 2)), (.int .i64 (C 2))]) (by rw [run_go3 33 _ _ rfl, ent33]; simp [eval_c, e16, e18]) ?_
      exact Calls.leaf (AD.out 2 (by omega) _)
    | 15, ho, hin =>
      have ho' : some _ = some o := ho
      cases ho'
      clear ho
      have e2 := known_slot hk 2 (by kernel_rfl) (v := .pointer (some ⟨g, 0, none⟩)) rfl
      exact do_value (wanted_none rfl) (v := .pointer (some ⟨g, 3, none⟩)) (run_value rfl (by rw [e2]; simp [go_sem])) rfl
    | 16, ho, hin =>
      have ho' : some _ = some o := ho
      cases ho'
      clear ho
      have e20 := has_const (has_dep hd 15 (by kernel_rfl)) rfl rfl rfl (c := (.pointer (some ⟨g, 3, none⟩)))
      have z21 := (HA.out.carry ht (by simp)).cell 3
      simp only [List.getElem?_toArray, List.getElem?_cons_zero, List.getElem?_cons_succ] at z21
      exact do_value (wanted_none rfl) (v := .int .i64 (A 3)) (run_value rfl (by rw [e20]; simp [go_sem, z21])) rfl
    | 17, ho, hin =>
      have ho' : some _ = some o := ho
      cases ho'
      clear ho
      have e3 := known_slot hk 3 (by kernel_rfl) (v := .pointer (some ⟨g + 1, 0, none⟩)) rfl
      exact do_value (wanted_none rfl) (v := .pointer (some ⟨g + 1, 3, none⟩)) (run_value rfl (by rw [e3]; simp [go_sem])) rfl
    | 18, ho, hin =>
      have ho' : some _ = some o := ho
      cases ho'
      clear ho
      have e22 := has_const (has_dep hd 17 (by kernel_rfl)) rfl rfl rfl (c := (.pointer (some ⟨g + 1, 3, none⟩)))
      have z23 := (HC.out.carry ht (by simp)).cell 3
      simp only [List.getElem?_toArray, List.getElem?_cons_zero, List.getElem?_cons_succ] at z23
      exact do_value (wanted_none rfl) (v := .int .i64 (C 3)) (run_value rfl (by rw [e22]; simp [go_sem, z23])) rfl
    | 19, ho, hin =>
      have ho' : some _ = some o := ho
      cases ho'
      clear ho
      have e21 := has_const (has_dep hd 16 (by kernel_rfl)) rfl rfl rfl (c := (.int .i64 (A 3)))
      have e23 := has_const (has_dep hd 18 (by kernel_rfl)) rfl rfl rfl (c := (.int .i64 (C 3)))
      refine do_enter (wanted_none rfl) (f := 33) (args := #[(.int .i64 (A 3)), (.int .i64 (C 3))]) (by rw [run_go3 33 _ _ rfl, ent33]; simp [eval_c, e21, e23]) ?_
      exact Calls.leaf (AD.out 3 (by omega) _)
    | 20, ho, hin =>
      have ho' : some _ = some o := ho
      cases ho'
      clear ho
      have e2 := known_slot hk 2 (by kernel_rfl) (v := .pointer (some ⟨g, 0, none⟩)) rfl
      exact do_value (wanted_none rfl) (v := .pointer (some ⟨g, 4, none⟩)) (run_value rfl (by rw [e2]; simp [go_sem])) rfl
    | 21, ho, hin =>
      have ho' : some _ = some o := ho
      cases ho'
      clear ho
      have e25 := has_const (has_dep hd 20 (by kernel_rfl)) rfl rfl rfl (c := (.pointer (some ⟨g, 4, none⟩)))
      have z26 := (HA.out.carry ht (by simp)).cell 4
      simp only [List.getElem?_toArray, List.getElem?_cons_zero, List.getElem?_cons_succ] at z26
      exact do_value (wanted_none rfl) (v := .int .i64 (A 4)) (run_value rfl (by rw [e25]; simp [go_sem, z26])) rfl
    | 22, ho, hin =>
      have ho' : some _ = some o := ho
      cases ho'
      clear ho
      have e3 := known_slot hk 3 (by kernel_rfl) (v := .pointer (some ⟨g + 1, 0, none⟩)) rfl
      exact do_value (wanted_none rfl) (v := .pointer (some ⟨g + 1, 4, none⟩)) (run_value rfl (by rw [e3]; simp [go_sem])) rfl
    | 23, ho, hin =>
      have ho' : some _ = some o := ho
      cases ho'
      clear ho
      have e27 := has_const (has_dep hd 22 (by kernel_rfl)) rfl rfl rfl (c := (.pointer (some ⟨g + 1, 4, none⟩)))
      have z28 := (HC.out.carry ht (by simp)).cell 4
      simp only [List.getElem?_toArray, List.getElem?_cons_zero, List.getElem?_cons_succ] at z28
      exact do_value (wanted_none rfl) (v := .int .i64 (C 4)) (run_value rfl (by rw [e27]; simp [go_sem, z28])) rfl
    | 24, ho, hin =>
      have ho' : some _ = some o := ho
      cases ho'
      clear ho
      have e26 := has_const (has_dep hd 21 (by kernel_rfl)) rfl rfl rfl (c := (.int .i64 (A 4)))
      have e28 := has_const (has_dep hd 23 (by kernel_rfl)) rfl rfl rfl (c := (.int .i64 (C 4)))
      refine do_enter (wanted_none rfl) (f := 33) (args := #[(.int .i64 (A 4)), (.int .i64 (C 4))]) (by rw [run_go3 33 _ _ rfl, ent33]; simp [eval_c, e26, e28]) ?_
      exact Calls.leaf (AD.out 4 (by omega) _)
    | 25, ho, hin =>
      have ho' : some _ = some o := ho
      cases ho'
      clear ho
      have e2 := known_slot hk 2 (by kernel_rfl) (v := .pointer (some ⟨g, 0, none⟩)) rfl
      exact do_value (wanted_none rfl) (v := .pointer (some ⟨g, 5, none⟩)) (run_value rfl (by rw [e2]; simp [go_sem])) rfl
    | 26, ho, hin =>
      have ho' : some _ = some o := ho
      cases ho'
      clear ho
      have e30 := has_const (has_dep hd 25 (by kernel_rfl)) rfl rfl rfl (c := (.pointer (some ⟨g, 5, none⟩)))
      have z31 := (HA.out.carry ht (by simp)).cell 5
      simp only [List.getElem?_toArray, List.getElem?_cons_zero, List.getElem?_cons_succ] at z31
      exact do_value (wanted_none rfl) (v := .int .i64 (A 5)) (run_value rfl (by rw [e30]; simp [go_sem, z31])) rfl
    | 27, ho, hin =>
      have ho' : some _ = some o := ho
      cases ho'
      clear ho
      have e3 := known_slot hk 3 (by kernel_rfl) (v := .pointer (some ⟨g + 1, 0, none⟩)) rfl
      exact do_value (wanted_none rfl) (v := .pointer (some ⟨g + 1, 5, none⟩)) (run_value rfl (by rw [e3]; simp [go_sem])) rfl
    | 28, ho, hin =>
      have ho' : some _ = some o := ho
      cases ho'
      clear ho
      have e32 := has_const (has_dep hd 27 (by kernel_rfl)) rfl rfl rfl (c := (.pointer (some ⟨g + 1, 5, none⟩)))
      have z33 := (HC.out.carry ht (by simp)).cell 5
      simp only [List.getElem?_toArray, List.getElem?_cons_zero, List.getElem?_cons_succ] at z33
      exact do_value (wanted_none rfl) (v := .int .i64 (C 5)) (run_value rfl (by rw [e32]; simp [go_sem, z33])) rfl
    | 29, ho, hin =>
      have ho' : some _ = some o := ho
      cases ho'
      clear ho
      have e31 := has_const (has_dep hd 26 (by kernel_rfl)) rfl rfl rfl (c := (.int .i64 (A 5)))
      have e33 := has_const (has_dep hd 28 (by kernel_rfl)) rfl rfl rfl (c := (.int .i64 (C 5)))
      refine do_enter (wanted_none rfl) (f := 33) (args := #[(.int .i64 (A 5)), (.int .i64 (C 5))]) (by rw [run_go3 33 _ _ rfl, ent33]; simp [eval_c, e31, e33]) ?_
      exact Calls.leaf (AD.out 5 (by omega) _)
    | 30, ho, hin =>
      have ho' : some _ = some o := ho
      cases ho'
      clear ho
      have e9 := has_const (has_dep hd 4 (by kernel_rfl)) rfl rfl rfl (c := (.int .i64 (A 0 + C 0)))
      have e14 := has_const (has_dep hd 9 (by kernel_rfl)) rfl rfl rfl (c := (.int .i64 (A 1 + C 1)))
      have e19 := has_const (has_dep hd 14 (by kernel_rfl)) rfl rfl rfl (c := (.int .i64 (A 2 + C 2)))
      have e24 := has_const (has_dep hd 19 (by kernel_rfl)) rfl rfl rfl (c := (.int .i64 (A 3 + C 3)))
      have e29 := has_const (has_dep hd 24 (by kernel_rfl)) rfl rfl rfl (c := (.int .i64 (A 4 + C 4)))
      have e34 := has_const (has_dep hd 29 (by kernel_rfl)) rfl rfl rfl (c := (.int .i64 (A 5 + C 5)))
      exact do_value (wanted_none rfl) (v := .agg #[.int .i64 (A 0 + C 0), .int .i64 (A 1 + C 1), .int .i64 (A 2 + C 2), .int .i64 (A 3 + C 3), .int .i64 (A 4 + C 4), .int .i64 (A 5 + C 5)]) (run_value rfl (by simp only [List.map_toArray, List.map_cons, List.map_nil, e9, e14, e19, e24, e29, e34]; simp [go_sem])) rfl
    | 31, ho, hin => exact absurd hin (by omega)
    | q + 32, ho, hin => exact absurd ho (by simp)
  · intro x w3 T3 hkn
    simp only [putL, Act.put, List.setIfInBounds_toArray, List.set_cons_succ, List.set_cons_zero, List.drop]
    have R2 := Lib.hid (HR.out.carry T3 (by simp))
    have T2 := Lib.hid (T1.out.trans T3 (by simp))
    have r0 := R2.out.cell 0
    have r1 := R2.out.cell 1
    have r2 := R2.out.cell 2
    have r3 := R2.out.cell 3
    have r4 := R2.out.cell 4
    have r5 := R2.out.cell 5
    have fr := R2.out.fr
    have lr := R2.out.lt
    simp only [List.getElem?_toArray, List.getElem?_cons_zero, List.getElem?_cons_succ] at r0 r1 r2 r3 r4 r5
    have hz := ((((((R2.out.set 0 (.int .i64 (A 0 + C 0))).set 1 (.int .i64 (A 1 + C 1))).set 2 (.int .i64 (A 2 + C 2))).set 3 (.int .i64 (A 3 + C 3))).set 4 (.int .i64 (A 4 + C 4))).set 5 (.int .i64 (A 5 + C 5)))
    have Z := Lib.hid hz
    clear hz T3
    go_wp2_with fail
    refine bodyPost_ret (ret_box rfl rfl (show BoxV _ _ 27 #[.int .i64 (A 0 + C 0), .int .i64 (A 1 + C 1), .int .i64 (A 2 + C 2), .int .i64 (A 3 + C 3), .int .i64 (A 4 + C 4), .int .i64 (A 5 + C 5)] from Z.out) Try.underlying27 rfl (by kernel_rfl)) rfl ⟨rfl, ?_⟩
    exact (((((T2.out.setCell (.inr lg) _).setCell (.inr lg) _).setCell (.inr lg) _).setCell (.inr lg) _).setCell (.inr lg) _).setCell (.inr lg) _
end Go.Proofs.Ytbppccmkmpgibaa
