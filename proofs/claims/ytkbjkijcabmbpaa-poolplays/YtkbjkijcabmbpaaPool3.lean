/-
  Contracts of layer 8 (pool): Get.
-/
import Derived.Test.YtkbjkijcabmbpaaPool2
import Derived.Test.YtkbjkijcabmbpaaCls
namespace Go.Proofs.Ytkbjkijcabmbpaa
open Go.ChangeShapes Go.WideShapes Go.ChangeAt Go.RowKit Go.Deep Go.Maps
set_option linter.unusedVariables false
set_option linter.unusedSimpArgs false

section
variable {w w' : World} {q p g k n ns m c : Nat} {S K : Nat → Int} {mb s : Nat} {M : Pks} {bytes room : Int}
def GetPost (x : Pk) (ok : Bool) (w : World) (e : Ending) (w' : World) : Prop := e = .returned (.tuple #[.agg x.cells, .bool ok]) ∧ Touch [] w w'
theorem ent45 (args : Array Value) (w : World) : (callFunc 56 args).run Try.prog w = .ok (.enter 56 args) w := by
  simp [callFunc, Try.func56]
  rfl
set_option maxRecDepth 100000 in
set_option maxHeartbeats 4000000 in
theorem get_no (h : PoolAt w q p g k n ns m c S K mb s M bytes room) (a t : Int) (hal : alive n S a t = false) :
    Calls Try.prog 32 #[.pointer (some ⟨q, 0, none⟩), .agg #[.int .i64 a, .int .i64 t]] w (GetPost zeroPk false w) := by
  have hbh := BoxV.of2 (w := w) (T := 68) (cs := #[.int .i64 a, .int .i64 t]) (o := .cells zeroPk.cells 66)
  have hbr := BoxV.at1 (w := w) (T := 66) (cs := zeroPk.cells) (o := .cells #[.int .i64 a, .int .i64 t] 68)
  have t0 : Touch [] w ((w.alloc (.cells #[.int .i64 a, .int .i64 t] 68)).alloc (.cells zeroPk.cells 66)) := ((Touch.refl [] w).alloc _).alloc _
  have HBX := Lib.hid (h.new t0).box
  have LV := Lib.hid (fun w1 (t1 : Touch [] ((w.alloc (.cells #[.int .i64 a, .int .i64 t] 68)).alloc (.cells zeroPk.cells 66)) w1) => live_any (((h.new t0).new t1).slab) a t)
  rw [hal] at LV
  have HBH := Lib.hid hbh
  have HBR := Lib.hid hbr
  have T0 := Lib.hid t0
  unfold zeroPk Pk.cells at *
  clear hbh hbr t0 h
  go_enter Try.func32, Try.ntmps32
  go_upto_region 1 with fail
  simp only at *
  generalize (w.alloc (.cells #[.int .i64 a, .int .i64 t] 68)).alloc (.cells #[.int .i64 0, .int .i64 0, .int .i64 0, .int .u64 0, .int .u64 0, .int .u64 0, .int .u64 0, .int .i64 0, .int .i64 0, .int .i64 0] 66) = w1 at *
  generalize hbr : w.heap.size + 1 = br at *
  generalize hbs : w.heap.size = bs at *
  have HLB := Lib.hid (show w.heap.size ≤ br by omega)
  refine wp_region_leaves (wd := w1) (Leaf.const (.pointer (some ⟨q, 0, none⟩)) :: Leaf.const (.bool false) :: Leaf.const ((.bool false)) :: Leaf.const (.pointer (some ⟨q, 0, none⟩)) :: Leaf.const ((.pointer (some ⟨q, 0, none⟩))) :: Leaf.const (.pointer (some ⟨q, 0, none⟩)) :: Leaf.const (.pointer (some ⟨p, 0, none⟩)) :: Leaf.const (.agg #[.int .i64 a, .int .i64 t]) :: Leaf.const (.bool false) :: Leaf.const (.bool true) :: Leaf.const ((.bool true)) :: []) (by kernel_rfl) (by kernel_rfl) (by kernel_rfl) ((Touch.refl _ _).drew) (trivial) ?_ ?_
  · intro i o ho ac w ht hk hd
    match i, ho with
    | 0, ho =>
      have ho' : some _ = some o := ho
      cases ho'
      clear ho
      have e0 := known_slot hk 0 (by kernel_rfl) (v := .pointer (some ⟨q, 0, none⟩)) rfl
      exact do_value (wanted_none rfl) (by rw [BigFrame.run_move (.tmp 0) rfl, e0]) rfl
    | 1, ho =>
      have ho' : some _ = some o := ho
      cases ho'
      clear ho
      have e6 := has_const (has_dep hd 0 (by kernel_rfl)) rfl rfl rfl (c := (.pointer (some ⟨q, 0, none⟩)))
      exact do_value (wanted_none rfl) (v := .bool false) (run_value rfl (by rw [e6]; simp [go_sem])) rfl
    | 2, ho =>
      have ho' : some _ = some o := ho
      cases ho'
      clear ho
      have e7 := has_const (has_dep hd 1 (by kernel_rfl)) rfl rfl rfl (c := (.bool false))
      exact do_value (wanted_none rfl) (by rw [BigFrame.run_move (.tmp 7) rfl, e7]) rfl
    | 3, ho =>
      have ho' : some _ = some o := ho
      cases ho'
      clear ho
      have e8 := has_const (has_dep hd 2 (by kernel_rfl)) rfl rfl rfl (c := (.bool false))
      have e0 := known_slot hk 0 (by kernel_rfl) (v := .pointer (some ⟨q, 0, none⟩)) rfl
      exact do_value (wanted_some (g := 2) rfl rfl rfl e8) (by rw [BigFrame.run_move (.tmp 0) rfl, e0]) rfl
    | 4, ho =>
      have ho' : some _ = some o := ho
      cases ho'
      clear ho
      have e8 := has_const (has_dep hd 2 (by kernel_rfl)) rfl rfl rfl (c := (.bool false))
      have e9 := has_const (has_dep hd 3 (by kernel_rfl)) rfl rfl rfl (c := (.pointer (some ⟨q, 0, none⟩)))
      exact do_value (wanted_some (g := 2) rfl rfl rfl e8) (v := (.pointer (some ⟨q, 0, none⟩))) (by unfold execOp; simp only [e9]; rfl) rfl
    | 5, ho =>
      have ho' : some _ = some o := ho
      cases ho'
      clear ho
      have e8 := has_const (has_dep hd 2 (by kernel_rfl)) rfl rfl rfl (c := (.bool false))
      have e10 := has_const (has_dep hd 4 (by kernel_rfl)) rfl rfl rfl (c := (.pointer (some ⟨q, 0, none⟩)))
      exact do_value (wanted_some (g := 2) rfl rfl rfl e8) (v := .pointer (some ⟨q, 0, none⟩)) (run_value rfl (by rw [e10]; simp [go_sem])) rfl
    | 6, ho =>
      have ho' : some _ = some o := ho
      cases ho'
      clear ho
      have e8 := has_const (has_dep hd 2 (by kernel_rfl)) rfl rfl rfl (c := (.bool false))
      have e11 := has_const (has_dep hd 5 (by kernel_rfl)) rfl rfl rfl (c := (.pointer (some ⟨q, 0, none⟩)))
      have c0 := (HBX.out.carry ht (by simp)).cell 0
      simp only [List.getElem?_toArray, List.getElem?_cons_zero, List.getElem?_cons_succ] at c0
      exact do_value (wanted_some (g := 2) rfl rfl rfl e8) (v := .pointer (some ⟨p, 0, none⟩)) (run_value rfl (by rw [e11]; simp [go_sem, c0])) rfl
    | 7, ho =>
      have ho' : some _ = some o := ho
      cases ho'
      clear ho
      have e8 := has_const (has_dep hd 2 (by kernel_rfl)) rfl rfl rfl (c := (.bool false))
      have e3 := known_slot hk 3 (by kernel_rfl) (v := .pointer (some ⟨bs, 0, none⟩)) rfl
      have e0 := (HBH.out.carry ht (by simp)).cell 0
      simp only [List.getElem?_toArray, List.getElem?_cons_zero, List.getElem?_cons_succ] at e0
      have e1 := (HBH.out.carry ht (by simp)).cell 1
      simp only [List.getElem?_toArray, List.getElem?_cons_zero, List.getElem?_cons_succ] at e1
      exact do_value (wanted_some (g := 2) rfl rfl rfl e8) (v := .agg #[.int .i64 a, .int .i64 t]) (run_value rfl (by rw [e3]; simp [go_sem, e0, e1])) rfl
    | 8, ho =>
      have ho' : some _ = some o := ho
      cases ho'
      clear ho
      have e8 := has_const (has_dep hd 2 (by kernel_rfl)) rfl rfl rfl (c := (.bool false))
      have e12 := has_const (has_dep hd 6 (by kernel_rfl)) rfl rfl rfl (c := (.pointer (some ⟨p, 0, none⟩)))
      have e13 := has_const (has_dep hd 7 (by kernel_rfl)) rfl rfl rfl (c := (.agg #[.int .i64 a, .int .i64 t]))
      refine do_enter (wanted_some (g := 2) rfl rfl rfl e8) (f := 56) (args := #[(.pointer (some ⟨p, 0, none⟩)), (.agg #[.int .i64 a, .int .i64 t])]) (by rw [run_go3 56 _ _ rfl, ent45]; simp [eval_c, e12, e13]) ?_
      exact Calls.leaf (LV.out _ ht)
    | 9, ho =>
      have ho' : some _ = some o := ho
      cases ho'
      clear ho
      have e8 := has_const (has_dep hd 2 (by kernel_rfl)) rfl rfl rfl (c := (.bool false))
      have e14 := has_const (has_dep hd 8 (by kernel_rfl)) rfl rfl rfl (c := (.bool false))
      exact do_value (wanted_some (g := 2) rfl rfl rfl e8) (v := .bool true) (run_value rfl (by rw [e14]; simp [go_sem])) rfl
    | 10, ho =>
      have ho' : some _ = some o := ho
      cases ho'
      clear ho
      have e8 := has_const (has_dep hd 2 (by kernel_rfl)) rfl rfl rfl (c := (.bool false))
      have e15 := has_const (has_dep hd 9 (by kernel_rfl)) rfl rfl rfl (c := (.bool true))
      exact do_value (wanted_none rfl) (by rw [run_pickF (c := .tmp 8) (x := .const (.bool true)) (y := .tmp 15) rfl e8, e15]) rfl
    | q + 11, ho => exact absurd ho (by simp)
  · intro x w2 T2 hkn
    simp only [putL, Act.put, List.setIfInBounds_toArray, List.set_cons_succ, List.set_cons_zero]
    clear hkn
    have hbr2 := HBR.out.carry T2 (by simp)
    have zl := hbr2.lt
    have zd0 := hbr2.cell 0
    have zf0 := hbr2.fr 0
    have zh1 := hbr2.set 0 (.int .i64 0)
    have zd1 := zh1.cell 1
    have zf1 := zh1.fr 1
    have zh2 := zh1.set 1 (.int .i64 0)
    have zd2 := zh2.cell 2
    have zf2 := zh2.fr 2
    have zh3 := zh2.set 2 (.int .i64 0)
    have zd3 := zh3.cell 3
    have zf3 := zh3.fr 3
    have zh4 := zh3.set 3 (.int .u64 0)
    have zd4 := zh4.cell 4
    have zf4 := zh4.fr 4
    have zh5 := zh4.set 4 (.int .u64 0)
    have zd5 := zh5.cell 5
    have zf5 := zh5.fr 5
    have zh6 := zh5.set 5 (.int .u64 0)
    have zd6 := zh6.cell 6
    have zf6 := zh6.fr 6
    have zh7 := zh6.set 6 (.int .u64 0)
    have zd7 := zh7.cell 7
    have zf7 := zh7.fr 7
    have zh8 := zh7.set 7 (.int .i64 0)
    have zd8 := zh8.cell 8
    have zf8 := zh8.fr 8
    have zh9 := zh8.set 8 (.int .i64 0)
    have zd9 := zh9.cell 9
    have zf9 := zh9.fr 9
    have zh10 := zh9.set 9 (.int .i64 0)
    simp only [List.setIfInBounds_toArray, List.set_cons_succ, List.set_cons_zero, List.getElem?_toArray, List.getElem?_cons_zero, List.getElem?_cons_succ] at zd0 zd1 zd2 zd3 zd4 zd5 zd6 zd7 zd8 zd9
    have zT : Touch [br] w2 ((((((((((w2.setCell ⟨br, 0, none⟩ (.int .i64 0)).setCell ⟨br, 1, none⟩ (.int .i64 0)).setCell ⟨br, 2, none⟩ (.int .i64 0)).setCell ⟨br, 3, none⟩ (.int .u64 0)).setCell ⟨br, 4, none⟩ (.int .u64 0)).setCell ⟨br, 5, none⟩ (.int .u64 0)).setCell ⟨br, 6, none⟩ (.int .u64 0)).setCell ⟨br, 7, none⟩ (.int .i64 0)).setCell ⟨br, 8, none⟩ (.int .i64 0)).setCell ⟨br, 9, none⟩ (.int .i64 0)) := (((((((((((Touch.refl [br] w2).setCell (a := ⟨br, 0, none⟩) (.inl (by simp)) (.int .i64 0)).setCell (a := ⟨br, 1, none⟩) (.inl (by simp)) (.int .i64 0)).setCell (a := ⟨br, 2, none⟩) (.inl (by simp)) (.int .i64 0)).setCell (a := ⟨br, 3, none⟩) (.inl (by simp)) (.int .u64 0)).setCell (a := ⟨br, 4, none⟩) (.inl (by simp)) (.int .u64 0)).setCell (a := ⟨br, 5, none⟩) (.inl (by simp)) (.int .u64 0)).setCell (a := ⟨br, 6, none⟩) (.inl (by simp)) (.int .u64 0)).setCell (a := ⟨br, 7, none⟩) (.inl (by simp)) (.int .i64 0)).setCell (a := ⟨br, 8, none⟩) (.inl (by simp)) (.int .i64 0)).setCell (a := ⟨br, 9, none⟩) (.inl (by simp)) (.int .i64 0))
    have HBB := Lib.hid zh10
    have HT := Lib.hid ((T0.out.trans T2 (by simp)).trans zT (fun b hb => by simp at hb; subst hb; exact .inr HLB.out))
    clear hbr2 T2 zT zh1 zh2 zh3 zh4 zh5 zh6 zh7 zh8 zh9 zh10
    go_wp2_with fail
    exact bodyPost_ret (ret_box_slot (t := 66) Try.results32 rfl HBB.out Try.underlying66 rfl (by kernel_rfl) rfl) rfl ⟨rfl, HT.out⟩
end
end Go.Proofs.Ytkbjkijcabmbpaa
