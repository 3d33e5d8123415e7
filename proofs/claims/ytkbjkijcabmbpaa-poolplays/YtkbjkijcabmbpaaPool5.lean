/-
  Contracts of layer 8 (pool): Free of what isn't live, of the nil buffer.
-/
import Derived.Test.YtkbjkijcabmbpaaPool4
namespace Go.Proofs.Ytkbjkijcabmbpaa
open Go.ChangeShapes Go.WideShapes Go.ChangeAt Go.RowKit Go.Deep Go.Maps
set_option linter.unusedVariables false
set_option linter.unusedSimpArgs false

section
variable {w w' : World} {q p g k n ns m c : Nat} {S K : Nat → Int} {mb s : Nat} {M : Pks} {bytes room : Int}
set_option maxRecDepth 100000 in
set_option maxHeartbeats 1200000 in
theorem free_no_of (v : Value) (a t : Int) {w : World} (D : Hid (∀ w1, Touch [] w w1 → Calls Try.prog 32 #[v, .agg #[.int .i64 a, .int .i64 t]] w1 (GetPost zeroPk false w1))) :
    Calls Try.prog 34 #[v, .agg #[.int .i64 a, .int .i64 t]] w (GetPost zeroPk false w) := by
  have hbh := BoxV.of2 (w := w) (T := 68) (cs := #[.int .i64 a, .int .i64 t]) (o := .cells zeroPk.cells 66)
  have hbr := BoxV.at1 (w := w) (T := 66) (cs := zeroPk.cells) (o := .cells #[.int .i64 a, .int .i64 t] 68)
  have t0 : Touch [] w ((w.alloc (.cells #[.int .i64 a, .int .i64 t] 68)).alloc (.cells zeroPk.cells 66)) := ((Touch.refl [] w).alloc _).alloc _
  have e0 := hbh.cell 0
  have e1 := hbh.cell 1
  simp only [List.getElem?_toArray, List.getElem?_cons_zero, List.getElem?_cons_succ] at e0 e1
  have D1 := Lib.hid (D.out _ t0)
  have HBR := Lib.hid hbr
  have T0 := Lib.hid t0
  unfold GetPost zeroPk Pk.cells at *
  clear hbh hbr t0 D
  go_enter Try.func34, Try.ntmps34
  go_wp2_with fail
  refine (D1.out).mono ?_
  rintro e w2 ⟨rfl, t2⟩
  clear e0 e1 D1
  simp only at *
  generalize (w.alloc (.cells #[.int .i64 a, .int .i64 t] 68)).alloc (.cells #[.int .i64 0, .int .i64 0, .int .i64 0, .int .u64 0, .int .u64 0, .int .u64 0, .int .u64 0, .int .i64 0, .int .i64 0, .int .i64 0] 66) = w1 at *
  generalize hbr : w.heap.size + 1 = br at *
  generalize hbs : w.heap.size = bs at *
  have HLB := Lib.hid (show w.heap.size ≤ br by omega)
  have hb6 := BoxV.new w2 66 #[.int .i64 0, .int .i64 0, .int .i64 0, .int .u64 0, .int .u64 0, .int .u64 0, .int .u64 0, .int .i64 0, .int .i64 0, .int .i64 0]
  have hlr := (HBR.out.carry t2 (by simp)).lt
  have l2 := (T0.out.trans t2 (by simp)).size
  have T6 : Touch [] w2 (w2.alloc (.cells #[.int .i64 0, .int .i64 0, .int .i64 0, .int .u64 0, .int .u64 0, .int .u64 0, .int .u64 0, .int .i64 0, .int .i64 0, .int .i64 0] 66)) := (Touch.refl [] w2).alloc _
  have hbr2 := ((HBR.out.carry t2 (by simp)).carry T6 (by simp))
  have T5 := Lib.hid (((T0.out.trans t2 (by simp)).trans T6 (by simp)))
  have HBR := Lib.hid hbr2
  clear hbr2 T6 t2 hb6 hbr hbs
  go_upto_region 2 with fail
  generalize (w2.alloc (.cells #[.int .i64 0, .int .i64 0, .int .i64 0, .int .u64 0, .int .u64 0, .int .u64 0, .int .u64 0, .int .i64 0, .int .i64 0, .int .i64 0] 66)) = w5 at *
  have hbr2 := HBR.out
  have zl := hbr2.lt
  have zd0 := hbr2.cell 0
  have zf0 := hbr2.fr 0
  have zh1 := hbr2.set 0 (.int .i64 0)
  have zd1 := zh1.cell 1
  have zf1 := zh1.fr 1
  have zh2 := zh1.set 1 (.int .i64 0)
  have zd2 := zh2.cell 2
  have zf2 := zh2.fr 2
  have zh3 := zh2.set 2 (.int .i64 0)
  have zd3 := zh3.cell 3
  have zf3 := zh3.fr 3
  have zh4 := zh3.set 3 (.int .u64 0)
  have zd4 := zh4.cell 4
  have zf4 := zh4.fr 4
  have zh5 := zh4.set 4 (.int .u64 0)
  have zd5 := zh5.cell 5
  have zf5 := zh5.fr 5
  have zh6 := zh5.set 5 (.int .u64 0)
  have zd6 := zh6.cell 6
  have zf6 := zh6.fr 6
  have zh7 := zh6.set 6 (.int .u64 0)
  have zd7 := zh7.cell 7
  have zf7 := zh7.fr 7
  have zh8 := zh7.set 7 (.int .i64 0)
  have zd8 := zh8.cell 8
  have zf8 := zh8.fr 8
  have zh9 := zh8.set 8 (.int .i64 0)
  have zd9 := zh9.cell 9
  have zf9 := zh9.fr 9
  have zh10 := zh9.set 9 (.int .i64 0)
  simp only [List.setIfInBounds_toArray, List.set_cons_succ, List.set_cons_zero, List.getElem?_toArray, List.getElem?_cons_zero, List.getElem?_cons_succ] at zd0 zd1 zd2 zd3 zd4 zd5 zd6 zd7 zd8 zd9
  have zT : Touch [br] w5 ((((((((((w5.setCell ⟨br, 0, none⟩ (.int .i64 0)).setCell ⟨br, 1, none⟩ (.int .i64 0)).setCell ⟨br, 2, none⟩ (.int .i64 0)).setCell ⟨br, 3, none⟩ (.int .u64 0)).setCell ⟨br, 4, none⟩ (.int .u64 0)).setCell ⟨br, 5, none⟩ (.int .u64 0)).setCell ⟨br, 6, none⟩ (.int .u64 0)).setCell ⟨br, 7, none⟩ (.int .i64 0)).setCell ⟨br, 8, none⟩ (.int .i64 0)).setCell ⟨br, 9, none⟩ (.int .i64 0)) := (((((((((((Touch.refl [br] w5).setCell (a := ⟨br, 0, none⟩) (.inl (by simp)) (.int .i64 0)).setCell (a := ⟨br, 1, none⟩) (.inl (by simp)) (.int .i64 0)).setCell (a := ⟨br, 2, none⟩) (.inl (by simp)) (.int .i64 0)).setCell (a := ⟨br, 3, none⟩) (.inl (by simp)) (.int .u64 0)).setCell (a := ⟨br, 4, none⟩) (.inl (by simp)) (.int .u64 0)).setCell (a := ⟨br, 5, none⟩) (.inl (by simp)) (.int .u64 0)).setCell (a := ⟨br, 6, none⟩) (.inl (by simp)) (.int .u64 0)).setCell (a := ⟨br, 7, none⟩) (.inl (by simp)) (.int .i64 0)).setCell (a := ⟨br, 8, none⟩) (.inl (by simp)) (.int .i64 0)).setCell (a := ⟨br, 9, none⟩) (.inl (by simp)) (.int .i64 0))
  simp only [List.setIfInBounds_toArray, List.set_cons_succ, List.set_cons_zero] at zh10
  have HBB := Lib.hid zh10
  have HT := Lib.hid (T5.out.trans zT (fun b hb => by simp at hb; subst hb; exact .inr HLB.out))
  clear hbr2 zT zh1 zh2 zh3 zh4 zh5 zh6 zh7 zh8 zh9 zh10
  go_wp2_with fail
  exact bodyPost_ret (ret_box_slot (t := 66) Try.results34 rfl HBB.out Try.underlying66 rfl (by kernel_rfl) (v2 := .bool false) rfl) rfl ⟨rfl, HT.out⟩
theorem free_nil (a t : Int) (w : World) : Calls Try.prog 34 #[.pointer none, .agg #[.int .i64 a, .int .i64 t]] w (GetPost zeroPk false w) :=
  free_no_of _ a t (Lib.hid fun w1 _ => get_nil a t w1)
theorem free_no (h : PoolAt w q p g k n ns m c S K mb s M bytes room) (a t : Int) (hal : alive n S a t = false) :
    Calls Try.prog 34 #[.pointer (some ⟨q, 0, none⟩), .agg #[.int .i64 a, .int .i64 t]] w (GetPost zeroPk false w) :=
  free_no_of _ a t (Lib.hid fun w1 t1 => get_no (h.new t1) a t hal)
end
end Go.Proofs.Ytkbjkijcabmbpaa
