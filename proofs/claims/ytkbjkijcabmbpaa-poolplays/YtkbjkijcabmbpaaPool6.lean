/-
  Contracts of layer 8 (pool): Free of what is live.
-/
import Derived.Test.YtkbjkijcabmbpaaPool5
namespace Go.Proofs.Ytkbjkijcabmbpaa
open Go.ChangeShapes Go.WideShapes Go.ChangeAt Go.RowKit Go.Deep Go.Maps
set_option linter.unusedVariables false
set_option linter.unusedSimpArgs false

section
variable {w w' : World} {q p g k n ns m c : Nat} {S K : Nat → Int} {mb s : Nat} {M : Pks} {bytes room : Int}
def Freed (w : World) (q p g k n ns m : Nat) (S K : Nat → Int) (mb s : Nat) (M : Pks) (bytes room : Int) (a : Nat) (t : Int) (pk : Pk) (e : Ending) (w' : World) : Prop :=
  ∃ k' c', e = .returned (.tuple #[.agg pk.cells, .bool true]) ∧ PoolAt w' q p g k' n ns (m + 1) c' (upd (upd S (a * 2) 0) (a * 2 + 1) (t + 1)) (upd K m a) mb (s - 1) (putP M a none) (bytes - pk.size) room ∧ Touch [q, p, g, k, mb] w w' ∧ (k' = k ∨ w.heap.size ≤ k')
set_option maxRecDepth 100000 in
set_option maxHeartbeats 1600000 in
theorem free_yes (h : PoolAt w q p g k n ns m c S K mb s M bytes room) (a : Nat) (t : Int) (pk : Pk) (hal : alive n S a t = true) (hM : M a = some pk) (hm : m ≤ 5000) (h0 : 0 ≤ t) (h1 : t < 1000000) (hi : i64k a)
    (hb : 0 ≤ bytes ∧ bytes ≤ 4194304) (hsz : 0 ≤ pk.size ∧ pk.size ≤ 2048) :
    Calls Try.prog 34 #[.pointer (some ⟨q, 0, none⟩), .agg #[.int .i64 (a : Int), .int .i64 t]] w (Freed w q p g k n ns m S K mb s M bytes room a t pk) := by
  have hbh := BoxV.of2 (w := w) (T := 68) (cs := #[.int .i64 (a : Int), .int .i64 t]) (o := .cells zeroPk.cells 66)
  have hbr := BoxV.at1 (w := w) (T := 66) (cs := zeroPk.cells) (o := .cells #[.int .i64 (a : Int), .int .i64 t] 68)
  have t0 : Touch [] w ((w.alloc (.cells #[.int .i64 (a : Int), .int .i64 t] 68)).alloc (.cells zeroPk.cells 66)) := ((Touch.refl [] w).alloc _).alloc _
  have e0 := hbh.cell 0
  have e1 := hbh.cell 1
  simp only [List.getElem?_toArray, List.getElem?_cons_zero, List.getElem?_cons_succ] at e0 e1
  have D1 := Lib.hid (get_yes (h.new t0) a t pk hi hal hM)
  have HLT := Lib.hid (show q < w.heap.size ∧ p < w.heap.size ∧ g < w.heap.size ∧ k < w.heap.size ∧ mb < w.heap.size from ⟨h.box.lt, h.slab.ltp, h.slab.ltg, h.slab.ltk, h.map.lt⟩)
  have H1 := Lib.hid (h.new t0)
  have HBH := Lib.hid hbh
  have HBR := Lib.hid hbr
  have T0 := Lib.hid t0
  have HPM := Lib.hid (show (pksM M a).isSome = true by rw [pksM_some, hM]; rfl)
  have HWR := Lib.hid (show IntKind.i64.wrap (bytes - pk.size) = bytes - pk.size by rw [IntKind.wrap_i64]; omega)
  unfold GetPost zeroPk Pk.cells at D1
  unfold zeroPk Pk.cells at *
  clear hbh hbr t0 h hb hsz hM
  go_enter Try.func34, Try.ntmps34
  go_wp2_with fail
  refine (D1.out).mono ?_
  rintro e w2 ⟨rfl, t2⟩
  clear e0 e1 D1
  simp only at *
  generalize (w.alloc (.cells #[.int .i64 (a : Int), .int .i64 t] 68)).alloc (.cells #[.int .i64 0, .int .i64 0, .int .i64 0, .int .u64 0, .int .u64 0, .int .u64 0, .int .u64 0, .int .i64 0, .int .i64 0, .int .i64 0] 66) = w1 at *
  generalize hbr : w.heap.size + 1 = br at *
  generalize hbs : w.heap.size = bs at *
  have hb6 := BoxV.new w2 66 #[.int .i64 pk.seq, .int .i64 pk.size, .int .i64 pk.ver, .int .u64 pk.sh, .int .u64 pk.sl, .int .u64 pk.dh, .int .u64 pk.dl, .int .i64 pk.proto, .int .i64 pk.sp, .int .i64 pk.dp]
  have T6 : Touch [] w2 (w2.alloc (.cells #[.int .i64 pk.seq, .int .i64 pk.size, .int .i64 pk.ver, .int .u64 pk.sh, .int .u64 pk.sl, .int .u64 pk.dh, .int .u64 pk.dl, .int .i64 pk.proto, .int .i64 pk.sp, .int .i64 pk.dp] 66)) := (Touch.refl [] w2).alloc _
  have l6 := (HBR.out.carry t2 (by simp)).lt
  have H5 := Lib.hid ((H1.out.new t2).new T6)
  have HB6 := Lib.hid hb6
  have HBH := Lib.hid ((HBH.out.carry t2 (by simp)).carry T6 (by simp))
  have HBR := Lib.hid ((HBR.out.carry t2 (by simp)).carry T6 (by simp))
  have T5 := Lib.hid ((T0.out.trans t2 (by simp)).trans T6 (by simp))
  have hl := HLT.out
  generalize hb6n : w2.heap.size = b6 at *
  have HLB := Lib.hid (show q < bs ∧ p < bs ∧ g < bs ∧ k < bs ∧ mb < bs ∧ bs < br ∧ br < b6 ∧ w.heap.size ≤ bs from ⟨hl.1, hl.2.1, hl.2.2.1, hl.2.2.2.1, hl.2.2.2.2, by omega, l6, by omega⟩)
  clear t2 T6 l6 hb6 H1 T0 hl HLT
  go_upto_region 4 with fail
  generalize w2.alloc (.cells #[.int .i64 pk.seq, .int .i64 pk.size, .int .i64 pk.ver, .int .u64 pk.sh, .int .u64 pk.sl, .int .u64 pk.dh, .int .u64 pk.dl, .int .i64 pk.proto, .int .i64 pk.sp, .int .i64 pk.dp] 66) = w5 at *
  clear hb6n hbr
  have k0 : ∀ y : Cls w5, y.val.cell? ⟨q, 0, none⟩ = some (.pointer (some ⟨p, 0, none⟩)) := fun y => (H5.out.box.carry y.property (by simp)).cell 0
  have k1 : ∀ y : Cls w5, y.val.cell? ⟨bs, 0, none⟩ = some (.int .i64 (a : Int)) := fun y => (HBH.out.carry y.property (by simp)).cell 0
  have k2 : ∀ y : Cls w5, y.val.cell? ⟨bs, 1, none⟩ = some (.int .i64 t) := fun y => (HBH.out.carry y.property (by simp)).cell 1
  refine wp_region_tail (wd := w5) 5 (by kernel_rfl) (by kernel_rfl) ((Touch.refl _ _).drew) ?_
  simp only [List.take_succ_cons, List.take_zero, List.drop_succ_cons, List.drop_zero]
  repeat (first | go_big_quiet_step (fail) | quiet_step (fail))
  refine wpQuiet_nil ?_
  intro y
  have H5 := Lib.hid (H5.out.new y.property)
  have HB6 := Lib.hid (HB6.out.carry y.property (by simp))
  have HBH := Lib.hid (HBH.out.carry y.property (by simp))
  have HBR := Lib.hid (HBR.out.carry y.property (by simp))
  have T5 := Lib.hid (T5.out.trans y.property (by simp))
  clear k0 k1 k2
  generalize y.val = wy at *
  have K1 := Lib.hid (give_yes H5.out.slab a t hal hm h0 h1)
  go_wp2_with fail
  refine (K1.out).mono ?_
  rintro e w6 ⟨k', c', rfl, hs6, t6, hk6⟩
  clear K1
  have hlb := HLB.out
  have hsz5 := T5.out.size
  have HFAR := Lib.hid H5.out.far
  have HKB := Lib.hid (show k' ≠ br ∧ k' ≠ b6 ∧ k' ≠ bs from by have := HB6.out.lt; omega)
  have HKN := Lib.hid (show k' = k ∨ w.heap.size ≤ k' from hk6.imp_right fun hx => by omega)
  have HBX := Lib.hid (H5.out.box.carry t6 (by have := H5.out.far; simp; omega))
  have HMP := Lib.hid (H5.out.map.carry t6 (by have := H5.out.far; simp; omega))
  have HB6 := Lib.hid (HB6.out.carry t6 (by simp; omega))
  have HBH := Lib.hid (HBH.out.carry t6 (by simp; omega))
  have HBR := Lib.hid (HBR.out.carry t6 (by simp; omega))
  have TT := Lib.hid (show Touch [q, p, g, k, mb] w w6 from (T5.out.mono (S' := [q, p, g, k, mb]) (by simp)).trans t6 (fun b hb => .inl (by simp at hb ⊢; omega)))
  have S6 := Lib.hid hs6
  clear t6 hs6 hk6 T5 H5 hlb hsz5
  go_upto_region 5 with fail
  have k0 : ∀ y : Cls w6, y.val.cell? ⟨q, 1, none⟩ = some (.map (some mb)) := fun y => (HBX.out.carry y.property (by simp)).cell 1
  have k1 : ∀ y : Cls w6, y.val.cell? ⟨bs, 0, none⟩ = some (.int .i64 (a : Int)) := fun y => (HBH.out.carry y.property (by simp)).cell 0
  refine wp_region_tail (wd := w6) 6 (by kernel_rfl) (by kernel_rfl) ((Touch.refl _ _).drew) ?_
  simp only [List.take_succ_cons, List.take_zero, List.drop_succ_cons, List.drop_zero]
  repeat (first | go_big_quiet_step (fail) | quiet_step (fail))
  refine wpQuiet_nil ?_
  intro y
  clear k0 k1
  have hm7 := HMP.out.carry y.property (by simp)
  obtain ⟨w8, hrun, hM8, t8⟩ := hm7.drop Try.underlying3 Try.underlying103 hi 0
  rw [if_pos HPM.out, pksM_drop] at hM8
  have hne := HFAR.out
  have hlb := HLB.out
  have hkn := HKN.out
  have HM8 := Lib.hid hM8
  have HBX := Lib.hid ((HBX.out.carry y.property (by simp)).carry t8 (by simp; omega))
  have HB6 := Lib.hid ((HB6.out.carry y.property (by simp)).carry t8 (by simp; omega))
  have HBR := Lib.hid ((HBR.out.carry y.property (by simp)).carry t8 (by simp; omega))
  have S8 := Lib.hid ((S6.out.carry y.property (by simp) (by simp) (by simp)).carry t8 (by simp; omega) (by simp; omega) (by simp; omega))
  have T8 := Lib.hid ((TT.out.trans y.property (by simp)).trans t8 (fun b hb => .inl (by simp at hb ⊢; omega)))
  clear hm7 hM8 t8 S6 TT HMP HBH hne hlb hkn
  go_upto_region 6 with fail
  clear hrun
  refine wp_region_store2 (wd := w8) 9 (Leaf.const (.pointer (some ⟨q, 0, none⟩)) :: Leaf.const ((.pointer (some ⟨q, 0, none⟩))) :: Leaf.const (.pointer (some ⟨q, 2, none⟩)) :: Leaf.const (.int .i64 bytes) :: Leaf.const (.pointer (some ⟨b6, 1, none⟩)) :: Leaf.const (.int .i64 pk.size) :: Leaf.const (.int .i64 (bytes - pk.size)) :: Leaf.const ((.pointer (some ⟨q, 0, none⟩))) :: Leaf.const (.pointer (some ⟨q, 2, none⟩)) :: Leaf.const undef :: []) (by kernel_rfl) (by kernel_rfl) (by kernel_rfl) (by kernel_rfl) ((Touch.refl _ _).drew) (trivial) ?_ ?_
  · intro i o ho hin ac w ht hk hd
    match i, ho, hin with
    | 0, ho, hin =>
      have ho' : some _ = some o := ho
      cases ho'
      clear ho
      have e0 := known_slot hk 0 (by kernel_rfl) (v := .pointer (some ⟨q, 0, none⟩)) rfl
      exact do_value (wanted_none rfl) (by rw [BigFrame.run_move (.tmp 0) rfl, e0]) rfl
    | 1, ho, hin =>
      have ho' : some _ = some o := ho
      cases ho'
      clear ho
      have e29 := has_const (has_dep hd 0 (by kernel_rfl)) rfl rfl rfl (c := (.pointer (some ⟨q, 0, none⟩)))
      exact do_value (wanted_none rfl) (v := (.pointer (some ⟨q, 0, none⟩))) (by unfold execOp; simp only [e29]; rfl) rfl
    | 2, ho, hin =>
      have ho' : some _ = some o := ho
      cases ho'
      clear ho
      have e30 := has_const (has_dep hd 1 (by kernel_rfl)) rfl rfl rfl (c := (.pointer (some ⟨q, 0, none⟩)))
      exact do_value (wanted_none rfl) (v := .pointer (some ⟨q, 2, none⟩)) (run_value rfl (by rw [e30]; simp [go_sem])) rfl
    | 3, ho, hin =>
      have ho' : some _ = some o := ho
      cases ho'
      clear ho
      have e31 := has_const (has_dep hd 2 (by kernel_rfl)) rfl rfl rfl (c := (.pointer (some ⟨q, 2, none⟩)))
      have c2 := (HBX.out.carry ht (by simp)).cell 2
      simp only [List.getElem?_toArray, List.getElem?_cons_zero, List.getElem?_cons_succ] at c2
      exact do_value (wanted_none rfl) (v := .int .i64 bytes) (run_value rfl (by rw [e31]; simp [go_sem, c2])) rfl
    | 4, ho, hin =>
      have ho' : some _ = some o := ho
      cases ho'
      clear ho
      have e6 := known_slot hk 6 (by kernel_rfl) (v := .pointer (some ⟨b6, 0, none⟩)) rfl
      exact do_value (wanted_none rfl) (v := .pointer (some ⟨b6, 1, none⟩)) (run_value rfl (by rw [e6]; simp [go_sem])) rfl
    | 5, ho, hin =>
      have ho' : some _ = some o := ho
      cases ho'
      clear ho
      have e33 := has_const (has_dep hd 4 (by kernel_rfl)) rfl rfl rfl (c := (.pointer (some ⟨b6, 1, none⟩)))
      have e1 := (HB6.out.carry ht (by simp)).cell 1
      simp only [List.getElem?_toArray, List.getElem?_cons_zero, List.getElem?_cons_succ] at e1
      exact do_value (wanted_none rfl) (v := .int .i64 pk.size) (run_value rfl (by rw [e33]; simp [go_sem, e1])) rfl
    | 6, ho, hin =>
      have ho' : some _ = some o := ho
      cases ho'
      clear ho
      have e32 := has_const (has_dep hd 3 (by kernel_rfl)) rfl rfl rfl (c := (.int .i64 bytes))
      have e34 := has_const (has_dep hd 5 (by kernel_rfl)) rfl rfl rfl (c := (.int .i64 pk.size))
      exact do_value (wanted_none rfl) (v := .int .i64 (bytes - pk.size)) (run_value rfl (by rw [e32, e34]; simp [go_sem, HWR.out])) rfl
    | 7, ho, hin =>
      have ho' : some _ = some o := ho
      cases ho'
      clear ho
      have e29 := has_const (has_dep hd 0 (by kernel_rfl)) rfl rfl rfl (c := (.pointer (some ⟨q, 0, none⟩)))
      exact do_value (wanted_none rfl) (v := (.pointer (some ⟨q, 0, none⟩))) (by unfold execOp; simp only [e29]; rfl) rfl
    | 8, ho, hin =>
      have ho' : some _ = some o := ho
      cases ho'
      clear ho
      have e36 := has_const (has_dep hd 7 (by kernel_rfl)) rfl rfl rfl (c := (.pointer (some ⟨q, 0, none⟩)))
      exact do_value (wanted_none rfl) (v := .pointer (some ⟨q, 2, none⟩)) (run_value rfl (by rw [e36]; simp [go_sem])) rfl
    | 9, ho, hin => exact absurd hin (by omega)
    | q + 10, ho, hin => exact absurd ho (by simp)
  · intro z w9 T9 hkn
    simp only [putL, Act.put, List.setIfInBounds_toArray, List.set_cons_succ, List.set_cons_zero, List.drop]
    clear hkn
    have hne := HFAR.out
    have hlb := HLB.out
    have hkk := HKN.out
    have hkb := HKB.out
    have hbx := HBX.out.carry T9 (by simp)
    have lq := hbx.lt
    have c2 := hbx.cell 2
    have f2 := hbx.fr 2
    have hbx2 := hbx.set 2 (.int .i64 (bytes - pk.size))
    have T10 : Touch [q] w9 (w9.setCell ⟨q, 2, none⟩ (.int .i64 (bytes - pk.size))) := (Touch.refl [q] w9).setCell (a := ⟨q, 2, none⟩) (.inl (by simp)) _
    have hb6 := (HB6.out.carry T9 (by simp)).carry T10 (by simp; omega)
    have l6 := hb6.lt
    have g0 := hb6.cell 0
    have g1 := hb6.cell 1
    have g2 := hb6.cell 2
    have g3 := hb6.cell 3
    have g4 := hb6.cell 4
    have g5 := hb6.cell 5
    have g6 := hb6.cell 6
    have g7 := hb6.cell 7
    have g8 := hb6.cell 8
    have g9 := hb6.cell 9
    have hbr2 := (HBR.out.carry T9 (by simp)).carry T10 (by simp; omega)
    have zl := hbr2.lt
    have zd0 := hbr2.cell 0
    have zf0 := hbr2.fr 0
    have zh1 := hbr2.set 0 (.int .i64 pk.seq)
    have zd1 := zh1.cell 1
    have zf1 := zh1.fr 1
    have zh2 := zh1.set 1 (.int .i64 pk.size)
    have zd2 := zh2.cell 2
    have zf2 := zh2.fr 2
    have zh3 := zh2.set 2 (.int .i64 pk.ver)
    have zd3 := zh3.cell 3
    have zf3 := zh3.fr 3
    have zh4 := zh3.set 3 (.int .u64 pk.sh)
    have zd4 := zh4.cell 4
    have zf4 := zh4.fr 4
    have zh5 := zh4.set 4 (.int .u64 pk.sl)
    have zd5 := zh5.cell 5
    have zf5 := zh5.fr 5
    have zh6 := zh5.set 5 (.int .u64 pk.dh)
    have zd6 := zh6.cell 6
    have zf6 := zh6.fr 6
    have zh7 := zh6.set 6 (.int .u64 pk.dl)
    have zd7 := zh7.cell 7
    have zf7 := zh7.fr 7
    have zh8 := zh7.set 7 (.int .i64 pk.proto)
    have zd8 := zh8.cell 8
    have zf8 := zh8.fr 8
    have zh9 := zh8.set 8 (.int .i64 pk.sp)
    have zd9 := zh9.cell 9
    have zf9 := zh9.fr 9
    have zh10 := zh9.set 9 (.int .i64 pk.dp)
    simp only [List.setIfInBounds_toArray, List.set_cons_succ, List.set_cons_zero, List.getElem?_toArray, List.getElem?_cons_zero, List.getElem?_cons_succ] at zd0 zd1 zd2 zd3 zd4 zd5 zd6 zd7 zd8 zd9
    have zT : Touch [br] (w9.setCell ⟨q, 2, none⟩ (.int .i64 (bytes - pk.size))) (((((((((((w9.setCell ⟨q, 2, none⟩ (.int .i64 (bytes - pk.size))).setCell ⟨br, 0, none⟩ (.int .i64 pk.seq)).setCell ⟨br, 1, none⟩ (.int .i64 pk.size)).setCell ⟨br, 2, none⟩ (.int .i64 pk.ver)).setCell ⟨br, 3, none⟩ (.int .u64 pk.sh)).setCell ⟨br, 4, none⟩ (.int .u64 pk.sl)).setCell ⟨br, 5, none⟩ (.int .u64 pk.dh)).setCell ⟨br, 6, none⟩ (.int .u64 pk.dl)).setCell ⟨br, 7, none⟩ (.int .i64 pk.proto)).setCell ⟨br, 8, none⟩ (.int .i64 pk.sp)).setCell ⟨br, 9, none⟩ (.int .i64 pk.dp)) := (((((((((((Touch.refl [br] (w9.setCell ⟨q, 2, none⟩ (.int .i64 (bytes - pk.size)))).setCell (a := ⟨br, 0, none⟩) (.inl (by simp)) (.int .i64 pk.seq)).setCell (a := ⟨br, 1, none⟩) (.inl (by simp)) (.int .i64 pk.size)).setCell (a := ⟨br, 2, none⟩) (.inl (by simp)) (.int .i64 pk.ver)).setCell (a := ⟨br, 3, none⟩) (.inl (by simp)) (.int .u64 pk.sh)).setCell (a := ⟨br, 4, none⟩) (.inl (by simp)) (.int .u64 pk.sl)).setCell (a := ⟨br, 5, none⟩) (.inl (by simp)) (.int .u64 pk.dh)).setCell (a := ⟨br, 6, none⟩) (.inl (by simp)) (.int .u64 pk.dl)).setCell (a := ⟨br, 7, none⟩) (.inl (by simp)) (.int .i64 pk.proto)).setCell (a := ⟨br, 8, none⟩) (.inl (by simp)) (.int .i64 pk.sp)).setCell (a := ⟨br, 9, none⟩) (.inl (by simp)) (.int .i64 pk.dp))
    simp only [List.getElem?_toArray, List.getElem?_cons_zero, List.getElem?_cons_succ] at g0 g1 g2 g3 g4 g5 g6 g7 g8 g9 c2
    simp only [List.setIfInBounds_toArray, List.set_cons_succ, List.set_cons_zero] at zh10 hbx2
    have HBB := Lib.hid zh10
    have HP := Lib.hid (show PoolAt _ q p g k' n ns (m + 1) c' (upd (upd S (a * 2) 0) (a * 2 + 1) (t + 1)) (upd K m a) mb (s - 1) (putP M a none) (bytes - pk.size) room from
      ⟨hbx2.carry zT (by simp; omega), ((S8.out.carry T9 (by simp) (by simp) (by simp)).carry T10 (by simp; omega) (by simp; omega) (by simp; omega)).carry zT (by simp; omega) (by simp; omega) (by simp; omega),
        ((HM8.out.carry T9 (by simp)).carry T10 (by simp; omega)).carry zT (by simp; omega), by omega⟩)
    have HT := Lib.hid (((T8.out.trans T9 (by simp)).trans T10 (fun b hb => .inl (by simp at hb ⊢; omega))).trans zT (fun b hb => by simp at hb; subst hb; exact .inr (by omega)))
    clear hbx hbx2 hb6 hbr2 zT T9 T10 zh1 zh2 zh3 zh4 zh5 zh6 zh7 zh8 zh9 zh10 HBX HB6 HBR S8 HM8 T8 hne hlb hkk hkb
    go_wp2_with fail
    exact bodyPost_ret (ret_box_slot (t := 66) Try.results34 rfl HBB.out Try.underlying66 rfl (by kernel_rfl) (v2 := .bool true) rfl) rfl ⟨k', c', by unfold Pk.cells; rfl, HP.out, HT.out, HKN.out⟩
end
end Go.Proofs.Ytkbjkijcabmbpaa
