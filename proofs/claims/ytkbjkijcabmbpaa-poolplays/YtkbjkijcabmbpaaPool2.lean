/-
  Contracts of layer 8 (pool): Put.
-/
import Derived.Test.YtkbjkijcabmbpaaPool1
namespace Go.Proofs.Ytkbjkijcabmbpaa
open Go.ChangeShapes Go.WideShapes Go.ChangeAt Go.RowKit Go.Deep Go.Maps
set_option linter.unusedVariables false
set_option linter.unusedSimpArgs false

theorem load_pk {w : World} {b : Nat} {x : Pk} (h : BoxV w b 66 x.cells) : (Instr.loadAt 66 (.pointer (some ⟨b, 0, none⟩))).run Try.prog w = .ok (.agg x.cells) w := by
  have := run_loadAt_mid (P := Try.prog) w b 0 66 x.cells.toList _ h.range Try.underlying66 rfl (by kernel_rfl)
  simpa using this
theorem ret_box_slot {P : Program} {fn : Func} {s s2 : Tmp} {t : TypeId} {tmps : Array Value} {w : World} {b : Nat} {T : TypeId} {cs : Array Value} {d : TypeDesc} {v2 : Value} (h : fn.results = #[.cell s t, .tmp s2]) (hx : tmps.getD s undef = .pointer (some ⟨b, 0, none⟩)) (hB : BoxV w b T cs)
    (hu : P.underlying t = some d) (hd : d.isRow = true) (hi : (P.info? t).map (·.size) = some cs.size) (h2 : tmps.getD s2 undef = v2) : (results fn tmps).run P w = .ok (.tuple #[.agg cs, v2]) w := by
  have L := run_loadVar_mid (P := P) w b 0 t cs.toList d hB.range hu hd (by simpa using hi)
  rw [Array.toArray_toList] at L
  have hx' : tmps[s]?.getD undef = .pointer (some ⟨b, 0, none⟩) := by simpa using hx
  have h2' : tmps[s2]?.getD undef = v2 := by simpa using h2
  simp [results, h, hx', h2', asAddr, L]
section
variable {w w' : World} {q p g k n ns m c : Nat} {S K : Nat → Int} {mb s : Nat} {M : Pks} {bytes room : Int}
def zeroH : Value := .agg #[.int .i64 0, .int .i64 0]
set_option maxRecDepth 100000 in
set_option maxHeartbeats 2000000 in
theorem put_no_of (v : Value) (x : Pk) (why : Int) (hw : why ≠ 0) {w : World} (D : Hid (∀ w1, Touch [] w w1 → Calls Try.prog 28 #[v, .int .i64 x.size] w1 fun e w' => e = .returned (.int .i64 why) ∧ Touch [] w1 w')) :
    Calls Try.prog 30 #[v, .agg x.cells] w fun e w' => e = .returned (.tuple #[zeroH, .int .i64 why]) ∧ Touch [] w w' := by
  have b1 : (why != 0) = true := by simpa using hw
  have hb := BoxV.of2 (w := w) (T := 66) (cs := x.cells) (o := .cells #[.int .i64 0, .int .i64 0] 68)
  have hb2 := BoxV.at1 (w := w) (T := 68) (cs := #[.int .i64 0, .int .i64 0]) (o := .cells x.cells 66)
  have t0 : Touch [] w ((w.alloc (.cells x.cells 66)).alloc (.cells #[.int .i64 0, .int .i64 0] 68)) := ((Touch.refl [] w).alloc _).alloc _
  have e1 := hb.cell 1
  have D1 := Lib.hid (D.out _ t0)
  have HB2 := Lib.hid hb2
  have T0 := Lib.hid t0
  unfold Pk.cells at *
  simp only [List.getElem?_toArray, List.getElem?_cons_zero, List.getElem?_cons_succ] at e1
  clear hb hb2 t0 D
  go_enter Try.func30, Try.ntmps30
  go_wp2_with fail
  refine (D1.out).mono ?_
  rintro e w2 ⟨rfl, t2⟩
  generalize (w.alloc (.cells #[.int .i64 x.seq, .int .i64 x.size, .int .i64 x.ver, .int .u64 x.sh, .int .u64 x.sl, .int .u64 x.dh, .int .u64 x.dl, .int .i64 x.proto, .int .i64 x.sp, .int .i64 x.dp] 66)).alloc (.cells #[.int .i64 0, .int .i64 0] 68) = w1 at *
  have hb2 := HB2.out.carry t2 (by simp)
  have hlt2 := hb2.lt
  have d0 := hb2.cell 0
  have f0 := hb2.fr 0
  have hb3 := hb2.set 0 (.int .i64 0)
  have d1 := hb3.cell 1
  have f1 := hb3.fr 1
  have hb4 := hb3.set 1 (.int .i64 0)
  simp only [List.setIfInBounds_toArray, List.set_cons_succ, List.set_cons_zero, List.getElem?_toArray, List.getElem?_cons_zero, List.getElem?_cons_succ] at d0 d1
  have HBB := Lib.hid hb4
  have T3 := Lib.hid (show Touch [w.heap.size + 1] w2 ((w2.setCell ⟨w.heap.size + 1, 0, none⟩ (.int .i64 0)).setCell ⟨w.heap.size + 1, 1, none⟩ (.int .i64 0)) from ((Touch.refl [w.heap.size + 1] w2).setCell (a := ⟨w.heap.size + 1, 0, none⟩) (.inl (by simp)) _).setCell (a := ⟨w.heap.size + 1, 1, none⟩) (.inl (by simp)) _)
  have T2 := Lib.hid t2
  clear hb2 hb3 hb4 t2 e1
  go_wp2_with fail
  exact bodyPost_ret (ret_box_slot (t := 68) Try.results30 rfl HBB.out Try.underlying68 rfl (by kernel_rfl) rfl) rfl ⟨rfl, (T0.out.trans T2.out (by simp)).trans T3.out (fun b hb => by simp at hb; subst hb; exact .inr (by omega))⟩
theorem put_nil (x : Pk) (w : World) : Calls Try.prog 30 #[.pointer none, .agg x.cells] w fun e w' => e = .returned (.tuple #[zeroH, .int .i64 4]) ∧ Touch [] w w' :=
  put_no_of (.pointer none) x 4 (by decide) (Lib.hid fun w1 _ => (fits_nil x.size w1).mono fun e w' h => ⟨h.1, by rw [h.2]; exact Touch.refl _ _⟩)
theorem put_no (h : PoolAt w q p g k n ns m c S K mb s M bytes room) (x : Pk) (hb : 0 ≤ bytes ∧ bytes ≤ 4194304) (hr : 0 ≤ room ∧ room ≤ 4194304) (hf : fitsV m bytes room x.size ≠ 0) :
    Calls Try.prog 30 #[.pointer (some ⟨q, 0, none⟩), .agg x.cells] w fun e w' => e = .returned (.tuple #[zeroH, .int .i64 (fitsV m bytes room x.size)]) ∧ Touch [] w w' :=
  put_no_of _ x _ hf (Lib.hid fun w1 t => fits_any (h.new t) x.size hb hr)
set_option maxRecDepth 100000 in
set_option maxHeartbeats 4000000 in
theorem put_yes (h : PoolAt w q p g k n ns (m + 1) c S K mb s M bytes room) (x : Pk) (a : Nat) (hK : K m = a) (ha : a < n) (hn : n ≤ 4096) (hb : 0 ≤ bytes ∧ bytes ≤ 4194304) (hr : 0 ≤ room ∧ room ≤ 4194304) (hf : fitsV (m + 1) bytes room x.size = 0) (hs : s < 5000) (hM : M a = none) :
    Calls Try.prog 30 #[.pointer (some ⟨q, 0, none⟩), .agg x.cells] w fun e w' => e = .returned (.tuple #[.agg #[.int .i64 (a : Int), .int .i64 (S (a * 2 + 1))], .int .i64 0]) ∧ PoolAt w' q p g k n ns m c (upd S (a * 2) 1) K mb (s + 1) (putP M a (some x)) (bytes + x.size) room ∧ Touch [q, p, g, mb] w w' := by
  have hsize : 1 ≤ x.size ∧ x.size ≤ 2048 := by
    unfold fitsV at hf
    by_cases h1 : x.size < 1 ∨ 2048 < x.size
    · rw [if_pos h1] at hf; cases hf
    · omega
  have hpb := BoxV.of2 (w := w) (T := 66) (cs := x.cells) (o := .cells #[.int .i64 0, .int .i64 0] 68)
  have hb2 := BoxV.at1 (w := w) (T := 68) (cs := #[.int .i64 0, .int .i64 0]) (o := .cells x.cells 66)
  have t0 : Touch [] w ((w.alloc (.cells x.cells 66)).alloc (.cells #[.int .i64 0, .int .i64 0] 68)) := ((Touch.refl [] w).alloc _).alloc _
  have e1 := hpb.cell 1
  rw [show x.cells[1]? = some (.int .i64 x.size) from rfl] at e1
  have D1 := fits_any (h.new t0) x.size hb hr
  rw [hf] at D1
  have D1 := Lib.hid D1
  have hlow := h.carry (Touch.refl [] w) (by simp)
  have HLT := Lib.hid (show q < w.heap.size ∧ p < w.heap.size ∧ g < w.heap.size ∧ k < w.heap.size ∧ mb < w.heap.size from ⟨h.box.lt, h.slab.ltp, h.slab.ltg, h.slab.ltk, h.map.lt⟩)
  have H1 := Lib.hid (h.new t0)
  have HPB := Lib.hid hpb
  have HB2 := Lib.hid hb2
  have T0 := Lib.hid t0
  clear hpb hb2 t0 h hlow
  generalize hxc : x.cells = xc at *
  have HXC := Lib.hid hxc
  clear hxc
  go_enter Try.func30, Try.ntmps30
  go_wp2_with fail
  refine (D1.out).mono ?_
  rintro e w2 ⟨rfl, t2⟩
  generalize (w.alloc (.cells xc 66)).alloc (.cells #[.int .i64 0, .int .i64 0] 68) = w1 at *
  have H2 := Lib.hid (H1.out.new t2)
  have K1 := Lib.hid (take_some H2.out.slab a hK ha)
  have c0 := H2.out.box.cell 0
  have lq := H2.out.box.lt
  simp only [List.getElem?_toArray, List.getElem?_cons_zero] at c0
  have HPB := Lib.hid (HPB.out.carry t2 (by simp))
  have HB2 := Lib.hid (HB2.out.carry t2 (by simp))
  have T0 := Lib.hid (T0.out.trans t2 (by simp))
  clear t2 D1 e1 H1
  unfold told at K1
  generalize htt : S (a * 2 + 1) = tt at *
  have HTT := Lib.hid htt
  have HWR := Lib.hid (show IntKind.i64.wrap (bytes + x.size) = bytes + x.size by rw [IntKind.wrap_i64]; omega)
  clear htt
  go_wp2_with fail
  refine (K1.out).mono ?_
  rintro e w3 ⟨rfl, hs3, t3⟩
  have HFAR := Lib.hid H2.out.far
  have hl := HLT.out
  have P3 := Lib.hid (show BoxV w3 q 105 #[.pointer (some ⟨p, 0, none⟩), .map (some mb), .int .i64 bytes, .int .i64 room] ∧ IMap Try.prog 3 w3 mb s (pksM M) from ⟨H2.out.box.carry t3 (by have := H2.out.far; simp; omega), H2.out.map.carry t3 (by have := H2.out.far; simp; omega)⟩)
  have HPB := Lib.hid (HPB.out.carry t3 (by simp; omega))
  have HB2 := Lib.hid (HB2.out.carry t3 (by simp; omega))
  have l7 := HB2.out.lt
  have S3 := Lib.hid hs3
  have T3 := Lib.hid t3
  clear hs3 t3 K1 c0 lq
  have hnew := BoxV.new w3 68 #[.int .i64 (a : Int), .int .i64 tt]
  have T4 : Touch [] w3 (w3.alloc (.cells #[.int .i64 (a : Int), .int .i64 tt] 68)) := (Touch.refl [] w3).alloc _
  have HB7 := Lib.hid hnew
  have HBX := Lib.hid (P3.out.1.carry T4 (by simp))
  have HMP := Lib.hid (P3.out.2.carry T4 (by simp))
  have HPB := Lib.hid (HPB.out.carry T4 (by simp))
  have HB2 := Lib.hid (HB2.out.carry T4 (by simp))
  have S4 := Lib.hid (S3.out.carry T4 (by simp) (by simp) (by simp))
  have T4 := Lib.hid T4
  clear hnew P3 S3
  go_upto_region 5 with fail
  generalize w3.alloc (.cells #[.int .i64 (a : Int), .int .i64 tt] 68) = w4 at *
  generalize w3.heap.size = b7 at *
  generalize hbr : w.heap.size + 1 = br at *
  have hsz0 := T0.out.size
  generalize hbs : w.heap.size = bs at *
  have HLB := Lib.hid (show q < bs ∧ p < bs ∧ g < bs ∧ k < bs ∧ mb < bs ∧ bs < br ∧ br < b7 ∧ w.heap.size ≤ bs from ⟨hl.1, hl.2.1, hl.2.2.1, hl.2.2.2.1, hl.2.2.2.2, by omega, l7, by omega⟩)
  clear l7 hl hbr hbs hsz0 HLT
  refine wp_region_store (wd := w4) 7 (Leaf.const (.pointer (some ⟨q, 0, none⟩)) :: Leaf.const ((.pointer (some ⟨q, 0, none⟩))) :: Leaf.const (.pointer (some ⟨q, 1, none⟩)) :: Leaf.const (.map (some mb)) :: Leaf.const (.pointer (some ⟨b7, 0, none⟩)) :: Leaf.const (.int .i64 (a : Int)) :: Leaf.const (.agg xc) :: Leaf.const undef :: []) (by kernel_rfl) (by kernel_rfl) (by kernel_rfl) (by kernel_rfl) ((Touch.refl _ _).drew) (trivial) ?_ ?_
  · intro i o ho hin ac w ht hk hd
    match i, ho, hin with
    | 0, ho, hin =>
      have ho' : some _ = some o := ho
      cases ho'
      clear ho
      have e0 := known_slot hk 0 (by kernel_rfl) (v := .pointer (some ⟨q, 0, none⟩)) rfl
      exact do_value (wanted_none rfl) (by rw [BigFrame.run_move (.tmp 0) rfl, e0]) rfl
    | 1, ho, hin =>
      have ho' : some _ = some o := ho
      cases ho'
      clear ho
      have e25 := has_const (has_dep hd 0 (by kernel_rfl)) rfl rfl rfl (c := (.pointer (some ⟨q, 0, none⟩)))
      exact do_value (wanted_none rfl) (v := (.pointer (some ⟨q, 0, none⟩))) (by unfold execOp; simp only [e25]; rfl) rfl
    | 2, ho, hin =>
      have ho' : some _ = some o := ho
      cases ho'
      clear ho
      have e26 := has_const (has_dep hd 1 (by kernel_rfl)) rfl rfl rfl (c := (.pointer (some ⟨q, 0, none⟩)))
      exact do_value (wanted_none rfl) (v := .pointer (some ⟨q, 1, none⟩)) (run_value rfl (by rw [e26]; simp [go_sem])) rfl
    | 3, ho, hin =>
      have ho' : some _ = some o := ho
      cases ho'
      clear ho
      have e27 := has_const (has_dep hd 2 (by kernel_rfl)) rfl rfl rfl (c := (.pointer (some ⟨q, 1, none⟩)))
      have c1 := (HBX.out.carry ht (by simp)).cell 1
      simp only [List.getElem?_toArray, List.getElem?_cons_zero, List.getElem?_cons_succ] at c1
      exact do_value (wanted_none rfl) (v := .map (some mb)) (run_value rfl (by rw [e27]; simp [go_sem, c1])) rfl
    | 4, ho, hin =>
      have ho' : some _ = some o := ho
      cases ho'
      clear ho
      have e7 := known_slot hk 7 (by kernel_rfl) (v := .pointer (some ⟨b7, 0, none⟩)) rfl
      exact do_value (wanted_none rfl) (v := .pointer (some ⟨b7, 0, none⟩)) (run_value rfl (by rw [e7]; simp [go_sem])) rfl
    | 5, ho, hin =>
      have ho' : some _ = some o := ho
      cases ho'
      clear ho
      have e29 := has_const (has_dep hd 4 (by kernel_rfl)) rfl rfl rfl (c := (.pointer (some ⟨b7, 0, none⟩)))
      have e0 := (HB7.out.carry ht (by simp)).cell 0
      simp only [List.getElem?_toArray, List.getElem?_cons_zero, List.getElem?_cons_succ] at e0
      exact do_value (wanted_none rfl) (v := .int .i64 (a : Int)) (run_value rfl (by rw [e29]; simp [go_sem, e0])) rfl
    | 6, ho, hin =>
      have ho' : some _ = some o := ho
      cases ho'
      clear ho
      have e3 := known_slot hk 3 (by kernel_rfl) (v := .pointer (some ⟨bs, 0, none⟩)) rfl
      exact do_value (wanted_none rfl) (v := .agg xc) (run_value rfl (by rw [e3]; rw [← HXC.out]; exact load_pk (by rw [HXC.out]; exact HPB.out.carry ht (by simp)))) rfl
    | 7, ho, hin => exact absurd hin (by omega)
    | q + 8, ho, hin => exact absurd ho (by simp)
  · intro y w5 T5 hkn
    simp only [putL, Act.put, List.setIfInBounds_toArray, List.set_cons_succ, List.set_cons_zero, List.drop]
    clear hkn
    have ha64 : i64k (a : Int) := i64k_of (by omega)
    have hm5 := HMP.out.carry T5 (by simp)
    obtain ⟨w6, hrun, hM6, t6⟩ := hm5.store Try.underlying3 Try.underlying103 (by unfold maxLen; omega) ha64 (.agg xc)
    rw [← HXC.out, pksM_put, pksM_some, hM] at hM6
    have HM6 := Lib.hid hM6
    have hne := HFAR.out
    have hlb := HLB.out
    have HBX := Lib.hid ((HBX.out.carry T5 (by simp)).carry t6 (by simp; omega))
    have HPB := Lib.hid ((HPB.out.carry T5 (by simp)).carry t6 (by simp; omega))
    have HB2 := Lib.hid ((HB2.out.carry T5 (by simp)).carry t6 (by simp; omega))
    have HB7 := Lib.hid ((HB7.out.carry T5 (by simp)).carry t6 (by simp; omega))
    have S6 := Lib.hid ((S4.out.carry T5 (by simp) (by simp) (by simp)).carry t6 (by simp; omega) (by simp; omega) (by simp; omega))
    have TT6 := Lib.hid (show Touch [mb] w4 w6 from (T5.mono (by simp)).trans t6 (by simp))
    clear hm5 hM6 t6 T5 hne hlb
    go_upto_region 6 with fail
    clear hrun
    refine wp_region_store2 (wd := w6) 9 (Leaf.const (.pointer (some ⟨q, 0, none⟩)) :: Leaf.const ((.pointer (some ⟨q, 0, none⟩))) :: Leaf.const (.pointer (some ⟨q, 2, none⟩)) :: Leaf.const (.int .i64 bytes) :: Leaf.const (.pointer (some ⟨bs, 1, none⟩)) :: Leaf.const (.int .i64 x.size) :: Leaf.const (.int .i64 (bytes + x.size)) :: Leaf.const ((.pointer (some ⟨q, 0, none⟩))) :: Leaf.const (.pointer (some ⟨q, 2, none⟩)) :: Leaf.const undef :: []) (by kernel_rfl) (by kernel_rfl) (by kernel_rfl) (by kernel_rfl) ((Touch.refl _ _).drew) (trivial) ?_ ?_
    · intro i o ho hin ac w ht hk hd
      match i, ho, hin with
      | 0, ho, hin =>
        have ho' : some _ = some o := ho
        cases ho'
        clear ho
        have e0 := known_slot hk 0 (by kernel_rfl) (v := .pointer (some ⟨q, 0, none⟩)) rfl
        exact do_value (wanted_none rfl) (by rw [BigFrame.run_move (.tmp 0) rfl, e0]) rfl
      | 1, ho, hin =>
        have ho' : some _ = some o := ho
        cases ho'
        clear ho
        have e32 := has_const (has_dep hd 0 (by kernel_rfl)) rfl rfl rfl (c := (.pointer (some ⟨q, 0, none⟩)))
        exact do_value (wanted_none rfl) (v := (.pointer (some ⟨q, 0, none⟩))) (by unfold execOp; simp only [e32]; rfl) rfl
      | 2, ho, hin =>
        have ho' : some _ = some o := ho
        cases ho'
        clear ho
        have e33 := has_const (has_dep hd 1 (by kernel_rfl)) rfl rfl rfl (c := (.pointer (some ⟨q, 0, none⟩)))
        exact do_value (wanted_none rfl) (v := .pointer (some ⟨q, 2, none⟩)) (run_value rfl (by rw [e33]; simp [go_sem])) rfl
      | 3, ho, hin =>
        have ho' : some _ = some o := ho
        cases ho'
        clear ho
        have e34 := has_const (has_dep hd 2 (by kernel_rfl)) rfl rfl rfl (c := (.pointer (some ⟨q, 2, none⟩)))
        have c2 := (HBX.out.carry ht (by simp)).cell 2
        simp only [List.getElem?_toArray, List.getElem?_cons_zero, List.getElem?_cons_succ] at c2
        exact do_value (wanted_none rfl) (v := .int .i64 bytes) (run_value rfl (by rw [e34]; simp [go_sem, c2])) rfl
      | 4, ho, hin =>
        have ho' : some _ = some o := ho
        cases ho'
        clear ho
        have e3 := known_slot hk 3 (by kernel_rfl) (v := .pointer (some ⟨bs, 0, none⟩)) rfl
        exact do_value (wanted_none rfl) (v := .pointer (some ⟨bs, 1, none⟩)) (run_value rfl (by rw [e3]; simp [go_sem])) rfl
      | 5, ho, hin =>
        have ho' : some _ = some o := ho
        cases ho'
        clear ho
        have e36 := has_const (has_dep hd 4 (by kernel_rfl)) rfl rfl rfl (c := (.pointer (some ⟨bs, 1, none⟩)))
        have e1 := (HPB.out.carry ht (by simp)).cell 1
        rw [← HXC.out, show x.cells[1]? = some (.int .i64 x.size) from rfl] at e1
        exact do_value (wanted_none rfl) (v := .int .i64 x.size) (run_value rfl (by rw [e36]; simp [go_sem, e1])) rfl
      | 6, ho, hin =>
        have ho' : some _ = some o := ho
        cases ho'
        clear ho
        have e35 := has_const (has_dep hd 3 (by kernel_rfl)) rfl rfl rfl (c := (.int .i64 bytes))
        have e37 := has_const (has_dep hd 5 (by kernel_rfl)) rfl rfl rfl (c := (.int .i64 x.size))
        exact do_value (wanted_none rfl) (v := .int .i64 (bytes + x.size)) (run_value rfl (by rw [e35, e37]; simp [go_sem, HWR.out])) rfl
      | 7, ho, hin =>
        have ho' : some _ = some o := ho
        cases ho'
        clear ho
        have e32 := has_const (has_dep hd 0 (by kernel_rfl)) rfl rfl rfl (c := (.pointer (some ⟨q, 0, none⟩)))
        exact do_value (wanted_none rfl) (v := (.pointer (some ⟨q, 0, none⟩))) (by unfold execOp; simp only [e32]; rfl) rfl
      | 8, ho, hin =>
        have ho' : some _ = some o := ho
        cases ho'
        clear ho
        have e39 := has_const (has_dep hd 7 (by kernel_rfl)) rfl rfl rfl (c := (.pointer (some ⟨q, 0, none⟩)))
        exact do_value (wanted_none rfl) (v := .pointer (some ⟨q, 2, none⟩)) (run_value rfl (by rw [e39]; simp [go_sem])) rfl
      | 9, ho, hin => exact absurd hin (by omega)
      | q + 10, ho, hin => exact absurd ho (by simp)
    · intro y w7 T7 hkn
      simp only [putL, Act.put, List.setIfInBounds_toArray, List.set_cons_succ, List.set_cons_zero, List.drop]
      clear hkn
      have hbx := HBX.out.carry T7 (by simp)
      have lq := hbx.lt
      have c2 := hbx.cell 2
      have f2 := hbx.fr 2
      have hbx2 := hbx.set 2 (.int .i64 (bytes + x.size))
      have T8 : Touch [q] w7 (w7.setCell ⟨q, 2, none⟩ (.int .i64 (bytes + x.size))) := (Touch.refl [q] w7).setCell (a := ⟨q, 2, none⟩) (.inl (by simp)) _
      have hne := HFAR.out
      have hlb := HLB.out
      have hb7 := (HB7.out.carry T7 (by simp)).carry T8 (by simp; omega)
      have l7 := hb7.lt
      have g0 := hb7.cell 0
      have g1 := hb7.cell 1
      have hb2 := (HB2.out.carry T7 (by simp)).carry T8 (by simp; omega)
      have hlt2 := hb2.lt
      have d0 := hb2.cell 0
      have f0 := hb2.fr 0
      have hb3 := hb2.set 0 (.int .i64 (a : Int))
      have d1 := hb3.cell 1
      have f1 := hb3.fr 1
      have hb4 := hb3.set 1 (.int .i64 tt)
      simp only [List.setIfInBounds_toArray, List.set_cons_succ, List.set_cons_zero, List.getElem?_toArray, List.getElem?_cons_zero, List.getElem?_cons_succ] at d0 d1 g0 g1 c2
      have T9 : Touch [br] (w7.setCell ⟨q, 2, none⟩ (.int .i64 (bytes + x.size))) (((w7.setCell ⟨q, 2, none⟩ (.int .i64 (bytes + x.size))).setCell ⟨br, 0, none⟩ (.int .i64 (a : Int))).setCell ⟨br, 1, none⟩ (.int .i64 tt)) := ((Touch.refl [br] _).setCell (a := ⟨br, 0, none⟩) (.inl (by simp)) _).setCell (a := ⟨br, 1, none⟩) (.inl (by simp)) _
      have HBB := Lib.hid hb4
      have HP9 := Lib.hid (show PoolAt _ q p g k n ns m c (upd S (a * 2) 1) K mb (s + 1) (putP M a (some x)) (bytes + x.size) room from
        ⟨hbx2.carry T9 (by simp; omega), ((S6.out.carry T7 (by simp) (by simp) (by simp)).carry T8 (by simp; omega) (by simp; omega) (by simp; omega)).carry T9 (by simp; omega) (by simp; omega) (by simp; omega), ((HM6.out.carry T7 (by simp)).carry T8 (by simp; omega)).carry T9 (by simp; omega), hne⟩)
      have HT9 := Lib.hid (show Touch [q, p, g, mb] w _ from ((((((T0.out.mono (S' := [q, p, g, mb]) (by simp)).trans T3.out (fun b hb => .inl (by simp at hb ⊢; omega))).trans T4.out (by simp)).trans TT6.out (fun b hb => .inl (by simp at hb ⊢; omega))).trans T7 (by simp)).trans T8 (fun b hb => .inl (by simp at hb ⊢; omega))).trans T9 (fun b hb => .inr (by simp at hb; omega)))
      clear hbx hbx2 hb7 hb2 hb3 hb4 T7 T8 T9 HBX HPB HB2 HB7 hne hlb
      go_wp2_with fail
      exact bodyPost_ret (ret_box_slot (t := 68) Try.results30 rfl HBB.out Try.underlying68 rfl (by kernel_rfl) rfl) rfl ⟨by rw [HTT.out]; rfl, HP9.out, HT9.out⟩
end
end Go.Proofs.Ytkbjkijcabmbpaa
