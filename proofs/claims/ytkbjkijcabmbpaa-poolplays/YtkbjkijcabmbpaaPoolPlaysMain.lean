/-
  PoolPlays: for every number of slots, every room and every list of calls the law returns true. No conditions.
-/
import Derived.Test.YtkbjkijcabmbpaaPoolBoth
import Derived.Test.YtkbjkijcabmbpaaPoolOpen
import Derived.Test.YtkbjkijcabmbpaaPoolLives
import Derived.Deep.LoopGhost
import Derived.Deep.CutBlock
import Derived.OwnWalk
import Derived.IntWalk
namespace Go.Proofs.Ytkbjkijcabmbpaa
open Go.ChangeShapes Go.WideShapes Go.ChangeAt Go.RowKit Go.Deep Go.Maps Go.Joins
set_option linter.unusedVariables false
set_option linter.unusedSimpArgs false

structure ActP where
  what : Int
  x : Pk
  slot : Int
  turn : Int
def ActP.cells (a : ActP) : Array Value := #[.int .i64 a.what, .int .i64 a.x.seq, .int .i64 a.x.size, .int .i64 a.x.ver, .int .u64 a.x.sh, .int .u64 a.x.sl, .int .u64 a.x.dh, .int .u64 a.x.dl, .int .i64 a.x.proto, .int .i64 a.x.sp, .int .i64 a.x.dp, .int .i64 a.slot, .int .i64 a.turn]
def ActPCells (w : World) (B : Nat) (A : Option Addr) (n : Nat) (X : Nat → ActP) : Prop :=
  ∀ i, i < n → ∃ b off, A = some ⟨b, off, none⟩ ∧ b < B ∧ ∀ t v, (X i).cells.toList[t]? = some v → w.cell? ⟨b, off + i * 13 + t, none⟩ = some v
theorem ret_true_post {P : Prop} (h : P) : P := h
theorem ent28 (args : Array Value) (w : World) : (callFunc 28 args).run Try.prog w = .ok (.enter 28 args) w := by
  simp [callFunc, Try.func28]
  rfl
theorem ent29 (args : Array Value) (w : World) : (callFunc 29 args).run Try.prog w = .ok (.enter 29 args) w := by
  simp [callFunc, Try.func29]
  rfl
theorem ent37 (args : Array Value) (w : World) : (callFunc 37 args).run Try.prog w = .ok (.enter 37 args) w := by
  simp [callFunc, Try.func37]
  rfl
theorem ent39 (args : Array Value) (w : World) : (callFunc 39 args).run Try.prog w = .ok (.enter 39 args) w := by
  simp [callFunc, Try.func39]
  rfl
set_option maxHeartbeats 12800000 in
set_option maxRecDepth 100000 in
theorem poolPlays_main (ns0 : Nat) (room : Int) (A : Option Addr) (n cap : Nat) (X : Nat → ActP) (W : World) (hn1 : 1 ≤ ns0) (hn2 : ns0 ≤ 20) (hr : 0 ≤ room ∧ room ≤ 4194304) (hn : n ≤ 60) (hX : ActPCells W W.heap.size A n X) :
    Calls Try.prog 5 #[.int .i64 (ns0 : Int), .int .i64 room, .slice A n cap] W fun e w' => e = .returned (.bool true) ∧ Below W.heap.size W w' := by
  have HX := Lib.hid hX
  clear hX
  have N8 := Lib.hid (fun w => poolLives_any w)
  have Q0 := Lib.hid (poolNew_yes ns0 room W hn1 (by omega) hr.1 hr.2)
  unfold PoolFresh at Q0
  have HR := Lib.hid hr
  have HN := Lib.hid hn2
  have g1 : decide ((ns0 : Int) < 1) = false := by simp; omega
  have g2 : decide (4096 < (ns0 : Int)) = false := by simp; omega
  have g3 : decide (room < 0) = false := by simp; omega
  have g4 : decide (4194304 < room) = false := by simp; omega
  have g5 : decide (20 < (ns0 : Int)) = false := by simp; omega
  have g6 : decide (60 < (n : Int)) = false := by simp; omega
  go_enter Try.func5, Try.ntmps5
  go_wp2_with fail
  refine (Q0.out).mono ?_
  rintro e w1 ⟨q, p, g, k, mb, rfl, hp1, t1, lq, lp, lg, lk, lm⟩
  have R0 := Lib.hid (refNewP ns0 room w1 hn1 (by omega))
  unfold RNewed at R0
  have HP1 := Lib.hid hp1
  have T1 := Lib.hid t1
  clear hp1 t1 Q0
  go_wp2_with fail
  refine (R0.out).mono ?_
  rintro e w2 ⟨vf, vt, vb, vk, ad, cf, rfl, rfl, hr2, t2⟩
  obtain ⟨A2, c2, rfl, _, _, _⟩ := (hr2 [] (by simp)).ref.turns
  obtain ⟨A3, c3, rfl, _, _, _⟩ := (hr2 [] (by simp)).ref.taken
  obtain ⟨A4, c4, rfl, _, _, _⟩ := (hr2 [] (by simp)).rows
  have hsz2 := t2.size
  have hl1 : q < w1.heap.size ∧ p < w1.heap.size ∧ g < w1.heap.size ∧ k < w1.heap.size ∧ mb < w1.heap.size := ⟨HP1.out.box.lt, HP1.out.slab.ltp, HP1.out.slab.ltg, HP1.out.slab.ltk, HP1.out.map.lt⟩
  have a2 : Touch [] w2 (w2.alloc (.cells #[.slice (some ad) ns0 cf, .slice A2 ns0 c2, .slice A3 ns0 c3, .slice A4 ns0 c4, .int .i64 room] 58)) := (Touch.refl [] w2).alloc _
  have P0 := Lib.hid (show PPlay W (w2.alloc (.cells #[.slice (some ad) ns0 cf, .slice A2 ns0 c2, .slice A3 ns0 c3, .slice A4 ns0 c4, .int .i64 room] 58)) w2.heap.size q p g k ns0 ns0 ns0 ns0 (fun _ => 0) (fun i => (ns0 : Int) - 1 - i) mb 0 (fun _ => none) 0 room (.slice (some ad) ns0 cf) (.slice A2 ns0 c2) (.slice A3 ns0 c3) (.slice A4 ns0 c4) (fun _ => zeroPk) 0 from
    ⟨(HP1.out.new t2).new a2, BoxV.new w2 58 _, (((hr2 [q, p, g, k, mb] (fun b hb => by simp at hb; omega)).avoid (Z' := [q, p, g, k, mb, w2.heap.size]) (fun b hb => by
        simp at hb ⊢
        omega)).new a2).congr (fun i hi => by omega) (fun i hi => rfl) (fun i hi => rfl), ⟨ad, cf, rfl⟩, by simp; omega, ⟨lq, lp, lg, lk, lm, by have := T1.out.size; omega⟩, pmath_new ns0 room hr.1, ((T1.out.trans t2 (by simp)).trans a2 (by simp)).below (by simp) (Nat.le_refl _)⟩)
  clear hr2 t2 hsz2 hl1 a2 lq lp lg lk lm T1 HP1 R0
  go_wp2_with fail
  generalize w2.heap.size = bx at *
  go_loopw [7, 67] (fun pv i wr => ∃ j : Nat, j ≤ n ∧ i = .int .i64 j ∧ AnyPPlay W bx ns0 room j pv wr) (fun _ i _ => n - (intOf i).toNat)
  case atStart => exact ⟨0, Nat.zero_le _, rfl, q, p, g, k, ns0, ns0, ns0, _, _, mb, 0, _, 0, _, _, _, _, _, rfl, P0.out⟩
  case round =>
    clear P0
    obtain ⟨j, hj, rfl, hany⟩ := hrel
    obtain ⟨q, p, g, k, ns, m, c, S, K, mb, s, M, bytes, vf, vt, vb, vk, Xk, rfl, hP⟩ := hany
    by_cases hlt : j < n
    · obtain ⟨b, off, hA, hbB, hc⟩ := HX.out j hlt
      subst hA
      generalize X j = act at *
      obtain ⟨dw, ⟨x0, x1, x2, x3, x4, x5, x6, x7, x8, x9⟩, ha, ht⟩ := act
      simp only [ActP.cells] at hc
      have c0 := hc 0 _ rfl
      have c1 := hc 1 _ rfl
      have c2 := hc 2 _ rfl
      have c3 := hc 3 _ rfl
      have c4 := hc 4 _ rfl
      have c5 := hc 5 _ rfl
      have c6 := hc 6 _ rfl
      have c7 := hc 7 _ rfl
      have c8 := hc 8 _ rfl
      have c9 := hc 9 _ rfl
      have c10 := hc 10 _ rfl
      have c11 := hc 11 _ rfl
      have c12 := hc 12 _ rfl
      rw [← hP.below.cell (p := ⟨b, _, none⟩) hbB] at c0 c1 c2 c3 c4 c5 c6 c7 c8 c9 c10 c11 c12
      simp only [Nat.add_zero] at c0
      have hbl : b < wr.heap.size := Nat.lt_of_lt_of_le hbB hP.below.size
      have t6 : Touch [] wr (wr.alloc (.cells (#[.int .i64 dw, .int .i64 x0, .int .i64 x1, .int .i64 x2, .int .u64 x3, .int .u64 x4, .int .u64 x5, .int .u64 x6, .int .i64 x7, .int .i64 x8, .int .i64 x9, .int .i64 ha, .int .i64 ht] : Array Value) 70)) := (Touch.refl [] wr).alloc _
      have H6 := Lib.hid (hP.carry t6)
      have HA6 := Lib.hid (show BoxV (wr.alloc (.cells (#[.int .i64 dw, .int .i64 x0, .int .i64 x1, .int .i64 x2, .int .u64 x3, .int .u64 x4, .int .u64 x5, .int .u64 x6, .int .i64 x7, .int .i64 x8, .int .i64 x9, .int .i64 ha, .int .i64 ht] : Array Value) 70)) wr.heap.size 70 (#[.int .i64 dw, .int .i64 x0, .int .i64 x1, .int .i64 x2, .int .u64 x3, .int .u64 x4, .int .u64 x5, .int .u64 x6, .int .i64 x7, .int .i64 x8, .int .i64 x9, .int .i64 ha, .int .i64 ht] : Array Value) from BoxV.new wr 70 (#[.int .i64 dw, .int .i64 x0, .int .i64 x1, .int .i64 x2, .int .u64 x3, .int .u64 x4, .int .u64 x5, .int .u64 x6, .int .i64 x7, .int .i64 x8, .int .i64 x9, .int .i64 ha, .int .i64 ht] : Array Value))
      have HNE := Lib.hid (show wr.heap.size ∉ [q, p, g, k, mb, bx] by have := hP.lt; simp; omega)
      clear hc hP t6
      go_upto_region 9 with fail
      generalize wr.alloc (.cells (#[.int .i64 dw, .int .i64 x0, .int .i64 x1, .int .i64 x2, .int .u64 x3, .int .u64 x4, .int .u64 x5, .int .u64 x6, .int .i64 x7, .int .i64 x8, .int .i64 x9, .int .i64 ha, .int .i64 ht] : Array Value) 70) = w6 at *
      generalize wr.heap.size = a6 at *
      clear c0 c1 c2 c3 c4 c5 c6 c7 c8 c9 c10 c11 c12 hbl hbB
      obtain ⟨A1, c1, l1, rfl⟩ := rd_form H6.out.ref.ref.free
      obtain ⟨A2, c2, l2, rfl⟩ := rd_form H6.out.ref.ref.turns
      obtain ⟨A3, c3, l3, rfl⟩ := rd_form H6.out.ref.ref.taken
      obtain ⟨A4, c4, l4, rfl⟩ := rdp_form H6.out.ref.rows
      refine wp_region_leaves (wd := w6) (Leaf.const (.pointer (some ⟨q, 0, none⟩)) :: Leaf.const (.pointer (some ⟨a6, 1, none⟩)) :: Leaf.const (.pointer (some ⟨a6, 2, none⟩)) :: Leaf.const (.int .i64 x1) :: Leaf.const (.int .i64 (fitsV m bytes room x1)) :: Leaf.const (.agg (#[.slice A1 l1 c1, .slice A2 l2 c2, .slice A3 l3 c3, .slice A4 l4 c4, .int .i64 room] : Array Value)) :: Leaf.const (.pointer (some ⟨a6, 1, none⟩)) :: Leaf.const (.pointer (some ⟨a6, 2, none⟩)) :: Leaf.const (.int .i64 x1) :: Leaf.const (.int .i64 (fitsV m bytes room x1)) :: Leaf.const (.bool false) :: []) (by kernel_rfl) (by kernel_rfl) (by kernel_rfl) ((Touch.refl _ _).drew) (trivial) ?_ ?_
      · intro i o ho ac w ht hk hd
        match i, ho with
        | 0, ho =>
          have ho' : some _ = some o := ho
          cases ho'
          clear ho
          have e7 := known_slot hk 7 (by kernel_rfl) (v := .pointer (some ⟨q, 0, none⟩)) rfl
          exact do_value (wanted_none rfl) (by rw [BigFrame.run_move (.tmp 7) rfl, e7]) rfl
        | 1, ho =>
          have ho' : some _ = some o := ho
          cases ho'
          clear ho
          have e11 := known_slot hk 11 (by kernel_rfl) (v := .pointer (some ⟨a6, 0, none⟩)) rfl
          exact do_value (wanted_none rfl) (v := .pointer (some ⟨a6, 1, none⟩)) (run_value rfl (by rw [e11]; simp [go_sem])) rfl
        | 2, ho =>
          have ho' : some _ = some o := ho
          cases ho'
          clear ho
          have e72 := has_const (has_dep hd 1 (by kernel_rfl)) rfl rfl rfl (c := (.pointer (some ⟨a6, 1, none⟩)))
          exact do_value (wanted_none rfl) (v := .pointer (some ⟨a6, 2, none⟩)) (run_value rfl (by rw [e72]; simp [go_sem])) rfl
        | 3, ho =>
          have ho' : some _ = some o := ho
          cases ho'
          clear ho
          have e73 := has_const (has_dep hd 2 (by kernel_rfl)) rfl rfl rfl (c := (.pointer (some ⟨a6, 2, none⟩)))
          have u2 := (HA6.out.carry ht (by simp)).cell 2
          simp only [List.getElem?_toArray, List.getElem?_cons_zero, List.getElem?_cons_succ] at u2
          exact do_value (wanted_none rfl) (v := .int .i64 x1) (run_value rfl (by rw [e73]; simp [go_sem, u2])) rfl
        | 4, ho =>
          have ho' : some _ = some o := ho
          cases ho'
          clear ho
          have e71 := has_const (has_dep hd 0 (by kernel_rfl)) rfl rfl rfl (c := (.pointer (some ⟨q, 0, none⟩)))
          have e74 := has_const (has_dep hd 3 (by kernel_rfl)) rfl rfl rfl (c := (.int .i64 x1))
          refine do_enter (wanted_none rfl) (f := 28) (args := #[(.pointer (some ⟨q, 0, none⟩)), (.int .i64 x1)]) (by rw [run_go3 28 _ _ rfl, ent28]; simp [eval_c, e71, e74]) ?_
          exact ((fits_both (H6.out.carry ht) HN.out HR.out x1).1).mono fun e w2 ⟨he, hb⟩ => ⟨_, he, rfl, hb⟩
        | 5, ho =>
          have ho' : some _ = some o := ho
          cases ho'
          clear ho
          have e9 := known_slot hk 9 (by kernel_rfl) (v := .pointer (some ⟨bx, 0, none⟩)) rfl
          exact do_value (wanted_none rfl) (v := .agg (#[.slice A1 l1 c1, .slice A2 l2 c2, .slice A3 l3 c3, .slice A4 l4 c4, .int .i64 room] : Array Value)) (run_value rfl (by rw [e9]; exact load_box ((H6.out.carry ht).box) Try.underlying58 rfl (by kernel_rfl))) rfl
        | 6, ho =>
          have ho' : some _ = some o := ho
          cases ho'
          clear ho
          have e11 := known_slot hk 11 (by kernel_rfl) (v := .pointer (some ⟨a6, 0, none⟩)) rfl
          exact do_value (wanted_none rfl) (v := .pointer (some ⟨a6, 1, none⟩)) (run_value rfl (by rw [e11]; simp [go_sem])) rfl
        | 7, ho =>
          have ho' : some _ = some o := ho
          cases ho'
          clear ho
          have e77 := has_const (has_dep hd 6 (by kernel_rfl)) rfl rfl rfl (c := (.pointer (some ⟨a6, 1, none⟩)))
          exact do_value (wanted_none rfl) (v := .pointer (some ⟨a6, 2, none⟩)) (run_value rfl (by rw [e77]; simp [go_sem])) rfl
        | 8, ho =>
          have ho' : some _ = some o := ho
          cases ho'
          clear ho
          have e78 := has_const (has_dep hd 7 (by kernel_rfl)) rfl rfl rfl (c := (.pointer (some ⟨a6, 2, none⟩)))
          have u2 := (HA6.out.carry ht (by simp)).cell 2
          simp only [List.getElem?_toArray, List.getElem?_cons_zero, List.getElem?_cons_succ] at u2
          exact do_value (wanted_none rfl) (v := .int .i64 x1) (run_value rfl (by rw [e78]; simp [go_sem, u2])) rfl
        | 9, ho =>
          have ho' : some _ = some o := ho
          cases ho'
          clear ho
          have e76 := has_const (has_dep hd 5 (by kernel_rfl)) rfl rfl rfl (c := (.agg (#[.slice A1 l1 c1, .slice A2 l2 c2, .slice A3 l3 c3, .slice A4 l4 c4, .int .i64 room] : Array Value)))
          have e79 := has_const (has_dep hd 8 (by kernel_rfl)) rfl rfl rfl (c := (.int .i64 x1))
          refine do_enter (wanted_none rfl) (f := 29) (args := #[(.agg (#[.slice A1 l1 c1, .slice A2 l2 c2, .slice A3 l3 c3, .slice A4 l4 c4, .int .i64 room] : Array Value)), (.int .i64 x1)]) (by rw [run_go3 29 _ _ rfl, ent29]; simp [eval_c, e76, e79]) ?_
          exact ((fits_both (H6.out.carry ht) HN.out HR.out x1).2).mono fun e w2 ⟨he, hb⟩ => ⟨_, he, rfl, hb⟩
        | 10, ho =>
          have ho' : some _ = some o := ho
          cases ho'
          clear ho
          have e75 := has_const (has_dep hd 4 (by kernel_rfl)) rfl rfl rfl (c := (.int .i64 (fitsV m bytes room x1)))
          have e80 := has_const (has_dep hd 9 (by kernel_rfl)) rfl rfl rfl (c := (.int .i64 (fitsV m bytes room x1)))
          exact do_value (wanted_none rfl) (v := .bool false) (run_value rfl (by rw [e75, e80]; simp [go_sem])) rfl
        | q + 11, ho => exact absurd ho (by simp)
      · intro x w7 T7 hkn
        simp only [putL, Act.put, List.setIfInBounds_toArray, List.set_cons_succ, List.set_cons_zero]
        clear hkn
        have H7 := Lib.hid (H6.out.carry T7)
        have HA7 := Lib.hid (HA6.out.carry T7 (by simp))
        clear T7 H6 HA6
        have la := HA7.out.lt
        have e0 := HA7.out.cell 0
        simp only [List.getElem?_toArray, List.getElem?_cons_zero, List.getElem?_cons_succ] at e0
        go_upto_block 2 with fail
        go_cut [7] (fun pv wx => AnyPPlay W bx ns0 room (j + 1) pv wx)
        case first =>
          have HBX7 := Lib.hid H7.out.box
          have HLT := Lib.hid HA7.out.lt
          rcases (show dw = 0 ∨ dw = 1 ∨ dw = 2 ∨ (dw ≠ 0 ∧ dw ≠ 1 ∧ dw ≠ 2) by omega) with rfl | rfl | rfl | ⟨z0, z1, z2⟩
          · as_aux_lemma =>
              obtain ⟨u, v, y, Qp, hq1, hq2⟩ := put_both H7.out HN.out HR.out ⟨x0, x1, x2, x3, x4, x5, x6, x7, x8, x9⟩
              have J1 := Lib.hid hq1
              have J2 := Lib.hid hq2
              unfold Pk.cells at J1 J2
              simp only at J1 J2
              clear hq1 hq2
              have e1 := HA7.out.cell 1
              have e2 := HA7.out.cell 2
              have e3 := HA7.out.cell 3
              have e4 := HA7.out.cell 4
              have e5 := HA7.out.cell 5
              have e6 := HA7.out.cell 6
              have e7 := HA7.out.cell 7
              have e8 := HA7.out.cell 8
              have e9 := HA7.out.cell 9
              have e10 := HA7.out.cell 10
              simp only [List.getElem?_toArray, List.getElem?_cons_zero, List.getElem?_cons_succ] at e1 e2 e3 e4 e5 e6 e7 e8 e9 e10
              go_wp2_with fail
              refine (J1.out).mono ?_
              rintro e w8 ⟨rfl, hQ⟩
              obtain ⟨hb8, t8, hc8⟩ := J2.out w8 hQ
              have a9 : Touch [] w8 (w8.alloc (.cells #[.int .i64 u, .int .i64 v] 68)) := (Touch.refl [] w8).alloc _
              have HNA := HNE.out
              have HB9 := Lib.hid (hb8.carry a9 (by simp))
              have HA9 := Lib.hid ((HA7.out.carry t8 (by simp at HNA ⊢; omega)).carry a9 (by simp))
              have HH9 := Lib.hid (show BoxV (w8.alloc (.cells #[.int .i64 u, .int .i64 v] 68)) w8.heap.size 68 #[.int .i64 u, .int .i64 v] from BoxV.new w8 68 #[.int .i64 u, .int .i64 v])
              have K1 := Lib.hid (hc8 _ a9)
              unfold PutBack at K1
              have HNB := Lib.hid (show w8.heap.size ≠ bx by have := hb8.lt; omega)
              clear hb8 t8 hc8 a9 J1 J2 hQ HNA la Qp e0 e1 e2 e3 e4 e5 e6 e7 e8 e9 e10
              go_upto_region 17 with fail
              generalize w8.alloc (.cells #[.int .i64 u, .int .i64 v] 68) = w9 at *
              generalize w8.heap.size = b12 at *
              have la := HA9.out.lt
              have lb := HB9.out.lt
              have e1 := HA9.out.cell 1
              have e2 := HA9.out.cell 2
              have e3 := HA9.out.cell 3
              have e4 := HA9.out.cell 4
              have e5 := HA9.out.cell 5
              have e6 := HA9.out.cell 6
              have e7 := HA9.out.cell 7
              have e8 := HA9.out.cell 8
              have e9 := HA9.out.cell 9
              have e10 := HA9.out.cell 10
              simp only [List.getElem?_toArray, List.getElem?_cons_zero, List.getElem?_cons_succ] at e1 e2 e3 e4 e5 e6 e7 e8 e9 e10
              have c0 := HB9.out.cell 0
              have c1 := HB9.out.cell 1
              have c2 := HB9.out.cell 2
              have c3 := HB9.out.cell 3
              have c4 := HB9.out.cell 4
              simp only [List.getElem?_toArray, List.getElem?_cons_zero, List.getElem?_cons_succ] at c0 c1 c2 c3 c4
              go_wp2_with fail
              refine (K1.out).mono ?_
              rintro e w10 ⟨vf', vt', vb', vk', rfl, t10, ⟨B1, d1, k1, rfl⟩, ⟨B2, d2, k2, rfl⟩, ⟨B3, d3, k3, rfl⟩, ⟨B4, d4, k4, rfl⟩, hst⟩
              have a11 : Touch [] w10 (w10.alloc (.cells (#[.slice B1 k1 d1, .slice B2 k2 d2, .slice B3 k3 d3, .slice B4 k4 d4, .int .i64 room] : Array Value) 58)) := (Touch.refl [] w10).alloc _
              have HB11 := Lib.hid ((HB9.out.carry t10 (by simp)).carry a11 (by simp))
              have HH11 := Lib.hid ((HH9.out.carry t10 (by simp)).carry a11 (by simp))
              have HN11 := Lib.hid (show BoxV (w10.alloc (.cells (#[.slice B1 k1 d1, .slice B2 k2 d2, .slice B3 k3 d3, .slice B4 k4 d4, .int .i64 room] : Array Value) 58)) w10.heap.size 58 (#[.slice B1 k1 d1, .slice B2 k2 d2, .slice B3 k3 d3, .slice B4 k4 d4, .int .i64 room] : Array Value) from BoxV.new w10 58 (#[.slice B1 k1 d1, .slice B2 k2 d2, .slice B3 k3 d3, .slice B4 k4 d4, .int .i64 room] : Array Value))
              have HST := Lib.hid (hst _ a11)
              clear t10 hst a11 K1 HB9 HH9 HA9 la lb e1 e2 e3 e4 e5 e6 e7 e8 e9 e10 c0 c1 c2 c3 c4
              go_upto_region 18 with fail
              generalize w10.alloc (.cells (#[.slice B1 k1 d1, .slice B2 k2 d2, .slice B3 k3 d3, .slice B4 k4 d4, .int .i64 room] : Array Value) 58) = w11 at *
              generalize w10.heap.size = b14 at *
              have ln := HN11.out.lt
              have c0 := HN11.out.cell 0
              have c1 := HN11.out.cell 1
              have c2 := HN11.out.cell 2
              have c3 := HN11.out.cell 3
              have c4 := HN11.out.cell 4
              simp only [List.getElem?_toArray, List.getElem?_cons_zero, List.getElem?_cons_succ] at c0 c1 c2 c3 c4
              have zh0 := HB11.out
              have lb := zh0.lt
              have q0 := zh0.cell 0
              have f0 := zh0.fr 0
              have zh1 := zh0.set 0 (.slice B1 k1 d1)
              have q1 := zh1.cell 1
              have f1 := zh1.fr 1
              have zh2 := zh1.set 1 (.slice B2 k2 d2)
              have q2 := zh2.cell 2
              have f2 := zh2.fr 2
              have zh3 := zh2.set 2 (.slice B3 k3 d3)
              have q3 := zh3.cell 3
              have f3 := zh3.fr 3
              have zh4 := zh3.set 3 (.slice B4 k4 d4)
              have q4 := zh4.cell 4
              have f4 := zh4.fr 4
              simp only [List.setIfInBounds_toArray, List.set_cons_succ, List.set_cons_zero, List.getElem?_toArray, List.getElem?_cons_zero, List.getElem?_cons_succ] at q0 q1 q2 q3 q4
              go_upto_region 19 with fail
              have HH12 := Lib.hid (HH11.out.carry (show Touch [bx] w11 (((((w11.setCell ⟨bx, 0, none⟩ (.slice B1 k1 d1)).setCell ⟨bx, 1, none⟩ (.slice B2 k2 d2)).setCell ⟨bx, 2, none⟩ (.slice B3 k3 d3)).setCell ⟨bx, 3, none⟩ (.slice B4 k4 d4)).setCell ⟨bx, 4, none⟩ (.int .i64 room)) from touch_cellsW (b := bx) ((#[.slice B1 k1 d1, .slice B2 k2 d2, .slice B3 k3 d3, .slice B4 k4 d4, .int .i64 room] : Array Value)).toList 0 w11) (by have := HNB.out; simp; omega))
              have HST2 := Lib.hid (show AnyPPlay W bx ns0 room (j + 1) (.pointer (some ⟨q, 0, none⟩)) (((((w11.setCell ⟨bx, 0, none⟩ (.slice B1 k1 d1)).setCell ⟨bx, 1, none⟩ (.slice B2 k2 d2)).setCell ⟨bx, 2, none⟩ (.slice B3 k3 d3)).setCell ⟨bx, 3, none⟩ (.slice B4 k4 d4)).setCell ⟨bx, 4, none⟩ (.int .i64 room)) from HST.out)
              obtain ⟨w12, hw12⟩ : ∃ w, w = ((((w11.setCell ⟨bx, 0, none⟩ (.slice B1 k1 d1)).setCell ⟨bx, 1, none⟩ (.slice B2 k2 d2)).setCell ⟨bx, 2, none⟩ (.slice B3 k3 d3)).setCell ⟨bx, 3, none⟩ (.slice B4 k4 d4)).setCell ⟨bx, 4, none⟩ (.int .i64 room) := ⟨_, rfl⟩
              rw [← hw12] at HH12 HST2 ⊢
              clear hw12
              clear HH11 HST HB11 HN11 ln zh0 zh1 zh2 zh3 zh4 q0 q1 q2 q3 q4 f0 f1 f2 f3 f4 c0 c1 c2 c3 c4
              have lh := HH12.out.lt
              have d0 := HH12.out.cell 0
              have d1 := HH12.out.cell 1
              simp only [List.getElem?_toArray, List.getElem?_cons_zero, List.getElem?_cons_succ] at d0 d1
              go_wp2_with fail
              go_meet
              exact HST2.out
          · as_aux_lemma =>
              obtain ⟨z, ok, hq1, hq2⟩ := get_both H7.out HN.out ha ht
              obtain ⟨z0, z1, z2, z3, z4, z5, z6, z7, z8, z9⟩ := z
              have J1 := Lib.hid hq1
              have J2 := Lib.hid hq2
              unfold GetPost Pk.cells at J1 J2
              simp only at J1 J2
              clear hq1 hq2
              have e11 := HA7.out.cell 11
              have e12 := HA7.out.cell 12
              simp only [List.getElem?_toArray, List.getElem?_cons_zero, List.getElem?_cons_succ] at e11 e12
              go_wp2_with fail
              refine (J1.out).mono ?_
              rintro e w8 ⟨rfl, t8⟩
              have a9 : Touch [] w8 (w8.alloc (.cells (#[.int .i64 z0, .int .i64 z1, .int .i64 z2, .int .u64 z3, .int .u64 z4, .int .u64 z5, .int .u64 z6, .int .i64 z7, .int .i64 z8, .int .i64 z9] : Array Value) 66)) := (Touch.refl [] w8).alloc _
              have H9 := Lib.hid ((H7.out.carry t8).carry a9)
              have HA9 := Lib.hid ((HA7.out.carry t8 (by simp)).carry a9 (by simp))
              have HH9 := Lib.hid (show BoxV (w8.alloc (.cells (#[.int .i64 z0, .int .i64 z1, .int .i64 z2, .int .u64 z3, .int .u64 z4, .int .u64 z5, .int .u64 z6, .int .i64 z7, .int .i64 z8, .int .i64 z9] : Array Value) 66)) w8.heap.size 66 (#[.int .i64 z0, .int .i64 z1, .int .i64 z2, .int .u64 z3, .int .u64 z4, .int .u64 z5, .int .u64 z6, .int .i64 z7, .int .i64 z8, .int .i64 z9] : Array Value) from BoxV.new w8 66 (#[.int .i64 z0, .int .i64 z1, .int .i64 z2, .int .u64 z3, .int .u64 z4, .int .u64 z5, .int .u64 z6, .int .i64 z7, .int .i64 z8, .int .i64 z9] : Array Value))
              have K1 := Lib.hid (J2.out _ (t8.trans a9 (by simp)))
              clear t8 a9 J1 J2 la e0 e11 e12
              go_upto_region 23 with fail
              generalize w8.alloc (.cells (#[.int .i64 z0, .int .i64 z1, .int .i64 z2, .int .u64 z3, .int .u64 z4, .int .u64 z5, .int .u64 z6, .int .i64 z7, .int .i64 z8, .int .i64 z9] : Array Value) 66) = w9 at *
              generalize w8.heap.size = b18 at *
              have la := HA9.out.lt
              have lb := H9.out.box.lt
              have e11 := HA9.out.cell 11
              have e12 := HA9.out.cell 12
              simp only [List.getElem?_toArray, List.getElem?_cons_zero, List.getElem?_cons_succ] at e11 e12
              have c0 := H9.out.box.cell 0
              have c1 := H9.out.box.cell 1
              have c2 := H9.out.box.cell 2
              have c3 := H9.out.box.cell 3
              have c4 := H9.out.box.cell 4
              simp only [List.getElem?_toArray, List.getElem?_cons_zero, List.getElem?_cons_succ] at c0 c1 c2 c3 c4
              go_wp2_with fail
              refine (K1.out).mono ?_
              rintro e w10 ⟨rfl, t10⟩
              have a11 : Touch [] w10 (w10.alloc (.cells (#[.int .i64 z0, .int .i64 z1, .int .i64 z2, .int .u64 z3, .int .u64 z4, .int .u64 z5, .int .u64 z6, .int .i64 z7, .int .i64 z8, .int .i64 z9] : Array Value) 66)) := (Touch.refl [] w10).alloc _
              have H11 := Lib.hid ((H9.out.carry t10).carry a11)
              have HH11 := Lib.hid ((HH9.out.carry t10 (by simp)).carry a11 (by simp))
              have HG11 := Lib.hid (show BoxV (w10.alloc (.cells (#[.int .i64 z0, .int .i64 z1, .int .i64 z2, .int .u64 z3, .int .u64 z4, .int .u64 z5, .int .u64 z6, .int .i64 z7, .int .i64 z8, .int .i64 z9] : Array Value) 66)) w10.heap.size 66 (#[.int .i64 z0, .int .i64 z1, .int .i64 z2, .int .u64 z3, .int .u64 z4, .int .u64 z5, .int .u64 z6, .int .i64 z7, .int .i64 z8, .int .i64 z9] : Array Value) from BoxV.new w10 66 (#[.int .i64 z0, .int .i64 z1, .int .i64 z2, .int .u64 z3, .int .u64 z4, .int .u64 z5, .int .u64 z6, .int .i64 z7, .int .i64 z8, .int .i64 z9] : Array Value))
              clear t10 a11 K1 H9 HH9 HA9 la lb e11 e12 c0 c1 c2 c3 c4
              go_upto_region 24 with fail
              generalize w10.alloc (.cells (#[.int .i64 z0, .int .i64 z1, .int .i64 z2, .int .u64 z3, .int .u64 z4, .int .u64 z5, .int .u64 z6, .int .i64 z7, .int .i64 z8, .int .i64 z9] : Array Value) 66) = w11 at *
              generalize w10.heap.size = b20 at *
              have lh := HH11.out.lt
              have lg := HG11.out.lt
              have d0 := HH11.out.cell 0
              have d1 := HH11.out.cell 1
              have d2 := HH11.out.cell 2
              have d3 := HH11.out.cell 3
              have d4 := HH11.out.cell 4
              have d5 := HH11.out.cell 5
              have d6 := HH11.out.cell 6
              have d7 := HH11.out.cell 7
              have d8 := HH11.out.cell 8
              have d9 := HH11.out.cell 9
              simp only [List.getElem?_toArray, List.getElem?_cons_zero, List.getElem?_cons_succ] at d0 d1 d2 d3 d4 d5 d6 d7 d8 d9
              have g0 := HG11.out.cell 0
              have g1 := HG11.out.cell 1
              have g2 := HG11.out.cell 2
              have g3 := HG11.out.cell 3
              have g4 := HG11.out.cell 4
              have g5 := HG11.out.cell 5
              have g6 := HG11.out.cell 6
              have g7 := HG11.out.cell 7
              have g8 := HG11.out.cell 8
              have g9 := HG11.out.cell 9
              simp only [List.getElem?_toArray, List.getElem?_cons_zero, List.getElem?_cons_succ] at g0 g1 g2 g3 g4 g5 g6 g7 g8 g9
              cases ok
              · go_wp2_with fail
                go_meet
                exact ⟨_, _, _, _, _, _, _, _, _, _, _, _, _, _, _, _, _, _, rfl, H11.out.next⟩
              · go_wp2_with fail
                go_meet
                exact ⟨_, _, _, _, _, _, _, _, _, _, _, _, _, _, _, _, _, _, rfl, H11.out.next⟩
          · as_aux_lemma =>
              obtain ⟨z, ok, Qp, hq1, hq2⟩ := free_both H7.out HN.out (by omega) HR.out ha ht
              obtain ⟨z0, z1, z2, z3, z4, z5, z6, z7, z8, z9⟩ := z
              have J1 := Lib.hid hq1
              have J2 := Lib.hid hq2
              unfold Pk.cells at J1
              simp only at J1
              clear hq1 hq2
              have e11 := HA7.out.cell 11
              have e12 := HA7.out.cell 12
              simp only [List.getElem?_toArray, List.getElem?_cons_zero, List.getElem?_cons_succ] at e11 e12
              go_wp2_with fail
              refine (J1.out).mono ?_
              rintro e w8 ⟨rfl, hQ⟩
              obtain ⟨hb8, t8, hc8⟩ := J2.out w8 hQ
              have a9 : Touch [] w8 (w8.alloc (.cells (#[.int .i64 z0, .int .i64 z1, .int .i64 z2, .int .u64 z3, .int .u64 z4, .int .u64 z5, .int .u64 z6, .int .i64 z7, .int .i64 z8, .int .i64 z9] : Array Value) 66)) := (Touch.refl [] w8).alloc _
              have HNA := HNE.out
              have HB9 := Lib.hid (hb8.carry a9 (by simp))
              have HA9 := Lib.hid ((HA7.out.carry t8 (by simp at HNA ⊢; omega)).carry a9 (by simp))
              have HH9 := Lib.hid (show BoxV (w8.alloc (.cells (#[.int .i64 z0, .int .i64 z1, .int .i64 z2, .int .u64 z3, .int .u64 z4, .int .u64 z5, .int .u64 z6, .int .i64 z7, .int .i64 z8, .int .i64 z9] : Array Value) 66)) w8.heap.size 66 (#[.int .i64 z0, .int .i64 z1, .int .i64 z2, .int .u64 z3, .int .u64 z4, .int .u64 z5, .int .u64 z6, .int .i64 z7, .int .i64 z8, .int .i64 z9] : Array Value) from BoxV.new w8 66 (#[.int .i64 z0, .int .i64 z1, .int .i64 z2, .int .u64 z3, .int .u64 z4, .int .u64 z5, .int .u64 z6, .int .i64 z7, .int .i64 z8, .int .i64 z9] : Array Value))
              have K1 := Lib.hid (hc8 _ a9)
              unfold FreeBack Pk.cells at K1
              simp only at K1
              have HNB := Lib.hid (show w8.heap.size ≠ bx by have := hb8.lt; omega)
              clear hb8 t8 hc8 a9 J1 J2 hQ HNA la Qp e0 e11 e12
              go_upto_region 28 with fail
              generalize w8.alloc (.cells (#[.int .i64 z0, .int .i64 z1, .int .i64 z2, .int .u64 z3, .int .u64 z4, .int .u64 z5, .int .u64 z6, .int .i64 z7, .int .i64 z8, .int .i64 z9] : Array Value) 66) = w9 at *
              generalize w8.heap.size = b22 at *
              have la := HA9.out.lt
              have lb := HB9.out.lt
              have e11 := HA9.out.cell 11
              have e12 := HA9.out.cell 12
              simp only [List.getElem?_toArray, List.getElem?_cons_zero, List.getElem?_cons_succ] at e11 e12
              have c0 := HB9.out.cell 0
              have c1 := HB9.out.cell 1
              have c2 := HB9.out.cell 2
              have c3 := HB9.out.cell 3
              have c4 := HB9.out.cell 4
              simp only [List.getElem?_toArray, List.getElem?_cons_zero, List.getElem?_cons_succ] at c0 c1 c2 c3 c4
              go_wp2_with fail
              refine (K1.out).mono ?_
              rintro e w10 ⟨vf', vt', vb', vk', rfl, t10, ⟨B1, d1, k1, rfl⟩, ⟨B2, d2, k2, rfl⟩, ⟨B3, d3, k3, rfl⟩, ⟨B4, d4, k4, rfl⟩, hst⟩
              have a11 : Touch [] w10 ((w10.alloc (.cells (#[.slice B1 k1 d1, .slice B2 k2 d2, .slice B3 k3 d3, .slice B4 k4 d4, .int .i64 room] : Array Value) 58)).alloc (.cells (#[.int .i64 z0, .int .i64 z1, .int .i64 z2, .int .u64 z3, .int .u64 z4, .int .u64 z5, .int .u64 z6, .int .i64 z7, .int .i64 z8, .int .i64 z9] : Array Value) 66)) := ((Touch.refl [] w10).alloc _).alloc _
              have HB11 := Lib.hid ((HB9.out.carry t10 (by simp)).carry a11 (by simp))
              have HH11 := Lib.hid ((HH9.out.carry t10 (by simp)).carry a11 (by simp))
              have HN11 := Lib.hid (show BoxV ((w10.alloc (.cells (#[.slice B1 k1 d1, .slice B2 k2 d2, .slice B3 k3 d3, .slice B4 k4 d4, .int .i64 room] : Array Value) 58)).alloc (.cells (#[.int .i64 z0, .int .i64 z1, .int .i64 z2, .int .u64 z3, .int .u64 z4, .int .u64 z5, .int .u64 z6, .int .i64 z7, .int .i64 z8, .int .i64 z9] : Array Value) 66)) w10.heap.size 58 (#[.slice B1 k1 d1, .slice B2 k2 d2, .slice B3 k3 d3, .slice B4 k4 d4, .int .i64 room] : Array Value) from BoxV.of2)
              have HG11 := Lib.hid (show BoxV ((w10.alloc (.cells (#[.slice B1 k1 d1, .slice B2 k2 d2, .slice B3 k3 d3, .slice B4 k4 d4, .int .i64 room] : Array Value) 58)).alloc (.cells (#[.int .i64 z0, .int .i64 z1, .int .i64 z2, .int .u64 z3, .int .u64 z4, .int .u64 z5, .int .u64 z6, .int .i64 z7, .int .i64 z8, .int .i64 z9] : Array Value) 66)) (w10.heap.size + 1) 66 (#[.int .i64 z0, .int .i64 z1, .int .i64 z2, .int .u64 z3, .int .u64 z4, .int .u64 z5, .int .u64 z6, .int .i64 z7, .int .i64 z8, .int .i64 z9] : Array Value) from BoxV.at1)
              have HST := Lib.hid (hst _ a11)
              have HNC := Lib.hid (show w10.heap.size + 1 ≠ bx by have := HB9.out.lt; have := t10.size; omega)
              clear t10 hst a11 K1 HB9 HH9 HA9 la lb e11 e12 c0 c1 c2 c3 c4
              go_upto_region 29 with fail
              generalize (w10.alloc (.cells (#[.slice B1 k1 d1, .slice B2 k2 d2, .slice B3 k3 d3, .slice B4 k4 d4, .int .i64 room] : Array Value) 58)).alloc (.cells (#[.int .i64 z0, .int .i64 z1, .int .i64 z2, .int .u64 z3, .int .u64 z4, .int .u64 z5, .int .u64 z6, .int .i64 z7, .int .i64 z8, .int .i64 z9] : Array Value) 66) = w11 at *
              generalize w10.heap.size + 1 = b25 at *
              generalize w10.heap.size = b24 at *
              have ln := HN11.out.lt
              have c0 := HN11.out.cell 0
              have c1 := HN11.out.cell 1
              have c2 := HN11.out.cell 2
              have c3 := HN11.out.cell 3
              have c4 := HN11.out.cell 4
              simp only [List.getElem?_toArray, List.getElem?_cons_zero, List.getElem?_cons_succ] at c0 c1 c2 c3 c4
              have zh0 := HB11.out
              have lb := zh0.lt
              have q0 := zh0.cell 0
              have f0 := zh0.fr 0
              have zh1 := zh0.set 0 (.slice B1 k1 d1)
              have q1 := zh1.cell 1
              have f1 := zh1.fr 1
              have zh2 := zh1.set 1 (.slice B2 k2 d2)
              have q2 := zh2.cell 2
              have f2 := zh2.fr 2
              have zh3 := zh2.set 2 (.slice B3 k3 d3)
              have q3 := zh3.cell 3
              have f3 := zh3.fr 3
              have zh4 := zh3.set 3 (.slice B4 k4 d4)
              have q4 := zh4.cell 4
              have f4 := zh4.fr 4
              simp only [List.setIfInBounds_toArray, List.set_cons_succ, List.set_cons_zero, List.getElem?_toArray, List.getElem?_cons_zero, List.getElem?_cons_succ] at q0 q1 q2 q3 q4
              go_upto_region 30 with fail
              have HH12 := Lib.hid (HH11.out.carry (show Touch [bx] w11 (((((w11.setCell ⟨bx, 0, none⟩ (.slice B1 k1 d1)).setCell ⟨bx, 1, none⟩ (.slice B2 k2 d2)).setCell ⟨bx, 2, none⟩ (.slice B3 k3 d3)).setCell ⟨bx, 3, none⟩ (.slice B4 k4 d4)).setCell ⟨bx, 4, none⟩ (.int .i64 room)) from touch_cellsW (b := bx) ((#[.slice B1 k1 d1, .slice B2 k2 d2, .slice B3 k3 d3, .slice B4 k4 d4, .int .i64 room] : Array Value)).toList 0 w11) (by have := HNB.out; simp; omega))
              have HG12 := Lib.hid (HG11.out.carry (show Touch [bx] w11 (((((w11.setCell ⟨bx, 0, none⟩ (.slice B1 k1 d1)).setCell ⟨bx, 1, none⟩ (.slice B2 k2 d2)).setCell ⟨bx, 2, none⟩ (.slice B3 k3 d3)).setCell ⟨bx, 3, none⟩ (.slice B4 k4 d4)).setCell ⟨bx, 4, none⟩ (.int .i64 room)) from touch_cellsW (b := bx) ((#[.slice B1 k1 d1, .slice B2 k2 d2, .slice B3 k3 d3, .slice B4 k4 d4, .int .i64 room] : Array Value)).toList 0 w11) (by have := HNC.out; simp; omega))
              have HST2 := Lib.hid (show AnyPPlay W bx ns0 room (j + 1) (.pointer (some ⟨q, 0, none⟩)) (((((w11.setCell ⟨bx, 0, none⟩ (.slice B1 k1 d1)).setCell ⟨bx, 1, none⟩ (.slice B2 k2 d2)).setCell ⟨bx, 2, none⟩ (.slice B3 k3 d3)).setCell ⟨bx, 3, none⟩ (.slice B4 k4 d4)).setCell ⟨bx, 4, none⟩ (.int .i64 room)) from HST.out)
              obtain ⟨w12, hw12⟩ : ∃ w, w = ((((w11.setCell ⟨bx, 0, none⟩ (.slice B1 k1 d1)).setCell ⟨bx, 1, none⟩ (.slice B2 k2 d2)).setCell ⟨bx, 2, none⟩ (.slice B3 k3 d3)).setCell ⟨bx, 3, none⟩ (.slice B4 k4 d4)).setCell ⟨bx, 4, none⟩ (.int .i64 room) := ⟨_, rfl⟩
              rw [← hw12] at HH12 HG12 HST2 ⊢
              clear hw12
              clear HH11 HG11 HST HB11 HN11 ln zh0 zh1 zh2 zh3 zh4 q0 q1 q2 q3 q4 f0 f1 f2 f3 f4 c0 c1 c2 c3 c4
              have lh := HH12.out.lt
              have lg := HG12.out.lt
              have d0 := HH12.out.cell 0
              have d1 := HH12.out.cell 1
              have d2 := HH12.out.cell 2
              have d3 := HH12.out.cell 3
              have d4 := HH12.out.cell 4
              have d5 := HH12.out.cell 5
              have d6 := HH12.out.cell 6
              have d7 := HH12.out.cell 7
              have d8 := HH12.out.cell 8
              have d9 := HH12.out.cell 9
              simp only [List.getElem?_toArray, List.getElem?_cons_zero, List.getElem?_cons_succ] at d0 d1 d2 d3 d4 d5 d6 d7 d8 d9
              have g0 := HG12.out.cell 0
              have g1 := HG12.out.cell 1
              have g2 := HG12.out.cell 2
              have g3 := HG12.out.cell 3
              have g4 := HG12.out.cell 4
              have g5 := HG12.out.cell 5
              have g6 := HG12.out.cell 6
              have g7 := HG12.out.cell 7
              have g8 := HG12.out.cell 8
              have g9 := HG12.out.cell 9
              simp only [List.getElem?_toArray, List.getElem?_cons_zero, List.getElem?_cons_succ] at g0 g1 g2 g3 g4 g5 g6 g7 g8 g9
              cases ok
              · go_wp2_with fail
                go_meet
                exact HST2.out
              · go_wp2_with fail
                go_meet
                exact HST2.out
          · as_aux_lemma =>
              have b0 : (dw == 0) = false := by simpa using z0
              have b1 : (dw == 1) = false := by simpa using z1
              have b2 : (dw == 2) = false := by simpa using z2
              have J1 := Lib.hid (copy_both H7.out HN.out)
              clear z0 z1 z2
              go_wp2_with fail
              refine (J1.out).mono ?_
              rintro e w8 ⟨v8, rfl, hv8, t8⟩
              have K1 := Lib.hid (copy_put H7.out HN.out HR.out hv8 t8 (Touch.refl [] w8) ⟨0, 1, 0, 0, 0, 0, 0, 0, 0, 0⟩)
              unfold Pk.cells at K1
              simp only at K1
              clear hv8 t8 J1 la e0
              go_wp2_with fail
              refine (K1.out).mono ?_
              rintro e w9 ⟨u, v, y, rfl, t9⟩
              have H9 := Lib.hid (H7.out.carry t9)
              have J3 := Lib.hid (copy_both H9.out HN.out)
              clear t9 K1
              go_wp2_with fail
              refine (J3.out).mono ?_
              rintro e w10 ⟨v10, rfl, hv10, t10⟩
              obtain ⟨q', p', g', k', ns', c', mb', rfl, hP10⟩ := H9.out.copied hv10 t10
              have HP10 := Lib.hid hP10
              clear hv10 t10 hP10 J3
              go_wp2_with fail
              go_meet
              exact ⟨_, _, _, _, _, _, _, _, _, _, _, _, _, _, _, _, _, _, rfl, HP10.out.next⟩
        case rest =>
            clear H7 HA7 HNE
            obtain ⟨q, p, g, k, ns, m, c, S, K, mb, s, M, bytes, vf, vt, vb, vk, Xk, rfl, hP9⟩ := hcut
            obtain ⟨ad, cf, rfl⟩ := hP9.ptr
            obtain ⟨A2, c2, l2, rfl⟩ := rd_form hP9.ref.ref.turns
            obtain ⟨A3, c3, l3, rfl⟩ := rd_form hP9.ref.ref.taken
            obtain ⟨A4, c4, l4, rfl⟩ := rdp_form hP9.ref.rows
            have H9 := Lib.hid hP9
            have HCN := Lib.hid hP9.math.count
            clear hP9
            go_upto_region 32 with fail
            refine wp_region_leaves (wd := _) (Leaf.const (.pointer (some ⟨q, 0, none⟩)) :: Leaf.const (.int .i64 bytes) :: Leaf.const (.agg (#[.slice (some ad) m cf, .slice A2 l2 c2, .slice A3 l3 c3, .slice A4 l4 c4, .int .i64 room] : Array Value)) :: Leaf.const (.int .i64 bytes) :: Leaf.const (.bool false) :: Leaf.const ((.bool false)) :: Leaf.const (.pointer (some ⟨q, 0, none⟩)) :: Leaf.const (.int .i64 (s : Int)) :: Leaf.const (.int .i64 (ns0 : Int)) :: Leaf.const (.pointer (some ⟨bx, 0, none⟩)) :: Leaf.const (.pointer (some ⟨bx, 0, none⟩)) :: Leaf.const (.slice (some ad) m cf) :: Leaf.const (.int .i64 (m : Nat)) :: Leaf.const (.int .i64 (s : Int)) :: Leaf.const (.bool false) :: Leaf.const ((.bool false)) :: []) (by kernel_rfl) (by kernel_rfl) (by kernel_rfl) ((Touch.refl _ _).drew) (trivial) ?_ ?_
            · intro i o ho ac w ht hk hd
              match i, ho with
              | 0, ho =>
                have ho' : some _ = some o := ho
                cases ho'
                clear ho
                have e7 := known_slot hk 7 (by kernel_rfl) (v := .pointer (some ⟨q, 0, none⟩)) rfl
                exact do_value (wanted_none rfl) (by rw [BigFrame.run_move (.tmp 7) rfl, e7]) rfl
              | 1, ho =>
                have ho' : some _ = some o := ho
                cases ho'
                clear ho
                have e178 := has_const (has_dep hd 0 (by kernel_rfl)) rfl rfl rfl (c := (.pointer (some ⟨q, 0, none⟩)))
                refine do_enter (wanted_none rfl) (f := 37) (args := #[(.pointer (some ⟨q, 0, none⟩))]) (by rw [run_go3 37 _ _ rfl, ent37]; simp [eval_c, e178]) ?_
                exact (bytes_any (H9.out.carry ht).pool).mono fun e w2 ⟨he, hb⟩ => ⟨_, he, rfl, by rw [hb]; exact Touch.refl _ _⟩
              | 2, ho =>
                have ho' : some _ = some o := ho
                cases ho'
                clear ho
                have e9 := known_slot hk 9 (by kernel_rfl) (v := .pointer (some ⟨bx, 0, none⟩)) rfl
                exact do_value (wanted_none rfl) (v := .agg (#[.slice (some ad) m cf, .slice A2 l2 c2, .slice A3 l3 c3, .slice A4 l4 c4, .int .i64 room] : Array Value)) (run_value rfl (by rw [e9]; exact load_box ((H9.out.carry ht).box) Try.underlying58 rfl (by kernel_rfl))) rfl
              | 3, ho =>
                have ho' : some _ = some o := ho
                cases ho'
                clear ho
                have e180 := has_const (has_dep hd 2 (by kernel_rfl)) rfl rfl rfl (c := (.agg (#[.slice (some ad) m cf, .slice A2 l2 c2, .slice A3 l3 c3, .slice A4 l4 c4, .int .i64 room] : Array Value)))
                refine do_enter (wanted_none rfl) (f := 38) (args := #[(.agg (#[.slice (some ad) m cf, .slice A2 l2 c2, .slice A3 l3 c3, .slice A4 l4 c4, .int .i64 room] : Array Value))]) (by rw [run_go3 38 _ _ rfl, ent38]; simp [eval_c, e180]) ?_
                exact (bytes_both (H9.out.carry ht) HN.out).mono fun e w2 ⟨he, hb⟩ => ⟨_, he, rfl, hb⟩
              | 4, ho =>
                have ho' : some _ = some o := ho
                cases ho'
                clear ho
                have e179 := has_const (has_dep hd 1 (by kernel_rfl)) rfl rfl rfl (c := (.int .i64 bytes))
                have e181 := has_const (has_dep hd 3 (by kernel_rfl)) rfl rfl rfl (c := (.int .i64 bytes))
                exact do_value (wanted_none rfl) (v := .bool false) (run_value rfl (by rw [e179, e181]; simp [go_sem])) rfl
              | 5, ho =>
                have ho' : some _ = some o := ho
                cases ho'
                clear ho
                have e182 := has_const (has_dep hd 4 (by kernel_rfl)) rfl rfl rfl (c := (.bool false))
                exact do_value (wanted_none rfl) (by rw [BigFrame.run_move (.tmp 182) rfl, e182]) rfl
              | 6, ho =>
                have ho' : some _ = some o := ho
                cases ho'
                clear ho
                have e183 := has_const (has_dep hd 5 (by kernel_rfl)) rfl rfl rfl (c := (.bool false))
                have e7 := known_slot hk 7 (by kernel_rfl) (v := .pointer (some ⟨q, 0, none⟩)) rfl
                exact do_value (wanted_some (g := 5) rfl rfl rfl e183) (by rw [BigFrame.run_move (.tmp 7) rfl, e7]) rfl
              | 7, ho =>
                have ho' : some _ = some o := ho
                cases ho'
                clear ho
                have e183 := has_const (has_dep hd 5 (by kernel_rfl)) rfl rfl rfl (c := (.bool false))
                have e184 := has_const (has_dep hd 6 (by kernel_rfl)) rfl rfl rfl (c := (.pointer (some ⟨q, 0, none⟩)))
                refine do_enter (wanted_some (g := 5) rfl rfl rfl e183) (f := 39) (args := #[(.pointer (some ⟨q, 0, none⟩))]) (by rw [run_go3 39 _ _ rfl, ent39]; simp [eval_c, e184]) ?_
                exact (slots_any (H9.out.carry ht).pool).mono fun e w2 ⟨he, hb⟩ => ⟨_, he, rfl, by rw [hb]; exact Touch.refl _ _⟩
              | 8, ho =>
                have ho' : some _ = some o := ho
                cases ho'
                clear ho
                have e183 := has_const (has_dep hd 5 (by kernel_rfl)) rfl rfl rfl (c := (.bool false))
                have e0 := known_slot hk 0 (by kernel_rfl) (v := .int .i64 (ns0 : Int)) rfl
                exact do_value (wanted_some (g := 5) rfl rfl rfl e183) (by rw [BigFrame.run_move (.tmp 0) rfl, e0]) rfl
              | 9, ho =>
                have ho' : some _ = some o := ho
                cases ho'
                clear ho
                have e183 := has_const (has_dep hd 5 (by kernel_rfl)) rfl rfl rfl (c := (.bool false))
                have e9 := known_slot hk 9 (by kernel_rfl) (v := .pointer (some ⟨bx, 0, none⟩)) rfl
                exact do_value (wanted_some (g := 5) rfl rfl rfl e183) (v := .pointer (some ⟨bx, 0, none⟩)) (run_value rfl (by rw [e9]; simp [go_sem])) rfl
              | 10, ho =>
                have ho' : some _ = some o := ho
                cases ho'
                clear ho
                have e183 := has_const (has_dep hd 5 (by kernel_rfl)) rfl rfl rfl (c := (.bool false))
                have e187 := has_const (has_dep hd 9 (by kernel_rfl)) rfl rfl rfl (c := (.pointer (some ⟨bx, 0, none⟩)))
                exact do_value (wanted_some (g := 5) rfl rfl rfl e183) (v := .pointer (some ⟨bx, 0, none⟩)) (run_value rfl (by rw [e187]; simp [go_sem])) rfl
              | 11, ho =>
                have ho' : some _ = some o := ho
                cases ho'
                clear ho
                have e183 := has_const (has_dep hd 5 (by kernel_rfl)) rfl rfl rfl (c := (.bool false))
                have e188 := has_const (has_dep hd 10 (by kernel_rfl)) rfl rfl rfl (c := (.pointer (some ⟨bx, 0, none⟩)))
                have c0 := (H9.out.carry ht).box.cell 0
                simp only [List.getElem?_toArray, List.getElem?_cons_zero, List.getElem?_cons_succ] at c0
                exact do_value (wanted_some (g := 5) rfl rfl rfl e183) (v := .slice (some ad) m cf) (run_value rfl (by rw [e188]; simp [go_sem, c0])) rfl
              | 12, ho =>
                have ho' : some _ = some o := ho
                cases ho'
                clear ho
                have e183 := has_const (has_dep hd 5 (by kernel_rfl)) rfl rfl rfl (c := (.bool false))
                have e189 := has_const (has_dep hd 11 (by kernel_rfl)) rfl rfl rfl (c := (.slice (some ad) m cf))
                exact do_value (wanted_some (g := 5) rfl rfl rfl e183) (v := .int .i64 (m : Nat)) (run_len3 (x := .tmp 189) rfl Try.underlying40 e189) rfl
              | 13, ho =>
                have ho' : some _ = some o := ho
                cases ho'
                clear ho
                have e183 := has_const (has_dep hd 5 (by kernel_rfl)) rfl rfl rfl (c := (.bool false))
                have e186 := has_const (has_dep hd 8 (by kernel_rfl)) rfl rfl rfl (c := (.int .i64 (ns0 : Int)))
                have e190 := has_const (has_dep hd 12 (by kernel_rfl)) rfl rfl rfl (c := (.int .i64 (m : Nat)))
                have hw : IntKind.i64.wrap ((ns0 : Int) - (m : Int)) = (s : Int) := by have hcn := HCN.out; rw [IntKind.wrap_i64]; omega
                exact do_value (wanted_some (g := 5) rfl rfl rfl e183) (v := .int .i64 (s : Int)) (run_value rfl (by rw [e186, e190]; simp [go_sem, hw])) rfl
              | 14, ho =>
                have ho' : some _ = some o := ho
                cases ho'
                clear ho
                have e183 := has_const (has_dep hd 5 (by kernel_rfl)) rfl rfl rfl (c := (.bool false))
                have e185 := has_const (has_dep hd 7 (by kernel_rfl)) rfl rfl rfl (c := (.int .i64 (s : Int)))
                have e191 := has_const (has_dep hd 13 (by kernel_rfl)) rfl rfl rfl (c := (.int .i64 (s : Int)))
                exact do_value (wanted_some (g := 5) rfl rfl rfl e183) (v := .bool false) (run_value rfl (by rw [e185, e191]; simp [go_sem])) rfl
              | 15, ho =>
                have ho' : some _ = some o := ho
                cases ho'
                clear ho
                have e183 := has_const (has_dep hd 5 (by kernel_rfl)) rfl rfl rfl (c := (.bool false))
                have e192 := has_const (has_dep hd 14 (by kernel_rfl)) rfl rfl rfl (c := (.bool false))
                exact do_value (wanted_none rfl) (by rw [run_pickF (c := .tmp 183) (x := .const (.bool true)) (y := .tmp 192) rfl e183, e192]) rfl
              | q + 16, ho => exact absurd ho (by simp)
            · intro x w10 T10 hkn
              simp only [putL, Act.put, List.setIfInBounds_toArray, List.set_cons_succ, List.set_cons_zero]
              have H10 := Lib.hid (H9.out.carry T10)
              clear T10 hkn H9 HCN
              go_wp2_with fail
              go_roundw
              case rel => exact ⟨j + 1, by omega, by go_num, _, _, _, _, _, _, _, _, _, _, _, _, _, _, _, _, _, _, rfl, H10.out⟩
              case measure => simp [intOf]; omega
    · obtain rfl : j = n := by omega
      have HB := Lib.hid hP.below
      clear hP
      go_wp2_with fail
      refine (N8.out _).mono ?_
      rintro e w9 ⟨rfl, t9⟩
      go_wp2_with fail
      go_ret
      exact ⟨rfl, HB.out.trans (t9.below (by simp) HB.out.size)⟩

end Go.Proofs.Ytkbjkijcabmbpaa
