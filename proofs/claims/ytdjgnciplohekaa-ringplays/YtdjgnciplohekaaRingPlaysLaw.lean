/-
  RingPlays: for every list of calls the law on a ring returns true. No conditions.
-/
import Derived.Test.YtdjgnciplohekaaRingPlay2
import Derived.Test.YtdjgnciplohekaaPhi4
import Derived.Test.YtdjgnciplohekaaAppendTwo
import Derived.BigRegion
import Derived.BigCall
import Derived.IntWalk
import Derived.Lib.SmallJoins
import Derived.Deep.CutBlock
namespace Go.Proofs.Ytdjgnciplohekaa
open Go.ChangeShapes Go.WideShapes Go.ChangeAt Go.RowKit Go.Deep Go.Joins Go.Maps
set_option linter.unusedVariables false
set_option linter.unusedSimpArgs false

theorem funcNil (f : Nat) (a : Option Addr) (w : World) : (binOp .eql 39 (.func (.func f) #[] #[.pointer a]) .nilFunc).run Try.prog w = .ok (.bool false) w := by kernel_rfl
theorem ent10 (args : Array Value) (w : World) : (callFunc 10 args).run Try.prog w = .ok (.enter 10 args) w := by
  simp [callFunc, Try.func10]
  rfl
theorem ent18 (args : Array Value) (w : World) : (callFunc 18 args).run Try.prog w = .ok (.enter 18 args) w := by
  simp [callFunc, Try.func18]
  rfl
theorem ent19 (args : Array Value) (w : World) : (callFunc 19 args).run Try.prog w = .ok (.enter 19 args) w := by
  simp [callFunc, Try.func19]
  rfl
theorem ent20 (args : Array Value) (w : World) : (callFunc 20 args).run Try.prog w = .ok (.enter 20 args) w := by
  simp [callFunc, Try.func20]
  rfl
theorem ent21 (args : Array Value) (w : World) : (callFunc 21 args).run Try.prog w = .ok (.enter 21 args) w := by
  simp [callFunc, Try.func21]
  rfl
theorem ent9 (args : Array Value) (w : World) : (callFunc 9 args).run Try.prog w = .ok (.enter 9 args) w := by
  simp [callFunc, Try.func9]
  rfl
theorem ent11 (args : Array Value) (w : World) : (callFunc 11 args).run Try.prog w = .ok (.enter 11 args) w := by
  simp [callFunc, Try.func11]
  rfl
structure ActR where
  what : Int
  id : Int
def ActRCells (w : World) (B : Nat) (A : Option Addr) (n : Nat) (X : Nat → ActR) : Prop :=
  ∀ i, i < n → ∃ b off, A = some ⟨b, off, none⟩ ∧ b < B ∧ w.cell? ⟨b, off + i * 2, none⟩ = some (.int .i64 (X i).what) ∧ w.cell? ⟨b, off + i * 2 + 1, none⟩ = some (.int .i64 (X i).id) ∧ fit64 (X i).id
def AnyPlay (W0 : World) (k : Nat) (r x : Value) (w : World) : Prop := ∃ p b1 b2 L y, r = .pointer (some ⟨p, 0, none⟩) ∧ Play W0 k p b1 b2 L y x w

set_option maxHeartbeats 8000000 in
set_option maxRecDepth 100000 in
theorem ringPlays_walk (A : Option Addr) (n c : Nat) (X : Nat → ActR) (most : Int) (wd : World) (hc : n ≤ 9223372036854775807) (hX : ActRCells wd wd.heap.size A n X) :
    Calls Try.prog 3 #[.slice A n c, .int .i64 most] wd fun e w' => e = .returned (.bool true) ∧ Below wd.heap.size wd w' := by
  have HX := Lib.hid hX
  clear hX
  have hW := heap_alloc_new wd (.cells #[.int .i64 most] 3)
  have T0 := Lib.hid ((Touch.refl [] wd).alloc (.cells #[.int .i64 most] 3))
  go_enter Try.func3, Try.ntmps3
  go_upto_region 1 with fail
  have hM := Lib.hid hW
  have hsz0 : (wd.alloc (.cells #[.int .i64 most] 3)).heap.size = wd.heap.size + 1 := by simp
  generalize wd.alloc (.cells #[.int .i64 most] 3) = W0 at *
  have HZ0 := Lib.hid hsz0
  clear hW hsz0
  by_cases hn : 80 < n
  · go_wp2_with fail
    refine (ringLives_any _).mono ?_
    rintro e w8 ⟨rfl, hb⟩
    have HB := Lib.hid hb
    clear hb
    go_wp2_with fail
    go_ret
    exact ⟨rfl, bnext (T0.out.below (by simp) (Nat.le_refl _)) HB.out⟩
  · go_wp2_with fail
    refine (ringNew_any _).mono ?_
    rintro e w1 ⟨rfl, a1, t1⟩
    have B0 := Lib.hid (show Play W0 0 (W0.heap.size + 2) W0.heap.size (W0.heap.size + 1) [] (fun _ => 0) (.slice none 0 0) w1 from
      ⟨⟨_, _, _, a1, Cyc.new⟩, fun i hi => by simp at hi, RowZ.nil _ _, Nat.le_refl _, by omega, t1⟩)
    clear a1 t1
    go_wp2_with fail
    go_loopw [5, 6, 23] (fun r x i wr => ∃ k : Nat, k ≤ n ∧ i = .int .i64 k ∧ AnyPlay W0 k r x wr) (fun _ _ i _ => n - (intOf i).toNat)
    case atStart => exact ⟨0, Nat.zero_le _, rfl, _, _, _, _, _, rfl, B0.out⟩
    case round =>
      clear B0
      obtain ⟨k, hk, rfl, p, b1, b2, L, y, rfl, hB⟩ := hrel
      by_cases hlt : k < n
      · obtain ⟨bl, off, hA, hbB, d0, d1, fi⟩ := HX.out k hlt
        have hbW : bl < W0.heap.size := Nat.lt_of_lt_of_le hbB T0.out.size
        rw [← T0.out.cell (a := ⟨bl, _, none⟩) hbB (by simp), ← hB.t.cell (a := ⟨bl, _, none⟩) hbW (by simp)] at d0 d1
        subst hA
        have hi : i64k (X k).id := i64k_of fi
        generalize (X k).what = dw at *
        generalize (X k).id = id at *
        have hbl : bl < wr.heap.size := Nat.lt_of_lt_of_le hbW hB.t.size
        have T6 := (Touch.refl [] wr).alloc (.cells #[.int .i64 dw, .int .i64 id] 28)
        have hB6 := hB.carry T6
        have ha6 : Box2 (wr.alloc (.cells #[.int .i64 dw, .int .i64 id] 28)) wr.heap.size 28 (.int .i64 dw) (.int .i64 id) := heap_alloc_new wr _
        have H6 := Lib.hid hB6
        have A6 := Lib.hid ha6
        have hlz := hB.ring.lt
        have nb : wr.heap.size ∉ [p, b1, b2] := by simp; omega
        have hk80 : k + 1 ≤ 1000 := by omega
        clear hB hB6 T6 ha6 hlz
        go_upto_region 8 with fail
        generalize wr.alloc (.cells #[.int .i64 dw, .int .i64 id] 28) = w6 at *
        have e0 := A6.out.c0
        have e1 := A6.out.c1
        clear d0 d1
        go_upto_block 2 with fail
        generalize wr.heap.size = a6 at *
        go_cut [5, 6] (fun r x wx => AnyPlay W0 (k + 1) r x wx ∧ Box2 wx a6 28 (.int .i64 dw) (.int .i64 id))
        case first =>
          have hlt6 := A6.out.lt
          rcases (show dw = 0 ∨ dw = 1 ∨ dw = 2 ∨ dw = 3 ∨ dw = 4 ∨ (dw ≠ 0 ∧ dw ≠ 1 ∧ dw ≠ 2 ∧ dw ≠ 3 ∧ dw ≠ 4) by omega) with rfl | rfl | rfl | rfl | rfl | hd
          · by_cases hin : id ∈ L
            · have e1 := A6.out.c1
              have la6 := A6.out.lt
              obtain ⟨A2, cx, hv, hcx, hcm, hcells⟩ := H6.out.row.cells
              have HROW := Lib.hid H6.out.row
              have HLEN := Lib.hid H6.out.len
              have NB := Lib.hid nb
              subst hv
              have CRef := Lib.hid (fun (u : World) (t : Touch [] w6 u) => by
                obtain ⟨A4, c4, hv4, _, _, hc4⟩ := (H6.out.row.carry t (by simp)).cells
                cases hv4
                exact (refHas29 (c := cx) hc4 id (by have := H6.out.len; omega)).mono fun e w' (⟨he, hb⟩ : _ ∧ _) => (⟨he, Touch.ofBelow (S := []) hb⟩ : e = Ending.returned (.bool (decide (id ∈ L))) ∧ Touch [] u w'))
              have CW := Lib.hid (fun (u : World) (t : Touch [] w6 u) => (H6.out.carry t).addNo id hi hin)
              rw [show decide (id ∈ L) = true by simpa using hin] at CRef
              go_upto_region 10 with fail
              refine wp_region_leaves (wd := w6) (Leaf.const (.pointer (some ⟨p, 0, none⟩)) :: Leaf.const (.pointer (some ⟨a6, 1, none⟩)) :: Leaf.const (.int .i64 id) :: Leaf.const (.bool false) :: Leaf.const (.slice A2 L.length cx) :: Leaf.const (.pointer (some ⟨a6, 1, none⟩)) :: Leaf.const (.int .i64 id) :: Leaf.const (.bool true) :: Leaf.const (.bool false) :: []) (by kernel_rfl) (by kernel_rfl) (by kernel_rfl) ((Touch.refl _ _).drew) (trivial) ?_ ?_
              · intro i o ho ac w ht hk hd
                match i, ho with
                | 0, ho =>
                  have ho' : some _ = some o := ho
                  cases ho'
                  clear ho
                  have e5 := known_slot hk 5 (by kernel_rfl) (v := .pointer (some ⟨p, 0, none⟩)) rfl
                  exact do_value (wanted_none rfl) (by rw [BigFrame.run_move (.tmp 5) rfl, e5]) rfl
                | 1, ho =>
                  have ho' : some _ = some o := ho
                  cases ho'
                  clear ho
                  have e8 := known_slot hk 8 (by kernel_rfl) (v := .pointer (some ⟨a6, 0, none⟩)) rfl
                  exact do_value (wanted_none rfl) (v := .pointer (some ⟨a6, 1, none⟩)) (run_value rfl (by rw [e8]; simp [go_sem])) rfl
                | 2, ho =>
                  have ho' : some _ = some o := ho
                  cases ho'
                  clear ho
                  have e32 := has_const (has_dep hd 1 (by kernel_rfl)) rfl rfl rfl (c := (.pointer (some ⟨a6, 1, none⟩)))
                  have c1 := (ht.cell (a := ⟨a6, 1, none⟩) la6 (by first | exact nb | simp)).trans e1
                  exact do_value (wanted_none rfl) (v := .int .i64 id) (run_value rfl (by rw [e32]; simp [go_sem, c1])) rfl
                | 3, ho =>
                  have ho' : some _ = some o := ho
                  cases ho'
                  clear ho
                  have e31 := has_const (has_dep hd 0 (by kernel_rfl)) rfl rfl rfl (c := (.pointer (some ⟨p, 0, none⟩)))
                  have e33 := has_const (has_dep hd 2 (by kernel_rfl)) rfl rfl rfl (c := (.int .i64 id))
                  refine do_enter (wanted_none rfl) (f := 9) (args := #[(.pointer (some ⟨p, 0, none⟩)), (.int .i64 id)]) (by rw [run_go3 9 _ _ rfl, ent9]; simp [eval_c, e31, e33]) ?_
                  exact Calls.leafSame (CW.out _ ht)
                | 4, ho =>
                  have ho' : some _ = some o := ho
                  cases ho'
                  clear ho
                  have e6 := known_slot hk 6 (by kernel_rfl) (v := .slice A2 L.length cx) rfl
                  exact do_value (wanted_none rfl) (by rw [BigFrame.run_move (.tmp 6) rfl, e6]) rfl
                | 5, ho =>
                  have ho' : some _ = some o := ho
                  cases ho'
                  clear ho
                  have e8 := known_slot hk 8 (by kernel_rfl) (v := .pointer (some ⟨a6, 0, none⟩)) rfl
                  exact do_value (wanted_none rfl) (v := .pointer (some ⟨a6, 1, none⟩)) (run_value rfl (by rw [e8]; simp [go_sem])) rfl
                | 6, ho =>
                  have ho' : some _ = some o := ho
                  cases ho'
                  clear ho
                  have e36 := has_const (has_dep hd 5 (by kernel_rfl)) rfl rfl rfl (c := (.pointer (some ⟨a6, 1, none⟩)))
                  have c1 := (ht.cell (a := ⟨a6, 1, none⟩) la6 (by first | exact nb | simp)).trans e1
                  exact do_value (wanted_none rfl) (v := .int .i64 id) (run_value rfl (by rw [e36]; simp [go_sem, c1])) rfl
                | 7, ho =>
                  have ho' : some _ = some o := ho
                  cases ho'
                  clear ho
                  have e35 := has_const (has_dep hd 4 (by kernel_rfl)) rfl rfl rfl (c := (.slice A2 L.length cx))
                  have e37 := has_const (has_dep hd 6 (by kernel_rfl)) rfl rfl rfl (c := (.int .i64 id))
                  refine do_enter (wanted_none rfl) (f := 10) (args := #[(.slice A2 L.length cx), (.int .i64 id)]) (by rw [run_go3 10 _ _ rfl, ent10]; simp [eval_c, e35, e37]) ?_
                  exact Calls.leaf (CRef.out _ ht)
                | 8, ho =>
                  have ho' : some _ = some o := ho
                  cases ho'
                  clear ho
                  have e34 := has_const (has_dep hd 3 (by kernel_rfl)) rfl rfl rfl (c := (.bool false))
                  have e38 := has_const (has_dep hd 7 (by kernel_rfl)) rfl rfl rfl (c := (.bool true))
                  exact do_value (wanted_none rfl) (v := .bool false) (run_value rfl (by rw [e34, e38]; simp [go_sem])) rfl
                | q + 9, ho => exact absurd ho (by simp)
              · intro x w7 T7 _
                simp only [putL, Act.put, List.setIfInBounds_toArray, List.set_cons_succ, List.set_cons_zero]
                have HP7 := Lib.hid (H6.out.more.carry T7)
                have HA7 := Lib.hid (A6.out.carry T7 (by simp))
                have C3 := Lib.hid ((HP7.out).refHas id (by omega))
                rw [show decide (id ∈ L) = true by simpa using hin] at C3
                have f1 := HA7.out.c1
                have l7 := HA7.out.lt
                clear e1 la6 T7 CRef CW hcells
                go_wp2_with fail
                refine (C3.out).mono ?_
                rintro e w8 ⟨rfl, t8⟩
                have HP8 := Lib.hid (HP7.out.carry t8)
                have HA8 := Lib.hid (HA7.out.carry t8 (by simp))
                clear t8 f1 l7
                go_wp2_with fail
                go_meet
                exact ⟨⟨_, _, _, _, _, rfl, HP8.out⟩, HA8.out⟩
            · have e1 := A6.out.c1
              have la6 := A6.out.lt
              obtain ⟨A2, cx, hv, hcx, hcm, hcells⟩ := H6.out.row.cells
              have HROW := Lib.hid H6.out.row
              have HLEN := Lib.hid H6.out.len
              have NB := Lib.hid nb
              subst hv
              have CRef := Lib.hid (fun (u : World) (t : Touch [p, b1, b2] w6 u) => by
                obtain ⟨A4, c4, hv4, _, _, hc4⟩ := (H6.out.row.carry t (by intro b hb; simp at hb; simp [hb])).cells
                cases hv4
                exact (refHas29 (c := cx) hc4 id (by have := H6.out.len; omega)).mono fun e w' (⟨he, hb⟩ : _ ∧ _) => (⟨he, Touch.ofBelow (S := []) hb⟩ : e = Ending.returned (.bool (decide (id ∈ L))) ∧ Touch [] u w'))
              have CW := Lib.hid (fun (u : World) (t : Touch [] w6 u) => (H6.out.carry t).addYes id hi hin (by omega))
              rw [show decide (id ∈ L) = false by simpa using hin] at CRef
              go_upto_region 10 with fail
              refine wp_region_writes (wd := w6) [p, b1, b2] 3 (Leaf.const (.pointer (some ⟨p, 0, none⟩)) :: Leaf.const (.pointer (some ⟨a6, 1, none⟩)) :: Leaf.const (.int .i64 id) :: Leaf.pred (fun v w => v = .bool true ∧ AsList w p b1 b2 (L ++ [id])) :: Leaf.const (.slice A2 L.length cx) :: Leaf.const (.pointer (some ⟨a6, 1, none⟩)) :: Leaf.const (.int .i64 id) :: Leaf.const (.bool false) :: Leaf.const (.bool false) :: []) (by kernel_rfl) (by kernel_rfl) (by kernel_rfl) ((Touch.refl _ _).drew) (show StabS [] _ ∧ True from ⟨fun v w w2 ⟨h1, h2⟩ t => ⟨h1, h2.carry t (by simp) (by simp) (by simp)⟩, trivial⟩) ?_ ?_ ?_
              · intro i o ho hij ac w ht hk hd
                match i, ho, hij with
                | 0, ho, hij =>
                  have ho' : some _ = some o := ho
                  cases ho'
                  clear ho
                  have e5 := known_slot hk 5 (by kernel_rfl) (v := .pointer (some ⟨p, 0, none⟩)) rfl
                  exact do_value (wanted_none rfl) (by rw [BigFrame.run_move (.tmp 5) rfl, e5]) rfl
                | 1, ho, hij =>
                  have ho' : some _ = some o := ho
                  cases ho'
                  clear ho
                  have e8 := known_slot hk 8 (by kernel_rfl) (v := .pointer (some ⟨a6, 0, none⟩)) rfl
                  exact do_value (wanted_none rfl) (v := .pointer (some ⟨a6, 1, none⟩)) (run_value rfl (by rw [e8]; simp [go_sem])) rfl
                | 2, ho, hij =>
                  have ho' : some _ = some o := ho
                  cases ho'
                  clear ho
                  have e32 := has_const (has_dep hd 1 (by kernel_rfl)) rfl rfl rfl (c := (.pointer (some ⟨a6, 1, none⟩)))
                  have c1 := (ht.cell (a := ⟨a6, 1, none⟩) la6 (by first | exact nb | simp)).trans e1
                  exact do_value (wanted_none rfl) (v := .int .i64 id) (run_value rfl (by rw [e32]; simp [go_sem, c1])) rfl
                | 3, ho, hij => exact absurd rfl hij
                | 4, ho, hij =>
                  have ho' : some _ = some o := ho
                  cases ho'
                  clear ho
                  have e6 := known_slot hk 6 (by kernel_rfl) (v := .slice A2 L.length cx) rfl
                  exact do_value (wanted_none rfl) (by rw [BigFrame.run_move (.tmp 6) rfl, e6]) rfl
                | 5, ho, hij =>
                  have ho' : some _ = some o := ho
                  cases ho'
                  clear ho
                  have e8 := known_slot hk 8 (by kernel_rfl) (v := .pointer (some ⟨a6, 0, none⟩)) rfl
                  exact do_value (wanted_none rfl) (v := .pointer (some ⟨a6, 1, none⟩)) (run_value rfl (by rw [e8]; simp [go_sem])) rfl
                | 6, ho, hij =>
                  have ho' : some _ = some o := ho
                  cases ho'
                  clear ho
                  have e36 := has_const (has_dep hd 5 (by kernel_rfl)) rfl rfl rfl (c := (.pointer (some ⟨a6, 1, none⟩)))
                  have c1 := (ht.cell (a := ⟨a6, 1, none⟩) la6 (by first | exact nb | simp)).trans e1
                  exact do_value (wanted_none rfl) (v := .int .i64 id) (run_value rfl (by rw [e36]; simp [go_sem, c1])) rfl
                | 7, ho, hij =>
                  have ho' : some _ = some o := ho
                  cases ho'
                  clear ho
                  have e35 := has_const (has_dep hd 4 (by kernel_rfl)) rfl rfl rfl (c := (.slice A2 L.length cx))
                  have e37 := has_const (has_dep hd 6 (by kernel_rfl)) rfl rfl rfl (c := (.int .i64 id))
                  refine do_enter (wanted_none rfl) (f := 10) (args := #[(.slice A2 L.length cx), (.int .i64 id)]) (by rw [run_go3 10 _ _ rfl, ent10]; simp [eval_c, e35, e37]) ?_
                  exact Calls.leaf (CRef.out _ ht)
                | 8, ho, hij =>
                  have ho' : some _ = some o := ho
                  cases ho'
                  clear ho
                  obtain ⟨v34, e34, h34⟩ := has_pred (has_dep hd 3 (by kernel_rfl)) rfl rfl rfl (φ := fun v w => v = .bool true ∧ AsList w p b1 b2 (L ++ [id]))
                  obtain ⟨rfl, h34⟩ := h34
                  have e38 := has_const (has_dep hd 7 (by kernel_rfl)) rfl rfl rfl (c := (.bool false))
                  exact do_value (wanted_none rfl) (v := .bool false) (run_value rfl (by rw [e34, e38]; simp [go_sem])) rfl
                | q + 9, ho, hij => exact absurd ho (by simp)
              · intro o ho ac w ht hk hd
                have ho' : some _ = some o := ho
                cases ho'
                clear ho
                have e31 := has_const (has_dep hd 0 (by kernel_rfl)) rfl rfl rfl (c := (.pointer (some ⟨p, 0, none⟩)))
                have e33 := has_const (has_dep hd 2 (by kernel_rfl)) rfl rfl rfl (c := (.int .i64 id))
                refine doS_enter (wanted_none rfl) (f := 9) (args := #[(.pointer (some ⟨p, 0, none⟩)), (.int .i64 id)]) (by rw [run_go3 9 _ _ rfl, ent9]; simp [eval_c, e31, e33]) ?_
                exact CW.out _ ht
              · intro x w7 T7 hkn
                obtain ⟨⟨hx3, hr7⟩, _⟩ := hkn
                simp only [putL, Act.put, List.setIfInBounds_toArray, List.set_cons_succ, List.set_cons_zero]
                rw [hx3]
                have HR7 := Lib.hid hr7
                have HROW7 := Lib.hid (HROW.out.carry T7 (by intro b hb; simp at hb; simp [hb]))
                have HA7 := Lib.hid (A6.out.carry T7 nb)
                have HT7 := Lib.hid T7
                obtain ⟨A4, c4, hv4, _, _, hc4⟩ := HROW7.out.cells
                cases hv4
                have C3 := Lib.hid (refHas29 (c := cx) hc4 id (by have := HLEN.out; omega))
                rw [show decide (id ∈ L) = false by simpa using hin] at C3
                have f1 := HA7.out.c1
                have l7 := HA7.out.lt
                clear e1 la6 T7 CRef CW hcells hc4 hr7
                go_wp2_with fail
                refine (C3.out).mono ?_
                rintro e w8 ⟨rfl, hb8⟩
                have t8 := Touch.ofBelow (S := []) hb8
                have HR8 := Lib.hid (HR7.out.carry t8 (by simp) (by simp) (by simp))
                have HROW8 := HROW7.out.carry t8 (by simp)
                have HA8 := Lib.hid (HA7.out.carry t8 (by simp))
                have HT8 := Lib.hid (HT7.out.trans t8 (by simp))
                clear t8 f1 l7 hb8
                obtain ⟨A3, c3, hv4, hc3, hm3, hc8⟩ := HROW8.cells
                cases hv4
                obtain ⟨i0, hi0, hz0, hz1, hz2⟩ := info_parts rg_int_info
                have la8 := HA8.out.lt
                have e8 := HA8.out.c1
                have hA3 : A2 = none → L.length = 0 := fun h => by
                  rcases Nat.eq_zero_or_pos L.length with h0 | h0
                  · exact h0
                  · obtain ⟨b', off', hA', _⟩ := hc8 0 h0
                    rw [h] at hA'
                    cases hA'
                have K0 : Srcs w8 A2 (ints L) a6 1 id := fun u t => by
                  refine ⟨fun ad had j v hv => ?_, (t.cell (a := ⟨a6, 1, none⟩) la8 (by simp)).trans e8⟩
                  have hj : j < L.length := by
                    rcases Nat.lt_or_ge j L.length with hj | hj
                    · exact hj
                    · rw [List.getElem?_eq_none (by simpa [ints] using hj)] at hv; cases hv
                  obtain ⟨b', off', hA', hb', hc'⟩ := hc8.touch t j hj
                  rw [had] at hA'
                  cases hA'
                  have : (ints L)[j]? = some (.int .i64 (at0 L j)) := by simp [ints, at0, hj]
                  rw [this] at hv
                  cases hv
                  rw [show (⟨b', off', none⟩ : Addr).add j = ⟨b', off' + j, none⟩ by unfold Addr.add; split <;> simp <;> omega]
                  exact hc'
                have K0 := Lib.hid K0
                have l1 : (ints L).length = L.length * 1 := by simp [ints]
                have o1 := ints_one L
                have hl1 := HLEN.out
                obtain ⟨M, hM⟩ : ∃ M, ints L = M := ⟨_, rfl⟩
                obtain ⟨n', hn'⟩ : ∃ n', L.length = n' := ⟨_, rfl⟩
                rw [hM] at K0 l1 o1
                rw [hn'] at l1 hA3 hl1
                have HM := Lib.hid hM
                have HN := Lib.hid hn'
                simp only [hn']
                clear hM hn' hc8 HROW8
                go_upto_region 13 with fail
                go_region_law (first | (refine step_append_ownA _ (by rfl) (.tmp 45) (.tmp 46) 26 (by rfl) w8.heap.size 3 i0 (.int .i64 0) 1 8 Try.underlying26 hi0 hz0 hz1 hz2 rfl (by omega) (.slice (some ⟨w8.heap.size, 0, none⟩) 0 0) 0 [] (by rfl) (litE w8) A2 n' cx M (by rfl) hA3 l1 (K0.out _ (touchE w8)).1 o1 (by unfold maxLen; omega) (by omega) (sizeE w8) ?_; intro v1 w18 hown1 hgrow1 hat1; obtain ⟨g0, g1, g2, g3⟩ := afterE K0.out la8 _ hgrow1) | (refine step_append_ownA _ (by rfl) (.tmp 45) (.tmp 46) 26 (by rfl) w8.heap.size 3 i0 (.int .i64 0) 1 8 Try.underlying26 hi0 hz0 hz1 hz2 rfl (by omega) (.slice (some ⟨w8.heap.size, 0, none⟩) 0 0) 0 [] (by rfl) (litES w8 id) A2 n' cx M (by rfl) hA3 l1 (K0.out _ (touchES w8 id)).1 o1 (by unfold maxLen; omega) (by omega) (sizeES w8 id) ?_; intro v1 w18 hown1 hgrow1 hat1; obtain ⟨g0, g1, g2, g3⟩ := afterES la8 _ hgrow1) | (refine step_append_ownA _ (by rfl) (.tmp 45) (.tmp 46) 26 (by rfl) w8.heap.size 3 i0 (.int .i64 0) 1 8 Try.underlying26 hi0 hz0 hz1 hz2 rfl (by omega) (.slice (some ⟨w8.heap.size + 1, 0, none⟩) 0 0) 0 [] (by rfl) (litSE w8 id) A2 n' cx M (by rfl) hA3 l1 (K0.out _ (touchSE w8 id)).1 o1 (by unfold maxLen; omega) (by omega) (sizeSE w8 id) ?_; intro v1 w18 hown1 hgrow1 hat1; obtain ⟨g0, g1, g2, g3⟩ := afterSE la8 _ hgrow1) | (refine step_append_own _ (by rfl) (.tmp 47) (.tmp 50) 26 (by rfl) w8.heap.size 3 i0 (.int .i64 0) 1 8 Try.underlying26 hi0 hz0 hz1 hz2 rfl (by omega) v1 (0 + n') ([] ++ M) (by rfl) (hown1.alloc _) ⟨w18.heap.size, 0, none⟩ 1 1 [.int .i64 id] (by rfl) rfl (cell_one_new _ _ _) (by intro u hu; simp at hu; subst hu; rfl) (by unfold maxLen; omega) (by omega) (by simp; omega) ?_; intro v2 w19 hown2 hgrow2 hat2) | (refine step_append_own _ (by rfl) (.tmp 47) (.tmp 50) 26 (by rfl) w8.heap.size 3 i0 (.int .i64 0) 1 8 Try.underlying26 hi0 hz0 hz1 hz2 rfl (by omega) v1 (0 + n') ([] ++ M) (by rfl) hown1 ⟨w8.heap.size + 1, 0, none⟩ 1 1 [.int .i64 id] (by rfl) rfl g1 (by intro u hu; simp at hu; subst hu; rfl) (by unfold maxLen; omega) (by omega) g3 ?_; intro v2 w19 hown2 hgrow2 hat2) | (refine step_append_own _ (by rfl) (.tmp 47) (.tmp 50) 26 (by rfl) w8.heap.size 3 i0 (.int .i64 0) 1 8 Try.underlying26 hi0 hz0 hz1 hz2 rfl (by omega) v1 (0 + n') ([] ++ M) (by rfl) hown1 ⟨w8.heap.size, 0, none⟩ 1 1 [.int .i64 id] (by rfl) rfl g1 (by intro u hu; simp at hu; subst hu; rfl) (by unfold maxLen; omega) (by omega) g3 ?_; intro v2 w19 hown2 hgrow2 hat2))
                all_goals
                  have hb19 : Below w8.heap.size w8 w19 := by first | exact behindTwo _ _ _ _ _ _ _ g0 ((Touch.refl [] _).alloc _) hown1 hgrow2 | exact behindTwo _ _ _ _ _ _ _ g0 (Touch.refl [] _) hown1 hgrow2
                  have HB19 := Lib.hid hb19
                  have HO := Lib.hid hown2
                  clear hb19 hown1 hgrow1 hat1 hgrow2 hat2 g0 g1 g2 g3 hown2
                  go_wp2_with fail
                  go_meet
                  have ho2 := HO.out
                  rw [← HM.out, ← HN.out, show [] ++ ints L ++ [Value.int .i64 id] = ints (L ++ [id]) by simp [ints], show 0 + L.length + 1 = (L ++ [id]).length by simp, ints_iv] at ho2
                  obtain ⟨y', hP⟩ := H6.out.more.stepList HR8.out HT8.out ho2 HB19.out (by simp; have := H6.out.len; omega)
                  exact ⟨⟨_, _, _, _, _, rfl, hP⟩, HA8.out.carry (Touch.ofBelow (S := []) HB19.out) (by simp)⟩
          · by_cases hin : id ∈ L
            · have e1 := A6.out.c1
              have la6 := A6.out.lt
              obtain ⟨A2, cx, hv, hcx, hcm, hcells⟩ := H6.out.row.cells
              have HROW := Lib.hid H6.out.row
              have HLEN := Lib.hid H6.out.len
              have NB := Lib.hid nb
              subst hv
              have CRef := Lib.hid (fun (u : World) (t : Touch [p, b1, b2] w6 u) => by
                obtain ⟨A4, c4, hv4, _, _, hc4⟩ := (H6.out.row.carry t (by intro b hb; simp at hb; simp [hb])).cells
                cases hv4
                exact (refHas29 (c := cx) hc4 id (by have := H6.out.len; omega)).mono fun e w' (⟨he, hb⟩ : _ ∧ _) => (⟨he, Touch.ofBelow (S := []) hb⟩ : e = Ending.returned (.bool (decide (id ∈ L))) ∧ Touch [] u w'))
              have CW := Lib.hid (fun (u : World) (t : Touch [] w6 u) => (H6.out.carry t).dropYes id hin (by omega))
              rw [show decide (id ∈ L) = true by simpa using hin] at CRef
              go_upto_region 15 with fail
              refine wp_region_writes (wd := w6) [p, b1, b2] 3 (Leaf.const (.pointer (some ⟨p, 0, none⟩)) :: Leaf.const (.pointer (some ⟨a6, 1, none⟩)) :: Leaf.const (.int .i64 id) :: Leaf.pred (fun v w => v = .bool true ∧ AsList w p b1 b2 (without29 id L)) :: Leaf.const (.slice A2 L.length cx) :: Leaf.const (.pointer (some ⟨a6, 1, none⟩)) :: Leaf.const (.int .i64 id) :: Leaf.const (.bool true) :: Leaf.const (.bool false) :: []) (by kernel_rfl) (by kernel_rfl) (by kernel_rfl) ((Touch.refl _ _).drew) (show StabS [] _ ∧ True from ⟨fun v w w2 ⟨h1, h2⟩ t => ⟨h1, h2.carry t (by simp) (by simp) (by simp)⟩, trivial⟩) ?_ ?_ ?_
              · intro i o ho hij ac w ht hk hd
                match i, ho, hij with
                | 0, ho, hij =>
                  have ho' : some _ = some o := ho
                  cases ho'
                  clear ho
                  have e5 := known_slot hk 5 (by kernel_rfl) (v := .pointer (some ⟨p, 0, none⟩)) rfl
                  exact do_value (wanted_none rfl) (by rw [BigFrame.run_move (.tmp 5) rfl, e5]) rfl
                | 1, ho, hij =>
                  have ho' : some _ = some o := ho
                  cases ho'
                  clear ho
                  have e8 := known_slot hk 8 (by kernel_rfl) (v := .pointer (some ⟨a6, 0, none⟩)) rfl
                  exact do_value (wanted_none rfl) (v := .pointer (some ⟨a6, 1, none⟩)) (run_value rfl (by rw [e8]; simp [go_sem])) rfl
                | 2, ho, hij =>
                  have ho' : some _ = some o := ho
                  cases ho'
                  clear ho
                  have e55 := has_const (has_dep hd 1 (by kernel_rfl)) rfl rfl rfl (c := (.pointer (some ⟨a6, 1, none⟩)))
                  have c1 := (ht.cell (a := ⟨a6, 1, none⟩) la6 (by first | exact nb | simp)).trans e1
                  exact do_value (wanted_none rfl) (v := .int .i64 id) (run_value rfl (by rw [e55]; simp [go_sem, c1])) rfl
                | 3, ho, hij => exact absurd rfl hij
                | 4, ho, hij =>
                  have ho' : some _ = some o := ho
                  cases ho'
                  clear ho
                  have e6 := known_slot hk 6 (by kernel_rfl) (v := .slice A2 L.length cx) rfl
                  exact do_value (wanted_none rfl) (by rw [BigFrame.run_move (.tmp 6) rfl, e6]) rfl
                | 5, ho, hij =>
                  have ho' : some _ = some o := ho
                  cases ho'
                  clear ho
                  have e8 := known_slot hk 8 (by kernel_rfl) (v := .pointer (some ⟨a6, 0, none⟩)) rfl
                  exact do_value (wanted_none rfl) (v := .pointer (some ⟨a6, 1, none⟩)) (run_value rfl (by rw [e8]; simp [go_sem])) rfl
                | 6, ho, hij =>
                  have ho' : some _ = some o := ho
                  cases ho'
                  clear ho
                  have e59 := has_const (has_dep hd 5 (by kernel_rfl)) rfl rfl rfl (c := (.pointer (some ⟨a6, 1, none⟩)))
                  have c1 := (ht.cell (a := ⟨a6, 1, none⟩) la6 (by first | exact nb | simp)).trans e1
                  exact do_value (wanted_none rfl) (v := .int .i64 id) (run_value rfl (by rw [e59]; simp [go_sem, c1])) rfl
                | 7, ho, hij =>
                  have ho' : some _ = some o := ho
                  cases ho'
                  clear ho
                  have e58 := has_const (has_dep hd 4 (by kernel_rfl)) rfl rfl rfl (c := (.slice A2 L.length cx))
                  have e60 := has_const (has_dep hd 6 (by kernel_rfl)) rfl rfl rfl (c := (.int .i64 id))
                  refine do_enter (wanted_none rfl) (f := 10) (args := #[(.slice A2 L.length cx), (.int .i64 id)]) (by rw [run_go3 10 _ _ rfl, ent10]; simp [eval_c, e58, e60]) ?_
                  exact Calls.leaf (CRef.out _ ht)
                | 8, ho, hij =>
                  have ho' : some _ = some o := ho
                  cases ho'
                  clear ho
                  obtain ⟨v57, e57, h57⟩ := has_pred (has_dep hd 3 (by kernel_rfl)) rfl rfl rfl (φ := fun v w => v = .bool true ∧ AsList w p b1 b2 (without29 id L))
                  obtain ⟨rfl, h57⟩ := h57
                  have e61 := has_const (has_dep hd 7 (by kernel_rfl)) rfl rfl rfl (c := (.bool true))
                  exact do_value (wanted_none rfl) (v := .bool false) (run_value rfl (by rw [e57, e61]; simp [go_sem])) rfl
                | q + 9, ho, hij => exact absurd ho (by simp)
              · intro o ho ac w ht hk hd
                have ho' : some _ = some o := ho
                cases ho'
                clear ho
                have e54 := has_const (has_dep hd 0 (by kernel_rfl)) rfl rfl rfl (c := (.pointer (some ⟨p, 0, none⟩)))
                have e56 := has_const (has_dep hd 2 (by kernel_rfl)) rfl rfl rfl (c := (.int .i64 id))
                refine doS_enter (wanted_none rfl) (f := 11) (args := #[(.pointer (some ⟨p, 0, none⟩)), (.int .i64 id)]) (by rw [run_go3 11 _ _ rfl, ent11]; simp [eval_c, e54, e56]) ?_
                exact CW.out _ ht
              · intro x w7 T7 hkn
                obtain ⟨⟨hx3, hr7⟩, _⟩ := hkn
                simp only [putL, Act.put, List.setIfInBounds_toArray, List.set_cons_succ, List.set_cons_zero]
                rw [hx3]
                have HR7 := Lib.hid hr7
                have HROW7 := Lib.hid (HROW.out.carry T7 (by intro b hb; simp at hb; simp [hb]))
                have HA7 := Lib.hid (A6.out.carry T7 nb)
                have HT7 := Lib.hid (T7.mono (S' := [p, b1, b2]) (by simp))
                obtain ⟨A4, c4, hv4, _, _, hc4⟩ := HROW7.out.cells
                cases hv4
                have C3 := Lib.hid (refWithout29 (c := cx) hc4 id (by have := HLEN.out; omega))
                have f1 := HA7.out.c1
                have l7 := HA7.out.lt
                clear e1 la6 T7 CRef CW hcells hc4 hr7
                go_wp2_with fail
                refine (C3.out).mono ?_
                rintro e w8 ⟨v8, rfl, ho8, hb8⟩
                have HO8 := Lib.hid ho8
                have HB8 := Lib.hid hb8
                have HL8 : (without29 id L).length ≤ L.length := by unfold without29; exact List.length_filter_le _ _
                clear ho8 hb8 f1 l7
                go_wp2_with fail
                go_meet
                obtain ⟨y', hP⟩ := H6.out.more.stepList HR7.out HT7.out HO8.out HB8.out (by have := H6.out.len; omega)
                exact ⟨⟨_, _, _, _, _, rfl, hP⟩, HA7.out.carry (Touch.ofBelow (S := []) HB8.out) (by simp)⟩
            · have e1 := A6.out.c1
              have la6 := A6.out.lt
              obtain ⟨A2, cx, hv, hcx, hcm, hcells⟩ := H6.out.row.cells
              have HROW := Lib.hid H6.out.row
              have HLEN := Lib.hid H6.out.len
              have NB := Lib.hid nb
              subst hv
              have CRef := Lib.hid (fun (u : World) (t : Touch [] w6 u) => by
                obtain ⟨A4, c4, hv4, _, _, hc4⟩ := (H6.out.row.carry t (by simp)).cells
                cases hv4
                exact (refHas29 (c := cx) hc4 id (by have := H6.out.len; omega)).mono fun e w' (⟨he, hb⟩ : _ ∧ _) => (⟨he, Touch.ofBelow (S := []) hb⟩ : e = Ending.returned (.bool (decide (id ∈ L))) ∧ Touch [] u w'))
              have CW := Lib.hid (fun (u : World) (t : Touch [] w6 u) => (H6.out.carry t).dropNo id hi hin)
              rw [show decide (id ∈ L) = false by simpa using hin] at CRef
              go_upto_region 15 with fail
              refine wp_region_leaves (wd := w6) (Leaf.const (.pointer (some ⟨p, 0, none⟩)) :: Leaf.const (.pointer (some ⟨a6, 1, none⟩)) :: Leaf.const (.int .i64 id) :: Leaf.const (.bool false) :: Leaf.const (.slice A2 L.length cx) :: Leaf.const (.pointer (some ⟨a6, 1, none⟩)) :: Leaf.const (.int .i64 id) :: Leaf.const (.bool false) :: Leaf.const (.bool false) :: []) (by kernel_rfl) (by kernel_rfl) (by kernel_rfl) ((Touch.refl _ _).drew) (trivial) ?_ ?_
              · intro i o ho ac w ht hk hd
                match i, ho with
                | 0, ho =>
                  have ho' : some _ = some o := ho
                  cases ho'
                  clear ho
                  have e5 := known_slot hk 5 (by kernel_rfl) (v := .pointer (some ⟨p, 0, none⟩)) rfl
                  exact do_value (wanted_none rfl) (by rw [BigFrame.run_move (.tmp 5) rfl, e5]) rfl
                | 1, ho =>
                  have ho' : some _ = some o := ho
                  cases ho'
                  clear ho
                  have e8 := known_slot hk 8 (by kernel_rfl) (v := .pointer (some ⟨a6, 0, none⟩)) rfl
                  exact do_value (wanted_none rfl) (v := .pointer (some ⟨a6, 1, none⟩)) (run_value rfl (by rw [e8]; simp [go_sem])) rfl
                | 2, ho =>
                  have ho' : some _ = some o := ho
                  cases ho'
                  clear ho
                  have e55 := has_const (has_dep hd 1 (by kernel_rfl)) rfl rfl rfl (c := (.pointer (some ⟨a6, 1, none⟩)))
                  have c1 := (ht.cell (a := ⟨a6, 1, none⟩) la6 (by first | exact nb | simp)).trans e1
                  exact do_value (wanted_none rfl) (v := .int .i64 id) (run_value rfl (by rw [e55]; simp [go_sem, c1])) rfl
                | 3, ho =>
                  have ho' : some _ = some o := ho
                  cases ho'
                  clear ho
                  have e54 := has_const (has_dep hd 0 (by kernel_rfl)) rfl rfl rfl (c := (.pointer (some ⟨p, 0, none⟩)))
                  have e56 := has_const (has_dep hd 2 (by kernel_rfl)) rfl rfl rfl (c := (.int .i64 id))
                  refine do_enter (wanted_none rfl) (f := 11) (args := #[(.pointer (some ⟨p, 0, none⟩)), (.int .i64 id)]) (by rw [run_go3 11 _ _ rfl, ent11]; simp [eval_c, e54, e56]) ?_
                  exact Calls.leafSame (CW.out _ ht)
                | 4, ho =>
                  have ho' : some _ = some o := ho
                  cases ho'
                  clear ho
                  have e6 := known_slot hk 6 (by kernel_rfl) (v := .slice A2 L.length cx) rfl
                  exact do_value (wanted_none rfl) (by rw [BigFrame.run_move (.tmp 6) rfl, e6]) rfl
                | 5, ho =>
                  have ho' : some _ = some o := ho
                  cases ho'
                  clear ho
                  have e8 := known_slot hk 8 (by kernel_rfl) (v := .pointer (some ⟨a6, 0, none⟩)) rfl
                  exact do_value (wanted_none rfl) (v := .pointer (some ⟨a6, 1, none⟩)) (run_value rfl (by rw [e8]; simp [go_sem])) rfl
                | 6, ho =>
                  have ho' : some _ = some o := ho
                  cases ho'
                  clear ho
                  have e59 := has_const (has_dep hd 5 (by kernel_rfl)) rfl rfl rfl (c := (.pointer (some ⟨a6, 1, none⟩)))
                  have c1 := (ht.cell (a := ⟨a6, 1, none⟩) la6 (by first | exact nb | simp)).trans e1
                  exact do_value (wanted_none rfl) (v := .int .i64 id) (run_value rfl (by rw [e59]; simp [go_sem, c1])) rfl
                | 7, ho =>
                  have ho' : some _ = some o := ho
                  cases ho'
                  clear ho
                  have e58 := has_const (has_dep hd 4 (by kernel_rfl)) rfl rfl rfl (c := (.slice A2 L.length cx))
                  have e60 := has_const (has_dep hd 6 (by kernel_rfl)) rfl rfl rfl (c := (.int .i64 id))
                  refine do_enter (wanted_none rfl) (f := 10) (args := #[(.slice A2 L.length cx), (.int .i64 id)]) (by rw [run_go3 10 _ _ rfl, ent10]; simp [eval_c, e58, e60]) ?_
                  exact Calls.leaf (CRef.out _ ht)
                | 8, ho =>
                  have ho' : some _ = some o := ho
                  cases ho'
                  clear ho
                  have e57 := has_const (has_dep hd 3 (by kernel_rfl)) rfl rfl rfl (c := (.bool false))
                  have e61 := has_const (has_dep hd 7 (by kernel_rfl)) rfl rfl rfl (c := (.bool false))
                  exact do_value (wanted_none rfl) (v := .bool false) (run_value rfl (by rw [e57, e61]; simp [go_sem])) rfl
                | q + 9, ho => exact absurd ho (by simp)
              · intro x w7 T7 hkn
                have hr7 := (H6.out.carry T7).asList
                simp only [putL, Act.put, List.setIfInBounds_toArray, List.set_cons_succ, List.set_cons_zero]
                rw [← without_not hin] at hr7
                have HR7 := Lib.hid hr7
                have HROW7 := Lib.hid (HROW.out.carry T7 (by intro b hb; simp at hb))
                have HA7 := Lib.hid (A6.out.carry T7 (by simp))
                have HT7 := Lib.hid (T7.mono (S' := [p, b1, b2]) (by simp))
                obtain ⟨A4, c4, hv4, _, _, hc4⟩ := HROW7.out.cells
                cases hv4
                have C3 := Lib.hid (refWithout29 (c := cx) hc4 id (by have := HLEN.out; omega))
                have f1 := HA7.out.c1
                have l7 := HA7.out.lt
                clear e1 la6 T7 CRef CW hcells hc4 hr7
                go_wp2_with fail
                refine (C3.out).mono ?_
                rintro e w8 ⟨v8, rfl, ho8, hb8⟩
                have HO8 := Lib.hid ho8
                have HB8 := Lib.hid hb8
                have HL8 : (without29 id L).length ≤ L.length := by unfold without29; exact List.length_filter_le _ _
                clear ho8 hb8 f1 l7
                go_wp2_with fail
                go_meet
                obtain ⟨y', hP⟩ := H6.out.more.stepList HR7.out HT7.out HO8.out HB8.out (by have := H6.out.len; omega)
                exact ⟨⟨_, _, _, _, _, rfl, hP⟩, HA7.out.carry (Touch.ofBelow (S := []) HB8.out) (by simp)⟩
          · cases L with
            | nil =>
              obtain ⟨A2, cx, hv, _, _, _⟩ := H6.out.row.cells
              subst hv
              have C1 := Lib.hid (turn_none _ _ (Lib.hid H6.out.ring.len))
              have C2 := Lib.hid (refTurn_nil (A := A2) (c := cx) (w := w6))
              simp only [List.length_nil] at H6 ⊢
              go_wp2_with fail
              refine (C1.out).mono ?_
              rintro e w6 ⟨rfl, rfl⟩
              go_wp2_with fail
              refine (C2.out).mono ?_
              rintro e w6 ⟨rfl, rfl⟩
              go_wp2_with fail
              go_meet
              exact ⟨⟨_, _, _, _, _, rfl, H6.out.more⟩, A6.out⟩
            | cons a M =>
              obtain ⟨A2, cx, hv, hcx, hcm, hcells⟩ := H6.out.row.cells
              have hrz := H6.out.row
              subst hv
              have C1 := H6.out.ring.turn (by simp)
              unfold TurnPost at C1
              rw [show y 0 = a by rw [H6.out.same 0 (by simp)]; rfl] at C1
              have C1 := Lib.hid C1
              have HR := Lib.hid hrz
              have HC := Lib.hid hcx
              have HM := Lib.hid hcm
              obtain ⟨bx, ox, hax, hbx, hxc⟩ := hcells 0 (by simp)
              subst hax
              have HX0 := Lib.hid hxc
              have hml : M.length ≤ 100 := by have := H6.out.len; simp at this; omega
              have g1 : decide ((0 : Int) < (M.length : Int) + 1) = true := by simp
              have g2 : (0 : Int) < (M.length : Int) + 1 := by omega
              clear hcells hrz hcx hcm hxc
              simp only [List.length_cons] at H6 HR HC ⊢
              go_wp2_with fail
              refine (C1.out).mono ?_
              rintro e w7 ⟨rfl, r7, t7⟩
              have hrz : RowZ [p, b1, b2] w7 (.slice (some ⟨bx, ox, none⟩) (M.length + 1) cx) (a :: M) := HR.out.carry t7 (by intro b hb; simp at hb; simp [hb])
              obtain ⟨A3, c3, hv3, _, _, hc7⟩ := hrz.cells
              cases hv3
              obtain ⟨bx', ox', hax', hbx7, hx7⟩ := hc7 0 (by simp)
              cases hax'
              have hx7 : w7.cell? ⟨bx, ox, none⟩ = some (.int .i64 a) := by simpa [at0] using hx7
              have C2 := Lib.hid (refTurn_cons (c := cx) hc7 HC.out HM.out (by omega))
              have HA7 := Lib.hid (A6.out.carry t7 (by simp at nb ⊢; omega))
              have T7 := Lib.hid (t7.mono (S' := [p, b1, b2]) (by simp))
              have HR7 := Lib.hid r7
              simp only [List.length_cons] at C2
              clear hc7 hrz r7 t7 C1
              go_wp2_with fail
              refine (C2.out).mono ?_
              rintro e w8 ⟨v8, rfl, ho8, hb8⟩
              have hs : ∀ i, i < (M ++ [a]).length → y (i + 1) = at0 (M ++ [a]) i := fun i hi => by
                simp at hi
                rcases (show i < M.length ∨ i = M.length by omega) with h | h
                · rw [H6.out.same (i + 1) (by simp; omega)]
                  simp [at0, List.getElem?_append_left h]
                · have hp := H6.out.ring.per 0
                  have h0 := H6.out.same 0 (by simp)
                  simp only [List.length_cons, Nat.zero_add] at hp
                  rw [h, hp, h0]
                  simp [at0]
              have HB8 := Lib.hid (show Play W0 (k + 1) p b1 b2 (M ++ [a]) (fun i => y (i + 1)) v8 w8 from H6.out.more.step (by simpa using HR7.out) T7.out hs ho8 hb8 (by have := H6.out.len; simp at this ⊢; omega))
              have HA8 := Lib.hid (HA7.out.carry (Touch.ofBelow (S := []) hb8) (by simp))
              clear ho8 hb8 hs C2
              go_wp2_with fail
              go_meet
              exact ⟨⟨_, _, _, _, _, rfl, HB8.out⟩, HA8.out⟩
          · have C1 := Lib.hid (H6.out.ring.copy (by have := H6.out.len; omega))
            go_wp2_with fail
            refine (C1.out).mono ?_
            rintro e w7 ⟨q, c1, c2, y7, rfl, r7, s7, lo7, t7⟩
            have T67 := Lib.hid t7
            have C2 := Lib.hid r7.turn_some
            have HB7 := Lib.hid (H6.out.carry t7)
            have HA7 := Lib.hid (A6.out.carry t7 (by simp))
            have LO7 := Lib.hid lo7
            clear r7 s7 lo7 t7 C1
            go_wp2_with fail
            refine (C2.out).mono ?_
            rintro e w8 ⟨v8, x8, rfl, r8, t8⟩
            have C3 := Lib.hid (r8.add_some id hi (by have := H6.out.len; omega))
            have t68 : Touch [] w6 w8 := T67.out.trans t8 (fun b hb => by have := LO7.out; simp at hb; right; omega)
            have e18 := (A6.out.carry t68 (by simp)).c1
            have la8 := (A6.out.carry t68 (by simp)).lt
            have T68 := Lib.hid t68
            clear r8 t8 C2 t68
            go_wp2_with fail
            refine (C3.out).mono ?_
            rintro e w9 ⟨v9, rfl, t9⟩
            have t69 : Touch [] w6 w9 := T68.out.trans t9 (fun b hb => by have := LO7.out; simp at hb; right; omega)
            have C4 := Lib.hid ((H6.out.carry t69).ring.copy (by have := H6.out.len; omega))
            have HB9 := Lib.hid (H6.out.carry t69)
            have HA9 := Lib.hid (A6.out.carry t69 (by simp))
            clear t9 t69 C3
            go_wp2_with fail
            refine (C4.out).mono ?_
            rintro e w10 ⟨q2, d1, d2, y10, rfl, r10, s10, lo10, t10⟩
            have HB10 := Lib.hid (show Play W0 (k + 1) q2 d1 d2 L y10 u6 w10 from ⟨r10, fun i hi => (s10 i hi).trans (HB9.out.same i hi), ((HB9.out.row.rez (by intro b hb; simp at hb; omega)).carry t10 (by simp)), Nat.le_succ_of_le HB9.out.len, by have := HB9.out.t.size; omega, HB9.out.t.trans t10 (by simp)⟩)
            have HA10 := Lib.hid (HA9.out.carry t10 (by simp))
            clear r10 s10 lo10 t10 C4
            go_wp2_with fail
            go_meet
            exact ⟨⟨_, _, _, _, _, rfl, HB10.out⟩, HA10.out⟩
          · have C1 := Lib.hid H6.out.ring.clear
            go_wp2_with fail
            refine (C1.out).mono ?_
            rintro e w7 ⟨rfl, r7, t7⟩
            have HB7 := Lib.hid (show Play W0 (k + 1) p b1 b2 [] (fun _ => 0) (.slice none 0 0) w7 from ⟨r7, fun i hi => by simp at hi, RowZ.nil _ _, Nat.zero_le _, H6.out.low, H6.out.t.trans t7 H6.out.zs⟩)
            have HA7 := Lib.hid (A6.out.carry t7 nb)
            clear r7 t7 C1
            go_wp2_with fail
            go_meet
            exact ⟨⟨_, _, _, _, _, rfl, HB7.out⟩, HA7.out⟩
          · obtain ⟨hd0, hd1, hd2, hd3, hd4⟩ := hd
            have g0 : (dw == 0) = false := by simpa using hd0
            have g1 : (dw == 1) = false := by simpa using hd1
            have g2 : (dw == 2) = false := by simpa using hd2
            have g3 : (dw == 3) = false := by simpa using hd3
            have g4 : (dw == 4) = false := by simpa using hd4
            clear hd0 hd1 hd2 hd3 hd4
            go_wp2_with fail
            go_meet
            exact ⟨⟨_, _, _, _, _, rfl, H6.out.more⟩, A6.out⟩
        case rest =>
          clear H6 A6 e0 e1 nb
          obtain ⟨⟨p, b1, b2, L, y, rfl, hP⟩, hA⟩ := hcut
          have e1 := hA.c1
          have la := hA.lt
          have HP := Lib.hid hP
          have hL80 : L.length ≤ 1000 := by have := hP.len; omega
          have CLen := Lib.hid (fun (u : World) (t : Touch [] _ u) => (hP.carry t).ring.len)
          have CHas := Lib.hid (fun (u : World) (t : Touch [] _ u) => (hP.carry t).has id hi)
          have CRef := Lib.hid (fun (u : World) (t : Touch [] _ u) => (hP.carry t).refHas id hk80)
          have COrd := Lib.hid (fun (u : World) (t : Touch [] _ u) => (hP.carry t).ring.order (by omega))
          have HSm := Lib.hid hP.same
          obtain ⟨A2, cx, hv, hcx, hcm, hcells⟩ := hP.row.cells
          subst hv
          have CX := Lib.hid (fun (u : World) (t : Touch [] _ u) => hcells.touch t)
          generalize decide (id ∈ L) = q at *
          have gq : (q != q) = false := by cases q <;> rfl
          cases L with
          | nil =>
            have D1 := Lib.hid (head_none _ _ (Lib.hid hP.ring.len))
            simp only [List.length_nil] at CLen COrd CX HSm ⊢
            clear hP hA hcells hcx hcm
            go_wp2_with fail
            refine (D1.out).mono ?_
            rintro e w10 ⟨rfl, rfl⟩
            go_upto_region 32 with fail
            refine wp_region_leaves (wd := w10) (Leaf.const (.pointer (some ⟨p, 0, none⟩)) :: Leaf.const (.int .i64 (0 : Nat)) :: Leaf.const (.slice A2 (0) cx) :: Leaf.const (.int .i64 ((0) : Nat)) :: Leaf.const (.bool false) :: Leaf.const ((.bool false)) :: Leaf.const (.pointer (some ⟨p, 0, none⟩)) :: Leaf.const (.pointer (some ⟨a6, 1, none⟩)) :: Leaf.const (.int .i64 id) :: Leaf.const (.bool q) :: Leaf.const (.slice A2 (0) cx) :: Leaf.const (.pointer (some ⟨a6, 1, none⟩)) :: Leaf.const (.int .i64 id) :: Leaf.const (.bool q) :: Leaf.const (.bool false) :: Leaf.const ((.bool false)) :: Leaf.const ((.bool false)) :: Leaf.const (.pointer (some ⟨p, 0, none⟩)) :: Leaf.pred (fun v w => ∃ A c, v = .slice A (0) c ∧ IntCells w w.heap.size A (0) y) :: Leaf.const (.slice A2 (0) cx) :: Leaf.const (.bool true) :: Leaf.const (.bool false) :: Leaf.const ((.bool false)) :: Leaf.const ((.bool false)) :: Leaf.const (.bool false) :: Leaf.const (.slice A2 (0) cx) :: Leaf.const (.int .i64 ((0) : Nat)) :: Leaf.const (.bool false) :: Leaf.const (.bool false) :: Leaf.const ((.bool false)) :: Leaf.const ((.bool false)) :: Leaf.const (.bool false) :: Leaf.const ((.bool false)) :: Leaf.const (undef) :: Leaf.const (undef) :: Leaf.const (undef) :: Leaf.const (undef) :: Leaf.const (undef) :: Leaf.const (.bool false) :: Leaf.const ((.bool false)) :: []) (by kernel_rfl) (by kernel_rfl) (by kernel_rfl) ((Touch.refl _ _).drew) (show Stab _ ∧ True from ⟨fun v w w2 ⟨A, c, h1, h2⟩ t => ⟨A, c, h1, h2.touch t⟩, trivial⟩) ?_ ?_
            · intro i o ho ac w ht hk hd
              match i, ho with
              | 0, ho =>
                have ho' : some _ = some o := ho
                cases ho'
                clear ho
                have e5 := known_slot hk 5 (by kernel_rfl) (v := .pointer (some ⟨p, 0, none⟩)) rfl
                exact do_value (wanted_none rfl) (by rw [BigFrame.run_move (.tmp 5) rfl, e5]) rfl
              | 1, ho =>
                have ho' : some _ = some o := ho
                cases ho'
                clear ho
                have e120 := has_const (has_dep hd 0 (by kernel_rfl)) rfl rfl rfl (c := (.pointer (some ⟨p, 0, none⟩)))
                refine do_enter (wanted_none rfl) (f := 18) (args := #[(.pointer (some ⟨p, 0, none⟩))]) (by rw [run_go3 18 _ _ rfl, ent18]; simp [eval_c, e120]) ?_
                exact Calls.leafSame (CLen.out _ ht)
              | 2, ho =>
                have ho' : some _ = some o := ho
                cases ho'
                clear ho
                have e6 := known_slot hk 6 (by kernel_rfl) (v := .slice A2 (0) cx) rfl
                exact do_value (wanted_none rfl) (by rw [BigFrame.run_move (.tmp 6) rfl, e6]) rfl
              | 3, ho =>
                have ho' : some _ = some o := ho
                cases ho'
                clear ho
                have e122 := has_const (has_dep hd 2 (by kernel_rfl)) rfl rfl rfl (c := (.slice A2 (0) cx))
                exact do_value (wanted_none rfl) (v := .int .i64 ((0) : Nat)) (run_len3 (x := .tmp 122) rfl Try.underlying26 e122) rfl
              | 4, ho =>
                have ho' : some _ = some o := ho
                cases ho'
                clear ho
                have e121 := has_const (has_dep hd 1 (by kernel_rfl)) rfl rfl rfl (c := (.int .i64 (0 : Nat)))
                have e123 := has_const (has_dep hd 3 (by kernel_rfl)) rfl rfl rfl (c := (.int .i64 ((0) : Nat)))
                exact do_value (wanted_none rfl) (v := .bool false) (run_value rfl (by rw [e121, e123]; simp [go_sem])) rfl
              | 5, ho =>
                have ho' : some _ = some o := ho
                cases ho'
                clear ho
                have e124 := has_const (has_dep hd 4 (by kernel_rfl)) rfl rfl rfl (c := (.bool false))
                exact do_value (wanted_none rfl) (by rw [BigFrame.run_move (.tmp 124) rfl, e124]) rfl
              | 6, ho =>
                have ho' : some _ = some o := ho
                cases ho'
                clear ho
                have e125 := has_const (has_dep hd 5 (by kernel_rfl)) rfl rfl rfl (c := (.bool false))
                have e5 := known_slot hk 5 (by kernel_rfl) (v := .pointer (some ⟨p, 0, none⟩)) rfl
                exact do_value (wanted_some (g := 5) rfl rfl rfl e125) (by rw [BigFrame.run_move (.tmp 5) rfl, e5]) rfl
              | 7, ho =>
                have ho' : some _ = some o := ho
                cases ho'
                clear ho
                have e125 := has_const (has_dep hd 5 (by kernel_rfl)) rfl rfl rfl (c := (.bool false))
                have e8 := known_slot hk 8 (by kernel_rfl) (v := .pointer (some ⟨a6, 0, none⟩)) rfl
                exact do_value (wanted_some (g := 5) rfl rfl rfl e125) (v := .pointer (some ⟨a6, 1, none⟩)) (run_value rfl (by rw [e8]; simp [go_sem])) rfl
              | 8, ho =>
                have ho' : some _ = some o := ho
                cases ho'
                clear ho
                have e125 := has_const (has_dep hd 5 (by kernel_rfl)) rfl rfl rfl (c := (.bool false))
                have e127 := has_const (has_dep hd 7 (by kernel_rfl)) rfl rfl rfl (c := (.pointer (some ⟨a6, 1, none⟩)))
                have c1 := (ht.cell (a := ⟨a6, 1, none⟩) la (by simp)).trans e1
                exact do_value (wanted_some (g := 5) rfl rfl rfl e125) (v := .int .i64 id) (run_value rfl (by rw [e127]; simp [go_sem, c1])) rfl
              | 9, ho =>
                have ho' : some _ = some o := ho
                cases ho'
                clear ho
                have e125 := has_const (has_dep hd 5 (by kernel_rfl)) rfl rfl rfl (c := (.bool false))
                have e126 := has_const (has_dep hd 6 (by kernel_rfl)) rfl rfl rfl (c := (.pointer (some ⟨p, 0, none⟩)))
                have e128 := has_const (has_dep hd 8 (by kernel_rfl)) rfl rfl rfl (c := (.int .i64 id))
                refine do_enter (wanted_some (g := 5) rfl rfl rfl e125) (f := 19) (args := #[(.pointer (some ⟨p, 0, none⟩)), (.int .i64 id)]) (by rw [run_go3 19 _ _ rfl, ent19]; simp [eval_c, e126, e128]) ?_
                exact Calls.leafSame (CHas.out _ ht)
              | 10, ho =>
                have ho' : some _ = some o := ho
                cases ho'
                clear ho
                have e125 := has_const (has_dep hd 5 (by kernel_rfl)) rfl rfl rfl (c := (.bool false))
                have e6 := known_slot hk 6 (by kernel_rfl) (v := .slice A2 (0) cx) rfl
                exact do_value (wanted_some (g := 5) rfl rfl rfl e125) (by rw [BigFrame.run_move (.tmp 6) rfl, e6]) rfl
              | 11, ho =>
                have ho' : some _ = some o := ho
                cases ho'
                clear ho
                have e125 := has_const (has_dep hd 5 (by kernel_rfl)) rfl rfl rfl (c := (.bool false))
                have e8 := known_slot hk 8 (by kernel_rfl) (v := .pointer (some ⟨a6, 0, none⟩)) rfl
                exact do_value (wanted_some (g := 5) rfl rfl rfl e125) (v := .pointer (some ⟨a6, 1, none⟩)) (run_value rfl (by rw [e8]; simp [go_sem])) rfl
              | 12, ho =>
                have ho' : some _ = some o := ho
                cases ho'
                clear ho
                have e125 := has_const (has_dep hd 5 (by kernel_rfl)) rfl rfl rfl (c := (.bool false))
                have e131 := has_const (has_dep hd 11 (by kernel_rfl)) rfl rfl rfl (c := (.pointer (some ⟨a6, 1, none⟩)))
                have c1 := (ht.cell (a := ⟨a6, 1, none⟩) la (by simp)).trans e1
                exact do_value (wanted_some (g := 5) rfl rfl rfl e125) (v := .int .i64 id) (run_value rfl (by rw [e131]; simp [go_sem, c1])) rfl
              | 13, ho =>
                have ho' : some _ = some o := ho
                cases ho'
                clear ho
                have e125 := has_const (has_dep hd 5 (by kernel_rfl)) rfl rfl rfl (c := (.bool false))
                have e130 := has_const (has_dep hd 10 (by kernel_rfl)) rfl rfl rfl (c := (.slice A2 (0) cx))
                have e132 := has_const (has_dep hd 12 (by kernel_rfl)) rfl rfl rfl (c := (.int .i64 id))
                refine do_enter (wanted_some (g := 5) rfl rfl rfl e125) (f := 10) (args := #[(.slice A2 (0) cx), (.int .i64 id)]) (by rw [run_go3 10 _ _ rfl, ent10]; simp [eval_c, e130, e132]) ?_
                exact Calls.leaf (CRef.out _ ht)
              | 14, ho =>
                have ho' : some _ = some o := ho
                cases ho'
                clear ho
                have e125 := has_const (has_dep hd 5 (by kernel_rfl)) rfl rfl rfl (c := (.bool false))
                have e129 := has_const (has_dep hd 9 (by kernel_rfl)) rfl rfl rfl (c := (.bool q))
                have e133 := has_const (has_dep hd 13 (by kernel_rfl)) rfl rfl rfl (c := (.bool q))
                exact do_value (wanted_some (g := 5) rfl rfl rfl e125) (v := .bool false) (run_value rfl (by rw [e129, e133]; simp [go_sem, gq])) rfl
              | 15, ho =>
                have ho' : some _ = some o := ho
                cases ho'
                clear ho
                have e125 := has_const (has_dep hd 5 (by kernel_rfl)) rfl rfl rfl (c := (.bool false))
                have e134 := has_const (has_dep hd 14 (by kernel_rfl)) rfl rfl rfl (c := (.bool false))
                exact do_value (wanted_none rfl) (by rw [run_pickF (c := .tmp 125) (x := .const (.bool true)) (y := .tmp 134) rfl e125, e134]) rfl
              | 16, ho =>
                have ho' : some _ = some o := ho
                cases ho'
                clear ho
                have e135 := has_const (has_dep hd 15 (by kernel_rfl)) rfl rfl rfl (c := (.bool false))
                exact do_value (wanted_none rfl) (by rw [BigFrame.run_move (.tmp 135) rfl, e135]) rfl
              | 17, ho =>
                have ho' : some _ = some o := ho
                cases ho'
                clear ho
                have e136 := has_const (has_dep hd 16 (by kernel_rfl)) rfl rfl rfl (c := (.bool false))
                have e5 := known_slot hk 5 (by kernel_rfl) (v := .pointer (some ⟨p, 0, none⟩)) rfl
                exact do_value (wanted_some (g := 16) rfl rfl rfl e136) (by rw [BigFrame.run_move (.tmp 5) rfl, e5]) rfl
              | 18, ho =>
                have ho' : some _ = some o := ho
                cases ho'
                clear ho
                have e136 := has_const (has_dep hd 16 (by kernel_rfl)) rfl rfl rfl (c := (.bool false))
                have e137 := has_const (has_dep hd 17 (by kernel_rfl)) rfl rfl rfl (c := (.pointer (some ⟨p, 0, none⟩)))
                refine do_enter (wanted_some (g := 16) rfl rfl rfl e136) (f := 21) (args := #[(.pointer (some ⟨p, 0, none⟩))]) (by rw [run_go3 21 _ _ rfl, ent21]; simp [eval_c, e137]) ?_
                exact (COrd.out _ ht).mono fun e w2 ⟨v, h1, h2, h3⟩ => by obtain ⟨A, c, rfl, _, _, h5⟩ := own_cells h2; exact ⟨_, h1, ⟨A, c, rfl, h5⟩, Touch.ofBelow h3⟩
              | 19, ho =>
                have ho' : some _ = some o := ho
                cases ho'
                clear ho
                have e136 := has_const (has_dep hd 16 (by kernel_rfl)) rfl rfl rfl (c := (.bool false))
                have e6 := known_slot hk 6 (by kernel_rfl) (v := .slice A2 (0) cx) rfl
                exact do_value (wanted_some (g := 16) rfl rfl rfl e136) (by rw [BigFrame.run_move (.tmp 6) rfl, e6]) rfl
              | 20, ho =>
                have ho' : some _ = some o := ho
                cases ho'
                clear ho
                have e136 := has_const (has_dep hd 16 (by kernel_rfl)) rfl rfl rfl (c := (.bool false))
                obtain ⟨v138, e138, h138⟩ := has_pred (has_dep hd 18 (by kernel_rfl)) rfl rfl rfl (φ := fun v w => ∃ A c, v = .slice A (0) c ∧ IntCells w w.heap.size A (0) y)
                have e139 := has_const (has_dep hd 19 (by kernel_rfl)) rfl rfl rfl (c := (.slice A2 (0) cx))
                obtain ⟨A12, c12, rfl, h5⟩ := h138
                refine do_enter (wanted_some (g := 16) rfl rfl rfl e136) (f := 20) (args := #[.slice A12 (0) c12, .slice A2 (0) cx]) (by rw [run_go3 20 _ _ rfl, ent20]; simp [eval_c, e138, e139]) ?_
                exact Calls.leaf (sameInts_yes h5 (CX.out _ ht) HSm.out (by omega))
              | 21, ho =>
                have ho' : some _ = some o := ho
                cases ho'
                clear ho
                have e136 := has_const (has_dep hd 16 (by kernel_rfl)) rfl rfl rfl (c := (.bool false))
                have e140 := has_const (has_dep hd 20 (by kernel_rfl)) rfl rfl rfl (c := (.bool true))
                exact do_value (wanted_some (g := 16) rfl rfl rfl e136) (v := .bool false) (run_value rfl (by rw [e140]; simp [go_sem])) rfl
              | 22, ho =>
                have ho' : some _ = some o := ho
                cases ho'
                clear ho
                have e136 := has_const (has_dep hd 16 (by kernel_rfl)) rfl rfl rfl (c := (.bool false))
                have e141 := has_const (has_dep hd 21 (by kernel_rfl)) rfl rfl rfl (c := (.bool false))
                exact do_value (wanted_none rfl) (by rw [run_pickF (c := .tmp 136) (x := .const (.bool true)) (y := .tmp 141) rfl e136, e141]) rfl
              | 23, ho =>
                have ho' : some _ = some o := ho
                cases ho'
                clear ho
                have e142 := has_const (has_dep hd 22 (by kernel_rfl)) rfl rfl rfl (c := (.bool false))
                exact do_value (wanted_none rfl) (by rw [BigFrame.run_move (.tmp 142) rfl, e142]) rfl
              | 24, ho =>
                have ho' : some _ = some o := ho
                cases ho'
                clear ho
                have e143 := has_const (has_dep hd 23 (by kernel_rfl)) rfl rfl rfl (c := (.bool false))
                have e13 := known_slot hk 13 (by kernel_rfl) (v := .bool false) rfl
                exact do_value (wanted_some (g := 23) rfl rfl rfl e143) (by rw [BigFrame.run_move (.tmp 13) rfl, e13]) rfl
              | 25, ho =>
                have ho' : some _ = some o := ho
                cases ho'
                clear ho
                have e143 := has_const (has_dep hd 23 (by kernel_rfl)) rfl rfl rfl (c := (.bool false))
                have e6 := known_slot hk 6 (by kernel_rfl) (v := .slice A2 (0) cx) rfl
                exact do_value (wanted_some (g := 23) rfl rfl rfl e143) (by rw [BigFrame.run_move (.tmp 6) rfl, e6]) rfl
              | 26, ho =>
                have ho' : some _ = some o := ho
                cases ho'
                clear ho
                have e143 := has_const (has_dep hd 23 (by kernel_rfl)) rfl rfl rfl (c := (.bool false))
                have e145 := has_const (has_dep hd 25 (by kernel_rfl)) rfl rfl rfl (c := (.slice A2 (0) cx))
                exact do_value (wanted_some (g := 23) rfl rfl rfl e143) (v := .int .i64 ((0) : Nat)) (run_len3 (x := .tmp 145) rfl Try.underlying26 e145) rfl
              | 27, ho =>
                have ho' : some _ = some o := ho
                cases ho'
                clear ho
                have e143 := has_const (has_dep hd 23 (by kernel_rfl)) rfl rfl rfl (c := (.bool false))
                have e146 := has_const (has_dep hd 26 (by kernel_rfl)) rfl rfl rfl (c := (.int .i64 ((0) : Nat)))
                exact do_value (wanted_some (g := 23) rfl rfl rfl e143) (v := .bool false) (run_value rfl (by rw [e146]; simp [go_sem])) rfl
              | 28, ho =>
                have ho' : some _ = some o := ho
                cases ho'
                clear ho
                have e143 := has_const (has_dep hd 23 (by kernel_rfl)) rfl rfl rfl (c := (.bool false))
                have e144 := has_const (has_dep hd 24 (by kernel_rfl)) rfl rfl rfl (c := (.bool false))
                have e147 := has_const (has_dep hd 27 (by kernel_rfl)) rfl rfl rfl (c := (.bool false))
                exact do_value (wanted_some (g := 23) rfl rfl rfl e143) (v := .bool false) (run_value rfl (by rw [e144, e147]; simp [go_sem])) rfl
              | 29, ho =>
                have ho' : some _ = some o := ho
                cases ho'
                clear ho
                have e143 := has_const (has_dep hd 23 (by kernel_rfl)) rfl rfl rfl (c := (.bool false))
                have e148 := has_const (has_dep hd 28 (by kernel_rfl)) rfl rfl rfl (c := (.bool false))
                exact do_value (wanted_none rfl) (by rw [run_pickF (c := .tmp 143) (x := .const (.bool true)) (y := .tmp 148) rfl e143, e148]) rfl
              | 30, ho =>
                have ho' : some _ = some o := ho
                cases ho'
                clear ho
                have e149 := has_const (has_dep hd 29 (by kernel_rfl)) rfl rfl rfl (c := (.bool false))
                exact do_value (wanted_none rfl) (by rw [BigFrame.run_move (.tmp 149) rfl, e149]) rfl
              | 31, ho =>
                have ho' : some _ = some o := ho
                cases ho'
                clear ho
                have e150 := has_const (has_dep hd 30 (by kernel_rfl)) rfl rfl rfl (c := (.bool false))
                have e13 := known_slot hk 13 (by kernel_rfl) (v := .bool false) rfl
                exact do_value (wanted_some (g := 30) rfl rfl rfl e150) (by rw [BigFrame.run_move (.tmp 13) rfl, e13]) rfl
              | 32, ho =>
                have ho' : some _ = some o := ho
                cases ho'
                clear ho
                have e150 := has_const (has_dep hd 30 (by kernel_rfl)) rfl rfl rfl (c := (.bool false))
                have e151 := has_const (has_dep hd 31 (by kernel_rfl)) rfl rfl rfl (c := (.bool false))
                exact do_value (wanted_some (g := 30) rfl rfl rfl e150) (by rw [BigFrame.run_move (.tmp 151) rfl, e151]) rfl
              | 33, ho =>
                have ho' : some _ = some o := ho
                cases ho'
                clear ho
                have e152 := has_const (has_dep hd 32 (by kernel_rfl)) rfl rfl rfl (c := (.bool false))
                exact do_skip (wanted_not (g := 32) rfl rfl rfl e152) rfl
              | 34, ho =>
                have ho' : some _ = some o := ho
                cases ho'
                clear ho
                have e152 := has_const (has_dep hd 32 (by kernel_rfl)) rfl rfl rfl (c := (.bool false))
                exact do_skip (wanted_not (g := 32) rfl rfl rfl e152) rfl
              | 35, ho =>
                have ho' : some _ = some o := ho
                cases ho'
                clear ho
                have e152 := has_const (has_dep hd 32 (by kernel_rfl)) rfl rfl rfl (c := (.bool false))
                exact do_skip (wanted_not (g := 32) rfl rfl rfl e152) rfl
              | 36, ho =>
                have ho' : some _ = some o := ho
                cases ho'
                clear ho
                have e152 := has_const (has_dep hd 32 (by kernel_rfl)) rfl rfl rfl (c := (.bool false))
                exact do_skip (wanted_not (g := 32) rfl rfl rfl e152) rfl
              | 37, ho =>
                have ho' : some _ = some o := ho
                cases ho'
                clear ho
                have e152 := has_const (has_dep hd 32 (by kernel_rfl)) rfl rfl rfl (c := (.bool false))
                exact do_skip (wanted_not (g := 32) rfl rfl rfl e152) rfl
              | 38, ho =>
                have ho' : some _ = some o := ho
                cases ho'
                clear ho
                have e150 := has_const (has_dep hd 30 (by kernel_rfl)) rfl rfl rfl (c := (.bool false))
                have e152 := has_const (has_dep hd 32 (by kernel_rfl)) rfl rfl rfl (c := (.bool false))
                exact do_value (wanted_some (g := 30) rfl rfl rfl e150) (by rw [run_pickF (c := .tmp 152) (x := .tmp 157) (y := .const (.bool false)) rfl e152, eval_c]) rfl
              | 39, ho =>
                have ho' : some _ = some o := ho
                cases ho'
                clear ho
                have e150 := has_const (has_dep hd 30 (by kernel_rfl)) rfl rfl rfl (c := (.bool false))
                have e158 := has_const (has_dep hd 38 (by kernel_rfl)) rfl rfl rfl (c := (.bool false))
                exact do_value (wanted_none rfl) (by rw [run_pickF (c := .tmp 150) (x := .const (.bool true)) (y := .tmp 158) rfl e150, e158]) rfl
              | q + 40, ho => exact absurd ho (by simp)
            · intro x w13 T13 _
              simp only [putL, Act.put, List.setIfInBounds_toArray, List.set_cons_succ, List.set_cons_zero]
              go_wp2_with fail
              go_roundw
              case rel => exact ⟨k + 1, by omega, by go_num, _, _, _, _, _, rfl, HP.out.carry T13⟩
              case measure => simp [intOf]; omega
          | cons a M =>
            have D1 := hP.ring.head (by simp)
            rw [show y 0 = a by rw [hP.same 0 (by simp)]; rfl] at D1
            have D1 := Lib.hid D1
            obtain ⟨bx, ox, hax, hbx, hx0⟩ := hcells 0 (by simp)
            subst hax
            simp [at0] at hx0
            simp only [List.length_cons] at CLen COrd CX HSm ⊢
            have hl1 : M.length + 1 ≤ 1000 := hL80
            clear hP hA hcells hcx hcm
            go_wp2_with fail
            refine (D1.out).mono ?_
            rintro e w10 ⟨rfl, rfl⟩
            go_upto_region 32 with fail
            refine wp_region_leaves (wd := w10) (Leaf.const (.pointer (some ⟨p, 0, none⟩)) :: Leaf.const (.int .i64 (M.length + 1 : Nat)) :: Leaf.const (.slice (some ⟨bx, ox, none⟩) (M.length + 1) cx) :: Leaf.const (.int .i64 ((M.length + 1) : Nat)) :: Leaf.const (.bool false) :: Leaf.const ((.bool false)) :: Leaf.const (.pointer (some ⟨p, 0, none⟩)) :: Leaf.const (.pointer (some ⟨a6, 1, none⟩)) :: Leaf.const (.int .i64 id) :: Leaf.const (.bool q) :: Leaf.const (.slice (some ⟨bx, ox, none⟩) (M.length + 1) cx) :: Leaf.const (.pointer (some ⟨a6, 1, none⟩)) :: Leaf.const (.int .i64 id) :: Leaf.const (.bool q) :: Leaf.const (.bool false) :: Leaf.const ((.bool false)) :: Leaf.const ((.bool false)) :: Leaf.const (.pointer (some ⟨p, 0, none⟩)) :: Leaf.pred (fun v w => ∃ A c, v = .slice A (M.length + 1) c ∧ IntCells w w.heap.size A (M.length + 1) y) :: Leaf.const (.slice (some ⟨bx, ox, none⟩) (M.length + 1) cx) :: Leaf.const (.bool true) :: Leaf.const (.bool false) :: Leaf.const ((.bool false)) :: Leaf.const ((.bool false)) :: Leaf.const (.bool true) :: Leaf.const (.slice (some ⟨bx, ox, none⟩) (M.length + 1) cx) :: Leaf.const (.int .i64 ((M.length + 1) : Nat)) :: Leaf.const (.bool true) :: Leaf.const (.bool false) :: Leaf.const ((.bool false)) :: Leaf.const ((.bool false)) :: Leaf.const (.bool true) :: Leaf.const ((.bool true)) :: Leaf.const (.int .i64 a) :: Leaf.const (.slice (some ⟨bx, ox, none⟩) (M.length + 1) cx) :: Leaf.const (.pointer (some ⟨bx, ox, none⟩)) :: Leaf.const (.int .i64 a) :: Leaf.const (.bool false) :: Leaf.const ((.bool false)) :: Leaf.const ((.bool false)) :: []) (by kernel_rfl) (by kernel_rfl) (by kernel_rfl) ((Touch.refl _ _).drew) (show Stab _ ∧ True from ⟨fun v w w2 ⟨A, c, h1, h2⟩ t => ⟨A, c, h1, h2.touch t⟩, trivial⟩) ?_ ?_
            · intro i o ho ac w ht hk hd
              match i, ho with
              | 0, ho =>
                have ho' : some _ = some o := ho
                cases ho'
                clear ho
                have e5 := known_slot hk 5 (by kernel_rfl) (v := .pointer (some ⟨p, 0, none⟩)) rfl
                exact do_value (wanted_none rfl) (by rw [BigFrame.run_move (.tmp 5) rfl, e5]) rfl
              | 1, ho =>
                have ho' : some _ = some o := ho
                cases ho'
                clear ho
                have e120 := has_const (has_dep hd 0 (by kernel_rfl)) rfl rfl rfl (c := (.pointer (some ⟨p, 0, none⟩)))
                refine do_enter (wanted_none rfl) (f := 18) (args := #[(.pointer (some ⟨p, 0, none⟩))]) (by rw [run_go3 18 _ _ rfl, ent18]; simp [eval_c, e120]) ?_
                exact Calls.leafSame (CLen.out _ ht)
              | 2, ho =>
                have ho' : some _ = some o := ho
                cases ho'
                clear ho
                have e6 := known_slot hk 6 (by kernel_rfl) (v := .slice (some ⟨bx, ox, none⟩) (M.length + 1) cx) rfl
                exact do_value (wanted_none rfl) (by rw [BigFrame.run_move (.tmp 6) rfl, e6]) rfl
              | 3, ho =>
                have ho' : some _ = some o := ho
                cases ho'
                clear ho
                have e122 := has_const (has_dep hd 2 (by kernel_rfl)) rfl rfl rfl (c := (.slice (some ⟨bx, ox, none⟩) (M.length + 1) cx))
                exact do_value (wanted_none rfl) (v := .int .i64 ((M.length + 1) : Nat)) (run_len3 (x := .tmp 122) rfl Try.underlying26 e122) rfl
              | 4, ho =>
                have ho' : some _ = some o := ho
                cases ho'
                clear ho
                have e121 := has_const (has_dep hd 1 (by kernel_rfl)) rfl rfl rfl (c := (.int .i64 (M.length + 1 : Nat)))
                have e123 := has_const (has_dep hd 3 (by kernel_rfl)) rfl rfl rfl (c := (.int .i64 ((M.length + 1) : Nat)))
                exact do_value (wanted_none rfl) (v := .bool false) (run_value rfl (by rw [e121, e123]; simp [go_sem])) rfl
              | 5, ho =>
                have ho' : some _ = some o := ho
                cases ho'
                clear ho
                have e124 := has_const (has_dep hd 4 (by kernel_rfl)) rfl rfl rfl (c := (.bool false))
                exact do_value (wanted_none rfl) (by rw [BigFrame.run_move (.tmp 124) rfl, e124]) rfl
              | 6, ho =>
                have ho' : some _ = some o := ho
                cases ho'
                clear ho
                have e125 := has_const (has_dep hd 5 (by kernel_rfl)) rfl rfl rfl (c := (.bool false))
                have e5 := known_slot hk 5 (by kernel_rfl) (v := .pointer (some ⟨p, 0, none⟩)) rfl
                exact do_value (wanted_some (g := 5) rfl rfl rfl e125) (by rw [BigFrame.run_move (.tmp 5) rfl, e5]) rfl
              | 7, ho =>
                have ho' : some _ = some o := ho
                cases ho'
                clear ho
                have e125 := has_const (has_dep hd 5 (by kernel_rfl)) rfl rfl rfl (c := (.bool false))
                have e8 := known_slot hk 8 (by kernel_rfl) (v := .pointer (some ⟨a6, 0, none⟩)) rfl
                exact do_value (wanted_some (g := 5) rfl rfl rfl e125) (v := .pointer (some ⟨a6, 1, none⟩)) (run_value rfl (by rw [e8]; simp [go_sem])) rfl
              | 8, ho =>
                have ho' : some _ = some o := ho
                cases ho'
                clear ho
                have e125 := has_const (has_dep hd 5 (by kernel_rfl)) rfl rfl rfl (c := (.bool false))
                have e127 := has_const (has_dep hd 7 (by kernel_rfl)) rfl rfl rfl (c := (.pointer (some ⟨a6, 1, none⟩)))
                have c1 := (ht.cell (a := ⟨a6, 1, none⟩) la (by simp)).trans e1
                exact do_value (wanted_some (g := 5) rfl rfl rfl e125) (v := .int .i64 id) (run_value rfl (by rw [e127]; simp [go_sem, c1])) rfl
              | 9, ho =>
                have ho' : some _ = some o := ho
                cases ho'
                clear ho
                have e125 := has_const (has_dep hd 5 (by kernel_rfl)) rfl rfl rfl (c := (.bool false))
                have e126 := has_const (has_dep hd 6 (by kernel_rfl)) rfl rfl rfl (c := (.pointer (some ⟨p, 0, none⟩)))
                have e128 := has_const (has_dep hd 8 (by kernel_rfl)) rfl rfl rfl (c := (.int .i64 id))
                refine do_enter (wanted_some (g := 5) rfl rfl rfl e125) (f := 19) (args := #[(.pointer (some ⟨p, 0, none⟩)), (.int .i64 id)]) (by rw [run_go3 19 _ _ rfl, ent19]; simp [eval_c, e126, e128]) ?_
                exact Calls.leafSame (CHas.out _ ht)
              | 10, ho =>
                have ho' : some _ = some o := ho
                cases ho'
                clear ho
                have e125 := has_const (has_dep hd 5 (by kernel_rfl)) rfl rfl rfl (c := (.bool false))
                have e6 := known_slot hk 6 (by kernel_rfl) (v := .slice (some ⟨bx, ox, none⟩) (M.length + 1) cx) rfl
                exact do_value (wanted_some (g := 5) rfl rfl rfl e125) (by rw [BigFrame.run_move (.tmp 6) rfl, e6]) rfl
              | 11, ho =>
                have ho' : some _ = some o := ho
                cases ho'
                clear ho
                have e125 := has_const (has_dep hd 5 (by kernel_rfl)) rfl rfl rfl (c := (.bool false))
                have e8 := known_slot hk 8 (by kernel_rfl) (v := .pointer (some ⟨a6, 0, none⟩)) rfl
                exact do_value (wanted_some (g := 5) rfl rfl rfl e125) (v := .pointer (some ⟨a6, 1, none⟩)) (run_value rfl (by rw [e8]; simp [go_sem])) rfl
              | 12, ho =>
                have ho' : some _ = some o := ho
                cases ho'
                clear ho
                have e125 := has_const (has_dep hd 5 (by kernel_rfl)) rfl rfl rfl (c := (.bool false))
                have e131 := has_const (has_dep hd 11 (by kernel_rfl)) rfl rfl rfl (c := (.pointer (some ⟨a6, 1, none⟩)))
                have c1 := (ht.cell (a := ⟨a6, 1, none⟩) la (by simp)).trans e1
                exact do_value (wanted_some (g := 5) rfl rfl rfl e125) (v := .int .i64 id) (run_value rfl (by rw [e131]; simp [go_sem, c1])) rfl
              | 13, ho =>
                have ho' : some _ = some o := ho
                cases ho'
                clear ho
                have e125 := has_const (has_dep hd 5 (by kernel_rfl)) rfl rfl rfl (c := (.bool false))
                have e130 := has_const (has_dep hd 10 (by kernel_rfl)) rfl rfl rfl (c := (.slice (some ⟨bx, ox, none⟩) (M.length + 1) cx))
                have e132 := has_const (has_dep hd 12 (by kernel_rfl)) rfl rfl rfl (c := (.int .i64 id))
                refine do_enter (wanted_some (g := 5) rfl rfl rfl e125) (f := 10) (args := #[(.slice (some ⟨bx, ox, none⟩) (M.length + 1) cx), (.int .i64 id)]) (by rw [run_go3 10 _ _ rfl, ent10]; simp [eval_c, e130, e132]) ?_
                exact Calls.leaf (CRef.out _ ht)
              | 14, ho =>
                have ho' : some _ = some o := ho
                cases ho'
                clear ho
                have e125 := has_const (has_dep hd 5 (by kernel_rfl)) rfl rfl rfl (c := (.bool false))
                have e129 := has_const (has_dep hd 9 (by kernel_rfl)) rfl rfl rfl (c := (.bool q))
                have e133 := has_const (has_dep hd 13 (by kernel_rfl)) rfl rfl rfl (c := (.bool q))
                exact do_value (wanted_some (g := 5) rfl rfl rfl e125) (v := .bool false) (run_value rfl (by rw [e129, e133]; simp [go_sem, gq])) rfl
              | 15, ho =>
                have ho' : some _ = some o := ho
                cases ho'
                clear ho
                have e125 := has_const (has_dep hd 5 (by kernel_rfl)) rfl rfl rfl (c := (.bool false))
                have e134 := has_const (has_dep hd 14 (by kernel_rfl)) rfl rfl rfl (c := (.bool false))
                exact do_value (wanted_none rfl) (by rw [run_pickF (c := .tmp 125) (x := .const (.bool true)) (y := .tmp 134) rfl e125, e134]) rfl
              | 16, ho =>
                have ho' : some _ = some o := ho
                cases ho'
                clear ho
                have e135 := has_const (has_dep hd 15 (by kernel_rfl)) rfl rfl rfl (c := (.bool false))
                exact do_value (wanted_none rfl) (by rw [BigFrame.run_move (.tmp 135) rfl, e135]) rfl
              | 17, ho =>
                have ho' : some _ = some o := ho
                cases ho'
                clear ho
                have e136 := has_const (has_dep hd 16 (by kernel_rfl)) rfl rfl rfl (c := (.bool false))
                have e5 := known_slot hk 5 (by kernel_rfl) (v := .pointer (some ⟨p, 0, none⟩)) rfl
                exact do_value (wanted_some (g := 16) rfl rfl rfl e136) (by rw [BigFrame.run_move (.tmp 5) rfl, e5]) rfl
              | 18, ho =>
                have ho' : some _ = some o := ho
                cases ho'
                clear ho
                have e136 := has_const (has_dep hd 16 (by kernel_rfl)) rfl rfl rfl (c := (.bool false))
                have e137 := has_const (has_dep hd 17 (by kernel_rfl)) rfl rfl rfl (c := (.pointer (some ⟨p, 0, none⟩)))
                refine do_enter (wanted_some (g := 16) rfl rfl rfl e136) (f := 21) (args := #[(.pointer (some ⟨p, 0, none⟩))]) (by rw [run_go3 21 _ _ rfl, ent21]; simp [eval_c, e137]) ?_
                exact (COrd.out _ ht).mono fun e w2 ⟨v, h1, h2, h3⟩ => by obtain ⟨A, c, rfl, _, _, h5⟩ := own_cells h2; exact ⟨_, h1, ⟨A, c, rfl, h5⟩, Touch.ofBelow h3⟩
              | 19, ho =>
                have ho' : some _ = some o := ho
                cases ho'
                clear ho
                have e136 := has_const (has_dep hd 16 (by kernel_rfl)) rfl rfl rfl (c := (.bool false))
                have e6 := known_slot hk 6 (by kernel_rfl) (v := .slice (some ⟨bx, ox, none⟩) (M.length + 1) cx) rfl
                exact do_value (wanted_some (g := 16) rfl rfl rfl e136) (by rw [BigFrame.run_move (.tmp 6) rfl, e6]) rfl
              | 20, ho =>
                have ho' : some _ = some o := ho
                cases ho'
                clear ho
                have e136 := has_const (has_dep hd 16 (by kernel_rfl)) rfl rfl rfl (c := (.bool false))
                obtain ⟨v138, e138, h138⟩ := has_pred (has_dep hd 18 (by kernel_rfl)) rfl rfl rfl (φ := fun v w => ∃ A c, v = .slice A (M.length + 1) c ∧ IntCells w w.heap.size A (M.length + 1) y)
                have e139 := has_const (has_dep hd 19 (by kernel_rfl)) rfl rfl rfl (c := (.slice (some ⟨bx, ox, none⟩) (M.length + 1) cx))
                obtain ⟨A12, c12, rfl, h5⟩ := h138
                refine do_enter (wanted_some (g := 16) rfl rfl rfl e136) (f := 20) (args := #[.slice A12 (M.length + 1) c12, .slice (some ⟨bx, ox, none⟩) (M.length + 1) cx]) (by rw [run_go3 20 _ _ rfl, ent20]; simp [eval_c, e138, e139]) ?_
                exact Calls.leaf (sameInts_yes h5 (CX.out _ ht) HSm.out (by omega))
              | 21, ho =>
                have ho' : some _ = some o := ho
                cases ho'
                clear ho
                have e136 := has_const (has_dep hd 16 (by kernel_rfl)) rfl rfl rfl (c := (.bool false))
                have e140 := has_const (has_dep hd 20 (by kernel_rfl)) rfl rfl rfl (c := (.bool true))
                exact do_value (wanted_some (g := 16) rfl rfl rfl e136) (v := .bool false) (run_value rfl (by rw [e140]; simp [go_sem])) rfl
              | 22, ho =>
                have ho' : some _ = some o := ho
                cases ho'
                clear ho
                have e136 := has_const (has_dep hd 16 (by kernel_rfl)) rfl rfl rfl (c := (.bool false))
                have e141 := has_const (has_dep hd 21 (by kernel_rfl)) rfl rfl rfl (c := (.bool false))
                exact do_value (wanted_none rfl) (by rw [run_pickF (c := .tmp 136) (x := .const (.bool true)) (y := .tmp 141) rfl e136, e141]) rfl
              | 23, ho =>
                have ho' : some _ = some o := ho
                cases ho'
                clear ho
                have e142 := has_const (has_dep hd 22 (by kernel_rfl)) rfl rfl rfl (c := (.bool false))
                exact do_value (wanted_none rfl) (by rw [BigFrame.run_move (.tmp 142) rfl, e142]) rfl
              | 24, ho =>
                have ho' : some _ = some o := ho
                cases ho'
                clear ho
                have e143 := has_const (has_dep hd 23 (by kernel_rfl)) rfl rfl rfl (c := (.bool false))
                have e13 := known_slot hk 13 (by kernel_rfl) (v := .bool true) rfl
                exact do_value (wanted_some (g := 23) rfl rfl rfl e143) (by rw [BigFrame.run_move (.tmp 13) rfl, e13]) rfl
              | 25, ho =>
                have ho' : some _ = some o := ho
                cases ho'
                clear ho
                have e143 := has_const (has_dep hd 23 (by kernel_rfl)) rfl rfl rfl (c := (.bool false))
                have e6 := known_slot hk 6 (by kernel_rfl) (v := .slice (some ⟨bx, ox, none⟩) (M.length + 1) cx) rfl
                exact do_value (wanted_some (g := 23) rfl rfl rfl e143) (by rw [BigFrame.run_move (.tmp 6) rfl, e6]) rfl
              | 26, ho =>
                have ho' : some _ = some o := ho
                cases ho'
                clear ho
                have e143 := has_const (has_dep hd 23 (by kernel_rfl)) rfl rfl rfl (c := (.bool false))
                have e145 := has_const (has_dep hd 25 (by kernel_rfl)) rfl rfl rfl (c := (.slice (some ⟨bx, ox, none⟩) (M.length + 1) cx))
                exact do_value (wanted_some (g := 23) rfl rfl rfl e143) (v := .int .i64 ((M.length + 1) : Nat)) (run_len3 (x := .tmp 145) rfl Try.underlying26 e145) rfl
              | 27, ho =>
                have ho' : some _ = some o := ho
                cases ho'
                clear ho
                have e143 := has_const (has_dep hd 23 (by kernel_rfl)) rfl rfl rfl (c := (.bool false))
                have e146 := has_const (has_dep hd 26 (by kernel_rfl)) rfl rfl rfl (c := (.int .i64 ((M.length + 1) : Nat)))
                exact do_value (wanted_some (g := 23) rfl rfl rfl e143) (v := .bool true) (run_value rfl (by rw [e146]; simp [go_sem])) rfl
              | 28, ho =>
                have ho' : some _ = some o := ho
                cases ho'
                clear ho
                have e143 := has_const (has_dep hd 23 (by kernel_rfl)) rfl rfl rfl (c := (.bool false))
                have e144 := has_const (has_dep hd 24 (by kernel_rfl)) rfl rfl rfl (c := (.bool true))
                have e147 := has_const (has_dep hd 27 (by kernel_rfl)) rfl rfl rfl (c := (.bool true))
                exact do_value (wanted_some (g := 23) rfl rfl rfl e143) (v := .bool false) (run_value rfl (by rw [e144, e147]; simp [go_sem])) rfl
              | 29, ho =>
                have ho' : some _ = some o := ho
                cases ho'
                clear ho
                have e143 := has_const (has_dep hd 23 (by kernel_rfl)) rfl rfl rfl (c := (.bool false))
                have e148 := has_const (has_dep hd 28 (by kernel_rfl)) rfl rfl rfl (c := (.bool false))
                exact do_value (wanted_none rfl) (by rw [run_pickF (c := .tmp 143) (x := .const (.bool true)) (y := .tmp 148) rfl e143, e148]) rfl
              | 30, ho =>
                have ho' : some _ = some o := ho
                cases ho'
                clear ho
                have e149 := has_const (has_dep hd 29 (by kernel_rfl)) rfl rfl rfl (c := (.bool false))
                exact do_value (wanted_none rfl) (by rw [BigFrame.run_move (.tmp 149) rfl, e149]) rfl
              | 31, ho =>
                have ho' : some _ = some o := ho
                cases ho'
                clear ho
                have e150 := has_const (has_dep hd 30 (by kernel_rfl)) rfl rfl rfl (c := (.bool false))
                have e13 := known_slot hk 13 (by kernel_rfl) (v := .bool true) rfl
                exact do_value (wanted_some (g := 30) rfl rfl rfl e150) (by rw [BigFrame.run_move (.tmp 13) rfl, e13]) rfl
              | 32, ho =>
                have ho' : some _ = some o := ho
                cases ho'
                clear ho
                have e150 := has_const (has_dep hd 30 (by kernel_rfl)) rfl rfl rfl (c := (.bool false))
                have e151 := has_const (has_dep hd 31 (by kernel_rfl)) rfl rfl rfl (c := (.bool true))
                exact do_value (wanted_some (g := 30) rfl rfl rfl e150) (by rw [BigFrame.run_move (.tmp 151) rfl, e151]) rfl
              | 33, ho =>
                have ho' : some _ = some o := ho
                cases ho'
                clear ho
                have e152 := has_const (has_dep hd 32 (by kernel_rfl)) rfl rfl rfl (c := (.bool true))
                have e12 := known_slot hk 12 (by kernel_rfl) (v := .int .i64 a) rfl
                exact do_value (wanted_some (g := 32) rfl rfl rfl e152) (by rw [BigFrame.run_move (.tmp 12) rfl, e12]) rfl
              | 34, ho =>
                have ho' : some _ = some o := ho
                cases ho'
                clear ho
                have e152 := has_const (has_dep hd 32 (by kernel_rfl)) rfl rfl rfl (c := (.bool true))
                have e6 := known_slot hk 6 (by kernel_rfl) (v := .slice (some ⟨bx, ox, none⟩) (M.length + 1) cx) rfl
                exact do_value (wanted_some (g := 32) rfl rfl rfl e152) (by rw [BigFrame.run_move (.tmp 6) rfl, e6]) rfl
              | 35, ho =>
                have ho' : some _ = some o := ho
                cases ho'
                clear ho
                have e152 := has_const (has_dep hd 32 (by kernel_rfl)) rfl rfl rfl (c := (.bool true))
                have e154 := has_const (has_dep hd 34 (by kernel_rfl)) rfl rfl rfl (c := (.slice (some ⟨bx, ox, none⟩) (M.length + 1) cx))
                exact do_value (wanted_some (g := 32) rfl rfl rfl e152) (v := .pointer (some ⟨bx, ox, none⟩)) (run_value rfl (by rw [e154]; simp [go_sem])) rfl
              | 36, ho =>
                have ho' : some _ = some o := ho
                cases ho'
                clear ho
                have e152 := has_const (has_dep hd 32 (by kernel_rfl)) rfl rfl rfl (c := (.bool true))
                have e155 := has_const (has_dep hd 35 (by kernel_rfl)) rfl rfl rfl (c := (.pointer (some ⟨bx, ox, none⟩)))
                have c2 := (ht.cell (a := ⟨bx, ox, none⟩) hbx (by simp)).trans hx0
                exact do_value (wanted_some (g := 32) rfl rfl rfl e152) (v := .int .i64 a) (run_value rfl (by rw [e155]; simp [go_sem, c2])) rfl
              | 37, ho =>
                have ho' : some _ = some o := ho
                cases ho'
                clear ho
                have e152 := has_const (has_dep hd 32 (by kernel_rfl)) rfl rfl rfl (c := (.bool true))
                have e153 := has_const (has_dep hd 33 (by kernel_rfl)) rfl rfl rfl (c := (.int .i64 a))
                have e156 := has_const (has_dep hd 36 (by kernel_rfl)) rfl rfl rfl (c := (.int .i64 a))
                exact do_value (wanted_some (g := 32) rfl rfl rfl e152) (v := .bool false) (run_value rfl (by rw [e153, e156]; simp [go_sem])) rfl
              | 38, ho =>
                have ho' : some _ = some o := ho
                cases ho'
                clear ho
                have e150 := has_const (has_dep hd 30 (by kernel_rfl)) rfl rfl rfl (c := (.bool false))
                have e152 := has_const (has_dep hd 32 (by kernel_rfl)) rfl rfl rfl (c := (.bool true))
                have e157 := has_const (has_dep hd 37 (by kernel_rfl)) rfl rfl rfl (c := (.bool false))
                exact do_value (wanted_some (g := 30) rfl rfl rfl e150) (by rw [run_pickT (c := .tmp 152) (x := .tmp 157) (y := .const (.bool false)) rfl e152, e157]) rfl
              | 39, ho =>
                have ho' : some _ = some o := ho
                cases ho'
                clear ho
                have e150 := has_const (has_dep hd 30 (by kernel_rfl)) rfl rfl rfl (c := (.bool false))
                have e158 := has_const (has_dep hd 38 (by kernel_rfl)) rfl rfl rfl (c := (.bool false))
                exact do_value (wanted_none rfl) (by rw [run_pickF (c := .tmp 150) (x := .const (.bool true)) (y := .tmp 158) rfl e150, e158]) rfl
              | q + 40, ho => exact absurd ho (by simp)
            · intro x w13 T13 _
              simp only [putL, Act.put, List.setIfInBounds_toArray, List.set_cons_succ, List.set_cons_zero]
              go_wp2_with fail
              go_roundw
              case rel => exact ⟨k + 1, by omega, by go_num, _, _, _, _, _, rfl, HP.out.carry T13⟩
              case measure => simp [intOf]; omega
      · obtain rfl : k = n := by omega
        have HB := Lib.hid hB
        obtain ⟨A2, cx, rfl, _, _, _⟩ := hB.row.cells
        clear hB
        go_upto_region 36 with fail
        have HB1 := Lib.hid (HB.out.carry ((Touch.refl [] wr).alloc (.cells #[.int .i64 0] 3)))
        have hbn : Box1 (wr.alloc (.cells #[.int .i64 0] 3)) wr.heap.size 3 (.int .i64 0) := heap_alloc_new wr _
        have HN := Lib.hid hbn
        generalize wr.alloc (.cells #[.int .i64 0] 3) = w2 at *
        clear hbn
        go_wp2_with fail
        refine (all_any _ _).mono ?_
        rintro e w3 ⟨rfl, rfl⟩
        have tB := (Touch.refl [] w2).alloc (.cells #[.pointer (some ⟨p, 0, none⟩)] 24)
        have hBs : (w2.alloc (.cells #[.pointer (some ⟨p, 0, none⟩)] 24)).cell? ⟨w2.heap.size, 0, none⟩ = some (.pointer (some ⟨p, 0, none⟩)) := cell_of_row _ _ 0 _ 24 (0, 0) (heap_alloc_new w2 _)
        have hmw : W0.cell? ⟨wd.heap.size, 0, none⟩ = some (.int .i64 most) := cell_of_row _ _ 0 _ 3 (0, 0) hM.out
        have hm3 := ((HB1.out.carry tB).t.cell (a := ⟨wd.heap.size, 0, none⟩) (by have := HZ0.out; simp; omega) (by simp)).trans hmw
        have hlm : wd.heap.size < wr.heap.size := by have := HZ0.out; have := HB.out.t.size; omega
        have hlm3 : wd.heap.size < (w2.alloc (.cells #[.pointer (some ⟨p, 0, none⟩)] 24)).heap.size := by have := HB1.out.t.size; have := HZ0.out; simp; omega
        have Y := Lib.hid (allCounted 3 (HB1.out.carry tB).ring (by have := HB.out.len; omega) hBs (HN.out.carry tB (by simp)) hm3 hlm3 (by omega))
        have HT3 := Lib.hid (HB1.out.carry tB).t
        have HM3 := Lib.hid hm3
        have HLM := Lib.hid hlm3
        have HLN := Lib.hid hlm
        generalize w2.alloc (.cells #[.pointer (some ⟨p, 0, none⟩)] 24) = w3 at *
        generalize hbnn : wr.heap.size = bn at *
        clear tB hBs hmw hm3 hlm hlm3
        have hfn := funcNil 44 (some ⟨w2.heap.size, 0, none⟩) w3
        go_wp2_with fail
        refine (Y.out).mono ?_
        rintro e w4 ⟨rfl, ⟨cnt, hbx, hcnt⟩, t4⟩
        have c4 := hbx.c0
        have m4 := (t4.cell (a := ⟨wd.heap.size, 0, none⟩) HLM.out (by have := HLN.out; simp; omega)).trans HM3.out
        have HT4 := Lib.hid t4
        have HL4 := Lib.hid (ringLives_any w4)
        clear hbx t4 Y
        rcases hcnt with rfl | rfl
        · go_wp2_with fail
          refine (HL4.out).mono ?_
          rintro e w5 ⟨rfl, hb5⟩
          have HB5 := Lib.hid hb5
          clear hb5
          go_wp2_with fail
          go_ret
          exact ⟨rfl, bnext (((T0.out.trans HT3.out (by simp)).trans HT4.out (fun b hb => by have := HLN.out; simp at hb; right; omega)).below (by simp) (Nat.le_refl _)) HB5.out⟩
        · by_cases hcL : cnt = (L.length : Int)
          · have g1 : (cnt == (L.length : Int)) = true := by simpa using hcL
            clear hcL
            go_wp2_with fail
            refine (HL4.out).mono ?_
            rintro e w5 ⟨rfl, hb5⟩
            have HB5 := Lib.hid hb5
            clear hb5
            go_wp2_with fail
            go_ret
            exact ⟨rfl, bnext (((T0.out.trans HT3.out (by simp)).trans HT4.out (fun b hb => by have := HLN.out; simp at hb; right; omega)).below (by simp) (Nat.le_refl _)) HB5.out⟩
          · have g1 : (cnt == (L.length : Int)) = false := by simpa using hcL
            clear hcL
            go_wp2_with fail
            refine (HL4.out).mono ?_
            rintro e w5 ⟨rfl, hb5⟩
            have HB5 := Lib.hid hb5
            clear hb5
            go_wp2_with fail
            go_ret
            exact ⟨rfl, bnext (((T0.out.trans HT3.out (by simp)).trans HT4.out (fun b hb => by have := HLN.out; simp at hb; right; omega)).below (by simp) (Nat.le_refl _)) HB5.out⟩

set_option maxRecDepth 100000 in
theorem actR_cells (W : World) (base : Nat) (H : Type) (enc : TypeId × Value → H) (v : Value) (d : DataW H) (p : List MemPlace) (hv : Value.okWide Try.prog W .any base 22 v)
    (h : DataW.Trod enc Try.prog W 0 (fun _ => true) true 22 v d p) : ∃ A len cap X, v = .slice A len cap ∧ len ≤ maxLen ∧ ActRCells W W.heap.size A len X := by
  obtain ⟨A, len, cap, rfl, hl, hm, hi⟩ := slice_structs Try.underlying22 Try.underlying28 (by kernel_rfl) (by kernel_rfl) (Nat.zero_lt_succ _) hv h
  haveI : Inhabited ActR := ⟨⟨0, 0⟩⟩
  obtain ⟨X, hX⟩ := Deep.choose_lt (α := ActR) (n := len) (p := fun i e => ∃ b off, A = some ⟨b, off, none⟩ ∧ b < W.heap.size ∧ W.cell? ⟨b, off + i * 2, none⟩ = some (.int .i64 e.what) ∧ W.cell? ⟨b, off + i * 2 + 1, none⟩ = some (.int .i64 e.id) ∧ fit64 e.id) (fun i hlt => by
      obtain ⟨b, off, hA, hb, hf⟩ := hi i hlt
      obtain ⟨u0, _, _, c0, g0⟩ := hf 0 _ rfl
      obtain ⟨u1, _, _, c1, g1⟩ := hf 1 _ rfl
      obtain ⟨y0, rfl, _⟩ := cell_int Try.underlying3 g0
      obtain ⟨y1, rfl, w1⟩ := cell_int Try.underlying3 g1
      exact ⟨⟨y0, y1⟩, b, off, hA, hb, c0, c1, i64_in w1⟩)
  exact ⟨A, len, cap, X, rfl, Nat.le_trans hl hm, hX⟩

set_option maxRecDepth 100000 in
theorem ringPlays_calls : LawCalls Try.prog 3 Try.f3 := by
  intro H enc W base args ds p hval hA hlt
  rw [Try.params3] at hA hval
  obtain ⟨v0, vs0, d0, ds0, p0, q0, hargs, rfl, rfl, h0, r0⟩ := trodAll_cons hA
  obtain ⟨v1, vs1, d1, ds1, p1, q1, rfl, rfl, rfl, h1, r1⟩ := trodAll_cons r0
  obtain ⟨rfl, rfl, rfl⟩ := trodAll_nil r1
  obtain rfl : args = #[v0, v1] := by cases args; simp_all
  obtain ⟨A, len, cap, X, rfl, hm, hX⟩ := actR_cells W base H enc v0 d0 p0 (hval 0 22 v0 rfl rfl) h0
  obtain ⟨most, rfl, rfl, rfl, _⟩ := open_int Try.underlying3 (hval 1 3 v1 rfl rfl) h1
  exact ringPlays_walk A len cap X most W (by simpa [maxLen] using hm) hX

set_option maxRecDepth 100000 in
theorem ringPlays_lifted (os : Os) (started : os.Started) (H : Type) (enc : TypeId × Value → H) :
    ReturnsInHanded {} Try.checked os 3 .any (Rows.ringPlaysSpec.pre6 enc Try.prog Try.f3 Rows.ringPlaysRow.domain false) (Rows.ringPlaysSpec.post enc Try.prog Try.f3 false true false false) := by
  refine returnsInHanded_of_change (C := Try.checked) own started (by kernel_rfl) Try.func3
    (ChangeSpec.witness6 (enc := enc) (C := Try.checked) false ⟨#[], #[.slice none 0 0, .int .i64 0], []⟩ 8 (by kernel_rfl) (by kernel_rfl) (by kernel_rfl) (by kernel_rfl)) ?_
  intro W base args ds gs before hval hW _ _
  exact law_contract laidOut (by kernel_rfl) rfl rfl boolType (fun ds h => by match ds, h with | [_, _], _ => rfl) ringPlays_calls W base args ds gs before hval hW

theorem ringPlays_holds : Rows.RingPlaysSaid :=
  OpenClaim.holds_of_wide 3 Try.f3 rfl rfl rfl rfl rfl rfl rfl ⟨rfl, rfl, rfl, rfl, rfl⟩ rfl rfl rfl rfl rfl (by kernel_rfl) Try.func3 (by kernel_rfl)
    (of_decide_eq_true (by kernel_rfl)) (by unfold Func.isWrapper; first | (rw [if_pos (by decide +kernel)]; kernel_rfl) | (rw [if_neg (by decide +kernel)]; exact ⟨rfl, rfl⟩))
    (fun os started H enc _ => ringPlays_lifted os started H enc)
#print axioms ringPlays_holds
end Go.Proofs.Ytdjgnciplohekaa
