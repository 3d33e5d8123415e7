/-
  The reference of layer 31 (wrr): Leave.
-/
import Derived.Test.YtcggpgjnjfjfnaaRefWrr2
namespace Go.Proofs.Ytcggpgjnjfjfnaa
open Go.ChangeShapes Go.WideShapes Go.ChangeAt Go.RowKit Go.Deep Go.Maps
set_option linter.unusedVariables false
set_option linter.unusedSimpArgs false

/-- A result in a block of its own, and one in a slot. -/
theorem ret_box_slot {P : Program} {fn : Func} {s s2 : Tmp} {t : TypeId} {tmps : Array Value} {w : World} {b : Nat} {T : TypeId} {cs : Array Value} {d : TypeDesc} {v2 : Value} (h : fn.results = #[.cell s t, .tmp s2]) (hx : tmps.getD s undef = .pointer (some ⟨b, 0, none⟩)) (hB : BoxV w b T cs)
    (hu : P.underlying t = some d) (hd : d.isRow = true) (hi : (P.info? t).map (·.size) = some cs.size) (h2 : tmps.getD s2 undef = v2) : (results fn tmps).run P w = .ok (.tuple #[.agg cs, v2]) w := by
  have L := run_loadVar_mid (P := P) w b 0 t cs.toList d hB.range hu hd (by simpa using hi)
  rw [Array.toArray_toList] at L
  have hx' : tmps[s]?.getD undef = .pointer (some ⟨b, 0, none⟩) := by simpa using hx
  have h2' : tmps[s2]?.getD undef = v2 := by simpa using h2
  simp [results, h, hx', h2', asAddr, L]
theorem LInts.stab {Z : List Nat} {l : List Int} : Stab (fun v w => LInts Z w v l) := fun v w w' h t => h.carry t (by simp)
/-- Rings and the accounts' slice x, by value. -/
def RingsV (Z : List Nat) (L : Nat → List Int) (x : Value) (v : Value) (w : World) : Prop := ∃ A k c, v = .agg #[.slice A k c, x] ∧ RingsAt Z w (.slice A k c) L
theorem RingsV.stab {Z : List Nat} {L : Nat → List Int} {x : Value} : Stab (RingsV Z L x) := fun v w w' ⟨A, k, c, hv, h⟩ t => ⟨A, k, c, hv, h.carry t (by simp)⟩
theorem RingsAt.slice {Z : List Nat} {w : World} {v : Value} {L : Nat → List Int} (h : RingsAt Z w v L) : ∃ A k c, v = .slice A k c := by
  obtain ⟨g, c, rfl, _⟩ := h
  exact ⟨_, _, _, rfl⟩
theorem refWithV {Z : List Nat} {w : World} {rv lv u : Value} {L : Nat → List Int} {l : List Int} (h : RingsAt Z w rv L) (k : Nat) (hk : k < 8) (hu : LInts Z w u l) (hZ : ∀ b ∈ Z, b < w.heap.size) (hlv : ∃ A n c, lv = .slice A n c) :
    Calls Try.prog 45 #[.agg #[rv, lv], .int .i64 (k : Int), u] w (Leaves (RingsV Z (updL L k l) lv) w) := by
  refine (refWith h k hk hu hZ hlv).mono ?_
  rintro e w' ⟨rv', he, hr, t⟩
  obtain ⟨A, n, c, rfl⟩ := hr.slice
  exact ⟨_, he, ⟨A, n, c, rfl, hr⟩, t⟩
theorem refWithoutV {Z : List Nat} {w : World} {v : Value} {l : List Int} (h : LInts Z w v l) (hl : l.length ≤ 1000) (hZ : ∀ b ∈ Z, b < w.heap.size) (id : Int) :
    Calls Try.prog 32 #[v, .int .i64 id] w (Leaves (fun v w => LInts Z w v (without29 id l)) w) := by
  obtain ⟨A, c, rfl, h1, h2, h3⟩ := h.cells
  refine (refWithout29 (c := c) h3 id hl).mono ?_
  rintro e w' ⟨v', he, ho, hb⟩
  exact ⟨v', he, LInts.own ho hZ, Touch.ofBelow hb⟩
theorem ent32 (args : Array Value) (w : World) : (callFunc 32 args).run Try.prog w = .ok (.enter 32 args) w := by
  simp [callFunc, Try.func32]
  rfl
theorem ent45 (args : Array Value) (w : World) : (callFunc 45 args).run Try.prog w = .ok (.enter 45 args) w := by
  simp [callFunc, Try.func45]
  rfl

def LeavePost (Z : List Nat) (m : Nat) (L : Nat → List Int) (C : Acc) (id n : Int) (b : Bool) (w : World) (e : Ending) (w' : World) : Prop :=
  ∃ u, e = .returned (.tuple #[u, .bool b]) ∧ (b = false → StateV Z m L C u w') ∧ (b = true → ∀ k : Nat, n = (k : Int) → StateV Z m (updL L k (without29 id (L k))) (updC C id none) u w') ∧ Touch [] w w'
set_option maxHeartbeats 4000000 in
set_option maxRecDepth 100000 in
theorem refLeaveW {Z : List Nat} {m : Nat} {L : Nat → List Int} {C : Acc} {v : Value} {w : World} (h : StateV Z m L C v w) (hl : ∀ k, k < 8 → (L k).length ≤ 1000) (hm : m ≤ 1000) (hZ : ∀ b ∈ Z, b < w.heap.size) (id : Int) {n : Int} {b : Bool} (hp : PrioIs L id n b) :
    Calls Try.prog 13 #[v, .int .i64 id] w (LeavePost Z m L C id n b w) := by
  obtain ⟨rv, lv, rfl, h1, h2⟩ := h
  obtain ⟨Al, nl, cl, rfl⟩ := h2.slice
  obtain ⟨Ar, nr, cr, rfl⟩ := h1.slice
  have HB := Lib.hid (BoxV.of2 (w := w) (T := 29) (cs := #[.slice Ar nr cr, .slice Al nl cl]) (o := .cells #[.slice none 0 0, .slice none 0 0] 29))
  have HB2 := Lib.hid (BoxV.at1 (w := w) (T := 29) (cs := #[.slice none 0 0, .slice none 0 0]) (o := .cells #[.slice Ar nr cr, .slice Al nl cl] 29))
  have t0 : Touch [] w ((w.alloc (.cells #[.slice Ar nr cr, .slice Al nl cl] 29)).alloc (.cells #[.slice none 0 0, .slice none 0 0] 29)) := ((Touch.refl [] w).alloc _).alloc _
  have hsz : ((w.alloc (.cells #[.slice Ar nr cr, .slice Al nl cl] 29)).alloc (.cells #[.slice none 0 0, .slice none 0 0] 29)).heap.size = w.heap.size + 2 := by simp
  obtain ⟨Z2, hZ2⟩ : ∃ Z2, Z2 = w.heap.size :: (w.heap.size + 1) :: Z := ⟨_, rfl⟩
  have hav : ∀ b ∈ Z2, b ∈ Z ∨ w.heap.size ≤ b := fun b hb => by
    rw [hZ2, List.mem_cons, List.mem_cons] at hb
    rcases hb with rfl | rfl | hb
    · right; omega
    · right; omega
    · exact .inl hb
  have HQ := Lib.hid ((h1.avoid hav).carry t0 (by simp))
  have HR := Lib.hid ((h2.avoid hav).carry t0 (by simp))
  have HZ2 := Lib.hid (show ∀ b ∈ Z2, b < w.heap.size + 2 from fun b hb => by
    rw [hZ2, List.mem_cons, List.mem_cons] at hb
    rcases hb with rfl | rfl | hb
    · omega
    · omega
    · have := hZ b hb; omega)
  have HS2 := Lib.hid (show w.heap.size ∈ Z2 ∧ (w.heap.size + 1) ∈ Z2 ∧ ∀ b ∈ Z, b ∈ Z2 by rw [hZ2]; exact ⟨by simp, by simp, fun b hb => by simp [hb]⟩)
  have T0 := Lib.hid t0
  have P1 := Lib.hid (fun (w' : World) (t : Touch [] ((w.alloc (.cells #[.slice Ar nr cr, .slice Al nl cl] 29)).alloc (.cells #[.slice none 0 0, .slice none 0 0] 29)) w') => refPrio (lv := .slice Al nl cl) (HQ.out.carry t (by simp)) hl id hp)
  have HP := Lib.hid hp
  have HL := Lib.hid hl
  clear h1 h2 t0 hav hZ2 hp hl
  go_enter Try.func13, Try.ntmps13
  go_wp2_with fail
  refine (P1.out _ (Touch.refl _ _)).mono ?_
  generalize (w.alloc (.cells #[.slice Ar nr cr, .slice Al nl cl] 29)).alloc (.cells #[.slice none 0 0, .slice none 0 0] 29) = w1 at *
  rw [← hsz] at HZ2
  generalize hbr : w.heap.size + 1 = br at *
  generalize hbs : w.heap.size = bs at *
  have HBR := Lib.hid (show w.heap.size ≤ br ∧ w.heap.size ≤ bs ∧ bs ≠ br by omega)
  rintro e w2 ⟨rfl, t2⟩
  have HT2 := Lib.hid t2
  clear t2 P1
  cases b with
  | false =>
    have c0 := (HB.out.carry HT2.out (by simp)).cell 0
    have c1 := (HB.out.carry HT2.out (by simp)).cell 1
    simp only [List.getElem?_toArray, List.getElem?_cons_zero, List.getElem?_cons_succ] at c0 c1
    have hb2 := HB2.out.carry HT2.out (by simp)
    have hlt2 := hb2.lt
    have d0 := hb2.cell 0
    have f0 := hb2.fr 0
    have hb3 := hb2.set 0 (.slice Ar nr cr)
    have d1 := hb3.cell 1
    have f1 := hb3.fr 1
    have hb4 := hb3.set 1 (.slice Al nl cl)
    have HBB := Lib.hid hb4
    simp only [List.getElem?_toArray, List.getElem?_cons_zero, List.getElem?_cons_succ] at d0 d1
    clear hb2 hb3 hb4
    have T3 := Lib.hid (show Touch [br] w2 ((w2.setCell ⟨br, 0, none⟩ (.slice Ar nr cr)).setCell ⟨br, 1, none⟩ (.slice Al nl cl)) from ((Touch.refl [br] w2).setCell (a := ⟨br, 0, none⟩) (.inl (by simp)) _).setCell (a := ⟨br, 1, none⟩) (.inl (by simp)) _)
    go_wp2_with fail
    exact bodyPost_ret (ret_box_slot (t := 29) Try.results13 rfl HBB.out Try.underlying29 rfl (by kernel_rfl) rfl) rfl ⟨_, rfl, fun _ => ⟨_, _, rfl, ((HQ.out.carry HT2.out (by simp)).carry T3.out (by simp [HS2.out.2.1])).avoid (fun b hb => .inl (HS2.out.2.2 b hb)), ((HR.out.carry HT2.out (by simp)).carry T3.out (by simp [HS2.out.2.1])).avoid (fun b hb => .inl (HS2.out.2.2 b hb))⟩, fun h => Bool.noConfusion h, (T0.out.trans HT2.out (by simp)).trans T3.out (fun b hb => by simp at hb; subst hb; exact .inr HBR.out.1)⟩
  | true =>
    obtain ⟨k, hk0, rfl, hin, hfar⟩ : ∃ k : Nat, k < 8 ∧ n = (k : Int) ∧ id ∈ L k ∧ ∀ j, j < k → id ∉ L j := by
      rcases HP.out with ⟨_, h⟩ | ⟨h, _⟩
      · exact h
      · exact Bool.noConfusion h
    have hlk := HL.out k hk0
    have hk8 : (k : Int) < 8 := by omega
    have HQ := Lib.hid (HQ.out.carry HT2.out (by simp))
    have HR := Lib.hid (HR.out.carry HT2.out (by simp))
    have HB := Lib.hid (HB.out.carry HT2.out (by simp))
    have HB2 := Lib.hid (HB2.out.carry HT2.out (by simp))
    have HZ2 := Lib.hid (show ∀ b ∈ Z2, b < w2.heap.size from fun b hb => Nat.lt_of_lt_of_le (HZ2.out b hb) HT2.out.size)
    have T0 := Lib.hid (T0.out.trans HT2.out (by simp))
    obtain ⟨g, cg2, hcg, hc8, hcm, hg, hgz, hcell⟩ := HQ.out
    cases hcg
    obtain ⟨u, hu, hlu⟩ := hcell k hk0
    have HU := Lib.hid hlu
    obtain ⟨Au, cu, rfl, _⟩ := hlu
    have HCU := Lib.hid hu
    clear hu hcell HT2
    go_upto_region 4 with fail
    generalize w2 = w1 at *
    refine wp_region_store (wd := w1) 10 (Leaf.const (.agg #[.slice (some ⟨g, 0, none⟩) 8 cr, .slice Al nl cl]) :: Leaf.const (.int .i64 (k : Int)) :: Leaf.const (.pointer (some ⟨bs, 0, none⟩)) :: Leaf.const (.slice (some ⟨g, 0, none⟩) 8 cr) :: Leaf.const (.int .i64 (k : Int)) :: Leaf.const (.pointer (some ⟨g, k, none⟩)) :: Leaf.const (.slice Au (L k).length cu) :: Leaf.const (.int .i64 id) :: Leaf.pred (fun v w => LInts Z2 w v (without29 id (L k))) :: Leaf.pred (RingsV Z2 (updL L k (without29 id (L k))) (.slice Al nl cl)) :: Leaf.const undef :: []) (by kernel_rfl) (by kernel_rfl) (by kernel_rfl) (by kernel_rfl) ((Touch.refl _ _).drew) (⟨LInts.stab, RingsV.stab, trivial⟩) ?_ ?_
    · intro i o ho hin ac w ht hk hd
      match i, ho, hin with
      | 0, ho, hin =>
        have ho' : some _ = some o := ho
        cases ho'
        clear ho
        have e2 := known_slot hk 2 (by kernel_rfl) (v := .pointer (some ⟨bs, 0, none⟩)) rfl
        have c0 := (HB.out.carry ht (by simp)).cell 0
        simp only [List.getElem?_toArray, List.getElem?_cons_zero] at c0
        have c1 := (HB.out.carry ht (by simp)).cell 1
        simp only [List.getElem?_toArray, List.getElem?_cons_zero, List.getElem?_cons_succ] at c1
        exact do_value (wanted_none rfl) (v := .agg #[.slice (some ⟨g, 0, none⟩) 8 cr, .slice Al nl cl]) (run_value rfl (by rw [e2]; simp [go_sem, c0, c1])) rfl
      | 1, ho, hin =>
        have ho' : some _ = some o := ho
        cases ho'
        clear ho
        have e6 := known_slot hk 6 (by kernel_rfl) (v := .int .i64 (k : Int)) rfl
        exact do_value (wanted_none rfl) (by rw [BigFrame.run_move (.tmp 6) rfl, e6]) rfl
      | 2, ho, hin =>
        have ho' : some _ = some o := ho
        cases ho'
        clear ho
        have e2 := known_slot hk 2 (by kernel_rfl) (v := .pointer (some ⟨bs, 0, none⟩)) rfl
        exact do_value (wanted_none rfl) (v := .pointer (some ⟨bs, 0, none⟩)) (run_value rfl (by rw [e2]; simp [go_sem])) rfl
      | 3, ho, hin =>
        have ho' : some _ = some o := ho
        cases ho'
        clear ho
        have e19 := has_const (has_dep hd 2 (by kernel_rfl)) rfl rfl rfl (c := (.pointer (some ⟨bs, 0, none⟩)))
        have c0 := (HB.out.carry ht (by simp)).cell 0
        simp only [List.getElem?_toArray, List.getElem?_cons_zero] at c0
        exact do_value (wanted_none rfl) (v := .slice (some ⟨g, 0, none⟩) 8 cr) (run_value rfl (by rw [e19]; simp [go_sem, c0])) rfl
      | 4, ho, hin =>
        have ho' : some _ = some o := ho
        cases ho'
        clear ho
        have e6 := known_slot hk 6 (by kernel_rfl) (v := .int .i64 (k : Int)) rfl
        exact do_value (wanted_none rfl) (by rw [BigFrame.run_move (.tmp 6) rfl, e6]) rfl
      | 5, ho, hin =>
        have ho' : some _ = some o := ho
        cases ho'
        clear ho
        have e20 := has_const (has_dep hd 3 (by kernel_rfl)) rfl rfl rfl (c := (.slice (some ⟨g, 0, none⟩) 8 cr))
        have e21 := has_const (has_dep hd 4 (by kernel_rfl)) rfl rfl rfl (c := (.int .i64 (k : Int)))
        exact do_value (wanted_none rfl) (v := .pointer (some ⟨g, k, none⟩)) (run_value rfl (by rw [e20, e21]; simp [go_sem, hk8])) rfl
      | 6, ho, hin =>
        have ho' : some _ = some o := ho
        cases ho'
        clear ho
        have e22 := has_const (has_dep hd 5 (by kernel_rfl)) rfl rfl rfl (c := (.pointer (some ⟨g, k, none⟩)))
        have cg := (ht.cell (a := ⟨g, k, none⟩) hg (by simp)).trans HCU.out
        exact do_value (wanted_none rfl) (v := .slice Au (L k).length cu) (run_value rfl (by rw [e22]; simp [go_sem, cg])) rfl
      | 7, ho, hin =>
        have ho' : some _ = some o := ho
        cases ho'
        clear ho
        have e1 := known_slot hk 1 (by kernel_rfl) (v := .int .i64 id) rfl
        exact do_value (wanted_none rfl) (by rw [BigFrame.run_move (.tmp 1) rfl, e1]) rfl
      | 8, ho, hin =>
        have ho' : some _ = some o := ho
        cases ho'
        clear ho
        have e23 := has_const (has_dep hd 6 (by kernel_rfl)) rfl rfl rfl (c := (.slice Au (L k).length cu))
        have e24 := has_const (has_dep hd 7 (by kernel_rfl)) rfl rfl rfl (c := (.int .i64 id))
        refine do_enter (wanted_none rfl) (f := 32) (args := #[(.slice Au (L k).length cu), (.int .i64 id)]) (by rw [run_go3 32 _ _ rfl, ent32]; simp [eval_c, e23, e24]) ?_
        exact refWithoutV (HU.out.carry ht (by simp)) hlk (fun b hb => Nat.lt_of_lt_of_le (HZ2.out b hb) ht.size) id
      | 9, ho, hin =>
        have ho' : some _ = some o := ho
        cases ho'
        clear ho
        have e17 := has_const (has_dep hd 0 (by kernel_rfl)) rfl rfl rfl (c := (.agg #[.slice (some ⟨g, 0, none⟩) 8 cr, .slice Al nl cl]))
        have e18 := has_const (has_dep hd 1 (by kernel_rfl)) rfl rfl rfl (c := (.int .i64 (k : Int)))
        obtain ⟨v25, e25, h25⟩ := has_pred (has_dep hd 8 (by kernel_rfl)) rfl rfl rfl (φ := fun v w => LInts Z2 w v (without29 id (L k)))
        refine do_enter (wanted_none rfl) (f := 45) (args := #[(.agg #[.slice (some ⟨g, 0, none⟩) 8 cr, .slice Al nl cl]), (.int .i64 (k : Int)), v25]) (by rw [run_go3 45 _ _ rfl, ent45]; simp [eval_c, e17, e18, e25]) ?_
        exact refWithV (HQ.out.carry ht (by simp)) k hk0 h25 (fun b hb => Nat.lt_of_lt_of_le (HZ2.out b hb) ht.size) ⟨_, _, _, rfl⟩
      | 10, ho, hin => exact absurd hin (by omega)
      | q + 11, ho, hin => exact absurd ho (by simp)
    · intro x w3 T3 hkn
      obtain ⟨hx8, ⟨Ar2, kr2, cr2, hx9, hr⟩, _⟩ := hkn
      simp only [putL, Act.put, List.setIfInBounds_toArray, List.set_cons_succ, List.set_cons_zero, List.drop]
      rw [hx9]
      have hb2 := HB.out.carry T3 (by simp)
      have hlt2 := hb2.lt
      have d0 := hb2.cell 0
      have f0 := hb2.fr 0
      have hb3 := hb2.set 0 (.slice Ar2 kr2 cr2)
      have d1 := hb3.cell 1
      have f1 := hb3.fr 1
      have hb4 := hb3.set 1 (.slice Al nl cl)
      simp only [List.getElem?_toArray, List.getElem?_cons_zero, List.getElem?_cons_succ] at d0 d1
      have T4 : Touch [bs] w3 ((w3.setCell ⟨bs, 0, none⟩ (.slice Ar2 kr2 cr2)).setCell ⟨bs, 1, none⟩ (.slice Al nl cl)) := ((Touch.refl [bs] w3).setCell (a := ⟨bs, 0, none⟩) (.inl (by simp)) _).setCell (a := ⟨bs, 1, none⟩) (.inl (by simp)) _
      have HBB := Lib.hid hb4
      have HR4 := Lib.hid (hr.carry T4 (by simp [HS2.out.1]))
      have HA4 := Lib.hid ((HR.out.carry T3 (by simp)).carry T4 (by simp [HS2.out.1]))
      have HB4 := Lib.hid ((HB2.out.carry T3 (by simp)).carry T4 (by have := HBR.out.2.2; simp; omega))
      have T0 := Lib.hid ((T0.out.trans T3 (by simp)).trans T4 (fun b hb => by simp at hb; subst hb; exact .inr HBR.out.2.1))
      have HZ4 := Lib.hid (show ∀ b ∈ Z2, b < ((w3.setCell ⟨bs, 0, none⟩ (.slice Ar2 kr2 cr2)).setCell ⟨bs, 1, none⟩ (.slice Al nl cl)).heap.size from fun b hb => by rw [World.size_setCell, World.size_setCell]; exact Nat.lt_of_lt_of_le (HZ2.out b hb) T3.size)
      clear hb2 hb3 hb4 T3 T4 hr HQ HR HB HB2 HU HCU
      go_upto_region 5 with fail
      generalize (w3.setCell ⟨bs, 0, none⟩ (.slice Ar2 kr2 cr2)).setCell ⟨bs, 1, none⟩ (.slice Al nl cl) = w4 at *
      have hbb : BoxV w4 bs 29 #[.slice Ar2 kr2 cr2, .slice Al nl cl] := HBB.out
      have e1 := hbb.cell 1
      simp only [List.getElem?_toArray, List.getElem?_cons_zero, List.getElem?_cons_succ] at e1
      have WA := Lib.hid (refWithoutA HA4.out hm HZ4.out id)
      have HBB := Lib.hid hbb
      clear hbb d0 d1 f0 f1
      go_wp2_with fail
      refine (WA.out).mono ?_
      rintro e w5 ⟨u5, rfl, hr5, t5⟩
      obtain ⟨A5, k5, c5, rfl⟩ := hr5.slice
      have hb2 := HBB.out.carry t5 (by simp)
      have hlt2 := hb2.lt
      have d1 := hb2.cell 1
      have f1 := hb2.fr 1
      have hb3 := hb2.set 1 (.slice A5 k5 c5)
      have g0 := hb3.cell 0
      have g1 := hb3.cell 1
      have T6 : Touch [bs] w5 (w5.setCell ⟨bs, 1, none⟩ (.slice A5 k5 c5)) := (Touch.refl [bs] w5).setCell (a := ⟨bs, 1, none⟩) (.inl (by simp)) _
      have hbr2 := (HB4.out.carry t5 (by simp)).carry T6 (by have := HBR.out.2.2; simp; omega)
      have hltr := hbr2.lt
      have r0 := hbr2.cell 0
      have q0 := hbr2.fr 0
      have hbr3 := hbr2.set 0 (.slice Ar2 kr2 cr2)
      have r1 := hbr3.cell 1
      have q1 := hbr3.fr 1
      have hbr4 := hbr3.set 1 (.slice A5 k5 c5)
      simp only [List.getElem?_toArray, List.getElem?_cons_zero, List.getElem?_cons_succ] at d1
      simp only [List.setIfInBounds_toArray, List.set_cons_succ, List.set_cons_zero, List.getElem?_toArray, List.getElem?_cons_zero, List.getElem?_cons_succ] at g0 g1 r0 r1
      have T7 : Touch [br] (w5.setCell ⟨bs, 1, none⟩ (.slice A5 k5 c5)) (((w5.setCell ⟨bs, 1, none⟩ (.slice A5 k5 c5)).setCell ⟨br, 0, none⟩ (.slice Ar2 kr2 cr2)).setCell ⟨br, 1, none⟩ (.slice A5 k5 c5)) := ((Touch.refl [br] _).setCell (a := ⟨br, 0, none⟩) (.inl (by simp)) _).setCell (a := ⟨br, 1, none⟩) (.inl (by simp)) _
      have HR7 := Lib.hid ((((HR4.out.carry t5 (by simp)).carry T6 (by simp [HS2.out.1])).carry T7 (by simp [HS2.out.2.1])).avoid (Z' := Z) (fun b hb => .inl (HS2.out.2.2 b hb)))
      have HA7 := Lib.hid (((hr5.carry T6 (by simp [HS2.out.1])).carry T7 (by simp [HS2.out.2.1])).avoid (Z' := Z) (fun b hb => .inl (HS2.out.2.2 b hb)))
      have HT7 := Lib.hid (((T0.out.trans t5 (by simp)).trans T6 (fun b hb => by simp at hb; subst hb; exact .inr HBR.out.2.1)).trans T7 (fun b hb => by simp at hb; subst hb; exact .inr HBR.out.1))
      have HBZ := Lib.hid hbr4
      clear hb2 hb3 hbr2 hbr3 hbr4 T6 T7 t5 hr5 WA HR4 HA4 HB4 HBB HZ4 T0
      go_wp2_with fail
      exact bodyPost_ret (ret_box_slot (t := 29) Try.results13 rfl HBZ.out Try.underlying29 rfl (by kernel_rfl) rfl) rfl ⟨_, rfl, fun h => Bool.noConfusion h, fun _ k' hk' => ⟨_, _, rfl, by rw [show k' = k by omega]; exact HR7.out, HA7.out⟩, HT7.out⟩
end Go.Proofs.Ytcggpgjnjfjfnaa
