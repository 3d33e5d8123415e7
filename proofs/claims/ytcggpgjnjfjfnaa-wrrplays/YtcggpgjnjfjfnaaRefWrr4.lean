/-
  The reference of layer 31 (wrr): Join.
-/
import Derived.Test.YtcggpgjnjfjfnaaRefWrr3
import Derived.Test.YtcggpgjnjfjfnaaPhi6
import Derived.Great.BuildSlice
namespace Go.Proofs.Ytcggpgjnjfjfnaa
open Go.ChangeShapes Go.WideShapes Go.ChangeAt Go.RowKit Go.Deep Go.Maps
set_option linter.unusedVariables false
set_option linter.unusedSimpArgs false

/-- A list appended to an empty literal: in new memory alone. -/
theorem append_list {Z : List Nat} {w : World} {b0 : Nat} {v u : Value} {l : List Int} (ty : TypeId) (hv : ∃ g, v = .slice (some ⟨g, 0, none⟩) 0 0) (ho : w.ownsRow b0 3 1 v 0 []) (hu : LInts Z w u l) (hl : l.length ≤ 1000) (hb : b0 ≤ w.heap.size) :
    ∃ v' w', (Builtin.append_ #[31, 31] ty #[v, u]).run Try.prog w = .ok v' w' ∧ w'.ownsRow b0 3 1 v' l.length (iv (at0 l) l.length) ∧ Touch [] w w' := by
  obtain ⟨i0, hi0, hz0, hz1, hz2⟩ := info_parts rg_int_info
  obtain ⟨g, rfl⟩ := hv
  obtain ⟨A, c, rfl, h1, h2, h3⟩ := hu
  have hlen : (iv (at0 l) l.length).length = l.length * 1 := by rw [iv_length]; omega
  by_cases h0 : l.length = 0
  · have hsrc : Src Try.prog i0.size 31 (.slice A l.length c) 0 [] w := by
      rw [h0]
      cases A with
      | none => exact Src.ofNil w Try.underlying31 c
      | some a => exact Src.ofSlice w Try.underlying31 a 0 c [] (by simp) (fun j u h => by simp at h) (fun u h => by simp at h)
    have hr := run_append_nothing w 31 31 ty 3 i0 Try.underlying31 hi0 (some ⟨g, 0, none⟩) 0 0 (Nat.le_refl _) (.slice A l.length c) hsrc
    refine ⟨_, w, hr, ?_, Touch.refl _ _⟩
    rw [h0]
    exact ho
  · obtain ⟨b, off, hA, _⟩ := h3 0 (by omega)
    subst hA
    have hnews : ∀ j u, (iv (at0 l) l.length)[j]? = some u → w.cell? ((⟨b, off, none⟩ : Addr).add j) = some u := by
      intro j u hj
      have hjl : j < l.length := by
        rcases Nat.lt_or_ge j l.length with h | h
        · exact h
        · rw [List.getElem?_eq_none (by rw [iv_length]; omega)] at hj; cases hj
      rw [iv_get _ hjl] at hj
      cases hj
      obtain ⟨b', off', hA', _, _, hc⟩ := h3 j hjl
      cases hA'
      rw [show (⟨b, off, none⟩ : Addr).add j = ⟨b, off + j, none⟩ by unfold Addr.add; split <;> simp <;> omega]
      exact hc
    have hg := run_append_grow (P := Try.prog) w 31 ty 3 i0 (.int .i64 0) Try.underlying31 hi0 hz0 ⟨g, 0, none⟩ 0 0 [] (by simp) (by simp) ⟨b, off, none⟩ l.length c (iv (at0 l) l.length) (by rw [hz1]; exact hlen) hnews (by omega) (by omega) (by rw [hz2]; exact growslice_fits (by omega) (by omega))
    obtain ⟨v', w', hr, hown, _, _, _⟩ := run_append_own_at (P := Try.prog) w b0 31 ty 3 i0 (.int .i64 0) 1 8 Try.underlying31 hi0 hz0 hz1 hz2 rfl (by decide) _ 0 [] ho ⟨b, off, none⟩ l.length c (iv (at0 l) l.length) hlen hnews (iv_one _ _) (by unfold maxLen; omega) (by omega) hb
    rw [hr] at hg
    refine ⟨v', w', hr, by simpa using hown, ?_⟩
    cases hg
    exact (Touch.refl [] w).drew.alloc _
theorem do_new {P : Program} {ops : Array Oper} {a : Act} {w w' : World} {φ : Value → World → Prop} {o : Oper} (hw : Region.wanted o (yielded ops a.tmps) = true) {v : Value} (hrun : (execOp a.eval o).run P w = .ok (.value v) w') (h : φ v w') (t : Touch [] w w') : DoesG P ops φ o a w := .inl ⟨hw, by rw [hrun]; exact ⟨h, t⟩⟩
/-- A literal of one integer. -/
def OneLit (y : Int) (v : Value) (w : World) : Prop := ∃ g, v = .slice (some ⟨g, 0, none⟩) 1 1 ∧ w.heap[g]? = some (.cells #[.int .i64 y] 3 (0, 0))
theorem OneLit.stab {y : Int} : Stab (OneLit y) := fun v w w' ⟨g, hv, hg⟩ t => ⟨g, hv, (t.block g (Array.getElem?_eq_some_iff.1 hg).1 (by simp)).trans hg⟩
def NilLit (b0 : Nat) (v : Value) (w : World) : Prop := (∃ g, v = .slice (some ⟨g, 0, none⟩) 0 0) ∧ w.ownsRow b0 3 1 v 0 []
def OwnList (b0 : Nat) (l : List Int) (v : Value) (w : World) : Prop := w.ownsRow b0 3 1 v l.length (iv (at0 l) l.length)
theorem NilLit.stab {b0 : Nat} : Stab (NilLit b0) := fun v w w' ⟨h1, h2⟩ t => ⟨h1, t.row h2 (by simp)⟩
theorem OwnList.stab {b0 : Nat} {l : List Int} : Stab (OwnList b0 l) := fun v w w' h t => t.row h (by simp)
theorem ent45J (args : Array Value) (w : World) : (callFunc 45 args).run Try.prog w = .ok (.enter 45 args) w := by
  simp [callFunc, Try.func45]
  rfl
theorem lit_one (y : Int) (w : World) : (Instr.buildSlice 31 1 #[(0, .int .i64 y)]).run Try.prog w = .ok (.slice (some ⟨w.heap.size, 0, none⟩) 1 1) (w.alloc (.cells #[.int .i64 y] 3)) := by simp [go_sem]
theorem iv_snoc (l : List Int) (id : Int) : iv (at0 (l ++ [id])) (l.length + 1) = iv (at0 l) l.length ++ [.int .i64 id] := by
  rw [iv_next', iv_congr (f' := at0 l) (fun i hi => by simp [at0, List.getElem?_append_left hi])]
  simp [at0]
def JoinPost (Z : List Nat) (m : Nat) (L : Nat → List Int) (C : Acc) (id p q : Int) (ok : Bool) (w : World) (e : Ending) (w' : World) : Prop :=
  ∃ u, e = .returned (.tuple #[u, .bool ok]) ∧ (ok = false → StateV Z m L C u w') ∧ (ok = true → ∀ k : Nat, p = (k : Int) → StateV Z (m + 1) (updL L k (L k ++ [id])) (openA C id q) u w') ∧ Touch [] w w'
def joins (C : Acc) (id p q : Int) (b : Bool) : Bool := decide (0 ≤ p) && decide (p ≤ 7) && !b && opens C id q
set_option maxHeartbeats 4000000 in
set_option maxRecDepth 100000 in
theorem refJoinW {Z : List Nat} {m : Nat} {L : Nat → List Int} {C : Acc} {v : Value} {w : World} (h : StateV Z m L C v w) (hl : ∀ k, k < 8 → (L k).length ≤ 999) (hm : m ≤ 999) (hZ : ∀ b ∈ Z, b < w.heap.size) (id p q : Int) {n : Int} {b ok : Bool} (hp : PrioIs L id n b) (hjoin : joins C id p q b = ok) :
    Calls Try.prog 11 #[v, .int .i64 id, .int .i64 p, .int .i64 q] w (JoinPost Z m L C id p q ok w) := by
  obtain ⟨rv, lv, rfl, h1, h2⟩ := h
  obtain ⟨Al, nl, cl, rfl⟩ := h2.slice
  obtain ⟨Ar, nr, cr, rfl⟩ := h1.slice
  have HB := Lib.hid (BoxV.of2 (w := w) (T := 29) (cs := #[.slice Ar nr cr, .slice Al nl cl]) (o := .cells #[.slice none 0 0, .slice none 0 0] 29))
  have HB2 := Lib.hid (BoxV.at1 (w := w) (T := 29) (cs := #[.slice none 0 0, .slice none 0 0]) (o := .cells #[.slice Ar nr cr, .slice Al nl cl] 29))
  have t0 : Touch [] w ((w.alloc (.cells #[.slice Ar nr cr, .slice Al nl cl] 29)).alloc (.cells #[.slice none 0 0, .slice none 0 0] 29)) := ((Touch.refl [] w).alloc _).alloc _
  have hsz : ((w.alloc (.cells #[.slice Ar nr cr, .slice Al nl cl] 29)).alloc (.cells #[.slice none 0 0, .slice none 0 0] 29)).heap.size = w.heap.size + 2 := by simp
  obtain ⟨Z2, hZ2⟩ : ∃ Z2, Z2 = w.heap.size :: (w.heap.size + 1) :: Z := ⟨_, rfl⟩
  have hav : ∀ b ∈ Z2, b ∈ Z ∨ w.heap.size ≤ b := fun b hb => by
    rw [hZ2, List.mem_cons, List.mem_cons] at hb
    rcases hb with rfl | rfl | hb
    · right; omega
    · right; omega
    · exact .inl hb
  have HQ := Lib.hid ((h1.avoid hav).carry t0 (by simp))
  have HR := Lib.hid ((h2.avoid hav).carry t0 (by simp))
  have HZ2 := Lib.hid (show ∀ b ∈ Z2, b < w.heap.size + 2 from fun b hb => by
    rw [hZ2, List.mem_cons, List.mem_cons] at hb
    rcases hb with rfl | rfl | hb
    · omega
    · omega
    · have := hZ b hb; omega)
  have HS2 := Lib.hid (show w.heap.size ∈ Z2 ∧ (w.heap.size + 1) ∈ Z2 ∧ ∀ b ∈ Z, b ∈ Z2 by rw [hZ2]; exact ⟨by simp, by simp, fun b hb => by simp [hb]⟩)
  have T0 := Lib.hid t0
  have P1 := Lib.hid (fun (w' : World) (t : Touch [] ((w.alloc (.cells #[.slice Ar nr cr, .slice Al nl cl] 29)).alloc (.cells #[.slice none 0 0, .slice none 0 0] 29)) w') => refPrio (lv := .slice Al nl cl) (HQ.out.carry t (by simp)) (fun k hk => Nat.le_succ_of_le (hl k hk)) id hp)
  have O1 := Lib.hid (fun (w' : World) (t : Touch [] ((w.alloc (.cells #[.slice Ar nr cr, .slice Al nl cl] 29)).alloc (.cells #[.slice none 0 0, .slice none 0 0] 29)) w') => refOpenA (HR.out.carry t (by simp)) hm (fun b hb => by have h1 := HZ2.out b hb; have h2 := t.size; rw [hsz] at h2; omega) id q)
  have HP := Lib.hid hp
  have HL := Lib.hid hl
  clear h1 h2 t0 hav hZ2 hp hl
  go_enter Try.func11, Try.ntmps11
  go_wp2_with fail
  refine (P1.out _ (Touch.refl _ _)).mono ?_
  generalize (w.alloc (.cells #[.slice Ar nr cr, .slice Al nl cl] 29)).alloc (.cells #[.slice none 0 0, .slice none 0 0] 29) = w1 at *
  rw [← hsz] at HZ2
  generalize hbr : w.heap.size + 1 = br at *
  generalize hbs : w.heap.size = bs at *
  have HBR := Lib.hid (show w.heap.size ≤ br ∧ w.heap.size ≤ bs ∧ bs ≠ br by omega)
  rintro e w2 ⟨rfl, t2⟩
  have HT2 := Lib.hid t2
  have hbs2 := HB.out.carry t2 (by simp)
  have c0 := hbs2.cell 0
  have c1 := hbs2.cell 1
  simp only [List.getElem?_toArray, List.getElem?_cons_zero, List.getElem?_cons_succ] at c0 c1
  clear t2 P1 hbs2
  go_wp2_with fail
  refine (O1.out _ HT2.out).mono ?_
  rintro e w3 ⟨u3, rfl, hr3, t3⟩
  have HT3 := Lib.hid (HT2.out.trans t3 (by simp))
  obtain ⟨A3, k3, c3, rfl⟩ := hr3.slice
  have HR3 := Lib.hid hr3
  clear t3 hr3 O1 HT2 c0 c1
  cases ok with
  | true =>
    have hj2 := hjoin
    unfold joins at hj2
    simp only [Bool.and_eq_true, decide_eq_true_eq, Bool.not_eq_true'] at hj2
    obtain ⟨⟨⟨hp0, hp7⟩, rfl⟩, hop⟩ := hj2
    obtain ⟨k, rfl⟩ : ∃ k : Nat, p = (k : Int) := ⟨p.toNat, by omega⟩
    have hk0 : k < 8 := by omega
    have hk8 : (k : Int) < 8 := by omega
    have hlk : (L k).length ≤ 1000 := Nat.le_succ_of_le (HL.out k hk0)
    have n1 : decide ((k : Int) < 0) = false := by simp
    have n2 : decide (7 < (k : Int)) = false := by simp; omega
    have HQ := Lib.hid (HQ.out.carry HT3.out (by simp))
    have HB := Lib.hid (HB.out.carry HT3.out (by simp))
    have HB2 := Lib.hid (HB2.out.carry HT3.out (by simp))
    have HZB := Lib.hid (show ∀ b ∈ Z2, b < w3.heap.size from fun b hb => Nat.lt_of_lt_of_le (HZ2.out b hb) HT3.out.size)
    have HZ2 := Lib.hid HZB.out
    have T0 := Lib.hid (T0.out.trans HT3.out (by simp))
    obtain ⟨g, cg2, hcg, hc8, hcm, hg, hgz, hcell⟩ := HQ.out
    cases hcg
    obtain ⟨u, hu, hlu⟩ := hcell k hk0
    have HU := Lib.hid hlu
    obtain ⟨Au, cu, rfl, _⟩ := hlu
    have HCU := Lib.hid hu
    have HOP := Lib.hid hop
    clear hu hcell HT3
    obtain ⟨i0, hi0, hz0, hz1, hz2⟩ := info_parts rg_int_info
    rw [HOP.out]
    obtain ⟨b0, hb0⟩ : ∃ b0, b0 = w3.heap.size := ⟨_, rfl⟩
    have HSZ := Lib.hid (show b0 ≤ w3.heap.size by omega)
    have HSE := Lib.hid (show w3.heap.size ≤ b0 by omega)
    rw [← hb0] at HZB
    go_upto_region 5 with fail
    generalize w3 = w1 at *
    refine wp_region_local (wd := w1) 13 11 [2, 8, 10] (Leaf.const (.agg #[.slice (some ⟨g, 0, none⟩) 8 cr, .slice Al nl cl]) :: Leaf.const (.int .i64 (k : Int)) :: Leaf.pred (NilLit b0) :: Leaf.const (.pointer (some ⟨bs, 0, none⟩)) :: Leaf.const (.slice (some ⟨g, 0, none⟩) 8 cr) :: Leaf.const (.int .i64 (k : Int)) :: Leaf.const (.pointer (some ⟨g, k, none⟩)) :: Leaf.const (.slice Au (L k).length cu) :: Leaf.pred (OwnList b0 (L k)) :: Leaf.const (.int .i64 id) :: Leaf.pred (OneLit id) :: Leaf.pred (fun v w => LInts Z2 w v (L k ++ [id])) :: Leaf.pred (RingsV Z2 (updL L k (L k ++ [id])) (.slice Al nl cl)) :: Leaf.const undef :: []) (by kernel_rfl) (by kernel_rfl) (by kernel_rfl) (by kernel_rfl) (by kernel_rfl) (by kernel_rfl) ((Touch.refl _ _).drew) (⟨NilLit.stab, OwnList.stab, OneLit.stab, LInts.stab, RingsV.stab, trivial⟩) ?_ ?_ ?_
    · intro i o ho hin hij ac w ht hk hd
      match i, ho, hin, hij with
      | 0, ho, hin, hij =>
        have ho' : some _ = some o := ho
        cases ho'
        clear ho
        have e4 := known_slot hk 4 (by kernel_rfl) (v := .pointer (some ⟨bs, 0, none⟩)) rfl
        have c0 := (HB.out.carry ht (by simp)).cell 0
        simp only [List.getElem?_toArray, List.getElem?_cons_zero] at c0
        have c1 := (HB.out.carry ht (by simp)).cell 1
        simp only [List.getElem?_toArray, List.getElem?_cons_zero, List.getElem?_cons_succ] at c1
        exact do_value (wanted_none rfl) (v := .agg #[.slice (some ⟨g, 0, none⟩) 8 cr, .slice Al nl cl]) (run_value rfl (by rw [e4]; simp [go_sem, c0, c1])) rfl
      | 1, ho, hin, hij =>
        have ho' : some _ = some o := ho
        cases ho'
        clear ho
        have e2 := known_slot hk 2 (by kernel_rfl) (v := .int .i64 (k : Int)) rfl
        exact do_value (wanted_none rfl) (by rw [BigFrame.run_move (.tmp 2) rfl, e2]) rfl
      | 2, ho, hin, hij =>
        have ho' : some _ = some o := ho
        cases ho'
        clear ho
        refine do_new (wanted_none rfl) (v := .slice (some ⟨w.heap.size, 0, none⟩) 0 0) (w' := w.alloc (.cells #[] 3)) ?_ ⟨⟨_, rfl⟩, World.ownsRow_lit (base := b0) (e := 3) (size := 1) w #[] 0 (Nat.le_trans HSZ.out ht.size) (by unfold maxLen; omega) rfl⟩ ((Touch.refl [] w).alloc _)
        simp [go_sem]
      | 3, ho, hin, hij =>
        have ho' : some _ = some o := ho
        cases ho'
        clear ho
        have e4 := known_slot hk 4 (by kernel_rfl) (v := .pointer (some ⟨bs, 0, none⟩)) rfl
        exact do_value (wanted_none rfl) (v := .pointer (some ⟨bs, 0, none⟩)) (run_value rfl (by rw [e4]; simp [go_sem])) rfl
      | 4, ho, hin, hij =>
        have ho' : some _ = some o := ho
        cases ho'
        clear ho
        have e45 := has_const (has_dep hd 3 (by kernel_rfl)) rfl rfl rfl (c := (.pointer (some ⟨bs, 0, none⟩)))
        have c0 := (HB.out.carry ht (by simp)).cell 0
        simp only [List.getElem?_toArray, List.getElem?_cons_zero] at c0
        exact do_value (wanted_none rfl) (v := .slice (some ⟨g, 0, none⟩) 8 cr) (run_value rfl (by rw [e45]; simp [go_sem, c0])) rfl
      | 5, ho, hin, hij =>
        have ho' : some _ = some o := ho
        cases ho'
        clear ho
        have e2 := known_slot hk 2 (by kernel_rfl) (v := .int .i64 (k : Int)) rfl
        exact do_value (wanted_none rfl) (by rw [BigFrame.run_move (.tmp 2) rfl, e2]) rfl
      | 6, ho, hin, hij =>
        have ho' : some _ = some o := ho
        cases ho'
        clear ho
        have e46 := has_const (has_dep hd 4 (by kernel_rfl)) rfl rfl rfl (c := (.slice (some ⟨g, 0, none⟩) 8 cr))
        have e47 := has_const (has_dep hd 5 (by kernel_rfl)) rfl rfl rfl (c := (.int .i64 (k : Int)))
        exact do_value (wanted_none rfl) (v := .pointer (some ⟨g, k, none⟩)) (run_value rfl (by rw [e46, e47]; simp [go_sem, hk8])) rfl
      | 7, ho, hin, hij =>
        have ho' : some _ = some o := ho
        cases ho'
        clear ho
        have e48 := has_const (has_dep hd 6 (by kernel_rfl)) rfl rfl rfl (c := (.pointer (some ⟨g, k, none⟩)))
        have cg := (ht.cell (a := ⟨g, k, none⟩) hg (by simp)).trans HCU.out
        exact do_value (wanted_none rfl) (v := .slice Au (L k).length cu) (run_value rfl (by rw [e48]; simp [go_sem, cg])) rfl
      | 8, ho, hin, hij =>
        have ho' : some _ = some o := ho
        cases ho'
        clear ho
        obtain ⟨v44, e44, h44⟩ := has_pred (has_dep hd 2 (by kernel_rfl)) rfl rfl rfl (φ := NilLit b0)
        have e49 := has_const (has_dep hd 7 (by kernel_rfl)) rfl rfl rfl (c := (.slice Au (L k).length cu))
        obtain ⟨v', w', hr, ho2, t2⟩ := append_list 31 h44.1 h44.2 (HU.out.carry ht (by simp)) hlk (Nat.le_trans HSZ.out ht.size)
        refine do_new (wanted_none rfl) (v := v') (w' := w') ?_ ho2 t2
        simp [execOp, resolve, invoke, builtin, e44, e49, hr]
      | 9, ho, hin, hij =>
        have ho' : some _ = some o := ho
        cases ho'
        clear ho
        have e1 := known_slot hk 1 (by kernel_rfl) (v := .int .i64 id) rfl
        exact do_value (wanted_none rfl) (by rw [BigFrame.run_move (.tmp 1) rfl, e1]) rfl
      | 10, ho, hin, hij =>
        have ho' : some _ = some o := ho
        cases ho'
        clear ho
        have e51 := has_const (has_dep hd 9 (by kernel_rfl)) rfl rfl rfl (c := (.int .i64 id))
        have e51 := has_const (has_dep hd 9 (by kernel_rfl)) rfl rfl rfl (c := (.int .i64 id))
        refine do_new (wanted_none rfl) (v := .slice (some ⟨w.heap.size, 0, none⟩) 1 1) (w' := w.alloc (.cells #[.int .i64 id] 3)) ?_ ⟨_, rfl, heap_alloc_new w _⟩ ((Touch.refl [] w).alloc _)
        simp only [execOp, List.map_toArray, List.map_cons, List.map_nil, e51, Sem.run_bind, lit_one, Result.andThen_ok, Sem.run_pure]
      | 11, ho, hin, hij => exact absurd rfl hij
      | 12, ho, hin, hij =>
        have ho' : some _ = some o := ho
        cases ho'
        clear ho
        have e42 := has_const (has_dep hd 0 (by kernel_rfl)) rfl rfl rfl (c := (.agg #[.slice (some ⟨g, 0, none⟩) 8 cr, .slice Al nl cl]))
        have e43 := has_const (has_dep hd 1 (by kernel_rfl)) rfl rfl rfl (c := (.int .i64 (k : Int)))
        obtain ⟨v53, e53, h53⟩ := has_pred (has_dep hd 11 (by kernel_rfl)) rfl rfl rfl (φ := fun v w => LInts Z2 w v (L k ++ [id]))
        refine do_enter (wanted_none rfl) (f := 45) (args := #[(.agg #[.slice (some ⟨g, 0, none⟩) 8 cr, .slice Al nl cl]), (.int .i64 (k : Int)), v53]) (by rw [run_go3 45 _ _ rfl, ent45]; simp [eval_c, e42, e43, e53]) ?_
        exact refWithV (HQ.out.carry ht (by simp)) k hk0 h53 (fun b hb => Nat.lt_of_lt_of_le (HZ2.out b hb) ht.size) ⟨_, _, _, rfl⟩
      | 13, ho, hin, hij => exact absurd hin (by omega)
      | q + 14, ho, hin, hij => exact absurd ho (by simp)
    · intro o ho ac w ht hk hd
      have ho' : some _ = some o := ho
      cases ho'
      clear ho
      obtain ⟨v50, e50, h50⟩ := has_pred (has_dep hd 8 (by kernel_rfl)) rfl rfl rfl (φ := OwnList b0 (L k))
      obtain ⟨v52, e52, h52⟩ := has_pred (has_dep hd 10 (by kernel_rfl)) rfl rfl rfl (φ := OneLit id)
      obtain ⟨g2, rfl, hg2⟩ := h52
      obtain ⟨v', w', hr, hown, hgrow, _, _⟩ := run_append_own_at (P := Try.prog) w b0 31 31 3 i0 (.int .i64 0) 1 8 Try.underlying31 hi0 hz0 hz1 hz2 rfl (by decide) v50 (L k).length _ h50 ⟨g2, 0, none⟩ 1 1 [.int .i64 id] rfl (World.news_of_block (cs := #[.int .i64 id]) (t := 3) (fr := (0, 0)) hg2) (by intro u hu; simp at hu; subst hu; rfl) (by unfold maxLen; omega) (by omega) (Nat.le_trans HSZ.out ht.size)
      refine ⟨wanted_none rfl, v', w', ?_, ?_, ht.grown hgrow (fun g hg => .inr (by have h1 := (h50.lt g hg).1; have h2 := HSE.out; omega))⟩
      · simp [execOp, resolve, invoke, builtin, e50, e52, hr]
      · refine LInts.own (base := b0) ?_ HZB.out
        rw [show (L k ++ [id]).length = (L k).length + 1 by simp, iv_snoc]
        exact hown
    · intro x w4 T4 hkn
      obtain ⟨_, _, _, hx11, ⟨Ar2, kr2, cr2, hx12, hr⟩, _⟩ := hkn
      rw [show forget [2, 8, 10] (Leaf.const (.agg #[.slice (some ⟨g, 0, none⟩) 8 cr, .slice Al nl cl]) :: Leaf.const (.int .i64 (k : Int)) :: Leaf.pred (NilLit b0) :: Leaf.const (.pointer (some ⟨bs, 0, none⟩)) :: Leaf.const (.slice (some ⟨g, 0, none⟩) 8 cr) :: Leaf.const (.int .i64 (k : Int)) :: Leaf.const (.pointer (some ⟨g, k, none⟩)) :: Leaf.const (.slice Au (L k).length cu) :: Leaf.pred (OwnList b0 (L k)) :: Leaf.const (.int .i64 id) :: Leaf.pred (OneLit id) :: Leaf.pred (fun v w => LInts Z2 w v (L k ++ [id])) :: Leaf.pred (RingsV Z2 (updL L k (L k ++ [id])) (.slice Al nl cl)) :: Leaf.const undef :: []) = (Leaf.const (.agg #[.slice (some ⟨g, 0, none⟩) 8 cr, .slice Al nl cl]) :: Leaf.const (.int .i64 (k : Int)) :: Leaf.pred (fun _ _ => True) :: Leaf.const (.pointer (some ⟨bs, 0, none⟩)) :: Leaf.const (.slice (some ⟨g, 0, none⟩) 8 cr) :: Leaf.const (.int .i64 (k : Int)) :: Leaf.const (.pointer (some ⟨g, k, none⟩)) :: Leaf.const (.slice Au (L k).length cu) :: Leaf.pred (fun _ _ => True) :: Leaf.const (.int .i64 id) :: Leaf.pred (fun _ _ => True) :: Leaf.pred (fun v w => LInts Z2 w v (L k ++ [id])) :: Leaf.pred (RingsV Z2 (updL L k (L k ++ [id])) (.slice Al nl cl)) :: Leaf.const undef :: []) from rfl]
      simp only [putL, Act.put, List.setIfInBounds_toArray, List.set_cons_succ, List.set_cons_zero, List.drop]
      rw [hx12]
      have hb2 := HB.out.carry T4 (by simp)
      have hlt2 := hb2.lt
      have d0 := hb2.cell 0
      have f0 := hb2.fr 0
      have hb3 := hb2.set 0 (.slice Ar2 kr2 cr2)
      have d1 := hb3.cell 1
      have f1 := hb3.fr 1
      have hb4 := hb3.set 1 (.slice Al nl cl)
      have h1 := hb4.cell 1
      have f2 := hb4.fr 1
      have hb5 := hb4.set 1 (.slice A3 k3 c3)
      have g0 := hb5.cell 0
      have g1 := hb5.cell 1
      simp only [List.getElem?_toArray, List.getElem?_cons_zero, List.getElem?_cons_succ] at d0 d1
      simp only [List.setIfInBounds_toArray, List.set_cons_succ, List.set_cons_zero, List.getElem?_toArray, List.getElem?_cons_zero, List.getElem?_cons_succ] at h1 g0 g1
      have T5 : Touch [bs] w4 (((w4.setCell ⟨bs, 0, none⟩ (.slice Ar2 kr2 cr2)).setCell ⟨bs, 1, none⟩ (.slice Al nl cl)).setCell ⟨bs, 1, none⟩ (.slice A3 k3 c3)) := (((Touch.refl [bs] w4).setCell (a := ⟨bs, 0, none⟩) (.inl (by simp)) _).setCell (a := ⟨bs, 1, none⟩) (.inl (by simp)) _).setCell (a := ⟨bs, 1, none⟩) (.inl (by simp)) _
      have hbr2 := (HB2.out.carry T4 (by simp)).carry T5 (by have := HBR.out.2.2; simp; omega)
      have hltr := hbr2.lt
      have r0 := hbr2.cell 0
      have q0 := hbr2.fr 0
      have hbr3 := hbr2.set 0 (.slice Ar2 kr2 cr2)
      have r1 := hbr3.cell 1
      have q1 := hbr3.fr 1
      have hbr4 := hbr3.set 1 (.slice A3 k3 c3)
      simp only [List.setIfInBounds_toArray, List.set_cons_succ, List.set_cons_zero, List.getElem?_toArray, List.getElem?_cons_zero, List.getElem?_cons_succ] at r0 r1
      have T6 : Touch [br] (((w4.setCell ⟨bs, 0, none⟩ (.slice Ar2 kr2 cr2)).setCell ⟨bs, 1, none⟩ (.slice Al nl cl)).setCell ⟨bs, 1, none⟩ (.slice A3 k3 c3)) (((((w4.setCell ⟨bs, 0, none⟩ (.slice Ar2 kr2 cr2)).setCell ⟨bs, 1, none⟩ (.slice Al nl cl)).setCell ⟨bs, 1, none⟩ (.slice A3 k3 c3)).setCell ⟨br, 0, none⟩ (.slice Ar2 kr2 cr2)).setCell ⟨br, 1, none⟩ (.slice A3 k3 c3)) := ((Touch.refl [br] _).setCell (a := ⟨br, 0, none⟩) (.inl (by simp)) _).setCell (a := ⟨br, 1, none⟩) (.inl (by simp)) _
      have HR7 := Lib.hid (((hr.carry T5 (by simp [HS2.out.1])).carry T6 (by simp [HS2.out.2.1])).avoid (Z' := Z) (fun b hb => .inl (HS2.out.2.2 b hb)))
      have HA7 := Lib.hid ((((HR3.out.carry T4 (by simp)).carry T5 (by simp [HS2.out.1])).carry T6 (by simp [HS2.out.2.1])).avoid (Z' := Z) (fun b hb => .inl (HS2.out.2.2 b hb)))
      have HT7 := Lib.hid (((T0.out.trans T4 (by simp)).trans T5 (fun b hb => by simp at hb; subst hb; exact .inr HBR.out.2.1)).trans T6 (fun b hb => by simp at hb; subst hb; exact .inr HBR.out.1))
      have HBZ := Lib.hid hbr4
      clear hb2 hb3 hb4 hb5 hbr2 hbr3 hbr4 T4 T5 T6 hr HQ HR HB HB2 HU HCU HR3 T0
      go_wp2_with fail
      exact bodyPost_ret (ret_box_slot (t := 29) Try.results11 rfl HBZ.out Try.underlying29 rfl (by kernel_rfl) rfl) rfl ⟨_, rfl, fun h => Bool.noConfusion h, fun _ k' hk' => ⟨_, _, rfl, by rw [show k' = k by omega]; exact HR7.out, HA7.out⟩, HT7.out⟩
  | false =>
    have hjf := hjoin
    have h4 : p < 0 ∨ (0 ≤ p ∧ 7 < p) ∨ (0 ≤ p ∧ p ≤ 7 ∧ b = true) ∨ (0 ≤ p ∧ p ≤ 7 ∧ b = false ∧ opens C id q = false) := by
      by_cases h1 : p < 0
      · exact .inl h1
      by_cases h2 : 7 < p
      · exact .inr (.inl ⟨by omega, h2⟩)
      cases b with
      | true => exact .inr (.inr (.inl ⟨by omega, by omega, rfl⟩))
      | false =>
        refine .inr (.inr (.inr ⟨by omega, by omega, rfl, ?_⟩))
        unfold joins at hjf
        rw [show decide (0 ≤ p) = true by simp; omega, show decide (p ≤ 7) = true by simp; omega] at hjf
        simpa using hjf
    have c0 := (HB.out.carry HT3.out (by simp)).cell 0
    have c1 := (HB.out.carry HT3.out (by simp)).cell 1
    simp only [List.getElem?_toArray, List.getElem?_cons_zero, List.getElem?_cons_succ] at c0 c1
    have hb2 := HB2.out.carry HT3.out (by simp)
    have hlt2 := hb2.lt
    have d0 := hb2.cell 0
    have f0 := hb2.fr 0
    have hb3 := hb2.set 0 (.slice Ar nr cr)
    have d1 := hb3.cell 1
    have f1 := hb3.fr 1
    have hb4 := hb3.set 1 (.slice Al nl cl)
    have HBB := Lib.hid hb4
    simp only [List.getElem?_toArray, List.getElem?_cons_zero, List.getElem?_cons_succ] at d0 d1
    clear hb2 hb3 hb4
    have T4 := Lib.hid (show Touch [br] w3 ((w3.setCell ⟨br, 0, none⟩ (.slice Ar nr cr)).setCell ⟨br, 1, none⟩ (.slice Al nl cl)) from ((Touch.refl [br] w3).setCell (a := ⟨br, 0, none⟩) (.inl (by simp)) _).setCell (a := ⟨br, 1, none⟩) (.inl (by simp)) _)
    clear hjoin hjf
    generalize opens C id q = op at *
    rcases h4 with h4 | ⟨h4, h5⟩ | ⟨h4, h5, rfl⟩ | ⟨h4, h5, rfl, rfl⟩
    · have n1 : decide (p < 0) = true := by simp; omega
      go_wp2_with fail
      exact bodyPost_ret (ret_box_slot (t := 29) Try.results11 rfl HBB.out Try.underlying29 rfl (by kernel_rfl) rfl) rfl ⟨_, rfl, fun _ => ⟨_, _, rfl, ((HQ.out.carry HT3.out (by simp)).carry T4.out (by simp [HS2.out.2.1])).avoid (fun b hb => .inl (HS2.out.2.2 b hb)), ((HR.out.carry HT3.out (by simp)).carry T4.out (by simp [HS2.out.2.1])).avoid (fun b hb => .inl (HS2.out.2.2 b hb))⟩, fun h => Bool.noConfusion h, (T0.out.trans HT3.out (by simp)).trans T4.out (fun b hb => by simp at hb; subst hb; exact .inr HBR.out.1)⟩
    all_goals
      have n1 : decide (p < 0) = false := by simp; omega
    · have n2 : decide (7 < p) = true := by simp; omega
      go_wp2_with fail
      exact bodyPost_ret (ret_box_slot (t := 29) Try.results11 rfl HBB.out Try.underlying29 rfl (by kernel_rfl) rfl) rfl ⟨_, rfl, fun _ => ⟨_, _, rfl, ((HQ.out.carry HT3.out (by simp)).carry T4.out (by simp [HS2.out.2.1])).avoid (fun b hb => .inl (HS2.out.2.2 b hb)), ((HR.out.carry HT3.out (by simp)).carry T4.out (by simp [HS2.out.2.1])).avoid (fun b hb => .inl (HS2.out.2.2 b hb))⟩, fun h => Bool.noConfusion h, (T0.out.trans HT3.out (by simp)).trans T4.out (fun b hb => by simp at hb; subst hb; exact .inr HBR.out.1)⟩
    all_goals
      have n2 : decide (7 < p) = false := by simp; omega
      go_wp2_with fail
      exact bodyPost_ret (ret_box_slot (t := 29) Try.results11 rfl HBB.out Try.underlying29 rfl (by kernel_rfl) rfl) rfl ⟨_, rfl, fun _ => ⟨_, _, rfl, ((HQ.out.carry HT3.out (by simp)).carry T4.out (by simp [HS2.out.2.1])).avoid (fun b hb => .inl (HS2.out.2.2 b hb)), ((HR.out.carry HT3.out (by simp)).carry T4.out (by simp [HS2.out.2.1])).avoid (fun b hb => .inl (HS2.out.2.2 b hb))⟩, fun h => Bool.noConfusion h, (T0.out.trans HT3.out (by simp)).trans T4.out (fun b hb => by simp at hb; subst hb; exact .inr HBR.out.1)⟩
end Go.Proofs.Ytcggpgjnjfjfnaa
