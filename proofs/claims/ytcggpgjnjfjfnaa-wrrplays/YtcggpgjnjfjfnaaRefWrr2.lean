/-
  The reference of layer 31 (wrr): its accounts by what they hold; Sent.
-/
import Derived.Test.YtcggpgjnjfjfnaaRefWrr
import Derived.Test.YtcggpgjnjfjfnaaPhi5
namespace Go.Proofs.Ytcggpgjnjfjfnaa
open Go.ChangeShapes Go.WideShapes Go.ChangeAt Go.RowKit Go.Deep Go.Maps
set_option linter.unusedVariables false
set_option linter.unusedSimpArgs false

def spendA (C : Acc) (id n : Int) : Acc := match C id with
  | none => C
  | some x => updC C id (some (clampC x.2 (satSub x.1 (size2048 n)), x.2))
def giveA (C : Acc) (id n : Int) : Acc := match C id with
  | none => C
  | some x => updC C id (some (clampC x.2 n, x.2))
/-- New rows that hold the accounts C. -/
def RowsNew (Z : List Nat) (m : Nat) (C : Acc) (v : Value) (w : World) : Prop := ∃ L, RowsAt Z w v L ∧ cof L = C ∧ L.length ≤ m
theorem RowsNew.carry {Z S : List Nat} {m : Nat} {C : Acc} {v : Value} {w w' : World} (h : RowsNew Z m C v w) (t : Touch S w w') (hS : ∀ b ∈ S, b ∈ Z ∨ w.heap.size ≤ b) : RowsNew Z m C v w' := by
  obtain ⟨L, h1, h2, h3⟩ := h
  exact ⟨L, h1.carry t hS, h2, h3⟩
theorem RowsNew.avoid {Z Z' : List Nat} {m : Nat} {C : Acc} {v : Value} {w : World} (h : RowsNew Z m C v w) (hZ : ∀ b ∈ Z', b ∈ Z ∨ w.heap.size ≤ b) : RowsNew Z' m C v w := by
  obtain ⟨L, h1, h2, h3⟩ := h
  exact ⟨L, h1.avoid hZ, h2, h3⟩
theorem RowsNew.slice {Z : List Nat} {m : Nat} {C : Acc} {v : Value} {w : World} (h : RowsNew Z m C v w) : ∃ A n c, v = .slice A n c := by
  obtain ⟨L, ⟨A, c, hv, _⟩, _⟩ := h
  exact ⟨A, _, c, hv⟩
def Leaves (φ : Value → World → Prop) (w : World) (e : Ending) (w' : World) : Prop := ∃ v, e = .returned v ∧ φ v w' ∧ Touch [] w w'
section
variable {Z : List Nat} {w : World} {v : Value} {m : Nat} {C : Acc}
theorem satAdd_few {c q : Int} (hq : 1 ≤ q ∧ q ≤ 65536) (hc : -65536 ≤ c ∧ c ≤ q) : satAdd c q = c + q := by
  unfold satAdd
  rw [hold_in (x := c) (by omega) (by omega), hold_in (x := q) (by omega) (by omega), hold_in (by omega) (by omega)]
theorem satSub_few {c q m : Int} (hq : 1 ≤ q ∧ q ≤ 65536) (hc : -65536 ≤ c ∧ c ≤ q) : satSub c (size2048 m) = c - size2048 m := by
  have := size_cases m
  unfold satSub
  rw [hold_in (x := c) (by omega) (by omega), hold_in (x := size2048 m) (by omega) (by omega), hold_in (by omega) (by omega)]
theorem rows_new {L' : List RowC} (hZ : ∀ b ∈ Z, b < w.heap.size) (hl : L'.length ≤ m) (hc : cof L' = C) {e : Ending} {w' : World} (h : RowsPost w L' e w') : Leaves (RowsNew Z m C) w e w' := by
  obtain ⟨v, he, ho, hb⟩ := h
  exact ⟨v, he, ⟨L', RowsAt.own ho rfl hZ, hc, hl⟩, Touch.ofBelow hb⟩
theorem refSpendA (h : RowsNew Z m C v w) (hok : ∀ i x, C i = some x → okAcc x) (hm : m ≤ 1000) (hZ : ∀ b ∈ Z, b < w.heap.size) (id n : Int) :
    Calls Try.prog 54 #[v, .int .i64 id, .int .i64 n] w (Leaves (RowsNew Z m (spendA C id n)) w) := by
  obtain ⟨L, hr, rfl, hl⟩ := h
  rcases at_cases L id with ⟨k, r, hat⟩ | hf
  · have hk := hok id _ hat.cof
    refine (refSpend_yes hr id n k r hat (by omega) ⟨hk.1, hk.2.1⟩ ⟨hk.2.2.1, hk.2.2.2⟩).mono fun e w' hp => rows_new hZ (by simpa using hl) ?_ hp
    rw [cof_puts hat.cof hk.1]
    unfold spendA
    rw [hat.cof]
    simp only
    rw [satSub_few (q := r.q) ⟨hk.1, hk.2.1⟩ ⟨hk.2.2.1, hk.2.2.2⟩]
  · refine (refSpend_no hr id n hf (by omega)).mono ?_
    rintro e w' ⟨he, rfl⟩
    refine ⟨v, he, ⟨L, hr, ?_, hl⟩, Touch.refl _ _⟩
    unfold spendA
    rw [hf.cof]
theorem refGiveA (h : RowsNew Z m C v w) (hok : ∀ i x, C i = some x → okAcc x) (hm : m ≤ 1000) (hZ : ∀ b ∈ Z, b < w.heap.size) (id n : Int) :
    Calls Try.prog 19 #[v, .int .i64 id, .int .i64 n] w (Leaves (RowsNew Z m (giveA C id n)) w) := by
  obtain ⟨L, hr, rfl, hl⟩ := h
  refine (refGive_any hr id n (by omega)).mono fun e w' hp => rows_new hZ (by simpa using hl) ?_ hp
  unfold giveA
  rcases at_cases L id with ⟨k, r, hat⟩ | hf
  · have hk := hok id _ hat.cof
    rw [cof_puts hat.cof hk.1, hat.cof]
  · rw [cof_putn hf.cof, hf.cof]
theorem refVisitA (h : RowsNew Z m C v w) (hok : ∀ i x, C i = some x → okAcc x) (hm : m ≤ 1000) (hZ : ∀ b ∈ Z, b < w.heap.size) (id : Int) :
    Calls Try.prog 52 #[v, .int .i64 id] w (Leaves (RowsNew Z m (visC C id)) w) := by
  obtain ⟨L, hr, rfl, hl⟩ := h
  rcases at_cases L id with ⟨k, r, hat⟩ | hf
  · have hk := hok id _ hat.cof
    refine (refVisit_yes hr id k r hat (by omega) ⟨hk.1, hk.2.1⟩ ⟨hk.2.2.1, hk.2.2.2⟩).mono fun e w' hp => rows_new hZ (by simpa using hl) ?_ hp
    rw [cof_puts hat.cof hk.1]
    unfold visC
    rw [hat.cof]
    simp only
    rw [satAdd_few (q := r.q) ⟨hk.1, hk.2.1⟩ ⟨hk.2.2.1, hk.2.2.2⟩]
  · refine (refVisit_no hr id hf (by omega)).mono ?_
    rintro e w' ⟨he, rfl⟩
    refine ⟨v, he, ⟨L, hr, ?_, hl⟩, Touch.refl _ _⟩
    unfold visC
    rw [hf.cof]
theorem refOfA (h : RowsNew Z m C v w) (hm : m ≤ 1000) (id : Int) :
    Calls Try.prog 24 #[v, .int .i64 id] w fun e w' => e = .returned (.tuple #[.int .i64 (crd C id), .bool (C id).isSome]) ∧ Touch [] w w' := by
  obtain ⟨L, hr, rfl, hl⟩ := h
  rcases at_cases L id with ⟨k, r, hat⟩ | hf
  · refine (refOf_yes hr id k r hat (by omega)).mono ?_
    rintro e w' ⟨he, rfl⟩
    refine ⟨?_, Touch.refl _ _⟩
    rw [he]
    unfold crd
    rw [hat.cof]
    rfl
  · refine (refOf_no hr id hf (by omega)).mono ?_
    rintro e w' ⟨he, rfl⟩
    refine ⟨?_, Touch.refl _ _⟩
    rw [he]
    unfold crd
    rw [hf.cof]
    rfl
theorem refWithoutA (h : RowsNew Z m C v w) (hm : m ≤ 1000) (hZ : ∀ b ∈ Z, b < w.heap.size) (id : Int) :
    Calls Try.prog 49 #[v, .int .i64 id] w (Leaves (RowsNew Z m (updC C id none)) w) := by
  obtain ⟨L, hr, rfl, hl⟩ := h
  exact (refWithout_any hr id (by omega)).mono fun e w' hp => rows_new hZ (Nat.le_trans (by unfold without; exact List.length_filter_le _ _) hl) (cof_without L id) hp
/-- May it be opened? -/
def opens (C : Acc) (id n : Int) : Bool := (C id).isNone && decide (1 ≤ n ∧ n ≤ 65536)
def openA (C : Acc) (id n : Int) : Acc := if opens C id n = true then updC C id (some (0, n)) else C
theorem refOpenA (h : RowsNew Z m C v w) (hm : m ≤ 999) (hZ : ∀ b ∈ Z, b < w.heap.size) (id n : Int) :
    Calls Try.prog 44 #[v, .int .i64 id, .int .i64 n] w fun e w' => ∃ u, e = .returned (.tuple #[u, .bool (opens C id n)]) ∧ RowsNew Z (m + 1) (openA C id n) u w' ∧ Touch [] w w' := by
  obtain ⟨L, hr, rfl, hl⟩ := h
  by_cases ho : opens (cof L) id n = true
  · have h1 := ho
    unfold opens at h1
    rw [Bool.and_eq_true, decide_eq_true_eq] at h1
    rcases at_cases L id with ⟨k, r, hat⟩ | hf
    · rw [hat.cof] at h1; simp at h1
    · refine (refOpen_yes hr id n hf h1.2 (by omega)).mono ?_
      rintro e w' ⟨u, he, hown, hb⟩
      refine ⟨u, by rw [he, ho], ⟨_, RowsAt.own hown rfl hZ, ?_, by simp; omega⟩, Touch.ofBelow hb⟩
      unfold openA
      rw [if_pos ho, cof_open hf.cof]
  · have hbad : (∃ k r, AtYes L id k r) ∨ n < 1 ∨ 65536 < n := by
      rcases at_cases L id with hat | hf
      · exact .inl hat
      · right
        unfold opens at ho
        rw [hf.cof] at ho
        simp at ho
        omega
    refine (refOpen_bad hr id n hbad (by omega)).mono ?_
    rintro e w' ⟨he, rfl⟩
    refine ⟨v, by rw [he, show opens (cof L) id n = false by simpa using ho], ⟨L, hr, ?_, by omega⟩, Touch.refl _ _⟩
    unfold openA
    rw [if_neg ho]
end

/-- The reference's state as a value: its rings and its accounts. -/
def StateV (Z : List Nat) (m : Nat) (L : Nat → List Int) (C : Acc) (v : Value) (w : World) : Prop :=
  ∃ rv lv, v = .agg #[rv, lv] ∧ RingsAt Z w rv L ∧ RowsNew Z m C lv w
theorem StateV.carry {Z S : List Nat} {m : Nat} {L : Nat → List Int} {C : Acc} {v : Value} {w w' : World} (h : StateV Z m L C v w) (t : Touch S w w') (hS : ∀ b ∈ S, b ∈ Z ∨ w.heap.size ≤ b) : StateV Z m L C v w' := by
  obtain ⟨rv, lv, hv, h1, h2⟩ := h
  exact ⟨rv, lv, hv, h1.carry t hS, h2.carry t hS⟩
theorem StateV.avoid {Z Z' : List Nat} {m : Nat} {L : Nat → List Int} {C : Acc} {v : Value} {w : World} (h : StateV Z m L C v w) (hZ : ∀ b ∈ Z', b ∈ Z ∨ w.heap.size ≤ b) : StateV Z' m L C v w := by
  obtain ⟨rv, lv, hv, h1, h2⟩ := h
  exact ⟨rv, lv, hv, h1.avoid hZ, h2.avoid hZ⟩
def sType : TypeId := 29
def boxS (w : World) (b : Nat) (rv lv : Value) : Prop := BoxV w b 29 #[rv, lv]
theorem ent54 (args : Array Value) (w : World) : (callFunc 54 args).run Try.prog w = .ok (.enter 54 args) w := by
  simp [callFunc, Try.func54]
  rfl
theorem buildS (A B : Option Addr) (n c k d : Nat) (w : World) : (Instr.build 29 #[(0, .slice A n c), (1, .slice B k d)]).run Try.prog w = .ok (.agg #[.slice A n c, .slice B k d]) w := run_build w _ _ _ (by kernel_rfl)

theorem RowsNew.stab {Z : List Nat} {m : Nat} {C : Acc} : Stab (RowsNew Z m C) := fun v w w' h t => h.carry t (by simp)
theorem RowsNew.stabB {Z : List Nat} {m : Nat} {C : Acc} {x : Value} : Stab (fun v w => ∃ A k c, v = .agg #[x, .slice A k c] ∧ RowsNew Z m C (.slice A k c) w) := fun v w w' ⟨A, k, c, hv, h⟩ t => ⟨A, k, c, hv, h.carry t (by simp)⟩
set_option maxHeartbeats 4000000 in
set_option maxRecDepth 100000 in
theorem refSentW {Z : List Nat} {m : Nat} {L : Nat → List Int} {C : Acc} {v : Value} {w : World} (h : StateV Z m L C v w) (hok : ∀ i x, C i = some x → okAcc x) (hm : m ≤ 1000) (hZ : ∀ b ∈ Z, b < w.heap.size) (id n : Int) :
    Calls Try.prog 17 #[v, .int .i64 id, .int .i64 n] w (Leaves (StateV Z m L (spendA C id n)) w) := by
  obtain ⟨rv, lv, rfl, h1, h2⟩ := h
  obtain ⟨Al, nl, cl, rfl⟩ := h2.slice
  obtain ⟨Ar, nr, cr, rfl⟩ : ∃ A n c, rv = .slice A n c := by obtain ⟨g, c, rfl, _⟩ := h1; exact ⟨_, _, _, rfl⟩
  have HB := Lib.hid (BoxV.of2 (w := w) (T := 29) (cs := #[.slice Ar nr cr, .slice Al nl cl]) (o := .cells #[.slice none 0 0, .slice none 0 0] 29))
  have HB2 := Lib.hid (BoxV.at1 (w := w) (T := 29) (cs := #[.slice none 0 0, .slice none 0 0]) (o := .cells #[.slice Ar nr cr, .slice Al nl cl] 29))
  have t0 : Touch [] w ((w.alloc (.cells #[.slice Ar nr cr, .slice Al nl cl] 29)).alloc (.cells #[.slice none 0 0, .slice none 0 0] 29)) := ((Touch.refl [] w).alloc _).alloc _
  have hsz : ((w.alloc (.cells #[.slice Ar nr cr, .slice Al nl cl] 29)).alloc (.cells #[.slice none 0 0, .slice none 0 0] 29)).heap.size = w.heap.size + 2 := by simp
  obtain ⟨Z2, hZ2⟩ : ∃ Z2, Z2 = (w.heap.size + 1) :: Z := ⟨_, rfl⟩
  have hav : ∀ b ∈ Z2, b ∈ Z ∨ w.heap.size ≤ b := fun b hb => by
    rw [hZ2, List.mem_cons] at hb
    rcases hb with rfl | hb
    · right; omega
    · exact .inl hb
  have HQ := Lib.hid ((h1.avoid hav).carry t0 (by simp))
  have HR := Lib.hid ((h2.avoid hav).carry t0 (by simp))
  have HZ2 := Lib.hid (show ∀ b ∈ Z2, b < w.heap.size + 2 from fun b hb => by
    rw [hZ2, List.mem_cons] at hb
    rcases hb with rfl | hb
    · omega
    · have := hZ b hb; omega)
  have HS2 := Lib.hid (show (w.heap.size + 1) ∈ Z2 ∧ ∀ b ∈ Z, b ∈ Z2 by rw [hZ2]; exact ⟨by simp, fun b hb => by simp [hb]⟩)
  have T0 := Lib.hid t0
  clear h1 h2 t0 hav hZ2
  go_enter Try.func17, Try.ntmps17
  go_upto_region 1 with fail
  generalize (w.alloc (.cells #[.slice Ar nr cr, .slice Al nl cl] 29)).alloc (.cells #[.slice none 0 0, .slice none 0 0] 29) = w1 at *
  rw [← hsz] at HZ2
  generalize hbr : w.heap.size + 1 = br at *
  generalize hbs : w.heap.size = bs at *
  have HBR := Lib.hid (show w.heap.size ≤ br by omega)
  refine wp_region_store (wd := w1) 8 (Leaf.const (.pointer (some ⟨bs, 0, none⟩)) :: Leaf.const (.slice Ar nr cr) :: Leaf.const (.pointer (some ⟨bs, 1, none⟩)) :: Leaf.const (.slice Al nl cl) :: Leaf.const (.int .i64 id) :: Leaf.const (.int .i64 n) :: Leaf.pred (RowsNew Z2 m (spendA C id n)) :: Leaf.pred (fun v w => ∃ A k c, v = .agg #[.slice Ar nr cr, .slice A k c] ∧ RowsNew Z2 m (spendA C id n) (.slice A k c) w) :: Leaf.const undef :: []) (by kernel_rfl) (by kernel_rfl) (by kernel_rfl) (by kernel_rfl) ((Touch.refl _ _).drew) (⟨RowsNew.stab, RowsNew.stabB, trivial⟩) ?_ ?_
  · intro i o ho hin ac w ht hk hd
    match i, ho, hin with
    | 0, ho, hin =>
      have ho' : some _ = some o := ho
      cases ho'
      clear ho
      have e3 := known_slot hk 3 (by kernel_rfl) (v := .pointer (some ⟨bs, 0, none⟩)) rfl
      exact do_value (wanted_none rfl) (v := .pointer (some ⟨bs, 0, none⟩)) (run_value rfl (by rw [e3]; simp [go_sem])) rfl
    | 1, ho, hin =>
      have ho' : some _ = some o := ho
      cases ho'
      clear ho
      have e7 := has_const (has_dep hd 0 (by kernel_rfl)) rfl rfl rfl (c := (.pointer (some ⟨bs, 0, none⟩)))
      have c0 := (HB.out.carry ht (by simp)).cell 0
      simp only [List.getElem?_toArray, List.getElem?_cons_zero] at c0
      exact do_value (wanted_none rfl) (v := .slice Ar nr cr) (run_value rfl (by rw [e7]; simp [go_sem, c0])) rfl
    | 2, ho, hin =>
      have ho' : some _ = some o := ho
      cases ho'
      clear ho
      have e3 := known_slot hk 3 (by kernel_rfl) (v := .pointer (some ⟨bs, 0, none⟩)) rfl
      exact do_value (wanted_none rfl) (v := .pointer (some ⟨bs, 1, none⟩)) (run_value rfl (by rw [e3]; simp [go_sem])) rfl
    | 3, ho, hin =>
      have ho' : some _ = some o := ho
      cases ho'
      clear ho
      have e9 := has_const (has_dep hd 2 (by kernel_rfl)) rfl rfl rfl (c := (.pointer (some ⟨bs, 1, none⟩)))
      have c1 := (HB.out.carry ht (by simp)).cell 1
      simp only [List.getElem?_toArray, List.getElem?_cons_zero, List.getElem?_cons_succ] at c1
      exact do_value (wanted_none rfl) (v := .slice Al nl cl) (run_value rfl (by rw [e9]; simp [go_sem, c1])) rfl
    | 4, ho, hin =>
      have ho' : some _ = some o := ho
      cases ho'
      clear ho
      have e1 := known_slot hk 1 (by kernel_rfl) (v := .int .i64 id) rfl
      exact do_value (wanted_none rfl) (by rw [BigFrame.run_move (.tmp 1) rfl, e1]) rfl
    | 5, ho, hin =>
      have ho' : some _ = some o := ho
      cases ho'
      clear ho
      have e2 := known_slot hk 2 (by kernel_rfl) (v := .int .i64 n) rfl
      exact do_value (wanted_none rfl) (by rw [BigFrame.run_move (.tmp 2) rfl, e2]) rfl
    | 6, ho, hin =>
      have ho' : some _ = some o := ho
      cases ho'
      clear ho
      have e10 := has_const (has_dep hd 3 (by kernel_rfl)) rfl rfl rfl (c := (.slice Al nl cl))
      have e11 := has_const (has_dep hd 4 (by kernel_rfl)) rfl rfl rfl (c := (.int .i64 id))
      have e12 := has_const (has_dep hd 5 (by kernel_rfl)) rfl rfl rfl (c := (.int .i64 n))
      refine do_enter (wanted_none rfl) (f := 54) (args := #[(.slice Al nl cl), (.int .i64 id), (.int .i64 n)]) (by rw [run_go3 54 _ _ rfl, ent54]; simp [eval_c, e10, e11, e12]) ?_
      exact (refSpendA (HR.out.carry ht (by simp)) hok hm (fun b hb => Nat.lt_of_lt_of_le (HZ2.out b hb) ht.size) id n).mono fun e w2 ⟨v, he, h, t⟩ => ⟨v, he, h, t⟩
    | 7, ho, hin =>
      have ho' : some _ = some o := ho
      cases ho'
      clear ho
      have e8 := has_const (has_dep hd 1 (by kernel_rfl)) rfl rfl rfl (c := (.slice Ar nr cr))
      have e8 := has_const (has_dep hd 1 (by kernel_rfl)) rfl rfl rfl (c := (.slice Ar nr cr))
      obtain ⟨v13, e13, h13⟩ := has_pred (has_dep hd 6 (by kernel_rfl)) rfl rfl rfl (φ := RowsNew Z2 m (spendA C id n))
      obtain ⟨A13, k13, c13, rfl⟩ := h13.slice
      exact do_value (wanted_none rfl) (v := .agg #[.slice Ar nr cr, .slice A13 k13 c13]) (run_value rfl (by simp only [List.map_toArray, List.map_cons, List.map_nil, e8, e13]; exact buildS _ _ _ _ _ _ w)) ⟨_, _, _, rfl, h13⟩
    | 8, ho, hin => exact absurd hin (by omega)
    | q + 9, ho, hin => exact absurd ho (by simp)
  · intro x w2 T2 hkn
    obtain ⟨hx6, ⟨A, k, c, hx7, hr⟩, _⟩ := hkn
    simp only [putL, Act.put, List.setIfInBounds_toArray, List.set_cons_succ, List.set_cons_zero, List.drop]
    rw [hx7]
    have hb2 := HB2.out.carry T2 (by simp)
    have hlt2 := hb2.lt
    have d0 := hb2.cell 0
    have f0 := hb2.fr 0
    have hb3 := hb2.set 0 (.slice Ar nr cr)
    have d1 := hb3.cell 1
    have f1 := hb3.fr 1
    have hb4 := hb3.set 1 (.slice A k c)
    have HBB := Lib.hid hb4
    simp only [List.getElem?_toArray, List.getElem?_cons_zero, List.getElem?_cons_succ] at d0 d1
    clear hb2 hb3 hb4
    have T3 := Lib.hid (show Touch [br] w2 ((w2.setCell ⟨br, 0, none⟩ (.slice Ar nr cr)).setCell ⟨br, 1, none⟩ (.slice A k c)) from ((Touch.refl [br] w2).setCell (a := ⟨br, 0, none⟩) (.inl (by simp)) _).setCell (a := ⟨br, 1, none⟩) (.inl (by simp)) _)
    have HT := Lib.hid T2
    have HR2 := Lib.hid hr
    clear T2 hr
    go_wp2_with fail
    exact bodyPost_ret (ret_box (t := 29) Try.results17 rfl HBB.out Try.underlying29 rfl (by kernel_rfl)) rfl ⟨_, rfl, ⟨_, _, rfl, ((HQ.out.carry HT.out (by simp)).carry T3.out (by simp [HS2.out.1])).avoid (fun b hb => .inl (HS2.out.2 b hb)), (HR2.out.carry T3.out (by simp [HS2.out.1])).avoid (fun b hb => .inl (HS2.out.2 b hb))⟩, (T0.out.trans HT.out (by simp)).trans T3.out (fun b hb => by simp at hb; subst hb; exact .inr HBR.out)⟩
end Go.Proofs.Ytcggpgjnjfjfnaa
