/-
  The reference of layer 34 (ledger): counts, size, Of.
-/
import Derived.Test.YtbppccmkmpgibaaLedger11
namespace Go.Proofs.Ytbppccmkmpgibaa
open Go.ChangeShapes Go.WideShapes Go.ChangeAt Go.RowKit Go.Deep Go.Maps
set_option linter.unusedVariables false
set_option linter.unusedSimpArgs false
theorem sizeC_eq (n : Int) : max 0 (min n 2048) = sizeC n := by
  unfold sizeC
  split
  · omega
  · split <;> omega
theorem refSize (n : Int) (w : World) : Calls Try.prog 24 #[.int .i64 n] w fun e w' => e = .returned (.int .i64 (sizeC n)) ∧ w' = w := by
  rw [← sizeC_eq]
  go_enter Try.func24, Try.ntmps24
  go_wp2_with fail
  go_ret
  exact ⟨rfl, rfl⟩
def ntV (x : Nt) : Value := .agg #[.int .i64 x.k, .int .i64 x.i, .int .i64 x.n]
theorem refCounts (x : Nt) (w : World) : Calls Try.prog 23 #[.agg #[.int .i64 x.k, .int .i64 x.i, .int .i64 x.n]] w fun e w' => e = .returned (.bool (decide (cntd x))) ∧ Touch [] w w' := by
  have T := Lib.hid ((Touch.refl [] w).alloc (.cells #[.int .i64 x.k, .int .i64 x.i, .int .i64 x.n] 44))
  obtain ⟨k, i, n⟩ := x
  simp only at T ⊢
  by_cases h0 : k = 0
  · subst h0
    rw [show decide (cntd ⟨0, i, n⟩) = true by simp [cntd]]
    go_enter Try.func23, Try.ntmps23
    go_wp2_with fail
    go_ret
    exact ⟨rfl, T.out⟩
  · have b0 : (k == 0) = false := by simpa using h0
    by_cases h1 : k = 1
    · subst h1
      rw [show decide (cntd ⟨1, i, n⟩) = true by simp [cntd]]
      go_enter Try.func23, Try.ntmps23
      go_wp2_with fail
      go_ret
      exact ⟨rfl, T.out⟩
    · have b1 : (k == 1) = false := by simpa using h1
      by_cases h2 : k = 2
      · subst h2
        by_cases h3 : 1 ≤ n
        · have d3 : decide (n ≥ 1) = true := by simpa using h3
          have d3' : decide (1 ≤ n) = true := by simpa using h3
          by_cases h4 : n ≤ 5
          · have d4 : decide (n ≤ 5) = true := by simpa using h4
            rw [show decide (cntd ⟨2, i, n⟩) = true by simp [cntd]; omega]
            go_enter Try.func23, Try.ntmps23
            go_wp2_with fail
            go_ret
            exact ⟨rfl, T.out⟩
          · have d4 : decide (n ≤ 5) = false := by simpa using h4
            rw [show decide (cntd ⟨2, i, n⟩) = false by simp [cntd]; omega]
            go_enter Try.func23, Try.ntmps23
            go_wp2_with fail
            go_ret
            exact ⟨rfl, T.out⟩
        · have d3 : decide (n ≥ 1) = false := by simpa using h3
          have d3' : decide (1 ≤ n) = false := by simpa using h3
          rw [show decide (cntd ⟨2, i, n⟩) = false by simp [cntd]; omega]
          go_enter Try.func23, Try.ntmps23
          go_wp2_with fail
          go_ret
          exact ⟨rfl, T.out⟩
      · have b2 : (k == 2) = false := by simpa using h2
        rw [show decide (cntd ⟨k, i, n⟩) = false by simp [cntd, h0, h1, h2]]
        go_enter Try.func23, Try.ntmps23
        go_wp2_with fail
        go_ret
        exact ⟨rfl, T.out⟩
/-- A book's Stat while it is made. -/
def partV (B : Bk) : Array Value := st6 (B 0) (B 1) (B 2) (B 3) (lostTo B 6) 0
theorem lostTo_tally (B : Bk) (o : Nat) (n : Int) (ho : o ≤ 2) : lostTo (tally B o n) 6 = lostTo B 6 := by
  have e : ∀ i, 4 ≤ i → tally B o n i = B i := fun i hi => by
    unfold tally
    rw [if_neg (by omega), if_neg (by omega)]
  simp [lostTo, e]
theorem lostTo_lost (B : Bk) (r : Nat) (h1 : 1 ≤ r) (h5 : r ≤ 5) : lostTo (lostB B (4 + r)) 6 = lostTo B 6 + 1 := by
  rcases (show r = 1 ∨ r = 2 ∨ r = 3 ∨ r = 4 ∨ r = 5 by omega) with rfl | rfl | rfl | rfl | rfl <;> simp [lostTo, lostB] <;> omega
theorem part0 (B : Bk) (i n : Int) : partV (noteB B ⟨0, i, n⟩) = #[.int .i64 (B 0 + 1), .int .i64 (B 1 + sizeC n), .int .i64 (B 2), .int .i64 (B 3), .int .i64 (lostTo B 6), .int .i64 0] := by
  unfold partV noteB
  rw [if_pos rfl, lostTo_tally B 0 n (by omega)]
  rfl
theorem part1 (B : Bk) (i n : Int) : partV (noteB B ⟨1, i, n⟩) = #[.int .i64 (B 0), .int .i64 (B 1), .int .i64 (B 2 + 1), .int .i64 (B 3 + sizeC n), .int .i64 (lostTo B 6), .int .i64 0] := by
  unfold partV noteB
  rw [if_neg (by simp), if_pos rfl, lostTo_tally B 2 n (by omega)]
  rfl
theorem part2 (B : Bk) (i n : Int) (h : 1 ≤ n ∧ n ≤ 5) : partV (noteB B ⟨2, i, n⟩) = #[.int .i64 (B 0), .int .i64 (B 1), .int .i64 (B 2), .int .i64 (B 3), .int .i64 (lostTo B 6 + 1), .int .i64 0] := by
  unfold partV noteB
  rw [if_neg (by simp), if_neg (by simp)]
  simp only
  rw [lostTo_lost B n.toNat (by omega) (by omega)]
  have e : ∀ i, i < 4 → lostB B (4 + n.toNat) i = B i := fun i hi => if_neg (by omega)
  rw [e 0 (by omega), e 1 (by omega), e 2 (by omega), e 3 (by omega)]
  rfl
section
variable {w w' : World}
theorem ent24 (args : Array Value) (w : World) : (callFunc 24 args).run Try.prog w = .ok (.enter 24 args) w := by
  simp [callFunc, Try.func24]
  rfl
set_option maxRecDepth 100000 in
set_option maxHeartbeats 6400000 in
theorem refOf_any {A : Option Addr} {m c : Nat} {X : Nat → Nt} (hX : NtCells w A m X) (hm : m ≤ 80) (id : Int) :
    Calls Try.prog 8 #[.slice A m c, .int .i64 id] w fun e w' => e = .returned (.agg (statV (bookOf (playM X m) id))) ∧ Touch [] w w' := by
  have HX := Lib.hid hX
  have R := Lib.hid (show BoxV ((w.alloc (.cells #[.int .i64 0, .int .i64 0, .int .i64 0, .int .i64 0, .int .i64 0, .int .i64 0] 27)).alloc (.cells #[.int .i64 0, .int .i64 0, .int .i64 0, .int .i64 0, .int .i64 0, .int .i64 0] 27)) w.heap.size 27 #[.int .i64 0, .int .i64 0, .int .i64 0, .int .i64 0, .int .i64 0, .int .i64 0] from (BoxV.new w 27 #[.int .i64 0, .int .i64 0, .int .i64 0, .int .i64 0, .int .i64 0, .int .i64 0]).carry ((Touch.refl [] _).alloc _) (by simp))
  have hr := BoxV.new (w.alloc (.cells #[.int .i64 0, .int .i64 0, .int .i64 0, .int .i64 0, .int .i64 0, .int .i64 0] 27)) 27 #[.int .i64 0, .int .i64 0, .int .i64 0, .int .i64 0, .int .i64 0, .int .i64 0]
  rw [show (w.alloc (.cells #[.int .i64 0, .int .i64 0, .int .i64 0, .int .i64 0, .int .i64 0, .int .i64 0] 27)).heap.size = w.heap.size + 1 by simp] at hr
  have Q := Lib.hid hr
  have T := Lib.hid (((Touch.refl [] w).alloc (.cells #[.int .i64 0, .int .i64 0, .int .i64 0, .int .i64 0, .int .i64 0, .int .i64 0] 27)).alloc (.cells #[.int .i64 0, .int .i64 0, .int .i64 0, .int .i64 0, .int .i64 0, .int .i64 0] 27))
  clear hr hX
  go_enter Try.func8, Try.ntmps8
  go_wp2_with fail
  generalize (w.alloc (.cells #[.int .i64 0, .int .i64 0, .int .i64 0, .int .i64 0, .int .i64 0, .int .i64 0] 27)).alloc (.cells #[.int .i64 0, .int .i64 0, .int .i64 0, .int .i64 0, .int .i64 0, .int .i64 0] 27) = w1 at *
  generalize eg : w.heap.size = g at *
  have lg := Nat.le_of_eq eg
  obtain ⟨q, eq⟩ : ∃ q, g + 1 = q := ⟨_, rfl⟩
  rw [eq] at Q ⊢
  have EQ := Lib.hid eq
  clear eq
  go_loopw [6] (fun v wr => ∃ k : Nat, k ≤ m ∧ v = .int .i64 (k : Int) ∧ BoxV wr q 27 (partV (bookOf (playM X k) id)) ∧ Touch [q] w1 wr) (fun v _ => m - (intOf v).toNat)
  case atStart => exact ⟨0, by omega, rfl, Q.out, Touch.refl _ _⟩
  case round =>
    obtain ⟨k, hk, rfl, hq, ht⟩ := hrel
    have TR := Lib.hid ht
    have fB := few_play X k id
    clear ht
    by_cases hlt : k < m
    · have tw : Touch [] w wr := T.out.trans TR.out (fun b hb => .inr (by have := EQ.out; simp at hb; omega))
      obtain ⟨bA, off, rfl, hbA, c0, c1, c2⟩ := HX.out.new tw k hlt
      have lA : bA < wr.heap.size := hbA
      have nA : bA ≠ q := fun e => by
        obtain ⟨b', off', e', hb', _⟩ := HX.out k hlt
        have := EQ.out
        cases e'
        omega
      have es : ∀ j, bookOf (playM X (k + 1)) j = if j = (X k).i ∧ cntd (X k) then noteB (bookOf (playM X k) (X k).i) (X k) else bookOf (playM X k) j := fun j => bookOf_step (playM X k) (X k) j
      have ES := Lib.hid (es id)
      have hlt' : (k : Int) < (m : Int) := by omega
      have RC := Lib.hid (refCounts (X k))
      clear es tw
      generalize X k = x at *
      obtain ⟨a, i, n⟩ := x
      simp only at c0 c1 c2 RC
      by_cases hi : i = id
      · subst hi
        have hn : (i != i) = false := by simp
        by_cases hc : cntd ⟨a, i, n⟩
        · have EN := Lib.hid (show bookOf (playM X (k + 1)) i = noteB (bookOf (playM X k) i) ⟨a, i, n⟩ by rw [ES.out, if_pos ⟨rfl, hc⟩])
          clear ES
          generalize bookOf (playM X k) i = B at *
          rw [show decide (cntd ⟨a, i, n⟩) = true by simpa using hc] at RC
          have b0 := fB 0 (by omega)
          have b1 := fB 1 (by omega)
          have b2 := fB 2 (by omega)
          have b3 := fB 3 (by omega)
          have b4 := lostTo_few fB 6 (by omega)
          have hsz := sizeC_le n
          have q0 := hq.cell 0
          have q2 := hq.cell 2
          have q4 := hq.cell 4
          have fq := hq.fr
          have lq := hq.lt
          simp only [partV, st6, List.getElem?_toArray, List.getElem?_cons_zero, List.getElem?_cons_succ] at q0 q2 q4
          have HQ0 := Lib.hid (show BoxV wr q 27 #[.int .i64 (B 0), .int .i64 (B 1), .int .i64 (B 2), .int .i64 (B 3), .int .i64 (lostTo B 6), .int .i64 0] from hq)
          clear hq
          have hkd : a = 0 ∨ a = 1 ∨ a = 2 := by unfold cntd at hc; simp at hc; omega
          rcases hkd with rfl | rfl | rfl
          · go_wp2_with fail
            refine (RC.out _).mono ?_
            rintro e w2 ⟨rfl, t2⟩
            have HC2 := Lib.hid ((t2.cell (a := ⟨bA, off + k * 3 + 2, none⟩) lA (by simp)).trans c2)
            have c0 := (t2.cell (a := ⟨bA, _, none⟩) lA (by simp)).trans c0
            have hq := HQ0.out.carry t2 (by simp)
            have q0 := hq.cell 0
            have q2 := hq.cell 2
            have q4 := hq.cell 4
            have fq := hq.fr
            have lq := hq.lt
            simp only [List.getElem?_toArray, List.getElem?_cons_zero, List.getElem?_cons_succ] at q0 q2 q4
            have lA := Nat.lt_of_lt_of_le lA t2.size
            have TW := Lib.hid (TR.out.trans t2 (by simp))
            have HQ1 := Lib.hid hq
            clear hq t2 c1 c2 RC TR HQ0
            go_upto_region 8 with fail
            have hq3 := HQ1.out.set 0 (.int .i64 (B 0 + 1))
            have HQ := Lib.hid (show BoxV (w2.setCell ⟨q, 0, none⟩ (.int .i64 (B 0 + 1))) q 27 #[.int .i64 (B 0 + 1), .int .i64 (B 1), .int .i64 (B 2), .int .i64 (B 3), .int .i64 (lostTo B 6), .int .i64 0] from hq3)
            have TS := (Touch.refl [q] w2).setCell (a := ⟨q, 0, none⟩) (.inl (by simp)) (.int .i64 (B 0 + 1))
            have c2 := (TS.cell (a := ⟨bA, off + k * 3 + 2, none⟩) lA (by simpa using nA)).trans HC2.out
            have TT := Lib.hid (TW.out.trans TS (fun b hb => .inl hb))
            have lA := Nat.lt_of_lt_of_le lA TS.size
            clear hq3 HC2 c0 q0 q2 q4 fq lq TS HQ1 TW
            generalize w2.setCell ⟨q, 0, none⟩ (.int .i64 (B 0 + 1)) = w3 at *
            refine wp_region_store (wd := w3) 10 (Leaf.const (.pointer (some ⟨q, 1, none⟩)) :: Leaf.const (.int .i64 (B 1)) :: Leaf.const (.slice (some ⟨bA, off, none⟩) m c) :: Leaf.const (.int .i64 (k : Int)) :: Leaf.const (.pointer (some ⟨bA, off + k * 3, none⟩)) :: Leaf.const (.pointer (some ⟨bA, off + k * 3 + 2, none⟩)) :: Leaf.const (.int .i64 n) :: Leaf.const (.int .i64 (sizeC n)) :: Leaf.const (.int .i64 (B 1 + sizeC n)) :: Leaf.const (.pointer (some ⟨q, 1, none⟩)) :: Leaf.const undef :: []) (by kernel_rfl) (by kernel_rfl) (by kernel_rfl) (by kernel_rfl) ((Touch.refl _ _).drew) (trivial) ?_ ?_
            · intro i o ho hin ac w ht hk hd
              match i, ho, hin with
              | 0, ho, hin =>
                have ho' : some _ = some o := ho
                cases ho'
                clear ho
                have e5 := known_slot hk 5 (by kernel_rfl) (v := .pointer (some ⟨q, 0, none⟩)) rfl
                exact do_value (wanted_none rfl) (v := .pointer (some ⟨q, 1, none⟩)) (run_value rfl (by rw [e5]; simp [go_sem])) rfl
              | 1, ho, hin =>
                have ho' : some _ = some o := ho
                cases ho'
                clear ho
                have e39 := has_const (has_dep hd 0 (by kernel_rfl)) rfl rfl rfl (c := (.pointer (some ⟨q, 1, none⟩)))
                have q1 := (HQ.out.carry ht (by simp)).cell 1
                simp only [List.getElem?_toArray, List.getElem?_cons_zero, List.getElem?_cons_succ] at q1
                have lq := (HQ.out.carry ht (by simp)).lt
                exact do_value (wanted_none rfl) (v := .int .i64 (B 1)) (run_value rfl (by rw [e39]; simp [go_sem, q1])) rfl
              | 2, ho, hin =>
                have ho' : some _ = some o := ho
                cases ho'
                clear ho
                have e0 := known_slot hk 0 (by kernel_rfl) (v := .slice (some ⟨bA, off, none⟩) m c) rfl
                exact do_value (wanted_none rfl) (by rw [BigFrame.run_move (.tmp 0) rfl, e0]) rfl
              | 3, ho, hin =>
                have ho' : some _ = some o := ho
                cases ho'
                clear ho
                have e6 := known_slot hk 6 (by kernel_rfl) (v := .int .i64 (k : Int)) rfl
                exact do_value (wanted_none rfl) (by rw [BigFrame.run_move (.tmp 6) rfl, e6]) rfl
              | 4, ho, hin =>
                have ho' : some _ = some o := ho
                cases ho'
                clear ho
                have e41 := has_const (has_dep hd 2 (by kernel_rfl)) rfl rfl rfl (c := (.slice (some ⟨bA, off, none⟩) m c))
                have e42 := has_const (has_dep hd 3 (by kernel_rfl)) rfl rfl rfl (c := (.int .i64 (k : Int)))
                exact do_value (wanted_none rfl) (v := .pointer (some ⟨bA, off + k * 3, none⟩)) (run_value rfl (by rw [e41, e42]; simp [go_sem]; omega)) rfl
              | 5, ho, hin =>
                have ho' : some _ = some o := ho
                cases ho'
                clear ho
                have e43 := has_const (has_dep hd 4 (by kernel_rfl)) rfl rfl rfl (c := (.pointer (some ⟨bA, off + k * 3, none⟩)))
                exact do_value (wanted_none rfl) (v := .pointer (some ⟨bA, off + k * 3 + 2, none⟩)) (run_value rfl (by rw [e43]; simp [go_sem])) rfl
              | 6, ho, hin =>
                have ho' : some _ = some o := ho
                cases ho'
                clear ho
                have e44 := has_const (has_dep hd 5 (by kernel_rfl)) rfl rfl rfl (c := (.pointer (some ⟨bA, off + k * 3 + 2, none⟩)))
                have x2 := (ht.cell (a := ⟨bA, off + k * 3 + 2, none⟩) lA (by simp)).trans c2
                have lA2 := Nat.lt_of_lt_of_le lA ht.size
                exact do_value (wanted_none rfl) (v := .int .i64 n) (run_value rfl (by rw [e44]; simp [go_sem, x2])) rfl
              | 7, ho, hin =>
                have ho' : some _ = some o := ho
                cases ho'
                clear ho
                have e45 := has_const (has_dep hd 6 (by kernel_rfl)) rfl rfl rfl (c := (.int .i64 n))
                refine do_enter (wanted_none rfl) (f := 24) (args := #[(.int .i64 n)]) (by rw [run_go3 24 _ _ rfl, ent24]; simp [eval_c, e45]) ?_
                exact Calls.leaf ((refSize n _).mono fun e w2 h => ⟨h.1, h.2 ▸ Touch.refl [] _⟩)
              | 8, ho, hin =>
                have ho' : some _ = some o := ho
                cases ho'
                clear ho
                have e40 := has_const (has_dep hd 1 (by kernel_rfl)) rfl rfl rfl (c := (.int .i64 (B 1)))
                have e46 := has_const (has_dep hd 7 (by kernel_rfl)) rfl rfl rfl (c := (.int .i64 (sizeC n)))
                exact do_value (wanted_none rfl) (v := .int .i64 (B 1 + sizeC n)) (run_value rfl (by rw [e40, e46]; simp [go_sem, IntKind.wrap_i64]; omega)) rfl
              | 9, ho, hin =>
                have ho' : some _ = some o := ho
                cases ho'
                clear ho
                have e5 := known_slot hk 5 (by kernel_rfl) (v := .pointer (some ⟨q, 0, none⟩)) rfl
                exact do_value (wanted_none rfl) (v := .pointer (some ⟨q, 1, none⟩)) (run_value rfl (by rw [e5]; simp [go_sem])) rfl
              | 10, ho, hin => exact absurd hin (by omega)
              | q + 11, ho, hin => exact absurd ho (by simp)
            · intro x' w4 T4 hkn
              simp only [putL, Act.put, List.setIfInBounds_toArray, List.set_cons_succ, List.set_cons_zero, List.drop]
              have hq4 := HQ.out.carry T4 (by simp)
              have fq := hq4.fr
              have lq := hq4.lt
              have q1 := hq4.cell 1
              simp only [List.getElem?_toArray, List.getElem?_cons_zero, List.getElem?_cons_succ] at q1
              have Z := Lib.hid (hq4.set 1 (.int .i64 (B 1 + sizeC n)))
              have TZ := Lib.hid ((TT.out.trans T4 (by simp)).setCell (a := ⟨q, 1, none⟩) (.inl (by simp)) (.int .i64 (B 1 + sizeC n)))
              clear hq4 T4 c2
              go_wp2_with fail
              go_roundw
              case rel => exact ⟨k + 1, by omega, by go_num, by rw [EN.out, part0]; exact Z.out, TZ.out⟩
              case measure => simp [intOf]; omega
          · go_wp2_with fail
            refine (RC.out _).mono ?_
            rintro e w2 ⟨rfl, t2⟩
            have HC2 := Lib.hid ((t2.cell (a := ⟨bA, off + k * 3 + 2, none⟩) lA (by simp)).trans c2)
            have c0 := (t2.cell (a := ⟨bA, _, none⟩) lA (by simp)).trans c0
            have hq := HQ0.out.carry t2 (by simp)
            have q0 := hq.cell 0
            have q2 := hq.cell 2
            have q4 := hq.cell 4
            have fq := hq.fr
            have lq := hq.lt
            simp only [List.getElem?_toArray, List.getElem?_cons_zero, List.getElem?_cons_succ] at q0 q2 q4
            have lA := Nat.lt_of_lt_of_le lA t2.size
            have TW := Lib.hid (TR.out.trans t2 (by simp))
            have HQ1 := Lib.hid hq
            clear hq t2 c1 c2 RC TR HQ0
            go_upto_region 11 with fail
            have hq3 := HQ1.out.set 2 (.int .i64 (B 2 + 1))
            have HQ := Lib.hid (show BoxV (w2.setCell ⟨q, 2, none⟩ (.int .i64 (B 2 + 1))) q 27 #[.int .i64 (B 0), .int .i64 (B 1), .int .i64 (B 2 + 1), .int .i64 (B 3), .int .i64 (lostTo B 6), .int .i64 0] from hq3)
            have TS := (Touch.refl [q] w2).setCell (a := ⟨q, 2, none⟩) (.inl (by simp)) (.int .i64 (B 2 + 1))
            have c2 := (TS.cell (a := ⟨bA, off + k * 3 + 2, none⟩) lA (by simpa using nA)).trans HC2.out
            have TT := Lib.hid (TW.out.trans TS (fun b hb => .inl hb))
            have lA := Nat.lt_of_lt_of_le lA TS.size
            clear hq3 HC2 c0 q0 q2 q4 fq lq TS HQ1 TW
            generalize w2.setCell ⟨q, 2, none⟩ (.int .i64 (B 2 + 1)) = w3 at *
            refine wp_region_store (wd := w3) 10 (Leaf.const (.pointer (some ⟨q, 3, none⟩)) :: Leaf.const (.int .i64 (B 3)) :: Leaf.const (.slice (some ⟨bA, off, none⟩) m c) :: Leaf.const (.int .i64 (k : Int)) :: Leaf.const (.pointer (some ⟨bA, off + k * 3, none⟩)) :: Leaf.const (.pointer (some ⟨bA, off + k * 3 + 2, none⟩)) :: Leaf.const (.int .i64 n) :: Leaf.const (.int .i64 (sizeC n)) :: Leaf.const (.int .i64 (B 3 + sizeC n)) :: Leaf.const (.pointer (some ⟨q, 3, none⟩)) :: Leaf.const undef :: []) (by kernel_rfl) (by kernel_rfl) (by kernel_rfl) (by kernel_rfl) ((Touch.refl _ _).drew) (trivial) ?_ ?_
            · intro i o ho hin ac w ht hk hd
              match i, ho, hin with
              | 0, ho, hin =>
                have ho' : some _ = some o := ho
                cases ho'
                clear ho
                have e5 := known_slot hk 5 (by kernel_rfl) (v := .pointer (some ⟨q, 0, none⟩)) rfl
                exact do_value (wanted_none rfl) (v := .pointer (some ⟨q, 3, none⟩)) (run_value rfl (by rw [e5]; simp [go_sem])) rfl
              | 1, ho, hin =>
                have ho' : some _ = some o := ho
                cases ho'
                clear ho
                have e59 := has_const (has_dep hd 0 (by kernel_rfl)) rfl rfl rfl (c := (.pointer (some ⟨q, 3, none⟩)))
                have q1 := (HQ.out.carry ht (by simp)).cell 3
                simp only [List.getElem?_toArray, List.getElem?_cons_zero, List.getElem?_cons_succ] at q1
                have lq := (HQ.out.carry ht (by simp)).lt
                exact do_value (wanted_none rfl) (v := .int .i64 (B 3)) (run_value rfl (by rw [e59]; simp [go_sem, q1])) rfl
              | 2, ho, hin =>
                have ho' : some _ = some o := ho
                cases ho'
                clear ho
                have e0 := known_slot hk 0 (by kernel_rfl) (v := .slice (some ⟨bA, off, none⟩) m c) rfl
                exact do_value (wanted_none rfl) (by rw [BigFrame.run_move (.tmp 0) rfl, e0]) rfl
              | 3, ho, hin =>
                have ho' : some _ = some o := ho
                cases ho'
                clear ho
                have e6 := known_slot hk 6 (by kernel_rfl) (v := .int .i64 (k : Int)) rfl
                exact do_value (wanted_none rfl) (by rw [BigFrame.run_move (.tmp 6) rfl, e6]) rfl
              | 4, ho, hin =>
                have ho' : some _ = some o := ho
                cases ho'
                clear ho
                have e61 := has_const (has_dep hd 2 (by kernel_rfl)) rfl rfl rfl (c := (.slice (some ⟨bA, off, none⟩) m c))
                have e62 := has_const (has_dep hd 3 (by kernel_rfl)) rfl rfl rfl (c := (.int .i64 (k : Int)))
                exact do_value (wanted_none rfl) (v := .pointer (some ⟨bA, off + k * 3, none⟩)) (run_value rfl (by rw [e61, e62]; simp [go_sem]; omega)) rfl
              | 5, ho, hin =>
                have ho' : some _ = some o := ho
                cases ho'
                clear ho
                have e63 := has_const (has_dep hd 4 (by kernel_rfl)) rfl rfl rfl (c := (.pointer (some ⟨bA, off + k * 3, none⟩)))
                exact do_value (wanted_none rfl) (v := .pointer (some ⟨bA, off + k * 3 + 2, none⟩)) (run_value rfl (by rw [e63]; simp [go_sem])) rfl
              | 6, ho, hin =>
                have ho' : some _ = some o := ho
                cases ho'
                clear ho
                have e64 := has_const (has_dep hd 5 (by kernel_rfl)) rfl rfl rfl (c := (.pointer (some ⟨bA, off + k * 3 + 2, none⟩)))
                have x2 := (ht.cell (a := ⟨bA, off + k * 3 + 2, none⟩) lA (by simp)).trans c2
                have lA2 := Nat.lt_of_lt_of_le lA ht.size
                exact do_value (wanted_none rfl) (v := .int .i64 n) (run_value rfl (by rw [e64]; simp [go_sem, x2])) rfl
              | 7, ho, hin =>
                have ho' : some _ = some o := ho
                cases ho'
                clear ho
                have e65 := has_const (has_dep hd 6 (by kernel_rfl)) rfl rfl rfl (c := (.int .i64 n))
                refine do_enter (wanted_none rfl) (f := 24) (args := #[(.int .i64 n)]) (by rw [run_go3 24 _ _ rfl, ent24]; simp [eval_c, e65]) ?_
                exact Calls.leaf ((refSize n _).mono fun e w2 h => ⟨h.1, h.2 ▸ Touch.refl [] _⟩)
              | 8, ho, hin =>
                have ho' : some _ = some o := ho
                cases ho'
                clear ho
                have e60 := has_const (has_dep hd 1 (by kernel_rfl)) rfl rfl rfl (c := (.int .i64 (B 3)))
                have e66 := has_const (has_dep hd 7 (by kernel_rfl)) rfl rfl rfl (c := (.int .i64 (sizeC n)))
                exact do_value (wanted_none rfl) (v := .int .i64 (B 3 + sizeC n)) (run_value rfl (by rw [e60, e66]; simp [go_sem, IntKind.wrap_i64]; omega)) rfl
              | 9, ho, hin =>
                have ho' : some _ = some o := ho
                cases ho'
                clear ho
                have e5 := known_slot hk 5 (by kernel_rfl) (v := .pointer (some ⟨q, 0, none⟩)) rfl
                exact do_value (wanted_none rfl) (v := .pointer (some ⟨q, 3, none⟩)) (run_value rfl (by rw [e5]; simp [go_sem])) rfl
              | 10, ho, hin => exact absurd hin (by omega)
              | q + 11, ho, hin => exact absurd ho (by simp)
            · intro x' w4 T4 hkn
              simp only [putL, Act.put, List.setIfInBounds_toArray, List.set_cons_succ, List.set_cons_zero, List.drop]
              have hq4 := HQ.out.carry T4 (by simp)
              have fq := hq4.fr
              have lq := hq4.lt
              have q1 := hq4.cell 3
              simp only [List.getElem?_toArray, List.getElem?_cons_zero, List.getElem?_cons_succ] at q1
              have Z := Lib.hid (hq4.set 3 (.int .i64 (B 3 + sizeC n)))
              have TZ := Lib.hid ((TT.out.trans T4 (by simp)).setCell (a := ⟨q, 3, none⟩) (.inl (by simp)) (.int .i64 (B 3 + sizeC n)))
              clear hq4 T4 c2
              go_wp2_with fail
              go_roundw
              case rel => exact ⟨k + 1, by omega, by go_num, by rw [EN.out, part1]; exact Z.out, TZ.out⟩
              case measure => simp [intOf]; omega
          · have hn5 : 1 ≤ n ∧ n ≤ 5 := by unfold cntd at hc; simp at hc; omega
            go_wp2_with fail
            refine (RC.out _).mono ?_
            rintro e w2 ⟨rfl, t2⟩
            have HC2 := Lib.hid ((t2.cell (a := ⟨bA, off + k * 3 + 2, none⟩) lA (by simp)).trans c2)
            have c0 := (t2.cell (a := ⟨bA, _, none⟩) lA (by simp)).trans c0
            have hq := HQ0.out.carry t2 (by simp)
            have q0 := hq.cell 0
            have q2 := hq.cell 2
            have q4 := hq.cell 4
            have fq := hq.fr
            have lq := hq.lt
            simp only [List.getElem?_toArray, List.getElem?_cons_zero, List.getElem?_cons_succ] at q0 q2 q4
            have lA := Nat.lt_of_lt_of_le lA t2.size
            have TW := Lib.hid (TR.out.trans t2 (by simp))
            have HQ1 := Lib.hid hq
            clear hq t2 c1 c2 RC TR HQ0
            have Z := Lib.hid (HQ1.out.set 4 (.int .i64 (lostTo B 6 + 1)))
            have TZ := Lib.hid (TW.out.setCell (a := ⟨q, 4, none⟩) (.inl (by simp)) (.int .i64 (lostTo B 6 + 1)))
            clear HC2
            go_wp2_with fail
            go_roundw
            case rel => exact ⟨k + 1, by omega, by go_num, by rw [EN.out, part2 _ _ _ hn5]; exact Z.out, TZ.out⟩
            case measure => simp [intOf]; omega
        · have EN := Lib.hid (show bookOf (playM X (k + 1)) i = bookOf (playM X k) i by rw [ES.out, if_neg (fun h => hc h.2)])
          rw [show decide (cntd ⟨a, i, n⟩) = false by simpa using hc] at RC
          have HQ := Lib.hid hq
          clear ES hq fB
          go_wp2_with fail
          refine (RC.out _).mono ?_
          rintro e w2 ⟨rfl, t2⟩
          have HQ2 := Lib.hid (HQ.out.carry t2 (by simp))
          have TW := Lib.hid (TR.out.trans t2 (by simp))
          clear t2 c0 c1 c2 HQ TR
          go_wp2_with fail
          go_roundw
          case rel => exact ⟨k + 1, by omega, by go_num, by rw [EN.out]; exact HQ2.out, TW.out⟩
          case measure => simp [intOf]; omega
      · have hn : (i != id) = true := by simpa using hi
        have EN := Lib.hid (show bookOf (playM X (k + 1)) id = bookOf (playM X k) id by rw [ES.out, if_neg (fun h => hi h.1.symm)])
        have HQ := Lib.hid hq
        clear ES hq fB
        go_wp2_with fail
        go_roundw
        case rel => exact ⟨k + 1, by omega, by go_num, by rw [EN.out]; exact HQ.out, TR.out⟩
        case measure => simp [intOf]; omega
    · obtain rfl : k = m := by omega
      have hlt' : ¬ (k : Int) < (k : Int) := by omega
      have R3 := Lib.hid (R.out.carry TR.out (by have := EQ.out; simp; omega))
      have b0 := fB 0 (by omega)
      have b2 := fB 2 (by omega)
      have ew : waitB (bookOf (playM X k) id) = max 0 (bookOf (playM X k) id 0 - bookOf (playM X k) id 2) := by unfold waitB; split <;> omega
      have EW := Lib.hid ew
      clear ew HX
      generalize hB : bookOf (playM X k) id = B at *
      have HB := Lib.hid hB
      clear hB
      have q0 := hq.cell 0
      have q1 := hq.cell 1
      have q2 := hq.cell 2
      have q3 := hq.cell 3
      have q4 := hq.cell 4
      have q5 := hq.cell 5
      have fq := hq.fr
      have lq := hq.lt
      have r0 := R3.out.cell 0
      have r1 := R3.out.cell 1
      have r2 := R3.out.cell 2
      have r3 := R3.out.cell 3
      have r4 := R3.out.cell 4
      have r5 := R3.out.cell 5
      have fr := R3.out.fr
      have lr := R3.out.lt
      have nq : g ≠ q := by have := EQ.out; omega
      have nq' : q ≠ g := by omega
      simp only [partV, st6, List.getElem?_toArray, List.getElem?_cons_zero, List.getElem?_cons_succ] at q0 q1 q2 q3 q4 q5 r0 r1 r2 r3 r4 r5
      have R4 := R3.out.carry ((Touch.refl [q] wr).setCell (a := ⟨q, 5, none⟩) (.inl (by simp)) (.int .i64 (max 0 (B 0 - B 2)))) (by simpa using nq)
      have Z := Lib.hid ((((((R4.set 0 (.int .i64 (B 0))).set 1 (.int .i64 (B 1))).set 2 (.int .i64 (B 2))).set 3 (.int .i64 (B 3))).set 4 (.int .i64 (lostTo B 6))).set 5 (.int .i64 (max 0 (B 0 - B 2))))
      have lq' : w.heap.size ≤ q := by have := EQ.out; omega
      have TW := Lib.hid ((T.out.trans TR.out (fun b hb => .inr (by simp at hb; omega))).setCell (a := ⟨q, 5, none⟩) (.inr lq') (.int .i64 (max 0 (B 0 - B 2))))
      clear R4 hq
      go_wp2_with fail
      refine bodyPost_ret (ret_box rfl rfl (show BoxV _ _ 27 #[.int .i64 (B 0), .int .i64 (B 1), .int .i64 (B 2), .int .i64 (B 3), .int .i64 (lostTo B 6), .int .i64 (max 0 (B 0 - B 2))] from Z.out) Try.underlying27 rfl (by kernel_rfl)) rfl ⟨?_, ?_⟩
      · rw [HB.out]
        unfold statV st6
        rw [EW.out]
      · exact (((((TW.out.setCell (.inr lg) _).setCell (.inr lg) _).setCell (.inr lg) _).setCell (.inr lg) _).setCell (.inr lg) _).setCell (.inr lg) _
end
end Go.Proofs.Ytbppccmkmpgibaa
