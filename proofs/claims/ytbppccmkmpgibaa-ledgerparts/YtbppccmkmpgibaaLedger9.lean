/-
  Layer 34 (ledger): Total.
-/
import Derived.Test.YtbppccmkmpgibaaLedger8
namespace Go.Proofs.Ytbppccmkmpgibaa
open Go.ChangeShapes Go.WideShapes Go.ChangeAt Go.RowKit Go.Deep Go.Maps
set_option linter.unusedVariables false
set_option linter.unusedSimpArgs false
/-- A book's Stat by fields. -/
def statF (B : Bk) : Nat → Int
  | 0 => B 0
  | 1 => B 1
  | 2 => B 2
  | 3 => B 3
  | 4 => lostTo B 6
  | 5 => waitB B
  | _ => 0
/-- The Stats of the books of X, added up. -/
def totF (M : Int → Option Bk) (X : List Int) (k : Nat) : Int := (X.map fun i => statF (bookOf M i) k).sum
theorem totF_append (M : Int → Option Bk) (X : List Int) (x : Int) (k : Nat) : totF M (X ++ [x]) k = totF M X k + statF (bookOf M x) k := by simp [totF]
theorem lostTo_few {B : Bk} {c : Int} (hB : Few B c) : ∀ k, k ≤ 6 → 0 ≤ lostTo B k ∧ lostTo B k ≤ c * k
  | 0, _ => by unfold lostTo; omega
  | k + 1, h => by
    have h1 := lostTo_few hB k (by omega)
    have h2 := hB (4 + k) (by omega)
    have e : (c * ((k + 1 : Nat) : Int)) = c * k + c := by rw [Int.natCast_add, Int.mul_add]; simp
    unfold lostTo
    omega
theorem statF_few {B : Bk} (hB : Few B 200000) (k : Nat) : 0 ≤ statF B k ∧ statF B k ≤ 1200000 := by
  have h0 := hB 0 (by omega)
  have h1 := hB 1 (by omega)
  have h2 := hB 2 (by omega)
  have h3 := hB 3 (by omega)
  have h4 : 0 ≤ lostTo B 6 ∧ lostTo B 6 ≤ 1200000 := by
    have := lostTo_few hB 6 (by omega)
    omega
  unfold statF
  split
  · omega
  · omega
  · omega
  · omega
  · exact h4
  · unfold waitB
    split <;> omega
  · omega
theorem totF_few {M : Int → Option Bk} (hB : ∀ i, Few (bookOf M i) 200000) (k : Nat) : ∀ X : List Int, 0 ≤ totF M X k ∧ totF M X k ≤ 1200000 * X.length
  | [] => by simp [totF]
  | x :: X => by
    have h := totF_few hB k X
    have h1 := statF_few (hB x) k
    have e : totF M (x :: X) k = statF (bookOf M x) k + totF M X k := by simp [totF]
    rw [e, List.length_cons]
    omega
section
variable {w w' : World} {p b s : Nat} {M : Int → Option Bk}
theorem ent7 (args : Array Value) (w : World) : (callFunc 7 args).run Try.prog w = .ok (.enter 7 args) w := by
  simp [callFunc, Try.func7]
  rfl
theorem ent27 (args : Array Value) (w : World) : (callFunc 27 args).run Try.prog w = .ok (.enter 27 args) w := by
  simp [callFunc, Try.func27]
  rfl
set_option maxRecDepth 100000 in
set_option maxHeartbeats 6400000 in
theorem total_any (h : LgAt w p b s M) (hs : s ≤ 100) (hB : ∀ i, Few (bookOf M i) 200000) :
    Calls Try.prog 14 #[.pointer (some ⟨p, 0, none⟩)] w fun e w' => ∃ X, IdsOf M X ∧ e = .returned (.agg #[.int .i64 (totF M X 0), .int .i64 (totF M X 1), .int .i64 (totF M X 2), .int .i64 (totF M X 3), .int .i64 (totF M X 4), .int .i64 (totF M X 5)]) ∧ Touch [] w w' := by
  have h1 := h.new (((Touch.refl [] w).alloc (.cells #[.int .i64 0, .int .i64 0, .int .i64 0, .int .i64 0, .int .i64 0, .int .i64 0] 27)).alloc (.cells #[.int .i64 0, .int .i64 0, .int .i64 0, .int .i64 0, .int .i64 0, .int .i64 0] 27))
  have I := Lib.hid (ids_any h1 (by omega))
  have R := Lib.hid (show BoxV ((w.alloc (.cells #[.int .i64 0, .int .i64 0, .int .i64 0, .int .i64 0, .int .i64 0, .int .i64 0] 27)).alloc (.cells #[.int .i64 0, .int .i64 0, .int .i64 0, .int .i64 0, .int .i64 0, .int .i64 0] 27)) w.heap.size 27 #[.int .i64 0, .int .i64 0, .int .i64 0, .int .i64 0, .int .i64 0, .int .i64 0] from (BoxV.new w 27 #[.int .i64 0, .int .i64 0, .int .i64 0, .int .i64 0, .int .i64 0, .int .i64 0]).carry ((Touch.refl [] _).alloc _) (by simp))
  have hr := BoxV.new (w.alloc (.cells #[.int .i64 0, .int .i64 0, .int .i64 0, .int .i64 0, .int .i64 0, .int .i64 0] 27)) 27 #[.int .i64 0, .int .i64 0, .int .i64 0, .int .i64 0, .int .i64 0, .int .i64 0]
  rw [show (w.alloc (.cells #[.int .i64 0, .int .i64 0, .int .i64 0, .int .i64 0, .int .i64 0, .int .i64 0] 27)).heap.size = w.heap.size + 1 by simp] at hr
  have Q := Lib.hid hr
  have T := Lib.hid (((Touch.refl [] w).alloc (.cells #[.int .i64 0, .int .i64 0, .int .i64 0, .int .i64 0, .int .i64 0, .int .i64 0] 27)).alloc (.cells #[.int .i64 0, .int .i64 0, .int .i64 0, .int .i64 0, .int .i64 0, .int .i64 0] 27))
  have H := Lib.hid h1
  have HB := Lib.hid hB
  have h0 := h
  clear hr h h1 hB
  go_enter Try.func14, Try.ntmps14
  go_wp2_with fail
  have e0 : w.heap.size + 1 < ((w.alloc (.cells #[.int .i64 0, .int .i64 0, .int .i64 0, .int .i64 0, .int .i64 0, .int .i64 0] 27)).alloc (.cells #[.int .i64 0, .int .i64 0, .int .i64 0, .int .i64 0, .int .i64 0, .int .i64 0] 27)).heap.size := by simp
  generalize (w.alloc (.cells #[.int .i64 0, .int .i64 0, .int .i64 0, .int .i64 0, .int .i64 0, .int .i64 0] 27)).alloc (.cells #[.int .i64 0, .int .i64 0, .int .i64 0, .int .i64 0, .int .i64 0, .int .i64 0] 27) = w0 at *
  refine (I.out).mono ?_
  rintro e w1 ⟨A, c, X, rfl, hrow, hX, hXs, t1⟩
  have HX := Lib.hid hX
  have RW := Lib.hid (rowDown hrow (show w.heap.size ≤ w0.heap.size from T.out.size))
  have H1 := Lib.hid (H.out.new t1)
  have R1 := Lib.hid (R.out.carry t1 (by simp))
  have Q1 := Lib.hid (Q.out.carry t1 (by simp))
  have TT := Lib.hid (T.out.trans t1 (by simp))
  have L0 := Lib.hid (show Value.slice A X.length c = .slice A X.length c ∧ ∀ g, (Value.slice A X.length c).ownBlock = some g → w0.heap.size ≤ g from ⟨rfl, fun g hg => rowBase hrow hg⟩)
  have lw := T.out.size
  have H0 := Lib.hid (show p < w.heap.size ∧ b < w.heap.size from ⟨h0.box.lt, h0.map.lt⟩)
  clear hrow hX t1 I H R Q T h0
  generalize eg : w.heap.size = g at *
  have lg := Nat.le_of_eq eg
  go_wp2_with fail
  go_loopw [9] (fun v wr => ∃ k : Nat, k ≤ X.length ∧ v = .int .i64 (k : Int) ∧ BoxV wr (g + 1) 27 #[.int .i64 (totF M (X.take k) 0), .int .i64 (totF M (X.take k) 1), .int .i64 (totF M (X.take k) 2), .int .i64 (totF M (X.take k) 3), .int .i64 (totF M (X.take k) 4), .int .i64 (totF M (X.take k) 5)] ∧ Touch [g + 1] w1 wr)
    (fun v _ => X.length - (intOf v).toNat)
  case atStart => exact ⟨0, by omega, rfl, Q1.out, Touch.refl _ _⟩
  case round =>
    obtain ⟨k, hk, rfl, hq, ht⟩ := hrel
    have TR := Lib.hid ht
    have HQ := Lib.hid hq
    clear hq ht Q1
    by_cases hlt : k < X.length
    · obtain ⟨x, hx⟩ : ∃ x, X[k]? = some x := ⟨_, List.getElem?_eq_getElem hlt⟩
      have hxi : i64k x := ((HX.out.2 x).1 (List.mem_of_getElem? hx)).1
      have hrw := TR.out.row RW.out (fun g' hg' hm => by have := L0.out.2 g' hg'; simp at hm; omega)
      obtain ⟨gA, rfl, hbA, hlA, cA⟩ := row_cell hrw hx
      have tk : ∀ i, totF M (X.take (k + 1)) i = totF M (X.take k) i + statF (bookOf M x) i := fun i => by rw [List.take_add_one, hx]; exact totF_append M _ x i
      have OF := Lib.hid (show ∀ w2, Touch [g + 1] w1 w2 → Calls Try.prog 7 #[.pointer (some ⟨p, 0, none⟩), .int .i64 x] w2 fun e w' => e = .returned (.agg (statV (bookOf M x))) ∧ Touch [] w2 w' from fun w2 t => of_any (H1.out.carry t (by have := H0.out.1; simp; omega) (by have := H0.out.2; simp; omega)) x hxi (fun i hi => by have := HB.out x i hi; omega))
      have SM := Lib.hid (show ∀ w, Calls Try.prog 27 _ w _ from fun w => sum_any (totF M (X.take k)) (statF (bookOf M x)) (fun i _ => by have := totF_few HB.out i (X.take k); have := List.length_take_le k X; omega) (fun i _ => by have := statF_few (HB.out x) i; omega) w)
      have HTK := Lib.hid tk
      have HXK := Lib.hid hx
      clear tk hx
      unfold statV st6 at OF
      generalize eS : totF M (X.take k) = S at *
      have eC : ∀ i, statF (bookOf M x) i = statF (bookOf M x) i := fun _ => rfl
      change Hid (∀ w2, Touch [g + 1] w1 w2 → Calls Try.prog 7 #[.pointer (some ⟨p, 0, none⟩), .int .i64 x] w2 fun e w' => e = .returned (.agg #[.int .i64 (statF (bookOf M x) 0), .int .i64 (statF (bookOf M x) 1), .int .i64 (statF (bookOf M x) 2), .int .i64 (statF (bookOf M x) 3), .int .i64 (statF (bookOf M x) 4), .int .i64 (statF (bookOf M x) 5)]) ∧ Touch [] w2 w') at OF
      generalize statF (bookOf M x) = C at *
      have hlt' : (k : Int) < (X.length : Int) := by omega
      clear hrw eC eS
      go_upto_region 5 with fail
      refine wp_region_store (wd := wr) 5 (Leaf.const (.agg #[.int .i64 (S 0), .int .i64 (S 1), .int .i64 (S 2), .int .i64 (S 3), .int .i64 (S 4), .int .i64 (S 5)]) :: Leaf.const (.pointer (some ⟨p, 0, none⟩)) :: Leaf.const (.int .i64 x) :: Leaf.const (.agg #[.int .i64 (C 0), .int .i64 (C 1), .int .i64 (C 2), .int .i64 (C 3), .int .i64 (C 4), .int .i64 (C 5)]) :: Leaf.const (.agg #[.int .i64 (S 0 + C 0), .int .i64 (S 1 + C 1), .int .i64 (S 2 + C 2), .int .i64 (S 3 + C 3), .int .i64 (S 4 + C 4), .int .i64 (S 5 + C 5)]) :: Leaf.const undef :: []) (by kernel_rfl) (by kernel_rfl) (by kernel_rfl) (by kernel_rfl) ((Touch.refl _ _).drew) (trivial) ?_ ?_
      · intro i o ho hin ac w ht hk hd
        match i, ho, hin with
        | 0, ho, hin =>
          have ho' : some _ = some o := ho
          cases ho'
          clear ho
          have e3 := known_slot hk 3 (by kernel_rfl) (v := .pointer (some ⟨g + 1, 0, none⟩)) rfl
          have hq := HQ.out.carry ht (by simp)
          have q0 := hq.cell 0
          have q1 := hq.cell 1
          have q2 := hq.cell 2
          have q3 := hq.cell 3
          have q4 := hq.cell 4
          have q5 := hq.cell 5
          simp only [List.getElem?_toArray, List.getElem?_cons_zero, List.getElem?_cons_succ] at q0 q1 q2 q3 q4 q5
          have lq := hq.lt
          exact do_value (wanted_none rfl) (v := .agg #[.int .i64 (S 0), .int .i64 (S 1), .int .i64 (S 2), .int .i64 (S 3), .int .i64 (S 4), .int .i64 (S 5)]) (run_value rfl (by rw [e3]; simp [go_sem, q0, q1, q2, q3, q4, q5])) rfl
        | 1, ho, hin =>
          have ho' : some _ = some o := ho
          cases ho'
          clear ho
          have e0 := known_slot hk 0 (by kernel_rfl) (v := .pointer (some ⟨p, 0, none⟩)) rfl
          exact do_value (wanted_none rfl) (by rw [BigFrame.run_move (.tmp 0) rfl, e0]) rfl
        | 2, ho, hin =>
          have ho' : some _ = some o := ho
          cases ho'
          clear ho
          have e5 := known_slot hk 5 (by kernel_rfl) (v := .int .i64 x) rfl
          exact do_value (wanted_none rfl) (by rw [BigFrame.run_move (.tmp 5) rfl, e5]) rfl
        | 3, ho, hin =>
          have ho' : some _ = some o := ho
          cases ho'
          clear ho
          have e14 := has_const (has_dep hd 1 (by kernel_rfl)) rfl rfl rfl (c := (.pointer (some ⟨p, 0, none⟩)))
          have e15 := has_const (has_dep hd 2 (by kernel_rfl)) rfl rfl rfl (c := (.int .i64 x))
          refine do_enter (wanted_none rfl) (f := 7) (args := #[(.pointer (some ⟨p, 0, none⟩)), (.int .i64 x)]) (by rw [run_go3 7 _ _ rfl, ent7]; simp [eval_c, e14, e15]) ?_
          exact Calls.leaf (OF.out _ (TR.out.trans ht (by simp)))
        | 4, ho, hin =>
          have ho' : some _ = some o := ho
          cases ho'
          clear ho
          have e13 := has_const (has_dep hd 0 (by kernel_rfl)) rfl rfl rfl (c := (.agg #[.int .i64 (S 0), .int .i64 (S 1), .int .i64 (S 2), .int .i64 (S 3), .int .i64 (S 4), .int .i64 (S 5)]))
          have e16 := has_const (has_dep hd 3 (by kernel_rfl)) rfl rfl rfl (c := (.agg #[.int .i64 (C 0), .int .i64 (C 1), .int .i64 (C 2), .int .i64 (C 3), .int .i64 (C 4), .int .i64 (C 5)]))
          refine do_enter (wanted_none rfl) (f := 27) (args := #[(.agg #[.int .i64 (S 0), .int .i64 (S 1), .int .i64 (S 2), .int .i64 (S 3), .int .i64 (S 4), .int .i64 (S 5)]), (.agg #[.int .i64 (C 0), .int .i64 (C 1), .int .i64 (C 2), .int .i64 (C 3), .int .i64 (C 4), .int .i64 (C 5)])]) (by rw [run_go3 27 _ _ rfl, ent27]; simp [eval_c, e13, e16]) ?_
          exact Calls.leaf (SM.out _)
        | 5, ho, hin => exact absurd hin (by omega)
        | q + 6, ho, hin => exact absurd ho (by simp)
      · intro x' w3 T3 hkn
        simp only [putL, Act.put, List.setIfInBounds_toArray, List.set_cons_succ, List.set_cons_zero, List.drop]
        have Q3 := Lib.hid (HQ.out.carry T3 (by simp))
        have T2 := Lib.hid (TR.out.trans T3 (by simp))
        have r0 := Q3.out.cell 0
        have r1 := Q3.out.cell 1
        have r2 := Q3.out.cell 2
        have r3 := Q3.out.cell 3
        have r4 := Q3.out.cell 4
        have r5 := Q3.out.cell 5
        have fr := Q3.out.fr
        have lr := Q3.out.lt
        simp only [List.getElem?_toArray, List.getElem?_cons_zero, List.getElem?_cons_succ] at r0 r1 r2 r3 r4 r5
        have hz := ((((((Q3.out.set 0 (.int .i64 (S 0 + C 0))).set 1 (.int .i64 (S 1 + C 1))).set 2 (.int .i64 (S 2 + C 2))).set 3 (.int .i64 (S 3 + C 3))).set 4 (.int .i64 (S 4 + C 4))).set 5 (.int .i64 (S 5 + C 5)))
        have Z := Lib.hid hz
        clear hz T3 cA
        go_wp2_with fail
        go_roundw
        case rel =>
          refine ⟨k + 1, by omega, by go_num, ?_, ?_⟩
          · simp only [HTK.out]
            exact Z.out
          · exact (((((T2.out.setCell (.inl (by simp)) _).setCell (.inl (by simp)) _).setCell (.inl (by simp)) _).setCell (.inl (by simp)) _).setCell (.inl (by simp)) _).setCell (.inl (by simp)) _
        case measure => simp [intOf]; omega
    · obtain rfl : k = X.length := by omega
      rw [List.take_length] at HQ
      have hq := HQ.out
      have R3 := Lib.hid (R1.out.carry TR.out (by simp))
      have q0 := hq.cell 0
      have q1 := hq.cell 1
      have q2 := hq.cell 2
      have q3 := hq.cell 3
      have q4 := hq.cell 4
      have q5 := hq.cell 5
      have lq := hq.lt
      have r0 := R3.out.cell 0
      have r1 := R3.out.cell 1
      have r2 := R3.out.cell 2
      have r3 := R3.out.cell 3
      have r4 := R3.out.cell 4
      have r5 := R3.out.cell 5
      have fr := R3.out.fr
      have lr := R3.out.lt
      generalize eS : totF M X = S at *
      simp only [List.getElem?_toArray, List.getElem?_cons_zero, List.getElem?_cons_succ] at r0 r1 r2 r3 r4 r5 q0 q1 q2 q3 q4 q5
      have Z := Lib.hid ((((((R3.out.set 0 (.int .i64 (S 0))).set 1 (.int .i64 (S 1))).set 2 (.int .i64 (S 2))).set 3 (.int .i64 (S 3))).set 4 (.int .i64 (S 4))).set 5 (.int .i64 (S 5)))
      have ES := Lib.hid eS
      have TW := Lib.hid (TT.out.trans TR.out (fun b hb => .inr (by simp at hb; omega)))
      clear hq eS hlt hk
      go_wp2_with fail
      refine bodyPost_ret (ret_box rfl rfl (show BoxV _ _ 27 #[.int .i64 (S 0), .int .i64 (S 1), .int .i64 (S 2), .int .i64 (S 3), .int .i64 (S 4), .int .i64 (S 5)] from Z.out) Try.underlying27 rfl (by kernel_rfl)) rfl ⟨X, HX.out, ?_, ?_⟩
      · rw [ES.out]
      · exact (((((TW.out.setCell (.inr lg) _).setCell (.inr lg) _).setCell (.inr lg) _).setCell (.inr lg) _).setCell (.inr lg) _).setCell (.inr lg) _
end
end Go.Proofs.Ytbppccmkmpgibaa
