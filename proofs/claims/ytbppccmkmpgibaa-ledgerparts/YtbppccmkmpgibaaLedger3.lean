/-
  Layer 34 (ledger): a ledger in memory; enter, New, Got, Sent, Lost.
-/
import Derived.Test.YtbppccmkmpgibaaLedger2
import Derived.Deep.Cut
namespace Go.Proofs.Ytbppccmkmpgibaa
open Go.ChangeShapes Go.WideShapes Go.ChangeAt Go.RowKit Go.Deep Go.Maps
set_option linter.unusedVariables false
set_option linter.unusedSimpArgs false
def vals (M : Int → Option Bk) : Int → Option Value := fun i => (M i).map fun B => .agg (bk B)
/-- A ledger at block p, whose map at block b holds the books M. -/
structure LgAt (w : World) (p b s : Nat) (M : Int → Option Bk) : Prop where
  box : Box1 w p 52 (.map (some b))
  map : IMap Try.prog 3 w b s (vals M)
def bookOf (M : Int → Option Bk) (id : Int) : Bk := (M id).getD fun _ => 0
def putB (M : Int → Option Bk) (id : Int) (B : Bk) : Int → Option Bk := fun j => if j = id then some B else M j
/-- How many books there are then. -/
def grown (M : Int → Option Bk) (id : Int) (s : Nat) : Nat := if (M id).isSome then s else s + 1
theorem vals_put (M : Int → Option Bk) (id : Int) (B : Bk) : put (vals M) id (some (.agg (bk B))) = vals (putB M id B) := by
  funext j
  unfold put vals putB
  split <;> rfl
theorem zero_book (w : World) : (zeroValue 49).run Try.prog w = .ok (.agg #[.int .i64 0, .int .i64 0, .int .i64 0, .int .i64 0, .int .i64 0, .int .i64 0, .int .i64 0, .int .i64 0, .int .i64 0, .int .i64 0]) w := by kernel_rfl
section
variable {w w' : World} {p b s : Nat} {M : Int → Option Bk}
theorem LgAt.ne (h : LgAt w p b s M) : p ≠ b := h.map.notCell rfl h.box.c0
theorem LgAt.carry {S : List Nat} (h : LgAt w p b s M) (t : Touch S w w') (hp : p ∉ S) (hb : b ∉ S) : LgAt w' p b s M := ⟨h.box.carry t hp, h.map.carry t hb⟩
theorem LgAt.new (h : LgAt w p b s M) (t : Touch [] w w') : LgAt w' p b s M := h.carry t (by simp) (by simp)
theorem LgAt.look (h : LgAt w p b s M) (id : Int) (hi : i64k id) : (Instr.lookup 50 (.map (some b)) (.int .i64 id) false).run Try.prog w = .ok (.agg (bk (bookOf M id))) w := by
  have := h.map.look Try.underlying3 Try.underlying50 (zero_book w) hi
  rw [this]
  unfold vals bookOf
  cases M id <;> rfl
set_option maxHeartbeats 3200000 in
set_option maxRecDepth 100000 in
theorem enter_any (h : LgAt w p b s M) (hs : s < 1000) (id : Int) (hi : i64k id) (B' : Bk) {k : FuncId} {z : Nat} (hent : ∀ args w, (callFunc k args).run Try.prog w = .ok (.enter k args) w)
    (H : Hid (∀ w1 q, Touch [] w w1 → BoxV w1 q 49 (bk (bookOf M id)) → Calls Try.prog k #[.pointer (some ⟨q, 0, none⟩), .pointer (some ⟨z, 0, none⟩)] w1 fun e w' => e = .returned (.tuple #[]) ∧ BoxV w' q 49 (bk B') ∧ Touch [q] w1 w')) :
    Calls Try.prog 28 #[.pointer (some ⟨p, 0, none⟩), .int .i64 id, .func (.func k) #[] #[.pointer (some ⟨z, 0, none⟩)]] w fun e w' => e = .returned (.tuple #[]) ∧ LgAt w' p b (grown M id s) (putB M id B') ∧ Touch [b] w w' := by
  have kL := h.look id hi
  have c0 := h.box.c0
  have lp := h.box.lt
  have H0 := Lib.hid h
  have t1 : Touch [] w (w.alloc (.cells #[.int .i64 (bookOf M id 0), .int .i64 (bookOf M id 1), .int .i64 (bookOf M id 2), .int .i64 (bookOf M id 3), .int .i64 (bookOf M id 4), .int .i64 (bookOf M id 5), .int .i64 (bookOf M id 6), .int .i64 (bookOf M id 7), .int .i64 (bookOf M id 8), .int .i64 (bookOf M id 9)] 49)) := (Touch.refl [] w).alloc _
  have HB1 := Lib.hid (show BoxV (w.alloc (.cells #[.int .i64 (bookOf M id 0), .int .i64 (bookOf M id 1), .int .i64 (bookOf M id 2), .int .i64 (bookOf M id 3), .int .i64 (bookOf M id 4), .int .i64 (bookOf M id 5), .int .i64 (bookOf M id 6), .int .i64 (bookOf M id 7), .int .i64 (bookOf M id 8), .int .i64 (bookOf M id 9)] 49)) w.heap.size 49 (bk (bookOf M id)) from BoxV.new w 49 (bk (bookOf M id)))
  have H1 := Lib.hid (h.new t1)
  have T1 := Lib.hid t1
  have lb := h.map.lt
  unfold bk at kL
  clear h t1
  go_enter Try.func28, Try.ntmps28
  go_wp2_with fail
  generalize w.alloc (.cells #[.int .i64 (bookOf M id 0), .int .i64 (bookOf M id 1), .int .i64 (bookOf M id 2), .int .i64 (bookOf M id 3), .int .i64 (bookOf M id 4), .int .i64 (bookOf M id 5), .int .i64 (bookOf M id 6), .int .i64 (bookOf M id 7), .int .i64 (bookOf M id 8), .int .i64 (bookOf M id 9)] 49) = w1 at *
  refine (H.out w1 w.heap.size T1.out HB1.out).mono ?_
  rintro e w2 ⟨rfl, hq, t2⟩
  have H2 := Lib.hid (H1.out.carry t2 (by simp; omega) (by simp; omega))
  have HQ := Lib.hid hq
  have T2 := Lib.hid (T1.out.trans t2 (fun b hb => .inr (by simp at hb; omega)))
  clear hq t2 H HB1 kL c0 H1 T1
  generalize w.heap.size = q at *
  go_upto_region 3 with fail
  refine wp_region_store (wd := w2) 6 (Leaf.const (.pointer (some ⟨p, 0, none⟩)) :: Leaf.const ((.pointer (some ⟨p, 0, none⟩))) :: Leaf.const (.pointer (some ⟨p, 0, none⟩)) :: Leaf.const (.map (some b)) :: Leaf.const (.int .i64 id) :: Leaf.const (.agg #[.int .i64 (B' 0), .int .i64 (B' 1), .int .i64 (B' 2), .int .i64 (B' 3), .int .i64 (B' 4), .int .i64 (B' 5), .int .i64 (B' 6), .int .i64 (B' 7), .int .i64 (B' 8), .int .i64 (B' 9)]) :: Leaf.const undef :: []) (by kernel_rfl) (by kernel_rfl) (by kernel_rfl) (by kernel_rfl) ((Touch.refl _ _).drew) (trivial) ?_ ?_
  · intro i o ho hin ac w ht hk hd
    match i, ho, hin with
    | 0, ho, hin =>
      have ho' : some _ = some o := ho
      cases ho'
      clear ho
      have e0 := known_slot hk 0 (by kernel_rfl) (v := .pointer (some ⟨p, 0, none⟩)) rfl
      exact do_value (wanted_none rfl) (by rw [BigFrame.run_move (.tmp 0) rfl, e0]) rfl
    | 1, ho, hin =>
      have ho' : some _ = some o := ho
      cases ho'
      clear ho
      have e17 := has_const (has_dep hd 0 (by kernel_rfl)) rfl rfl rfl (c := (.pointer (some ⟨p, 0, none⟩)))
      exact do_value (wanted_none rfl) (v := (.pointer (some ⟨p, 0, none⟩))) (by unfold execOp; simp only [e17]; rfl) rfl
    | 2, ho, hin =>
      have ho' : some _ = some o := ho
      cases ho'
      clear ho
      have e18 := has_const (has_dep hd 1 (by kernel_rfl)) rfl rfl rfl (c := (.pointer (some ⟨p, 0, none⟩)))
      exact do_value (wanted_none rfl) (v := .pointer (some ⟨p, 0, none⟩)) (run_value rfl (by rw [e18]; simp [go_sem])) rfl
    | 3, ho, hin =>
      have ho' : some _ = some o := ho
      cases ho'
      clear ho
      have e19 := has_const (has_dep hd 2 (by kernel_rfl)) rfl rfl rfl (c := (.pointer (some ⟨p, 0, none⟩)))
      have c0 := (H2.out.carry ht (by simp) (by simp)).box.c0
      exact do_value (wanted_none rfl) (v := .map (some b)) (run_value rfl (by rw [e19]; simp [go_sem, c0])) rfl
    | 4, ho, hin =>
      have ho' : some _ = some o := ho
      cases ho'
      clear ho
      have e1 := known_slot hk 1 (by kernel_rfl) (v := .int .i64 id) rfl
      exact do_value (wanted_none rfl) (by rw [BigFrame.run_move (.tmp 1) rfl, e1]) rfl
    | 5, ho, hin =>
      have ho' : some _ = some o := ho
      cases ho'
      clear ho
      have e6 := known_slot hk 6 (by kernel_rfl) (v := .pointer (some ⟨q, 0, none⟩)) rfl
      have hq := HQ.out.carry ht (by simp)
      have q0 := hq.cell 0
      have q1 := hq.cell 1
      have q2 := hq.cell 2
      have q3 := hq.cell 3
      have q4 := hq.cell 4
      have q5 := hq.cell 5
      have q6 := hq.cell 6
      have q7 := hq.cell 7
      have q8 := hq.cell 8
      have q9 := hq.cell 9
      simp only [bk, List.getElem?_toArray, List.getElem?_cons_zero, List.getElem?_cons_succ] at q0 q1 q2 q3 q4 q5 q6 q7 q8 q9
      have lq := hq.lt
      exact do_value (wanted_none rfl) (v := .agg #[.int .i64 (B' 0), .int .i64 (B' 1), .int .i64 (B' 2), .int .i64 (B' 3), .int .i64 (B' 4), .int .i64 (B' 5), .int .i64 (B' 6), .int .i64 (B' 7), .int .i64 (B' 8), .int .i64 (B' 9)]) (run_value rfl (by rw [e6]; simp [go_sem, q0, q1, q2, q3, q4, q5, q6, q7, q8, q9])) rfl
    | 6, ho, hin => exact absurd hin (by omega)
    | q + 7, ho, hin => exact absurd ho (by simp)
  · intro x w3 T3 hkn
    simp only [putL, Act.put, List.setIfInBounds_toArray, List.set_cons_succ, List.set_cons_zero, List.drop]
    obtain ⟨w4, hrun, hm, t4⟩ := (H2.out.carry T3 (by simp) (by simp)).map.store Try.underlying3 Try.underlying50 (by unfold maxLen; omega) hi (.agg (bk B'))
    rw [vals_put] at hm
    have HL := Lib.hid (show LgAt w4 p b (grown M id s) (putB M id B') from ⟨(H2.out.carry T3 (by simp) (by simp)).box.carry t4 (by have := H2.out.ne; simpa using this), by
      have e : (vals M id).isSome = (M id).isSome := by unfold vals; cases M id <;> rfl
      unfold grown
      rw [← e]
      exact hm⟩)
    have HT := Lib.hid (((T2.out.trans T3 (by simp)).mono (S' := [b]) (by simp)).trans t4 (fun b hb => .inl hb))
    unfold bk at hrun
    clear hm t4 T3 hkn H2 T2 HQ
    go_wp2_with fail
    go_end0
    exact ⟨rfl, HL.out, HT.out⟩
theorem entGot (args : Array Value) (w : World) : (callFunc 29 args).run Try.prog w = .ok (.enter 29 args) w := by
  simp [callFunc, Try.func29]
  rfl
set_option maxRecDepth 100000 in
theorem got_any (h : LgAt w p b s M) (hs : s < 1000) (id : Int) (hi : i64k id) (n : Int) (hB : Few (bookOf M id) 100000000) :
    Calls Try.prog 16 #[.pointer (some ⟨p, 0, none⟩), .int .i64 id, .int .i64 n] w fun e w' => e = .returned (.tuple #[]) ∧ LgAt w' p b (grown M id s) (putB M id (tally (bookOf M id) 0 n)) ∧ Touch [b] w w' := by
  have t1 : Touch [] w (w.alloc (.cells #[.int .i64 n] 3)) := (Touch.refl [] w).alloc _
  have HZ := Lib.hid (Box1.new w 3 (.int .i64 n))
  have T1 := Lib.hid t1
  have E := Lib.hid (enter_any (h.new t1) hs id hi (tally (bookOf M id) 0 n) entGot (Lib.hid fun w1 q t hb => got_clos n hb (HZ.out.carry t (by simp)) hB))
  clear h t1 hB
  go_enter Try.func16, Try.ntmps16
  go_wp2_with fail
  refine (E.out).mono ?_
  rintro e w2 ⟨rfl, h2, t2⟩
  have H2 := Lib.hid h2
  have T2 := Lib.hid ((T1.out.mono (S' := [b]) (by simp)).trans t2 (fun b hb => .inl hb))
  clear h2 t2 E
  go_wp2_with fail
  go_end0
  exact ⟨rfl, H2.out, T2.out⟩
theorem entSent (args : Array Value) (w : World) : (callFunc 31 args).run Try.prog w = .ok (.enter 31 args) w := by
  simp [callFunc, Try.func31]
  rfl
set_option maxRecDepth 100000 in
theorem sent_any (h : LgAt w p b s M) (hs : s < 1000) (id : Int) (hi : i64k id) (n : Int) (hB : Few (bookOf M id) 100000000) :
    Calls Try.prog 17 #[.pointer (some ⟨p, 0, none⟩), .int .i64 id, .int .i64 n] w fun e w' => e = .returned (.tuple #[]) ∧ LgAt w' p b (grown M id s) (putB M id (tally (bookOf M id) 2 n)) ∧ Touch [b] w w' := by
  have t1 : Touch [] w (w.alloc (.cells #[.int .i64 n] 3)) := (Touch.refl [] w).alloc _
  have HZ := Lib.hid (Box1.new w 3 (.int .i64 n))
  have T1 := Lib.hid t1
  have E := Lib.hid (enter_any (h.new t1) hs id hi (tally (bookOf M id) 2 n) entSent (Lib.hid fun w1 q t hb => sent_clos n hb (HZ.out.carry t (by simp)) hB))
  clear h t1 hB
  go_enter Try.func17, Try.ntmps17
  go_wp2_with fail
  refine (E.out).mono ?_
  rintro e w2 ⟨rfl, h2, t2⟩
  have H2 := Lib.hid h2
  have T2 := Lib.hid ((T1.out.mono (S' := [b]) (by simp)).trans t2 (fun b hb => .inl hb))
  clear h2 t2 E
  go_wp2_with fail
  go_end0
  exact ⟨rfl, H2.out, T2.out⟩
theorem isReason_any (n : Int) (w : World) : Calls Try.prog 25 #[.int .i64 n] w fun e w' => e = .returned (.bool (decide (0 < n ∧ n < 6))) ∧ w' = w := by
  by_cases h0 : 0 < n
  · have d0 : decide (0 < n) = true := by simpa using h0
    by_cases h1 : n < 6
    · have d1 : decide (n < 6) = true := by simpa using h1
      rw [show decide (0 < n ∧ n < 6) = true by simp; omega]
      go_enter Try.func25, Try.ntmps25
      go_wp2_with fail
      go_ret
      exact ⟨rfl, rfl⟩
    · have d1 : decide (n < 6) = false := by simpa using h1
      rw [show decide (0 < n ∧ n < 6) = false by simp; omega]
      go_enter Try.func25, Try.ntmps25
      go_wp2_with fail
      go_ret
      exact ⟨rfl, rfl⟩
  · have d0 : decide (0 < n) = false := by simpa using h0
    rw [show decide (0 < n ∧ n < 6) = false by simp; omega]
    go_enter Try.func25, Try.ntmps25
    go_wp2_with fail
    go_ret
    exact ⟨rfl, rfl⟩
theorem entLost (args : Array Value) (w : World) : (callFunc 32 args).run Try.prog w = .ok (.enter 32 args) w := by
  simp [callFunc, Try.func32]
  rfl
set_option maxRecDepth 100000 in
theorem lost_yes (h : LgAt w p b s M) (hs : s < 1000) (id : Int) (hi : i64k id) (r : Nat) (h1 : 1 ≤ r) (h6 : r < 6) (hB : Few (bookOf M id) 100000000) :
    Calls Try.prog 18 #[.pointer (some ⟨p, 0, none⟩), .int .i64 id, .int .i64 (r : Int)] w fun e w' => e = .returned (.tuple #[]) ∧ LgAt w' p b (grown M id s) (putB M id (lostB (bookOf M id) (4 + r))) ∧ Touch [b] w w' := by
  have t1 : Touch [] w (w.alloc (.cells #[.int .i64 (r : Int)] 3)) := (Touch.refl [] w).alloc _
  have HZ := Lib.hid (Box1.new w 3 (.int .i64 (r : Int)))
  have T1 := Lib.hid t1
  have E := Lib.hid (enter_any (h.new t1) hs id hi (lostB (bookOf M id) (4 + r)) entLost (Lib.hid fun w1 q t hb => lost_clos hb (HZ.out.carry t (by simp)) h6 hB))
  have I := Lib.hid (isReason_any (r : Int) (w.alloc (.cells #[.int .i64 (r : Int)] 3)))
  rw [show decide (0 < (r : Int) ∧ (r : Int) < 6) = true by simp; omega] at I
  have c0 := HZ.out.c0
  have lz := HZ.out.lt
  clear h t1 hB
  go_enter Try.func18, Try.ntmps18
  go_wp2_with fail
  refine (I.out).mono ?_
  rintro e w1 ⟨rfl, hw⟩
  rw [hw]
  clear hw w1
  go_wp2_with fail
  refine (E.out).mono ?_
  rintro e w2 ⟨rfl, h2, t2⟩
  have H2 := Lib.hid h2
  have T2 := Lib.hid ((T1.out.mono (S' := [b]) (by simp)).trans t2 (fun b hb => .inl hb))
  clear h2 t2 E
  go_wp2_with fail
  go_end0
  exact ⟨rfl, H2.out, T2.out⟩
set_option maxRecDepth 100000 in
theorem lost_no (q : Option Addr) (id n : Int) (hn : n < 1 ∨ 6 ≤ n) (w : World) :
    Calls Try.prog 18 #[.pointer q, .int .i64 id, .int .i64 n] w fun e w' => e = .returned (.tuple #[]) ∧ Touch [] w w' := by
  have t1 : Touch [] w (w.alloc (.cells #[.int .i64 n] 3)) := (Touch.refl [] w).alloc _
  have hz := Box1.new w 3 (.int .i64 n)
  have c0 := hz.c0
  have lz := hz.lt
  have I := Lib.hid (isReason_any n (w.alloc (.cells #[.int .i64 n] 3)))
  rw [show decide (0 < n ∧ n < 6) = false by simp; omega] at I
  have T1 := Lib.hid t1
  clear t1 hz
  go_enter Try.func18, Try.ntmps18
  go_wp2_with fail
  refine (I.out).mono ?_
  rintro e w1 ⟨rfl, hw⟩
  rw [hw]
  clear hw w1
  go_wp2_with fail
  go_end0
  exact ⟨rfl, T1.out⟩
theorem newL (w : World) : Calls Try.prog 21 #[] w fun e w' => ∃ p b, e = .returned (.pointer (some ⟨p, 0, none⟩)) ∧ LgAt w' p b 0 (fun _ => none) ∧ Touch [] w w' ∧ w.heap.size ≤ p ∧ w.heap.size ≤ b := by
  have t1 : Touch [] w ((w.alloc (.map #[] 0)).alloc (.cells #[.map (some w.heap.size)] 52)) := ((Touch.refl [] w).alloc _).alloc _
  have hb := Box1.new (w.alloc (.map #[] 0)) 52 (.map (some w.heap.size))
  rw [show (w.alloc (.map #[] 0)).heap.size = w.heap.size + 1 by simp] at hb
  have H := Lib.hid (show LgAt ((w.alloc (.map #[] 0)).alloc (.cells #[.map (some w.heap.size)] 52)) (w.heap.size + 1) w.heap.size 0 (fun _ => none) from ⟨hb, (IMap.made w).carry ((Touch.refl [] _).alloc _) (by simp)⟩)
  have T1 := Lib.hid t1
  clear t1 hb
  have hmm := @run_makeMap Try.prog
  go_enter Try.func21, Try.ntmps21
  go_wp2_with fail
  go_ret
  exact ⟨_, _, rfl, H.out, T1.out, by omega, by omega⟩
end
end Go.Proofs.Ytbppccmkmpgibaa
