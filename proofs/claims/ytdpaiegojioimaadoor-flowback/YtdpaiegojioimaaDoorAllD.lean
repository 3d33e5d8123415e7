/-
  The contracts on which the law's proof rests, bound together in build order: Fresh2, Late, Ipv6RefP2, Ipv6Make, Ranges, Round, Ipv6Pack, Ipv6RefM, Ipv6Laws, Door.
-/
import Derived.Test.YtdpaiegojioimaaDoorAllC
import Derived.Deep.RegionLaw
import Derived.Test.YtdpaiegojioimaaDoorAllA
import Derived.RangeFuncNested
import Derived.RangeFuncWrites
import Derived.RangeFuncBound
import Derived.RangeFuncCalls
import Derived.RangeFuncLeaves
import Derived.Shelf.Abstract
import Derived.Shelf.RegionOpen
import Derived.WalkKit
import Derived.OwnWalkIn
import Derived.TacticsInMore
import Derived.LoopNIn
import Derived.LoopIn
import Derived.TacticsIn
import Derived.Lib.SmallJoins
import Derived.Test.YtdpaiegojioimaaDoorCards
import Derived.Test.YtdpaiegojioimaaDoorTie
import Derived.LaidMore
import Derived.LaidLaws
import Derived.MakeChecks
import Derived.SevenTiedAt
import Derived.Stop.Joined
/-
  The law on regions with new blocks: one walk in the order of the text serves every order.
-/
namespace Go.Proofs.YtdpaiegojioimaaDoor
open Go.ChangeShapes Go.WideShapes Go.ChangeAt Go.RowKit Go.Deep
set_option linter.unusedVariables false

structure FreshOk (ops : Array Oper) (n N size : Nat) (K : List (Nat × Tmp)) : Prop where
  sel : Region.noSelect ops = true
  nN : n ≤ N
  hN : N < ops.size
  guard : ∀ i o, i < N → ops[i]? = some o → o.guard = none
  back : ∀ i o, i < N → ops[i]? = some o → ∀ e ∈ o.after, Region.binds .any e = true → e.on < i
  bound : ∀ i o d, i < N → ops[i]? = some o → o.dst = some d → d < size
  looks : ∀ i o, i < n → ops[i]? = some o → ∀ t ∈ o.looksAt ops, ∀ j o', j < N → ops[j]? = some o' → o'.dst = some t → j < i ∧ j < n ∧ Region.waitsFor .any ops i j = true
  one : ∀ i j o o' d, i < N → j < N → ops[i]? = some o → ops[j]? = some o' → o.dst = some d → o'.dst = some d → i = j
  mid : ∀ i o, n ≤ i → i < N → ops[i]? = some o → ∃ k ∈ K, k.1 = i ∧ o.dst = some k.2
  range : ∀ k ∈ K, n ≤ k.1 ∧ k.1 < N
  nodup : (dsts (ops.toList.take n)).Nodup
  sink : Region.sinkB .any ops N = true
  chain : Region.chainB .any ops N = true
  seq : Region.seqB .any ops (ops.size - N) N ((Array.range ops.size).map fun i => decide (i < N)) = true

theorem fresh_spec {ops : Array Oper} {n N size : Nat} {K : List (Nat × Tmp)} (h : freshB ops n N size K = true) : FreshOk ops n N size K := by
  unfold freshB at h
  simp only [Bool.and_eq_true, decide_eq_true_eq] at h
  obtain ⟨⟨⟨⟨⟨⟨⟨sel, nN⟩, hN⟩, hops⟩, hK⟩, hnd⟩, ht⟩, hseq⟩ := h
  rw [List.all_eq_true] at hops
  have key := fun (i : Nat) (o : Oper) (hi : i < N) (ho : ops[i]? = some o) => hops i (List.mem_range.2 hi)
  have key2 := fun (i : Nat) (o : Oper) (hi : i < N) (ho : ops[i]? = some o) => by
    have := key i o hi ho
    simp only [ho, Bool.and_eq_true] at this
    exact this
  refine ⟨sel, nN, hN, ?_, ?_, ?_, ?_, ?_, ?_, ?_, hnd, ht.1, ht.2, hseq⟩
  · intro i o hi ho
    have := (key2 i o hi ho).1.1.1.1.1
    simpa using this
  · intro i o hi ho e he hb
    have := (key2 i o hi ho).1.1.1.1.2
    rw [Array.all_eq_true'] at this
    have := this e he
    simpa [hb] using this
  · intro i o d hi ho hd
    have := (key2 i o hi ho).1.1.1.2
    simpa [hd] using this
  · intro i o hi ho t ht' j o' hj ho' hd
    have := (key2 i o (by omega) ho).1.1.2
    simp only [Bool.or_eq_true, decide_eq_true_eq] at this
    rcases this with h' | h'
    · omega
    · have := List.all_eq_true.1 (List.all_eq_true.1 h' t ht') j (List.mem_range.2 hj)
      simp only [ho', hd, bne_self_eq_false, Bool.false_or, Bool.and_eq_true, decide_eq_true_eq] at this
      exact ⟨this.1.1, this.1.2, this.2⟩
  · intro i j o o' d hi hj ho ho' hd hd'
    have := List.all_eq_true.1 (key2 i o hi ho).1.2 j (List.mem_range.2 hj)
    simp only [ho', hd, hd'] at this
    simp at this
    exact this.symm
  · intro i o hi hi' ho
    have := (key2 i o hi' ho).2
    simp only [Bool.or_eq_true, decide_eq_true_eq, List.any_eq_true, Bool.and_eq_true, beq_iff_eq] at this
    rcases this with h' | ⟨k, hk, h1, h2⟩
    · omega
    · exact ⟨k, hk, h1, h2⟩
  · intro k hk
    have := List.all_eq_true.1 hK k hk
    simpa using this

theorem puts_all (bs : Nat → Nat) : ∀ (K : List Alc) (a : Act), (∀ k ∈ K, k.dst < a.tmps.size) → (∀ k ∈ K, ∀ k' ∈ K, k.dst = k'.dst → k.idx = k'.idx) →
    ((K.foldl (fun a k => a.put (some k.dst) (ptrV (bs k.idx))) a).defers = a.defers ∧ (K.foldl (fun a k => a.put (some k.dst) (ptrV (bs k.idx))) a).tmps.size = a.tmps.size ∧
      (∀ t, (∀ k ∈ K, k.dst ≠ t) → (K.foldl (fun a k => a.put (some k.dst) (ptrV (bs k.idx))) a).tmps[t]? = a.tmps[t]?) ∧ ∀ k ∈ K, (K.foldl (fun a k => a.put (some k.dst) (ptrV (bs k.idx))) a).tmps[k.dst]? = some (ptrV (bs k.idx)))
  | [], a, _, _ => ⟨rfl, rfl, fun _ _ => rfl, fun k hk => by cases hk⟩
  | k :: K, a, hb, hd => by
    obtain ⟨h1, h2, h3, h4⟩ := puts_all bs K (a.put (some k.dst) (ptrV (bs k.idx))) (fun k' hk' => by rw [put_size]; exact hb k' (List.mem_cons_of_mem _ hk')) (fun x hx y hy => hd x (List.mem_cons_of_mem _ hx) y (List.mem_cons_of_mem _ hy))
    simp only [List.foldl_cons]
    refine ⟨by rw [h1, put_defers], by rw [h2, put_size], fun t ht => ?_, fun k' hk' => ?_⟩
    · rw [h3 t (fun x hx => ht x (List.mem_cons_of_mem _ hx)), put_ne]
      intro e
      exact ht k (by simp) (by simpa using e)
    · rcases List.mem_cons.1 hk' with rfl | hk'
      · by_cases hx : ∃ x ∈ K, x.dst = k'.dst
        · obtain ⟨x, hx, he⟩ := hx
          have h5 := h4 x hx
          rw [he, hd x (List.mem_cons_of_mem _ hx) k' (by simp) he] at h5
          exact h5
        · rw [h3 k'.dst (fun x hx' he => hx ⟨x, hx', he⟩)]
          exact put_eq a _ _ (hb k' (by simp))
      · exact h4 k' hk'

section
variable {P : Program} {ops : Array Oper} {Q : Exit → Act → World → Prop} {n N size : Nat} {K : List Alc} {a0 aF : Act} {wd : World}

/-- How far a drawn order has come. -/
structure Inv (ops : Array Oper) (n N : Nat) (K : List Alc) (aF : Act) (wd : World) (s : Array Bool) (ar : Act) (w : World) (bs : Nat → Nat) : Prop where
  inv : HeadInv .any ops N s
  touch : Touch [] wd w
  defers : ar.defers = aF.defers
  tsize : ar.tmps.size = aF.tmps.size
  other : ∀ t, (∀ i o, i < N → ops[i]? = some o → o.dst ≠ some t) → ar.tmps[t]? = aF.tmps[t]?
  head : ∀ i o d, i < n → s.getD i false = true → ops[i]? = some o → o.dst = some d → ar.tmps[d]? = aF.tmps[d]?
  box : ∀ k ∈ K, s.getD k.idx false = true → ar.tmps[k.dst]? = some (ptrV (bs k.idx)) ∧ BoxV w (bs k.idx) k.ty k.zero ∧ wd.heap.size ≤ bs k.idx
  apart : ∀ k ∈ K, ∀ k' ∈ K, s.getD k.idx false = true → s.getD k'.idx false = true → k.idx ≠ k'.idx → bs k.idx ≠ bs k'.idx

theorem getD_set_other {s : Array Bool} {i j : Nat} (b : Bool) (h : i ≠ j) : (s.setIfInBounds i true).getD j b = s.getD j b := by
  simp only [Array.getD_eq_getD_getElem?]
  rw [Array.getElem?_setIfInBounds_ne h]

theorem take_all {s : Array Bool} (hs : N ≤ s.size) : (s.toList.take N).count false = 0 ↔ ∀ i, i < N → s.getD i false = true := by
  rw [List.count_eq_zero]
  constructor
  · intro h i hi
    have hil : i < s.size := by omega
    rw [getD_of hil]
    cases hx : s[i]
    · exfalso
      apply h
      rw [List.mem_take_iff_getElem]
      exact ⟨i, by simp; omega, by simpa using hx⟩
    · rfl
  · intro h hm
    rw [List.mem_take_iff_getElem] at hm
    obtain ⟨i, hi, he⟩ := hm
    simp at hi
    have := h i (by omega)
    rw [getD_of (by omega)] at this
    simp at he
    rw [he] at this
    cases this

theorem take_step {s : Array Bool} {i fuel : Nat} (hi : i < N) (hs : N ≤ s.size) (hf : s.getD i true = false) (hc : (s.toList.take N).count false = fuel + 1) : ((s.setIfInBounds i true).toList.take N).count false = fuel := by
  have hil : i < s.size := by omega
  rw [getD_of hil] at hf
  have hlen : i < (s.toList.take N).length := by simp; omega
  rw [Array.toList_setIfInBounds, List.take_set, List.count_set hlen]
  have e0 : (s.toList.take N)[i] = false := by simpa using hf
  rw [e0, hc]
  simp

theorem fresh_end (ok : FreshOk ops n N size (K.map fun k => (k.idx, k.dst))) (hsz : aF.tmps.size = size) (hK : ∀ k ∈ K, ∃ o, ops[k.idx]? = some o ∧ o.dst = some k.dst) {s : Array Bool} {ar : Act} {w : World} {bs : Nat → Nat} (inv : Inv ops n N K aF wd s ar w bs) (all : ∀ i, i < N → s.getD i false = true) :
    s = (Array.range ops.size).map (fun i => decide (i < N)) ∧ ar = K.foldl (fun a k => a.put (some k.dst) (ptrV (bs k.idx))) aF := by
  constructor
  · apply Array.ext
    · simp [inv.inv.size]
    · intro i h1 h2
      have hi : i < ops.size := by rw [← inv.inv.size]; exact h1
      simp only [Array.getElem_map, Array.getElem_range]
      by_cases hN : i < N
      · have := all i hN
        rw [getD_of h1] at this
        rw [this, decide_eq_true hN]
      · have := inv.inv.tail i (by omega) hi
        rw [getD_of h1] at this
        rw [this, decide_eq_false hN]
  · have hrange : ∀ k ∈ K, n ≤ k.idx ∧ k.idx < N := fun k hk => ok.range _ (List.mem_map.2 ⟨k, hk, rfl⟩)
    obtain ⟨p1, p2, p3, p4⟩ := puts_all bs K aF (fun k hk => by
      obtain ⟨o, ho, hd⟩ := hK k hk
      rw [hsz]
      exact ok.bound _ o _ (hrange k hk).2 ho hd) (fun k hk k' hk' e => by
      obtain ⟨o, ho, hd⟩ := hK k hk
      obtain ⟨o', ho', hd'⟩ := hK k' hk'
      exact ok.one _ _ o o' _ (hrange k hk).2 (hrange k' hk').2 ho ho' hd (by rw [hd', e]))
    generalize K.foldl (fun a k => a.put (some k.dst) (ptrV (bs k.idx))) aF = b at *
    obtain ⟨bt, bd⟩ := b
    obtain ⟨at', ad⟩ := ar
    have e1 : ad = bd := inv.defers.trans p1.symm
    subst e1
    congr 1
    apply Array.ext_getElem?
    intro t
    show at'[t]? = bt[t]?
    by_cases hx : ∃ i o, i < N ∧ ops[i]? = some o ∧ o.dst = some t
    · obtain ⟨i, o, hi, ho, hd⟩ := hx
      by_cases hin : i < n
      · rw [show at'[t]? = aF.tmps[t]? from inv.head i o t hin (all i hi) ho hd]
        refine (p3 t fun k hk e => ?_).symm
        obtain ⟨o', ho', hd'⟩ := hK k hk
        have := ok.one _ _ o o' t hi (hrange k hk).2 ho ho' hd (by rw [hd', e])
        have := (hrange k hk).1
        omega
      · obtain ⟨k', hk', e1, e2⟩ := ok.mid i o (by omega) hi ho
        obtain ⟨k, hk, rfl⟩ := List.mem_map.1 hk'
        have ed : k.dst = t := by
          have : some t = some k.dst := hd.symm.trans e2
          simpa using this.symm
        subst ed
        have := (inv.box k hk (all _ (hrange k hk).2)).1
        rw [show at'[k.dst]? = _ from this]
        exact (p4 k hk).symm
    · rw [show at'[t]? = aF.tmps[t]? from inv.other t fun i o hi ho hd => hx ⟨i, o, hi, ho, hd⟩]
      refine (p3 t fun k hk e => ?_).symm
      obtain ⟨o', ho', hd'⟩ := hK k hk
      exact hx ⟨k.idx, o', (hrange k hk).2, ho', by rw [hd', e]⟩

set_option maxHeartbeats 1000000 in
theorem fresh_any (ok : FreshOk ops n N size (K.map fun k => (k.idx, k.dst))) (h0 : a0.tmps.size = size)
    (hK : ∀ k ∈ K, ∃ o, ops[k.idx]? = some o ∧ o.dst = some k.dst ∧ ∀ (a : Act) (w : World), (execOp a.eval o).run P w = .ok (.value (ptrV w.heap.size)) (w.alloc (.cells k.zero k.ty)))
    (hwalk : ∀ wd', Touch [] wd wd' → wpQuiet P ops (fun w' => ∃ x : Cls wd', w' = x.val) (fun a' => a' = aF) (ops.toList.take n) a0)
    (hend : ∀ (bs : Nat → Nat) (w : World), Touch [] wd w → (∀ k ∈ K, BoxV w (bs k.idx) k.ty k.zero ∧ wd.heap.size ≤ bs k.idx) → (∀ k ∈ K, ∀ k' ∈ K, k.idx ≠ k'.idx → bs k.idx ≠ bs k'.idx) →
      wpList P ops Q (ops.toList.drop N) (K.foldl (fun a k => a.put (some k.dst) (ptrV (bs k.idx))) aF) w) :
    ∀ (fuel : Nat) (s : Array Bool) (ar : Act) (w : World) (bs : Nat → Nat), Inv ops n N K aF wd s ar w bs → (s.toList.take N).count false = fuel → wpAny P .any ops Q (fuel + (ops.size - N)) s ar w := by
  have hrange : ∀ k ∈ K, n ≤ k.idx ∧ k.idx < N := fun k hk => ok.range _ (List.mem_map.2 ⟨k, hk, rfl⟩)
  have hnN := ok.nN
  have hNs := Nat.le_of_lt ok.hN
  have getTake : ∀ i, i < n → (ops.toList.take n)[i]? = ops[i]? := fun i hi => by rw [List.getElem?_take_of_lt hi]; simp
  have walk := fun w (t : Touch [] wd w) => walk_at (P := P) (ops := ops) (C := fun w' => ∃ x : Cls w, w' = x.val) (aF := aF) (ops.toList.take n) a0 (fun o ho => by
      obtain ⟨i, hi⟩ := List.mem_iff_getElem?.1 ho
      have hin : i < n := by
        have := (List.getElem?_eq_some_iff.1 hi).1
        simp at this
        omega
      rw [getTake i hin] at hi
      exact ok.guard i o (by omega) hi) ok.nodup (fun d hd => by
      obtain ⟨o, ho, hod⟩ := List.mem_filterMap.1 hd
      obtain ⟨i, hi⟩ := List.mem_iff_getElem?.1 ho
      have hin : i < n := by
        have := (List.getElem?_eq_some_iff.1 hi).1
        simp at this
        omega
      rw [getTake i hin] at hi
      rw [h0]
      exact ok.bound i o d (by omega) hi hod) (hwalk w t)
  have hsz : aF.tmps.size = size := by rw [← h0]; exact ((walk wd (Touch.refl _ _)).1.2.1).symm
  have hK' : ∀ k ∈ K, ∃ o, ops[k.idx]? = some o ∧ o.dst = some k.dst := fun k hk => by
    obtain ⟨o, h1, h2, _⟩ := hK k hk
    exact ⟨o, h1, h2⟩
  intro fuel
  induction fuel with
  | zero =>
    intro s ar w bs inv hc
    have all := (take_all (N := N) (by rw [inv.inv.size]; exact hNs)).1 hc
    obtain ⟨rfl, rfl⟩ := fresh_end ok hsz hK' inv all
    have W := hend bs w inv.touch (fun k hk => ⟨(inv.box k hk (all _ (hrange k hk).2)).2.1, (inv.box k hk (all _ (hrange k hk).2)).2.2⟩) (fun k hk k' hk' he => inv.apart k hk k' hk' (all _ (hrange k hk).2) (all _ (hrange k' hk').2) he)
    have := wpAny_of_seq (md := .any) (P := P) (ops := ops) (Q' := Q) (ops.toList.drop N) N _ _ w (fun j => by simp [List.getElem?_drop]) (by
      rw [List.length_drop, Array.length_toList]
      exact ok.seq) W
    rw [List.length_drop, Array.length_toList] at this
    rw [Nat.zero_add]
    exact this
  | succ fuel ih =>
    intro s ar w bs inv hc
    have hsN : N ≤ s.size := by rw [inv.inv.size]; exact hNs
    have notall : ¬ ∀ i, i < N → s.getD i false = true := fun h => by
      have := (take_all hsN).2 h
      omega
    rw [show fuel + 1 + (ops.size - N) = fuel + (ops.size - N) + 1 by omega]
    refine ⟨fun hr => absurd (all_heads (N := N) (fun i o hi ho e he hb => ok.back i o hi ho e he hb) hNs inv.inv.size hr) notall, fun i hi => ?_⟩
    obtain ⟨hun, o, ho, hall⟩ := mem_ready.1 hi
    have hil : i < ops.size := (Array.getElem?_eq_some_iff.1 ho).1
    have hiN : i < N := by
      rcases Nat.lt_or_ge i N with h | h
      · exact h
      · exfalso
        apply notall
        intro j hj
        have hjs : j < s.size := by omega
        cases hx : s[j]
        · exact absurd hi (tail_waits ok.sink ok.chain ok.hN inv.inv _ j rfl hj (by rw [getD_of hjs]; exact hx) i h)
        · rw [getD_of hjs]; exact hx
    by_cases hin : i < n
    · obtain ⟨aj, v, e1, e2, e3⟩ := (walk w inv.touch).2 i o (by rw [getTake i hin]; exact ho)
      have hex : execOp ar.eval o = execOp aj.eval o := by
        refine exec_same (ops := ops) (fun cs b => Region.noSelect_spec ok.sel i o cs b ho) fun t ht => ?_
        have r2 : aj.tmps[t]? = aF.tmps[t]? := by
          apply e1
          intro hm
          obtain ⟨o', ho', hd'⟩ := List.mem_filterMap.1 hm
          obtain ⟨j, hj⟩ := List.mem_iff_getElem?.1 ho'
          rw [List.getElem?_drop] at hj
          have hjn : i + j < n := by
            have := (List.getElem?_eq_some_iff.1 hj).1
            simp at this
            omega
          rw [getTake _ hjn] at hj
          have := ok.looks i o hin ho t ht (i + j) o' (by omega) hj hd'
          omega
        have r1 : ar.tmps[t]? = aF.tmps[t]? := by
          by_cases hx : ∃ j o', j < N ∧ ops[j]? = some o' ∧ o'.dst = some t
          · obtain ⟨j, o', hj, ho', hd'⟩ := hx
            obtain ⟨q1, q2, q3⟩ := ok.looks i o hin ho t ht j o' hj ho' hd'
            obtain ⟨oj, hoj, e, he, hb, rfl⟩ := Region.waitsFor_spec q3
            obtain rfl : o = oj := by rw [ho] at hoj; simpa using hoj
            exact inv.head _ o' t q2 (hall e he hb) ho' hd'
          · exact inv.other t fun j o' hj ho' hd' => hx ⟨j, o', hj, ho', hd'⟩
        rw [r1, r2]
      have hy : YieldsIn P ops (fun w' => ∃ x : Cls w, w' = x.val) o v ar := .inl ⟨wanted_of (ok.guard i o hiN ho), fun w' hw' => by
        unfold Oper.quietAt
        rw [hex]
        exact e2 w' hw'⟩
      refine wpOp_of_qOp (C := fun w' => ∃ x : Cls w, w' = x.val) ⟨⟨w, Touch.refl _ _⟩, rfl⟩ (fun a' w' hC h' => ?_) (hy.qOp (K := fun a' => a' = ar.put o.dst v) ho rfl)
      obtain ⟨x, rfl⟩ := hC
      subst h'
      have tx := x.property
      refine ih _ _ _ bs ?_ (take_step hiN hsN hun hc)
      refine ⟨inv.inv.set hi hiN, inv.touch.trans tx (by simp), by rw [put_defers]; exact inv.defers, by rw [put_size]; exact inv.tsize, fun t ht => ?_, fun j o' d hj hl ho' hd => ?_, fun k hk hl => ?_, fun k hk k' hk' hl hl' he => ?_⟩
      · rw [put_ne _ _ _ _ (ht i o hiN ho)]
        exact inv.other t ht
      · by_cases hji : i = j
        · subst hji
          obtain rfl : o = o' := by rw [ho] at ho'; simpa using ho'
          rw [hd, put_eq _ _ _ (by rw [inv.tsize, hsz]; exact ok.bound i o d hiN ho hd), e3 d hd]
        · rw [getD_set_other _ hji] at hl
          rw [put_ne _ _ _ _ (fun e => hji (ok.one i j o o' d hiN (by omega) ho ho' e hd))]
          exact inv.head j o' d hj hl ho' hd
      · have hki : i ≠ k.idx := by have := hrange k hk; omega
        rw [getD_set_other _ hki] at hl
        obtain ⟨b1, b2, b3⟩ := inv.box k hk hl
        obtain ⟨ok', hok, hokd⟩ := hK' k hk
        refine ⟨?_, b2.carry tx (by simp), b3⟩
        rw [put_ne _ _ _ _ (fun e => hki (ok.one i k.idx o ok' k.dst hiN (hrange k hk).2 ho hok e hokd))]
        exact b1
      · have hki : i ≠ k.idx := by have := hrange k hk; omega
        have hki' : i ≠ k'.idx := by have := hrange k' hk'; omega
        rw [getD_set_other _ hki] at hl
        rw [getD_set_other _ hki'] at hl'
        exact inv.apart k hk k' hk' hl hl' he
    · obtain ⟨k0', hk0', q1, q2⟩ := ok.mid i o (by omega) hiN ho
      obtain ⟨k0, hk0, rfl⟩ := List.mem_map.1 hk0'
      simp only at q1 q2
      obtain ⟨o0, hq0, hd0, hrun⟩ := hK k0 hk0
      rw [q1] at hq0
      obtain rfl : o = o0 := by rw [ho] at hq0; simpa using hq0
      refine Does.wpOp (φ := fun v w' => v = ptrV w.heap.size ∧ w' = w.alloc (.cells k0.zero k0.ty)) ho ⟨wanted_of (ok.guard i o hiN ho), by rw [hrun]; exact ⟨⟨rfl, rfl⟩, (Touch.refl _ _).alloc _⟩⟩ fun v w' hφ t => ?_
      obtain ⟨rfl, rfl⟩ := hφ
      refine ih _ _ _ (fun t => if t = i then w.heap.size else bs t) ?_ (take_step hiN hsN hun hc)
      have hsame : ∀ k ∈ K, k.idx = i → k.dst = k0.dst ∧ BoxV (w.alloc (.cells k0.zero k0.ty)) w.heap.size k.ty k.zero := by
        intro k hk he
        obtain ⟨o1, hq1, hd1, hrun1⟩ := hK k hk
        rw [he] at hq1
        obtain rfl : o = o1 := by rw [ho] at hq1; simpa using hq1
        have e1 := (hrun1 ar w).symm.trans (hrun ar w)
        simp only [Result.ok.injEq, true_and] at e1
        refine ⟨by rw [hd0] at hd1; simpa using hd1.symm, ?_⟩
        rw [← e1]
        exact BoxV.new w _ _
      refine ⟨inv.inv.set hi hiN, inv.touch.alloc _, by rw [put_defers]; exact inv.defers, by rw [put_size]; exact inv.tsize, fun t ht => ?_, fun j o' d hj hl ho' hd => ?_, fun k hk hl => ?_, fun k hk k' hk' hl hl' he => ?_⟩
      · rw [put_ne _ _ _ _ (ht i o hiN ho)]
        exact inv.other t ht
      · have hji : i ≠ j := by omega
        rw [getD_set_other _ hji] at hl
        rw [put_ne _ _ _ _ (fun e => hji (ok.one i j o o' d hiN (by omega) ho ho' e hd))]
        exact inv.head j o' d hj hl ho' hd
      · by_cases hki : k.idx = i
        · obtain ⟨s1, s2⟩ := hsame k hk hki
          simp only [hki, if_true]
          refine ⟨?_, s2, inv.touch.size⟩
          rw [hd0, s1]
          exact put_eq _ _ _ (by rw [inv.tsize, hsz]; exact ok.bound i o _ hiN ho hd0)
        · rw [getD_set_other _ (Ne.symm hki)] at hl
          obtain ⟨b1, b2, b3⟩ := inv.box k hk hl
          obtain ⟨ok', hok, hokd⟩ := hK' k hk
          simp only [hki, if_false]
          refine ⟨?_, b2.carry ((Touch.refl [] _).alloc _) (by simp), b3⟩
          rw [put_ne _ _ _ _ (fun e => hki (ok.one i k.idx o ok' k.dst hiN (hrange k hk).2 ho hok e hokd).symm)]
          exact b1
      · by_cases hki : k.idx = i
        · by_cases hki' : k'.idx = i
          · exact absurd (hki.trans hki'.symm) he
          · rw [getD_set_other _ (Ne.symm hki')] at hl'
            have := (inv.box k' hk' hl').2.1.lt
            simp only [hki, hki', if_true, if_false]
            omega
        · rw [getD_set_other _ (Ne.symm hki)] at hl
          by_cases hki' : k'.idx = i
          · have := (inv.box k hk hl).2.1.lt
            simp only [hki, hki', if_true, if_false]
            omega
          · rw [getD_set_other _ (Ne.symm hki')] at hl'
            simp only [hki, hki', if_false]
            exact inv.apart k hk k' hk' hl hl' he

/-- THE LAW: a region that draws its order: n operations that read or call what makes new memory alone, the new blocks K, a forced tail. -/
theorem fresh_start {l : List Oper} {w : World} (n : Nat) (K : List Alc) (aF : Act) (hB : freshB l.toArray n (n + K.length) a0.tmps.size (K.map fun k => (k.idx, k.dst)) = true) (hw : Touch [] wd w.drew)
    (hK : ∀ k ∈ K, ∃ o, l.toArray[k.idx]? = some o ∧ o.dst = some k.dst ∧ ∀ (a : Act) (w : World), (execOp a.eval o).run P w = .ok (.value (ptrV w.heap.size)) (w.alloc (.cells k.zero k.ty)))
    (hwalk : ∀ wd', Touch [] wd wd' → wpQuiet P l.toArray (fun w' => ∃ x : Cls wd', w' = x.val) (fun a' => a' = aF) (l.take n) a0)
    (hend : ∀ (bs : Nat → Nat) (w : World), Touch [] wd w → (∀ k ∈ K, BoxV w (bs k.idx) k.ty k.zero ∧ wd.heap.size ≤ bs k.idx) → (∀ k ∈ K, ∀ k' ∈ K, k.idx ≠ k'.idx → bs k.idx ≠ bs k'.idx) →
      wpList P l.toArray Q (l.drop (n + K.length)) (K.foldl (fun a k => a.put (some k.dst) (ptrV (bs k.idx))) aF) w) : wpAny P .any l.toArray Q l.toArray.size (Array.replicate l.toArray.size false) a0 w.drew := by
  have ok := fresh_spec hB
  have hs0 : (Array.replicate l.toArray.size false).size = l.toArray.size := by simp
  have hNs := Nat.le_of_lt ok.hN
  have hc : (((Array.replicate l.toArray.size false).toList.take (n + K.length)).count false) = n + K.length := by
    rw [Array.toList_replicate, List.take_replicate, List.count_replicate_self]
    omega
  have hget : ∀ j, (Array.replicate l.toArray.size false).getD j false = false := fun j => getD_replicate_false _ _
  have inv : Inv l.toArray n (n + K.length) K aF wd (Array.replicate l.toArray.size false) a0 w.drew (fun _ => 0) := by
    have hwk := walk_at (P := P) (ops := l.toArray) (C := fun w' => ∃ x : Cls wd, w' = x.val) (aF := aF) (l.take n) a0 (fun o ho => by
      obtain ⟨i, hi⟩ := List.mem_iff_getElem?.1 ho
      have hin : i < n := by
        have := (List.getElem?_eq_some_iff.1 hi).1
        simp at this
        omega
      rw [List.getElem?_take_of_lt hin] at hi
      exact ok.guard i o (by omega) (by simpa using hi)) (by simpa using ok.nodup) (fun d hd => by
      obtain ⟨o, ho, hod⟩ := List.mem_filterMap.1 hd
      obtain ⟨i, hi⟩ := List.mem_iff_getElem?.1 ho
      have hin : i < n := by
        have := (List.getElem?_eq_some_iff.1 hi).1
        simp at this
        omega
      rw [List.getElem?_take_of_lt hin] at hi
      exact ok.bound i o d (by omega) (by simpa using hi) hod) (hwalk wd (Touch.refl _ _))
    refine ⟨⟨hs0, fun j oj _ hl => (by rw [hget] at hl; cases hl), fun t h1 h2 => getD_in (by simpa using h2) (hget t)⟩, hw, hwk.1.1, hwk.1.2.1, fun t ht => hwk.1.2.2 t fun hm => ?_, fun i o d hi hl => ?_, fun k hk hl => ?_, fun k hk k' hk' hl => ?_⟩
    · obtain ⟨o, ho, hod⟩ := List.mem_filterMap.1 hm
      obtain ⟨i, hi⟩ := List.mem_iff_getElem?.1 ho
      have hin : i < n := by
        have := (List.getElem?_eq_some_iff.1 hi).1
        simp at this
        omega
      rw [List.getElem?_take_of_lt hin] at hi
      exact ht i o (by omega) (by simpa using hi) hod
    · rw [hget] at hl; cases hl
    · rw [hget] at hl; cases hl
    · rw [hget] at hl; cases hl
  have := fresh_any (Q := Q) ok rfl hK (by simpa using hwalk) (by simpa using hend) (n + K.length) _ a0 w.drew (fun _ => 0) inv hc
  rwa [show n + K.length + (l.toArray.size - (n + K.length)) = l.toArray.size by omega] at this
/-- The same of the region. -/
theorem wp_region_fresh {id : Nat} {l : List Oper} {w : World} (n : Nat) (K : List Alc) (aF : Act) (hm : P.follows .mixedOrders = true) (hB : freshB l.toArray n (n + K.length) a0.tmps.size (K.map fun k => (k.idx, k.dst)) = true) (hw : Touch [] wd w.drew)
    (hK : ∀ k ∈ K, ∃ o, l.toArray[k.idx]? = some o ∧ o.dst = some k.dst ∧ ∀ (a : Act) (w : World), (execOp a.eval o).run P w = .ok (.value (ptrV w.heap.size)) (w.alloc (.cells k.zero k.ty)))
    (hwalk : ∀ wd', Touch [] wd wd' → wpQuiet P l.toArray (fun w' => ∃ x : Cls wd', w' = x.val) (fun a' => a' = aF) (l.take n) a0)
    (hend : ∀ (bs : Nat → Nat) (w : World), Touch [] wd w → (∀ k ∈ K, BoxV w (bs k.idx) k.ty k.zero ∧ wd.heap.size ≤ bs k.idx) → (∀ k ∈ K, ∀ k' ∈ K, k.idx ≠ k'.idx → bs k.idx ≠ bs k'.idx) →
      wpList P l.toArray Q (l.drop (n + K.length)) (K.foldl (fun a k => a.put (some k.dst) (ptrV (bs k.idx))) aF) w) : (Code.region id l.toArray true).wp P Q a0 w :=
  wp_region_any hm (fresh_start n K aF hB hw hK hwalk hend)

/-- One new block. -/
theorem wp_region_fresh1 {id : Nat} {l : List Oper} {w : World} (n : Nat) (d : Tmp) (T : TypeId) (z : Array Value) (aF : Act) (hm : P.follows .mixedOrders = true) (hB : freshB l.toArray n (n + 1) a0.tmps.size [(n, d)] = true) (hw : Touch [] wd w.drew)
    (hK : ∃ o, l.toArray[n]? = some o ∧ o.dst = some d ∧ ∀ (a : Act) (w : World), (execOp a.eval o).run P w = .ok (.value (ptrV w.heap.size)) (w.alloc (.cells z T)))
    (hwalk : ∀ wd', Touch [] wd wd' → wpQuiet P l.toArray (fun w' => ∃ x : Cls wd', w' = x.val) (fun a' => a' = aF) (l.take n) a0)
    (hend : ∀ (b : Nat) (w : World), Touch [] wd w → BoxV w b T z → wd.heap.size ≤ b → wpList P l.toArray Q (l.drop (n + 1)) (aF.put (some d) (.pointer (some ⟨b, 0, none⟩))) w) : (Code.region id l.toArray true).wp P Q a0 w := by
  refine wp_region_fresh n [⟨n, d, T, z⟩] aF hm hB hw (fun k hk => ?_) hwalk (fun bs w' ht hb _ => ?_)
  · rw [List.mem_singleton] at hk
    subst hk
    exact hK
  · obtain ⟨h1, h2⟩ := hb _ (List.mem_singleton.2 rfl)
    exact hend _ w' ht h1 h2
/-- Two new blocks. -/
theorem wp_region_fresh2 {id : Nat} {l : List Oper} {w : World} (n : Nat) (d1 : Tmp) (T1 : TypeId) (z1 : Array Value) (d2 : Tmp) (T2 : TypeId) (z2 : Array Value) (aF : Act) (hm : P.follows .mixedOrders = true) (hB : freshB l.toArray n (n + 2) a0.tmps.size [(n, d1), (n + 1, d2)] = true) (hw : Touch [] wd w.drew)
    (hK1 : ∃ o, l.toArray[n]? = some o ∧ o.dst = some d1 ∧ ∀ (a : Act) (w : World), (execOp a.eval o).run P w = .ok (.value (ptrV w.heap.size)) (w.alloc (.cells z1 T1)))
    (hK2 : ∃ o, l.toArray[n + 1]? = some o ∧ o.dst = some d2 ∧ ∀ (a : Act) (w : World), (execOp a.eval o).run P w = .ok (.value (ptrV w.heap.size)) (w.alloc (.cells z2 T2)))
    (hwalk : ∀ wd', Touch [] wd wd' → wpQuiet P l.toArray (fun w' => ∃ x : Cls wd', w' = x.val) (fun a' => a' = aF) (l.take n) a0)
    (hend : ∀ (b1 b2 : Nat) (w : World), Touch [] wd w → BoxV w b1 T1 z1 → wd.heap.size ≤ b1 → BoxV w b2 T2 z2 → wd.heap.size ≤ b2 → b1 ≠ b2 → wpList P l.toArray Q (l.drop (n + 2)) ((aF.put (some d1) (.pointer (some ⟨b1, 0, none⟩))).put (some d2) (.pointer (some ⟨b2, 0, none⟩))) w) : (Code.region id l.toArray true).wp P Q a0 w := by
  refine wp_region_fresh n [⟨n, d1, T1, z1⟩, ⟨n + 1, d2, T2, z2⟩] aF hm hB hw (fun k hk => ?_) hwalk (fun bs w' ht hb hd => ?_)
  · simp only [List.mem_cons, List.not_mem_nil, or_false] at hk
    rcases hk with rfl | rfl
    · exact hK1
    · exact hK2
  · obtain ⟨h1, h2⟩ := hb ⟨n, d1, T1, z1⟩ (by simp)
    obtain ⟨h3, h4⟩ := hb ⟨n + 1, d2, T2, z2⟩ (by simp)
    exact hend _ _ w' ht h1 h2 h3 h4 (hd ⟨n, d1, T1, z1⟩ (by simp) ⟨n + 1, d2, T2, z2⟩ (by simp) (by simp))
end
end Go.Proofs.YtdpaiegojioimaaDoor

/-
  Regions that draw their order in which a part of a result may be taken behind the store of another part ('h, e := f(..)'): it may be taken ahead of it.
-/
namespace Go.Proofs.YtdpaiegojioimaaDoor
open Go.ChangeShapes Go.WideShapes Go.ChangeAt Go.RowKit Go.Deep
set_option linter.unusedVariables false

/-- The same operation, waiting for f besides. -/
def waitsToo (f : Nat) (o : Oper) : Oper := { o with after := o.after.push { on := f, ground := .data } }
def late (l : List Oper) (f t : Nat) : List Oper := l.modify t (waitsToo f)

section
variable {P : Program} {l : List Oper} {Q : Exit → Act → World → Prop} {f t : Nat}
theorem late_get (j : Nat) : (late l f t).toArray[j]? = if t = j then (l.toArray[j]?).map (waitsToo f) else l.toArray[j]? := by
  simp only [late, List.getElem?_toArray, List.getElem?_modify]
  by_cases h : t = j
  · simp [h]
  · simp [h]
theorem late_dst (j : Nat) : ((late l f t).toArray[j]?).bind (·.dst) = (l.toArray[j]?).bind (·.dst) := by
  rw [late_get]
  by_cases h : t = j
  · rw [if_pos h]; cases l.toArray[j]? <;> rfl
  · rw [if_neg h]
theorem late_yielded (tmps : Array Value) : yielded (late l f t).toArray tmps = yielded l.toArray tmps := by
  funext j
  unfold yielded
  rw [late_dst]
theorem late_wpOp {i : Nat} {K : Act → World → Prop} {a : Act} {w : World} : wpOp P (late l f t).toArray Q i K a w = wpOp P l.toArray Q i K a w := by
  unfold wpOp
  rw [late_get, late_yielded]
  by_cases h : t = i
  · rw [if_pos h]; cases l.toArray[i]? <;> rfl
  · rw [if_neg h]
theorem late_ready {i : Nat} {s : Array Bool} : i ∈ Region.ready .any (late l f t).toArray s ↔ i ∈ Region.ready .any l.toArray s ∧ (i = t → s.getD f false = true) := by
  rw [mem_ready, mem_ready, late_get]
  by_cases h : t = i
  · subst h
    rw [if_pos rfl]
    constructor
    · rintro ⟨h0, o', ho', hall⟩
      cases ho : l.toArray[t]? with
      | none => rw [ho] at ho'; cases ho'
      | some o =>
        rw [ho] at ho'
        cases ho'
        refine ⟨⟨h0, o, rfl, fun e he hb => hall e (by simp [waitsToo, he]) hb⟩, fun _ => hall { on := f, ground := .data } (by simp [waitsToo]) rfl⟩
    · rintro ⟨⟨h0, o, ho, hall⟩, hf⟩
      refine ⟨h0, waitsToo f o, by rw [ho]; rfl, fun e he hb => ?_⟩
      simp only [waitsToo, Array.mem_push] at he
      rcases he with he | rfl
      · exact hall e he hb
      · exact hf rfl
  · rw [if_neg h]
    exact ⟨fun x => ⟨x, fun e => absurd e.symm h⟩, fun x => x.1⟩
theorem late_quiet {C : World → Prop} {L : Act → Prop} : ∀ (m : List Oper) (a : Act), wpQuiet P (late l f t).toArray C L m a = wpQuiet P l.toArray C L m a
  | [], _ => rfl
  | o :: m, a => by
    have ih : wpQuiet P (late l f t).toArray C L m = wpQuiet P l.toArray C L m := funext (late_quiet m)
    simp only [wpQuiet]
    rw [late_yielded, ih]
theorem late_list : ∀ (m : List Oper), wpList P (late l f t).toArray Q m = wpList P l.toArray Q m
  | [] => rfl
  | o :: m => by
    funext a w
    simp only [wpList]
    rw [late_yielded, late_list m]
theorem list_late {ops : Array Oper} : ∀ (m : List Oper) (k : Nat), wpList P ops Q (m.modify k (waitsToo f)) = wpList P ops Q m
  | [], k => by cases k <;> rfl
  | o :: m, 0 => by
    funext a w
    rfl
  | o :: m, k + 1 => by
    funext a w
    simp only [List.modify_succ_cons, wpList]
    rw [list_late m k]

/-- An operation that takes a part of a tuple: it yields, or nothing is to be shown of what follows. -/
theorem extract_exec {o : Oper} {x : Operand} {j : Nat} (ho : o.op = .extract x j) (a : Act) : (∃ v, execOp a.eval o = .pure (.value v)) ∨ ∃ why, execOp a.eval o = .halt (.stuck why) := by
  have e : execOp a.eval o = (do pure (Next.value (← Instr.extract (a.eval x) j)) : Sem Next) := by unfold execOp; rw [ho]
  rw [e]
  unfold Instr.extract
  cases a.eval x with
  | tuple vs =>
    cases hv : vs[j]? with
    | some v => exact .inl ⟨v, by simp only [hv]; rfl⟩
    | none => exact .inr ⟨"Extract: no such component", by simp only [hv]; rfl⟩
  | _ => exact .inr ⟨"Extract: tuple expected", rfl⟩
theorem extract_pure {ops : Array Oper} {o : Oper} {x : Operand} {j i : Nat} (hi : ops[i]? = some o) (ho : o.op = .extract x j) (hg : o.guard = none) {K : Act → World → Prop} {a : Act} {w : World} (h : wpOp P ops Q i K a w) :
    ∃ v, Yields P ops o v a ∧ K (a.put o.dst v) w := by
  have hw : Region.wanted o (yielded ops a.tmps) = true := wanted_of hg
  unfold wpOp at h
  simp only [hi] at h
  rw [if_pos hw] at h
  rcases extract_exec ho a with ⟨v, hv⟩ | ⟨why, hv⟩
  · refine ⟨v, .inl ⟨hw, fun w => by rw [hv]; rfl⟩, ?_⟩
    rcases h with h | ⟨⟨h, _⟩, _⟩
    · unfold Oper.wp at h
      rw [hv] at h
      exact h
    · rw [hv] at h
      exact absurd h (by simp [Sem.runT])
  · rcases h with h | ⟨⟨h, _⟩, _⟩
    · unfold Oper.wp at h
      rw [hv] at h
      exact h.elim
    · rw [hv] at h
      exact absurd h (by simp [Sem.runT])

/-- f takes a part of a tuple; all that it waits for t waits for too; every other operation waits for it, is waited for by it, or is apart from it. -/
def lateB (l : List Oper) (f t : Nat) : Bool :=
  Region.noSelect l.toArray && (match l.toArray[f]?, l.toArray[t]? with
    | some of, some ot => (match of.op with | .extract _ _ => true | _ => false) && of.guard.isNone && of.dst.isSome && (f != t) && (of.after.all fun e => !Region.binds .any e || ot.after.any fun e' => Region.binds .any e' && e'.on == e.on) &&
      ((List.range l.length).all fun j => (j == f) || Region.waitsFor .any l.toArray j f || Region.waitsFor .any l.toArray f j || (match l.toArray[j]? with | some oj => of.apart l.toArray oj | none => true))
    | _, _ => false)
theorem wpAny_late (hB : lateB l f t = true) (hQ : ∀ d v c a w, Q (.panic c) (Act.put a (some d) v) w → Q (.panic c) a w) :
    ∀ (fuel : Nat) (s : Array Bool) (a : Act) (w : World), s.size = l.toArray.size → wpAny P .any (late l f t).toArray Q fuel s a w → wpAny P .any l.toArray Q fuel s a w := by
  unfold lateB at hB
  rw [Bool.and_eq_true] at hB
  obtain ⟨hsel, hB⟩ := hB
  cases hf : l.toArray[f]? with
  | none => rw [hf] at hB; simp at hB
  | some of =>
  cases ht : l.toArray[t]? with
  | none => rw [hf, ht] at hB; simp at hB
  | some ot =>
  rw [hf, ht] at hB
  simp only [Bool.and_eq_true] at hB
  obtain ⟨⟨⟨⟨⟨hx, hg⟩, hds⟩, hne⟩, hdep⟩, hap⟩ := hB
  obtain ⟨dd, hdd⟩ := Option.isSome_iff_exists.1 hds
  obtain ⟨x, k, ho⟩ : ∃ x k, of.op = .extract x k := by
    revert hx
    cases of.op <;> simp
  have hg' : of.guard = none := by simpa using hg
  have hne' : f ≠ t := by simpa using hne
  -- where t is ready, and f has not come up, f is ready
  have rdy : ∀ s, t ∈ Region.ready .any l.toArray s → s.getD f false = false → s.getD f true = false → f ∈ Region.ready .any l.toArray s := by
    intro s hts h0 h1
    obtain ⟨_, o, ho', hall⟩ := mem_ready.1 hts
    obtain rfl : ot = o := by rw [ht] at ho'; simpa using ho'
    refine mem_ready.2 ⟨h1, of, hf, fun e he hb => ?_⟩
    have := Array.all_eq_true_iff_forall_mem.1 hdep e he
    rw [hb] at this
    simp only [Bool.not_true, Bool.false_or] at this
    obtain ⟨e', he', hb'⟩ := Array.any_eq_true'.1 this
    simp only [Bool.and_eq_true, beq_iff_eq] at hb'
    rw [← hb'.2]
    exact hall e' he' hb'.1
  have free : ∀ s, f ∈ Region.ready .any l.toArray s → ∀ j oj, l.toArray[j]? = some oj → j ≠ f → s.getD j true = false → (∀ e ∈ oj.after, Region.binds .any e = true → e.on ≠ f) → of.apart l.toArray oj = true := by
    intro s hfs j oj hoj hjf hun hno
    obtain ⟨_, o, ho', hall⟩ := mem_ready.1 hfs
    obtain rfl : of = o := by rw [hf] at ho'; simpa using ho'
    have hlt : j < l.length := by simpa using (Array.getElem?_eq_some_iff.1 hoj).1
    have := List.all_eq_true.1 hap j (List.mem_range.2 hlt)
    simp only [Bool.or_eq_true, beq_iff_eq, hjf, false_or, hoj] at this
    rcases this with (h | h) | h
    · obtain ⟨o2, ho2, e, he, hb, heq⟩ := Region.waitsFor_spec h
      obtain rfl : oj = o2 := by rw [hoj] at ho2; simpa using ho2
      exact absurd heq (hno e he hb)
    · obtain ⟨o2, ho2, e, he, hb, heq⟩ := Region.waitsFor_spec h
      obtain rfl : of = o2 := by rw [hf] at ho2; simpa using ho2
      have h2 := hall e he hb
      rw [heq] at h2
      exfalso
      rcases Nat.lt_or_ge j s.size with h' | h'
      · simp [h'] at hun h2; rw [hun] at h2; cases h2
      · simp [Array.getElem?_eq_none h'] at h2
    · exact h
  have hfl : f < l.toArray.size := (Array.getElem?_eq_some_iff.1 hf).1
  have cases2 : ∀ s : Array Bool, s.size = l.toArray.size → f ∈ Region.ready .any l.toArray s ∨ ∀ i, i ∈ Region.ready .any l.toArray s → i ∈ Region.ready .any (late l f t).toArray s := by
    intro s hs
    by_cases h : f ∈ Region.ready .any l.toArray s
    · exact .inl h
    · refine .inr fun i hi => late_ready.2 ⟨hi, fun e => ?_⟩
      subst e
      have h' : f < s.size := by omega
      cases hd : s.getD f false with
      | true => rfl
      | false =>
        exfalso
        apply h
        exact rdy s hi hd (by simp [h'] at hd ⊢; exact hd)
  intro fuel
  induction fuel with
  | zero =>
    intro s a w hs h
    refine ⟨List.eq_nil_iff_forall_not_mem.2 fun i hi => ?_, h.2⟩
    rcases cases2 s hs with hr | hr
    · have : f ∈ Region.ready .any (late l f t).toArray s := late_ready.2 ⟨hr, fun e => absurd e hne'⟩
      rw [h.1] at this
      cases this
    · have := hr i hi
      rw [h.1] at this
      cases this
  | succ fuel ih =>
    intro s a w hs h
    rcases cases2 s hs with hr | hr
    · have h1 := h.2 f (late_ready.2 ⟨hr, fun e => absurd e hne'⟩)
      rw [late_wpOp] at h1
      obtain ⟨v, hy, hK⟩ := extract_pure hf ho hg' h1
      exact wpAny_first hf (Region.noSelect_spec hsel) (fun c a w => by rw [hdd]; exact hQ dd _ c a w) fuel s a w (free s hr) hr hy (ih _ _ _ (by simpa using hs) hK)
    · refine ⟨fun h0 => h.1 (List.eq_nil_iff_forall_not_mem.2 fun i hi => ?_), fun i hi => ?_⟩
      · have := (late_ready.1 hi).1
        rw [h0] at this
        cases this
      · have h1 := h.2 i (hr i hi)
        rw [late_wpOp] at h1
        exact wpOp_mono (fun a' w' h' => ih _ a' w' (by simpa using hs) h') h1

/-- One new block, and a part of the result that may be taken behind the store of the other. -/
theorem wp_region_late1 {id : Nat} {w wd : World} {a0 : Act} (f t n : Nat) (d : Tmp) (T : TypeId) (z : Array Value) (aF : Act) (hm : P.follows .mixedOrders = true) (hL : lateB l f t = true) (hB : freshB (late l f t).toArray n (n + 1) a0.tmps.size [(n, d)] = true) (hnt : n < t) (hw : Touch [] wd w.drew)
    (hQ : ∀ d v c a w, Q (.panic c) (Act.put a (some d) v) w → Q (.panic c) a w)
    (hK : ∃ o, l.toArray[n]? = some o ∧ o.dst = some d ∧ ∀ (a : Act) (w : World), (execOp a.eval o).run P w = .ok (.value (ptrV w.heap.size)) (w.alloc (.cells z T)))
    (hwalk : ∀ wd', Touch [] wd wd' → wpQuiet P l.toArray (fun w' => ∃ x : Cls wd', w' = x.val) (fun a' => a' = aF) (l.take n) a0)
    (hend : ∀ (b : Nat) (w : World), Touch [] wd w → BoxV w b T z → wd.heap.size ≤ b → wpList P l.toArray Q (l.drop (n + 1)) (aF.put (some d) (.pointer (some ⟨b, 0, none⟩))) w) : (Code.region id l.toArray true).wp P Q a0 w := by
  have hlen : (late l f t).toArray.size = l.toArray.size := by simp [late]
  have ht : (late l f t).take n = l.take n := by
    apply List.ext_getElem?
    intro j
    by_cases hj : j < n
    · rw [List.getElem?_take_of_lt hj, List.getElem?_take_of_lt hj]
      have hne : ¬ t = j := by omega
      simp [late, hne]
    · rw [List.getElem?_eq_none (by simp; omega), List.getElem?_eq_none (by simp; omega)]
  have hd : (late l f t).drop (n + 1) = (l.drop (n + 1)).modify (t - (n + 1)) (waitsToo f) := by
    apply List.ext_getElem?
    intro j
    simp only [late, List.getElem?_drop, List.getElem?_modify]
    have e : (t = n + 1 + j) = (t - (n + 1) = j) := by apply propext; omega
    simp only [e]
  have K1 : ∃ o, (late l f t).toArray[n]? = some o ∧ o.dst = some d ∧ ∀ (a : Act) (w : World), (execOp a.eval o).run P w = .ok (.value (ptrV w.heap.size)) (w.alloc (.cells z T)) := by
    rw [late_get, if_neg (by omega)]
    exact hK
  refine wp_region_any hm ?_
  have := fresh_start (P := P) (Q := Q) (l := late l f t) (w := w) (wd := wd) (a0 := a0) n [⟨n, d, T, z⟩] aF hB hw (fun k hk => by
      rw [List.mem_singleton] at hk
      subst hk
      exact K1) (fun wd' t' => by rw [late_quiet, ht]; exact hwalk wd' t') (fun bs w' t' hb _ => by
      obtain ⟨h1, h2⟩ := hb _ (List.mem_singleton.2 rfl)
      rw [late_list]
      show wpList P l.toArray Q ((late l f t).drop (n + 1)) _ w'
      rw [hd, list_late]
      exact hend _ w' t' h1 h2)
  rw [hlen] at this
  exact wpAny_late hL hQ _ _ _ _ (by simp) this
end
end Go.Proofs.YtdpaiegojioimaaDoor

/-
  Layer 12 (ipv6): the reference's Parse.
-/
namespace Go.Proofs.YtdpaiegojioimaaDoor
open Go.ChangeShapes Go.WideShapes Go.ChangeAt Go.RowKit Go.Deep
set_option linter.unusedVariables false
set_option linter.unusedSimpArgs false

set_option maxRecDepth 100000 in
theorem addr12 (q : List UInt8) (hq : q.length = 16) (w : World) :
    Calls Tryd.prog 31 #[.string (S q)] w fun e w' => e = .returned (av (num (q.take 8)) (num (q.drop 8))) ∧ Touch [] w w' := by
  have O := fun w => refOf10 q (by omega) w
  rw [(of_sixteen _ hq).1, (of_sixteen _ hq).2.1, (of_sixteen _ hq).2.2.1, (of_sixteen _ hq).2.2.2] at O
  unfold av at *
  have O := Lib.hid O
  have B0 := Lib.hid (BoxV.new w 25 #[.int .u64 0, .int .u64 0])
  have T0 := Lib.hid ((Touch.refl [] w).alloc (.cells #[.int .u64 0, .int .u64 0] 25))
  generalize num (q.take 8) = n at *
  generalize num (q.drop 8) = m at *
  clear hq
  go_enter Tryd.func31, Tryd.ntmps31
  go_wp2_with fail
  refine (O.out _).mono ?_
  rintro e w2 ⟨rfl, t2⟩
  have C2 := BoxV.new w2 25 #[.int .u64 (n : Int), .int .u64 (m : Int)]
  have B2 := (B0.out.carry t2 (by simp)).carry ((Touch.refl [] w2).alloc (.cells #[.int .u64 (n : Int), .int .u64 (m : Int)] 25)) (by simp)
  have T2 := Lib.hid ((T0.out.trans t2 (by simp)).alloc (.cells #[.int .u64 (n : Int), .int .u64 (m : Int)] 25))
  have c0 := C2.cell 0
  have c1 := C2.cell 1
  have b0 := B2.cell 0
  have b1 := B2.cell 1
  have fz := B2.fr
  have lb := B2.lt
  have HB := Lib.hid B2
  clear t2 C2 B2
  go_wp2_with fail
  have Z : BoxV _ _ 25 #[.int .u64 (n : Int), .int .u64 (m : Int)] := (HB.out.set 0 (.int .u64 (n : Int))).set 1 (.int .u64 (m : Int))
  refine bodyPost_ret (ret_box rfl rfl Z Tryd.underlying25 rfl (by kernel_rfl)) rfl ⟨rfl, ?_⟩
  exact (T2.out.setCell (by simp) _).setCell (by simp) _

set_option maxHeartbeats 4000000 in
set_option maxRecDepth 100000 in
theorem refParse12 (l : List UInt8) (hl : l.length ≤ 100000) (w : World) :
    Calls Tryd.prog 11 #[.string (S l)] w fun e w' => e = .returned (.tuple #[.agg (hd6 l).cells, .int .i64 (err6 l)]) ∧ Touch [] w w' := by
  have hss : (S l).size = l.length := S_size l
  have BR := Lib.hid (BoxV.new w 31 #[.int .u64 0, .int .u64 0, .int .u64 0, .int .u64 0, .int .i64 0, .int .i64 0, .int .i64 0, .int .i64 0, .bool false])
  have T0 := Lib.hid ((Touch.refl [] w).alloc (.cells #[.int .u64 0, .int .u64 0, .int .u64 0, .int .u64 0, .int .i64 0, .int .i64 0, .int .i64 0, .int .i64 0, .bool false] 31))
  by_cases h40 : l.length < 40
  · have e0 : errB l = 5 := by unfold errB; rw [if_pos h40]
    have e1 : err6 l = 5 := by unfold err6; rw [e0, if_neg (by decide)]
    have e2 : hd6 l = zeroP := by unfold hd6; rw [e1, if_neg (by decide)]
    rw [e1, e2]
    have d40 : decide ((l.length : Int) < 40) = true := by simp; omega
    unfold zeroP Hd.cells
    clear e0 e1 e2 h40
    go_enter Tryd.func11, Tryd.ntmps11
    go_wp2_with fail
    refine bodyPost_ret (v := .tuple #[.agg #[.int .u64 0, .int .u64 0, .int .u64 0, .int .u64 0, .int .i64 0, .int .i64 0, .int .i64 0, .int .i64 0, .bool false], .int .i64 5]) (by simp [results, Tryd.results11, go_sem]) rfl ⟨rfl, (Touch.refl _ _).alloc _⟩
  have d40 : decide ((l.length : Int) < 40) = false := by simp; omega
  have hx0 : ∀ w : World, (Instr.index 9 (.string (S l)) (.int .i64 0)).run Tryd.prog w = .ok (.int .u8 ((byteAt l 0 : Nat) : Int)) w := fun w => ix_at l 0 (by omega) w
  have hb0 := byteAt_lt l 0
  by_cases h22 : byteAt l 0 / 16 ≠ 6
  · have e0 : errB l = 22 := by unfold errB; rw [if_neg h40, if_pos h22]
    have e1 : err6 l = 22 := by unfold err6; rw [e0, if_neg (by decide)]
    have e2 : hd6 l = zeroP := by unfold hd6; rw [e1, if_neg (by decide)]
    rw [e1, e2]
    have d22 : (((byteAt l 0 : Nat) : Int) / 16 != 6) = true := by simp; omega
    generalize byteAt l 0 = b0 at *
    unfold zeroP Hd.cells
    clear e0 e1 e2 h40 h22
    go_enter Tryd.func11, Tryd.ntmps11
    go_wp2_with fail
    refine bodyPost_ret (v := .tuple #[.agg #[.int .u64 0, .int .u64 0, .int .u64 0, .int .u64 0, .int .i64 0, .int .i64 0, .int .i64 0, .int .i64 0, .bool false], .int .i64 22]) (by simp [results, Tryd.results11, go_sem]) rfl ⟨rfl, (Touch.refl _ _).alloc _⟩
  have d22 : (((byteAt l 0 : Nat) : Int) / 16 != 6) = false := by simp; omega
  have TW : Hid (∀ w, Calls Tryd.prog 29 #[.string (S l), .int .i64 4] w fun e w' => e = .returned (.int .i64 (twoA l 4 : Nat)) ∧ w' = w) := Lib.hid (fun w => two11 l 4 hl (by omega) w)
  have ht4 := twoA_le l 4
  by_cases h6 : l.length < 40 + twoA l 4
  · have e0 : errB l = 6 := by unfold errB; rw [if_neg h40, if_neg h22, if_pos h6]
    have e1 : err6 l = 6 := by unfold err6; rw [e0, if_neg (by decide)]
    have e2 : hd6 l = zeroP := by unfold hd6; rw [e1, if_neg (by decide)]
    rw [e1, e2]
    have d6 : decide ((l.length : Int) < 40 + (twoA l 4 : Nat)) = true := by simp only [decide_eq_true_eq]; omega
    generalize byteAt l 0 = b0 at *
    generalize twoA l 4 = t4 at *
    unfold zeroP Hd.cells
    clear e0 e1 e2 h40 h22 h6
    go_enter Tryd.func11, Tryd.ntmps11
    go_wp2_with fail
    refine (TW.out _).mono ?_
    rintro e w0 ⟨rfl, hq⟩
    subst hq
    go_wp2_with fail
    refine bodyPost_ret (v := .tuple #[.agg #[.int .u64 0, .int .u64 0, .int .u64 0, .int .u64 0, .int .i64 0, .int .i64 0, .int .i64 0, .int .i64 0, .bool false], .int .i64 6]) (by simp [results, Tryd.results11, go_sem]) rfl ⟨rfl, (Touch.refl _ _).alloc _⟩
  have e0 : errB l = 0 := by unfold errB; rw [if_neg h40, if_neg h22, if_neg h6]
  obtain ⟨m1, m2, m3⟩ := body_length l e0
  have d6 : decide ((l.length : Int) < 40 + (twoA l 4 : Nat)) = false := by simp only [decide_eq_false_iff_not]; omega
  have s8 : (S l).extract 8 24 = S ((l.drop 8).take 16) := S_slice l 8 24 (by omega)
  have s24 : (S l).extract 24 40 = S ((l.drop 24).take 16) := S_slice l 24 40 (by omega)
  have sb : (S l).extract 40 (40 + twoA l 4) = S (body6 l) := by rw [S_slice l 40 _ m3]; unfold body6; rw [Nat.add_sub_cancel_left]
  have A1 := fun w => addr12 ((l.drop 8).take 16) (by rw [List.length_take, List.length_drop]; omega) w
  have A2 := fun w => addr12 ((l.drop 24).take 16) (by rw [List.length_take, List.length_drop]; omega) w
  rw [show ((l.drop 8).take 16).take 8 = (l.drop 8).take 8 by rw [List.take_take]; rfl, show ((l.drop 8).take 16).drop 8 = (l.drop 16).take 8 by rw [List.drop_take, List.drop_drop]] at A1
  rw [show ((l.drop 24).take 16).take 8 = (l.drop 24).take 8 by rw [List.take_take]; rfl, show ((l.drop 24).take 16).drop 8 = (l.drop 32).take 8 by rw [List.drop_take, List.drop_drop]] at A2
  have hx6 : ∀ w : World, (Instr.index 9 (.string (S l)) (.int .i64 6)).run Tryd.prog w = .ok (.int .u8 ((byteAt l 6 : Nat) : Int)) w := fun w => ix_at l 6 (by omega) w
  have hb6 := byteAt_lt l 6
  have FO : ∀ w, Calls Tryd.prog 30 #[.agg (hdB l).cells, .string (S (body6 l)), .int .i64 0] w fun e w' => e = .returned (.tuple #[.agg (walkH 8 (hdB l) (body6 l)).cells, .int .i64 (walkE 8 (hdB l) (body6 l))]) ∧ Touch [] w w' := fun w =>
    refFollow12 8 (by omega) (hdB l) (body6 l) w (show (0 : Int) ≤ 40 by decide) (by show (40 : Int) + _ ≤ _; rw [m1]; omega) (by omega)
  have e1 : err6 l = walkE 8 (hdB l) (body6 l) := by unfold err6; rw [if_pos e0]
  have e2 : hd6 l = if walkE 8 (hdB l) (body6 l) = 0 then walkH 8 (hdB l) (body6 l) else zeroP := by unfold hd6; rw [e1]
  rw [e1, e2]
  generalize walkE 8 (hdB l) (body6 l) = E at *
  generalize walkH 8 (hdB l) (body6 l) = D at *
  unfold hdB at FO
  generalize hF : (if E = 0 then D else zeroP) = F at *
  unfold av at A1 A2
  generalize hn1 : num ((l.drop 8).take 8) = n1 at *
  generalize hn2 : num ((l.drop 16).take 8) = n2 at *
  generalize hn3 : num ((l.drop 24).take 8) = n3 at *
  generalize hn4 : num ((l.drop 32).take 8) = n4 at *
  generalize (l.drop 8).take 16 = q8 at *
  generalize (l.drop 24).take 16 = q24 at *
  generalize body6 l = bd at *
  generalize byteAt l 6 = b6 at *
  generalize byteAt l 0 = b0 at *
  generalize twoA l 4 = t4 at *
  unfold Hd.cells at *
  simp only at FO
  have A1 := Lib.hid A1
  have A2 := Lib.hid A2
  have FO := Lib.hid FO
  have hi1 : (40 : Int) + (t4 : Int) ≤ (l.length : Int) := by omega
  have hi2 : (40 : Int) ≤ 40 + (t4 : Int) := by omega
  have hi3 : ((40 : Int) + (t4 : Int)).toNat = 40 + t4 := by omega
  have hi4 : 24 ≤ l.length := by omega
  have hi5 : (24 : Int) ≤ (l.length : Int) := by omega
  have hi6 : (40 : Int) ≤ (l.length : Int) := by omega
  clear e0 e1 e2 h40 h22 h6 m1 hn1 hn2 hn3 hn4
  go_enter Tryd.func11, Tryd.ntmps11
  go_wp2_with fail
  refine (TW.out _).mono ?_
  rintro e w0 ⟨rfl, hq⟩
  subst hq
  go_upto_region 8 with fail
  generalize w.alloc (.cells #[.int .u64 0, .int .u64 0, .int .u64 0, .int .u64 0, .int .i64 0, .int .i64 0, .int .i64 0, .int .i64 0, .bool false] 31) = w1 at *
  refine wp_region_late1 (wd := w1) 17 19 18 5 31 #[.int .u64 0, .int .u64 0, .int .u64 0, .int .u64 0, .int .i64 0, .int .i64 0, .int .i64 0, .int .i64 0, .bool false] ?aF (by kernel_rfl) (by kernel_rfl) (by kernel_rfl) (by decide) ((Touch.refl _ _).drew) (fun _ _ _ _ _ h => h) ⟨_, rfl, rfl, fun a w => rfl⟩ ?hwalk ?hend
  case hwalk =>
    intro wd ht
    simp only [List.take_succ_cons, List.take_zero]
    repeat (first | go_big_quiet_step ((first | (go_at_call 31; first | with_reducible exact Calls.cls_at (A1.out _) | with_reducible exact Calls.cls_at (A2.out _)) | (go_at_call 30; with_reducible exact Calls.cls_at (FO.out _)))) | quiet_step ((first | (go_at_call 31; first | with_reducible exact Calls.cls_at (A1.out _) | with_reducible exact Calls.cls_at (A2.out _)) | (go_at_call 30; with_reducible exact Calls.cls_at (FO.out _)))))
    refine wpQuiet_nil ?_
    rfl
  case hend =>
  intro b w2 t2 y ly
  have C4 := Lib.hid (y.fill9 (.int .u64 (D.sh : Int)) (.int .u64 (D.sl : Int)) (.int .u64 (D.dh : Int)) (.int .u64 (D.dl : Int)) (.int .i64 D.proto) (.int .i64 D.start) (.int .i64 D.size) (.int .i64 D.off) (.bool D.more))
  have U4 := touch_fill9 w2 b (.int .u64 (D.sh : Int)) (.int .u64 (D.sl : Int)) (.int .u64 (D.dh : Int)) (.int .u64 (D.dl : Int)) (.int .i64 D.proto) (.int .i64 D.start) (.int .i64 D.size) (.int .i64 D.off) (.bool D.more)
  have B4 := Lib.hid ((BR.out.carry t2 (by simp)).carry U4 (by simp; have := BR.out.lt; omega))
  have T4 := Lib.hid ((T0.out.trans t2 (by simp)).trans U4 (by have := T0.out.size; simp; omega))
  have fy := y.fr
  have ly' := y.lt
  have y0 := y.cell 0
  have y1 := y.cell 1
  have y2 := y.cell 2
  have y3 := y.cell 3
  have y4 := y.cell 4
  have y5 := y.cell 5
  have y6 := y.cell 6
  have y7 := y.cell 7
  have y8 := y.cell 8
  unfold fill9 at *
  clear A1 A2 FO TW BR T0 U4 t2 y
  simp only [List.drop_succ_cons, List.drop_zero]
  go_upto_region 9 with fail
  generalize (((((((((w2.setCell ⟨b, 0, none⟩ (.int .u64 (D.sh : Int))).setCell ⟨b, 1, none⟩ (.int .u64 (D.sl : Int))).setCell ⟨b, 2, none⟩ (.int .u64 (D.dh : Int))).setCell ⟨b, 3, none⟩ (.int .u64 (D.dl : Int))).setCell ⟨b, 4, none⟩ (.int .i64 D.proto)).setCell ⟨b, 5, none⟩ (.int .i64 D.start)).setCell ⟨b, 6, none⟩ (.int .i64 D.size)).setCell ⟨b, 7, none⟩ (.int .i64 D.off)).setCell ⟨b, 8, none⟩ (.bool D.more)) = w4 at *
  clear fy ly' y0 y1 y2 y3 y4 y5 y6 y7 y8
  by_cases hE : E = 0
  · rw [if_pos hE] at hF
    subst hF
    subst hE
    have r0 := B4.out.cell 0
    have r1 := B4.out.cell 1
    have r2 := B4.out.cell 2
    have r3 := B4.out.cell 3
    have r4 := B4.out.cell 4
    have r5 := B4.out.cell 5
    have r6 := B4.out.cell 6
    have r7 := B4.out.cell 7
    have r8 := B4.out.cell 8
    have u0 := C4.out.cell 0
    have u1 := C4.out.cell 1
    have u2 := C4.out.cell 2
    have u3 := C4.out.cell 3
    have u4 := C4.out.cell 4
    have u5 := C4.out.cell 5
    have u6 := C4.out.cell 6
    have u7 := C4.out.cell 7
    have u8 := C4.out.cell 8
    have fz := B4.out.fr
    have ltq := B4.out.lt
    go_wp2_with fail
    refine bodyPost_ret (ret_box_tmp rfl rfl (B4.out.fill9 (.int .u64 (D.sh : Int)) (.int .u64 (D.sl : Int)) (.int .u64 (D.dh : Int)) (.int .u64 (D.dl : Int)) (.int .i64 D.proto) (.int .i64 D.start) (.int .i64 D.size) (.int .i64 D.off) (.bool D.more)) Tryd.underlying31 rfl (by kernel_rfl)) rfl ⟨rfl, T4.out.trans (touch_fill9 w4 w.heap.size (.int .u64 (D.sh : Int)) (.int .u64 (D.sl : Int)) (.int .u64 (D.dh : Int)) (.int .u64 (D.dl : Int)) (.int .i64 D.proto) (.int .i64 D.start) (.int .i64 D.size) (.int .i64 D.off) (.bool D.more)) (by simp)⟩
  · by_cases hE4 : E = 4
    · rw [if_neg hE] at hF
      subst hF
      subst hE4
      have r0 := B4.out.cell 0
      have r1 := B4.out.cell 1
      have r2 := B4.out.cell 2
      have r3 := B4.out.cell 3
      have r4 := B4.out.cell 4
      have r5 := B4.out.cell 5
      have r6 := B4.out.cell 6
      have r7 := B4.out.cell 7
      have r8 := B4.out.cell 8
      have fz := B4.out.fr
      have ltq := B4.out.lt
      go_wp2_with fail
      refine bodyPost_ret (ret_box_tmp rfl rfl (B4.out.fill9 (.int .u64 0) (.int .u64 0) (.int .u64 0) (.int .u64 0) (.int .i64 0) (.int .i64 0) (.int .i64 0) (.int .i64 0) (.bool false)) Tryd.underlying31 rfl (by kernel_rfl)) rfl ⟨rfl, T4.out.trans (touch_fill9 w4 w.heap.size (.int .u64 0) (.int .u64 0) (.int .u64 0) (.int .u64 0) (.int .i64 0) (.int .i64 0) (.int .i64 0) (.int .i64 0) (.bool false)) (by simp)⟩
    · rw [if_neg hE] at hF
      subst hF
      have d4 : (E == 4) = false := by simpa using hE4
      have d0 : (E != 0) = true := by simpa using hE
      have r0 := B4.out.cell 0
      have r1 := B4.out.cell 1
      have r2 := B4.out.cell 2
      have r3 := B4.out.cell 3
      have r4 := B4.out.cell 4
      have r5 := B4.out.cell 5
      have r6 := B4.out.cell 6
      have r7 := B4.out.cell 7
      have r8 := B4.out.cell 8
      have fz := B4.out.fr
      have ltq := B4.out.lt
      go_wp2_with fail
      refine bodyPost_ret (ret_box_tmp rfl rfl (B4.out.fill9 (.int .u64 0) (.int .u64 0) (.int .u64 0) (.int .u64 0) (.int .i64 0) (.int .i64 0) (.int .i64 0) (.int .i64 0) (.bool false)) Tryd.underlying31 rfl (by kernel_rfl)) rfl ⟨rfl, T4.out.trans (touch_fill9 w4 w.heap.size (.int .u64 0) (.int .u64 0) (.int .u64 0) (.int .u64 0) (.int .i64 0) (.int .i64 0) (.int .i64 0) (.int .i64 0) (.bool false)) (by simp)⟩
end Go.Proofs.YtdpaiegojioimaaDoor

/-
  Layer 12 (ipv6): place, extension, header.
-/
namespace Go.Proofs.YtdpaiegojioimaaDoor
open Go.ChangeShapes Go.WideShapes Go.ChangeAt Go.RowKit Go.Deep
set_option linter.unusedVariables false
set_option linter.unusedSimpArgs false

structure Hd.Ok6 (h : Hd) : Prop where
  sh : h.sh < 18446744073709551616
  sl : h.sl < 18446744073709551616
  dh : h.dh < 18446744073709551616
  dl : h.dl < 18446744073709551616
  proto : -9223372036854775808 ≤ h.proto ∧ h.proto ≤ 9223372036854775807
  off : -9223372036854775808 ≤ h.off ∧ h.off ≤ 9223372036854775807
def flags6 (h : Hd) : Nat := u64n h.off % 8192 * 8 + (if h.more then 1 else 0)
theorem or_bit0 (x : Nat) (h : x < 8192) : bits .or .i64 ((x : Int) * 8) 1 = ((x * 8 + 1 : Nat) : Int) := by
  have e1 : (BitVec.ofInt 64 ((x : Int) * 8)).toNat = x * 8 := by rw [show (x : Int) * 8 = ((x * 8 : Nat) : Int) by omega, BitVec.ofInt_natCast, BitVec.toNat_ofNat]; exact Nat.mod_eq_of_lt (by omega)
  have e2 : (BitVec.ofInt 64 (1 : Int)).toNat = 1 := rfl
  show IntKind.i64.wrap ((BitVec.ofInt 64 ((x : Int) * 8) ||| BitVec.ofInt 64 (1 : Int)).toNat : Int) = _
  have h3 := Nat.two_pow_add_eq_or_of_lt (i := 3) (b := 1) (by omega) x
  rw [BitVec.toNat_or, e1, e2, show x * 8 ||| 1 = x * 8 + 1 by rw [Nat.mul_comm]; exact h3.symm, IntKind.wrap_i64]
  omega
theorem place12 (h : Hd) (w : World) : Calls Tryd.prog 67 #[.agg h.cells] w fun e w' => e = .returned (.int .i64 (flags6 h : Nat)) ∧ Touch [] w w' := by
  have a := and13 h.off
  have ef : flags6 h = u64n h.off % 8192 * 8 + (if h.more then 1 else 0) := rfl
  have hx : u64n h.off % 8192 < 8192 := by omega
  have o := or_bit0 _ hx
  rw [ef]
  generalize u64n h.off % 8192 = x at *
  unfold Hd.cells
  cases h.more
  · clear ef o
    go_enter Tryd.func67, Tryd.ntmps67
    go_wp2_with fail
    go_ret
    exact ⟨ret_int (by simp), (Touch.refl _ _).alloc _⟩
  · clear ef
    go_enter Tryd.func67, Tryd.ntmps67
    go_wp2_with fail
    go_ret
    exact ⟨ret_int (by simp), (Touch.refl _ _).alloc _⟩

/-- The shortest extension header p ahead of q. -/
def extA (h : Hd) (p q : Int) : List UInt8 := be (u64n q) 1 ++ [0] ++ (if p = 44 then be (flags6 h) 2 else [0, 0]) ++ [0, 0, 0, 0]
theorem extA_length (h : Hd) (p q : Int) : (extA h p q).length = 8 := by unfold extA; split <;> simp [be_length]
theorem byte_low (p : Int) : (p % 256 : Int) = ((UInt8.ofNat (u64n p)).toNat : Int) := by
  unfold u64n
  simp
  omega

set_option maxHeartbeats 2000000 in
set_option maxRecDepth 100000 in
theorem ext12 (h : Hd) (p q : Int) (w : World) : Calls Tryd.prog 33 #[.agg h.cells, .int .i64 p, .int .i64 q] w fun e w' => e = .returned (.string (S (extA h p q))) ∧ Touch [] w w' := by
  have hmk := fun w => make8 8 8 rfl (by omega) w
  have hpb := byte_low q
  have pw : IntKind.u8.wrap q = q % 256 := by rw [IntKind.wrap_u8]
  have hfl : flags6 h < 18446744073709551616 := by unfold flags6; split <;> omega
  have P2 := Lib.hid (fun w => put2 (flags6 h : Nat) w)
  rw [u64n_nat _ hfl] at P2
  have PL := Lib.hid (fun w => place12 h w)
  have H8 := Lib.hid (extA_length h p q)
  have eX : extA h p q = UInt8.ofNat (u64n q) :: 0 :: ((if p = 44 then be (flags6 h) 2 else [0, 0]) ++ [0, 0, 0, 0]) := by unfold extA; simp [be]
  have X0 := Lib.hid (BoxV.of2 (w := w) (cs := h.cells) (T := 27) (o := .cells ((Array.replicate 8 (.int .u8 0)).setIfInBounds 0 (.int .u8 (q % 256))) 5))
  have R1 : Row8 ((w.alloc (.cells h.cells 27)).alloc (.cells ((Array.replicate 8 (.int .u8 0)).setIfInBounds 0 (.int .u8 (q % 256))) 5)) (w.heap.size + 1) (UInt8.ofNat (u64n q) :: List.replicate 7 (0 : UInt8)) := by
    have := heap_alloc_new (w.alloc (.cells h.cells 27)) (.cells ((Array.replicate 8 (.int .u8 0)).setIfInBounds 0 (.int .u8 (q % 256))) 5)
    rw [nblk_alloc] at this
    rw [hpb] at this ⊢
    exact this
  have T1 := ((Touch.refl [] w).alloc (.cells h.cells 27)).alloc (.cells ((Array.replicate 8 (.int .u8 0)).setIfInBounds 0 (.int .u8 (q % 256))) 5)
  have HR := Lib.hid R1
  have HT1 := Lib.hid T1
  clear R1 T1 hfl
  by_cases h44 : p = 44
  · have d44 : (p == 44) = true := by simpa using h44
    have e7 : splice (UInt8.ofNat (u64n q) :: List.replicate 7 (0 : UInt8)) 2 ((be (flags6 h) 2).take 6) = extA h p q := by rw [eX, if_pos h44]; simp only [be, Nat.pow_zero, Nat.div_one]; rfl
    have HE7 := Lib.hid e7
    generalize extA h p q = XA at *
    generalize be (flags6 h) 2 = Z2 at *
    generalize UInt8.ofNat (u64n q) = pb at *
    unfold Hd.cells at *
    clear e7 eX h44 hpb
    go_enter Tryd.func33, Tryd.ntmps33
    go_upto_region 4 with fail
    generalize (w.alloc (.cells #[.int .u64 (h.sh : Int), .int .u64 (h.sl : Int), .int .u64 (h.dh : Int), .int .u64 (h.dl : Int), .int .i64 h.proto, .int .i64 h.start, .int .i64 h.size, .int .i64 h.off, .bool h.more] 27)).alloc (.cells ((Array.replicate 8 (.int .u8 0)).setIfInBounds 0 (.int .u8 (q % 256))) 5) = w1 at *
    have HX1 := Lib.hid (show BoxV w1.drew w.heap.size 27 #[.int .u64 (h.sh : Int), .int .u64 (h.sl : Int), .int .u64 (h.dh : Int), .int .u64 (h.dl : Int), .int .i64 h.proto, .int .i64 h.start, .int .i64 h.size, .int .i64 h.off, .bool h.more] from X0.out)
    have HR1 := Lib.hid (show Row8 w1.drew (w.heap.size + 1) (pb :: List.replicate 7 (0 : UInt8)) from HR.out)
    have HTd := Lib.hid HT1.out.drew
    have x2 := X0.out
    have k0 := x2.cell 0
    have k1 := x2.cell 1
    have k2 := x2.cell 2
    have k3 := x2.cell 3
    have k4 := x2.cell 4
    have k5 := x2.cell 5
    have k6 := x2.cell 6
    have k7 := x2.cell 7
    have k8 := x2.cell 8
    have ltx := x2.lt
    clear x2 hmk
    go_region_with (first
      | (go_at_call 67; refine (PL.out _).mono ?_; rintro e wq ⟨rfl, tq⟩; have TQ := Lib.hid tq; clear tq)
      | (go_at_call 66; refine (P2.out _).mono ?_; intro e wp hf; obtain ⟨Ap, np, cp, rfl, bp, tp⟩ := fresh_bts hf; obtain ⟨w7, hcp, R7, T7⟩ := copy_run ((HR1.out.carry TQ.out (by simp)).carry tp (by simp)) bp 2 6 6 (by simp); rw [HE7.out] at R7; have hcv7 := str_of (R7.bts 8 (by rw [H8.out]; exact Nat.le_refl _) (by omega)); rw [H8.out] at hcv7; have HT7 := Lib.hid (((HTd.out.trans TQ.out (by simp)).trans tp (by simp)).trans (S := []) T7 (by simp)); clear R7 T7 bp tp hf))
    go_wp2_with fail
    go_ret
    exact ⟨rfl, HT7.out⟩
  · have d44 : (p == 44) = false := by simpa using h44
    have e7 : (UInt8.ofNat (u64n q) :: List.replicate 7 (0 : UInt8)) = extA h p q := by rw [eX, if_neg h44]; rfl
    have hcv := str_of (HR.out.bts 8 (by simp) (by omega))
    have hl8 : (UInt8.ofNat (u64n q) :: List.replicate 7 (0 : UInt8)).length = 8 := by simp
    rw [hl8, e7] at hcv
    generalize extA h p q = XA at *
    unfold Hd.cells at *
    clear e7 eX h44 hpb hl8
    go_enter Tryd.func33, Tryd.ntmps33
    go_upto_region 5 with fail
    generalize (w.alloc (.cells #[.int .u64 (h.sh : Int), .int .u64 (h.sl : Int), .int .u64 (h.dh : Int), .int .u64 (h.dl : Int), .int .i64 h.proto, .int .i64 h.start, .int .i64 h.size, .int .i64 h.off, .bool h.more] 27)).alloc (.cells ((Array.replicate 8 (.int .u8 0)).setIfInBounds 0 (.int .u8 (q % 256))) 5) = w1 at *
    clear hmk
    go_wp2_with fail
    go_ret
    exact ⟨rfl, HT1.out⟩

def headA6 (h : Hd) (next len : Int) : List UInt8 := [96, 0, 0, 0] ++ be (u64n len) 2 ++ be (u64n next) 1 ++ [0] ++ (be h.sh 8 ++ be h.sl 8) ++ (be h.dh 8 ++ be h.dl 8)
theorem headA6_length (h : Hd) (next len : Int) : (headA6 h next len).length = 40 := by simp [headA6, be_length]
theorem bytes_six (hi lo : Nat) : bytesA 6 hi lo = be hi 8 ++ be lo 8 := by
  have hr : rightA 6 hi lo = true := by unfold rightA; rw [if_neg (by decide)]; rfl
  unfold bytesA
  rw [hr, if_pos rfl, if_neg (by decide)]

set_option maxHeartbeats 4000000 in
set_option maxRecDepth 100000 in
theorem header12 (h : Hd) (ok : h.Ok6) (next len : Int) (w : World) : Calls Tryd.prog 34 #[.agg h.cells, .int .i64 next, .int .i64 len] w fun e w' => e = .returned (.string (S (headA6 h next len))) ∧ Touch [] w w' := by
  have hmk := fun w => make8 40 40 rfl (by omega) w
  have P1 := Lib.hid (fun w => put2 len w)
  have LO1 := fun w => bytes10 6 h.sh h.sl ok.sh ok.sl w
  have LO2 := fun w => bytes10 6 h.dh h.dl ok.dh ok.dl w
  rw [bytes_six] at LO1 LO2
  have NZ3 := Lib.hid (show (be h.sh 8 ++ be h.sl 8).length = 16 by simp [be_length])
  have NZ4 := Lib.hid (show (be h.dh 8 ++ be h.dl 8).length = 16 by simp [be_length])
  obtain ⟨L2, hL2⟩ : ∃ L2, splice (96 :: List.replicate 39 (0 : UInt8)) 4 ((be (u64n len) 2).take 36) = L2 := ⟨_, rfl⟩
  obtain ⟨L3, hL3⟩ : ∃ L3, L2.set 6 (UInt8.ofNat (u64n next)) = L3 := ⟨_, rfl⟩
  obtain ⟨L4, hL4⟩ : ∃ L4, splice L3 8 (be h.sh 8 ++ be h.sl 8) = L4 := ⟨_, rfl⟩
  have n2 : L2.length = 40 := by rw [← hL2, splice_length _ _ _ (by simp [be_length])]; simp
  have n3 : L3.length = 40 := by rw [← hL3, List.length_set, n2]
  have n4 : L4.length = 40 := by rw [← hL4, splice_length _ _ _ (by simp [be_length, n3]), n3]
  have e5 : splice L4 24 (be h.dh 8 ++ be h.dl 8) = headA6 h next len := by
    rw [← hL4, ← hL3, ← hL2]
    unfold headA6
    simp only [be, Nat.pow_zero, Nat.div_one]
    rfl
  have hpb := Lib.hid (byte_low next)
  have pw : IntKind.u8.wrap next = next % 256 := by rw [IntKind.wrap_u8]
  have HL2 := Lib.hid hL2
  have HL3 := Lib.hid hL3
  have HL4 := Lib.hid hL4
  have HE5 := Lib.hid e5
  have N2 := Lib.hid n2
  have N3 := Lib.hid n3
  have N4 := Lib.hid n4
  have H40 := Lib.hid (headA6_length h next len)
  generalize headA6 h next len = HA at *
  generalize be (u64n len) 2 = Z1 at *
  generalize be h.sh 8 ++ be h.sl 8 = Z3 at *
  generalize be h.dh 8 ++ be h.dl 8 = Z4 at *
  generalize UInt8.ofNat (u64n next) = pb at *
  clear hL2 hL3 hL4 n2 n3 n4 e5 ok
  unfold Hd.cells av at *
  have LO1 := Lib.hid LO1
  have LO2 := Lib.hid LO2
  go_enter Tryd.func34, Tryd.ntmps34
  go_upto_region 3 with fail
  have X0 := BoxV.of2 (w := w) (cs := #[.int .u64 (h.sh : Int), .int .u64 (h.sl : Int), .int .u64 (h.dh : Int), .int .u64 (h.dl : Int), .int .i64 h.proto, .int .i64 h.start, .int .i64 h.size, .int .i64 h.off, .bool h.more]) (T := 27) (o := .cells ((Array.replicate 40 (.int .u8 0)).setIfInBounds 0 (.int .u8 96)) 5)
  have R1 : Row8 ((w.alloc (.cells #[.int .u64 (h.sh : Int), .int .u64 (h.sl : Int), .int .u64 (h.dh : Int), .int .u64 (h.dl : Int), .int .i64 h.proto, .int .i64 h.start, .int .i64 h.size, .int .i64 h.off, .bool h.more] 27)).alloc (.cells ((Array.replicate 40 (.int .u8 0)).setIfInBounds 0 (.int .u8 96)) 5)) (w.heap.size + 1) (96 :: List.replicate 39 (0 : UInt8)) := by
    have := heap_alloc_new (w.alloc (.cells #[.int .u64 (h.sh : Int), .int .u64 (h.sl : Int), .int .u64 (h.dh : Int), .int .u64 (h.dl : Int), .int .i64 h.proto, .int .i64 h.start, .int .i64 h.size, .int .i64 h.off, .bool h.more] 27)) (.cells ((Array.replicate 40 (.int .u8 0)).setIfInBounds 0 (.int .u8 96)) 5)
    rw [nblk_alloc] at this
    exact this
  have T1 := ((Touch.refl [] w).alloc (.cells #[.int .u64 (h.sh : Int), .int .u64 (h.sl : Int), .int .u64 (h.dh : Int), .int .u64 (h.dl : Int), .int .i64 h.proto, .int .i64 h.start, .int .i64 h.size, .int .i64 h.off, .bool h.more] 27)).alloc (.cells ((Array.replicate 40 (.int .u8 0)).setIfInBounds 0 (.int .u8 96)) 5)
  generalize (w.alloc (.cells #[.int .u64 (h.sh : Int), .int .u64 (h.sl : Int), .int .u64 (h.dh : Int), .int .u64 (h.dl : Int), .int .i64 h.proto, .int .i64 h.start, .int .i64 h.size, .int .i64 h.off, .bool h.more] 27)).alloc (.cells ((Array.replicate 40 (.int .u8 0)).setIfInBounds 0 (.int .u8 96)) 5) = w1 at *
  have HX := Lib.hid (show BoxV w1.drew w.heap.size 27 #[.int .u64 (h.sh : Int), .int .u64 (h.sl : Int), .int .u64 (h.dh : Int), .int .u64 (h.dl : Int), .int .i64 h.proto, .int .i64 h.start, .int .i64 h.size, .int .i64 h.off, .bool h.more] from X0)
  have HR := Lib.hid (show Row8 w1.drew (w.heap.size + 1) (96 :: List.replicate 39 (0 : UInt8)) from R1)
  have HT1 := Lib.hid T1.drew
  clear X0 R1 T1 hmk
  go_region_with (go_at_call 66; refine (P1.out _).mono ?_; intro e wp hf; obtain ⟨Ap, np, cp, rfl, bp, tp⟩ := fresh_bts hf; obtain ⟨w2, hcp, R2, T2⟩ := copy_run (HR.out.carry tp (by simp)) bp 4 36 36 (by simp); rw [HL2.out] at R2; have HR2 := Lib.hid R2; have HX2 := Lib.hid ((HX.out.carry tp (by simp)).carry T2 (by simp)); have HT2 := Lib.hid ((HT1.out.trans tp (by simp)).trans (S := []) T2 (by simp)); clear R2 T2 bp tp hf)
  clear hcp
  have ltr := HR2.out.lt
  have f9 := HR2.out.fr 6
  have c9 := HR2.out.cell (i := 6) (by rw [N2.out]; omega)
  have R3 := HR2.out.set 6 pb (next % 256) hpb.out
  rw [HL3.out] at R3
  have X3 := HX2.out.carry ((Touch.refl [w.heap.size + 1] w2).setCell (a := ⟨w.heap.size + 1, 6, none⟩) (by simp) (.int .u8 (next % 256))) (by simp)
  have T3 := HT2.out.setCell (a := ⟨w.heap.size + 1, 6, none⟩) (by simp) (.int .u8 (next % 256))
  have HR3 := Lib.hid R3
  have HX3 := Lib.hid X3
  have HT3 := Lib.hid T3
  clear R3 X3 T3
  go_upto_region 5 with fail
  clear ltr f9 c9
  generalize w2.setCell ⟨w.heap.size + 1, 6, none⟩ (.int .u8 (next % 256)) = w3 at *
  have k0 := HX3.out.cell 0
  have k1 := HX3.out.cell 1
  have ltx := HX3.out.lt
  have HX3' := Lib.hid (show BoxV w3.drew w.heap.size 27 #[.int .u64 (h.sh : Int), .int .u64 (h.sl : Int), .int .u64 (h.dh : Int), .int .u64 (h.dl : Int), .int .i64 h.proto, .int .i64 h.start, .int .i64 h.size, .int .i64 h.off, .bool h.more] from HX3.out)
  have HR3' := Lib.hid (show Row8 w3.drew (w.heap.size + 1) L3 from HR3.out)
  go_region_with (go_at_call 68; refine (LO1.out _).mono ?_; rintro e wq ⟨rfl, tq⟩; obtain ⟨w5, hcp, R5, T5⟩ := copy_str (HR3'.out.carry tq (by simp)) Z3 8 32 32 (by rw [NZ3.out]; omega) (by rw [NZ3.out, N3.out]; omega); rw [HL4.out] at R5; have HR5 := Lib.hid R5; have HX5 := Lib.hid ((HX3'.out.carry tq (by simp)).carry T5 (by simp)); have HT5 := Lib.hid ((HT3.out.drew.trans tq (by simp)).trans (S := []) T5 (by simp)); clear R5 T5 tq)
  go_upto_region 6 with fail
  clear hcp k0 k1 ltx HX3' HR3' HT3 HX3 HR3
  have k2 := HX5.out.cell 2
  have k3 := HX5.out.cell 3
  have ltx := HX5.out.lt
  have HR5' := Lib.hid (show Row8 w5.drew (w.heap.size + 1) L4 from HR5.out)
  go_region_with (go_at_call 68; refine (LO2.out _).mono ?_; rintro e wq ⟨rfl, tq⟩; obtain ⟨w6, hcp, R6, T6⟩ := copy_str (HR5'.out.carry tq (by simp)) Z4 24 16 16 (by rw [NZ4.out]; omega) (by rw [NZ4.out, N4.out]; omega); rw [HE5.out] at R6; have hcv7 := str_of (R6.bts 40 (by rw [H40.out]; exact Nat.le_refl _) (by omega)); rw [H40.out] at hcv7; have HT6 := Lib.hid ((HT5.out.drew.trans tq (by simp)).trans (S := []) T6 (by simp)); clear R6 T6 tq)
  clear hcp
  go_wp2_with fail
  go_ret
  exact ⟨rfl, HT6.out⟩
end Go.Proofs.YtdpaiegojioimaaDoor

/-
  Ranges over functions: what a round keeps; a sequence by its first elements.
-/
namespace Go.Proofs.YtdpaiegojioimaaDoor
open Go.ChangeShapes Go.WideShapes Go.ChangeAt Go.RowKit Go.Deep Go.Maps Go.Shelf
set_option linter.unusedVariables false

def upto {α : Type} (f : Nat → α) (k : Nat) : List α := (List.range k).map f
theorem upto_succ {α : Type} (f : Nat → α) (k : Nat) : upto f (k + 1) = upto f k ++ [f k] := by simp [upto, List.range_succ]
theorem upto_length {α : Type} (f : Nat → α) (k : Nat) : (upto f k).length = k := by simp [upto]
/-- What a round keeps: blocks but those of S, if they lay ahead of B or are cells. -/
def KpR (S : List Nat) (B : Nat) (W W' : World) : Prop := W.heap.size ≤ W'.heap.size ∧ ∀ b o, W.heap[b]? = some o → b ∉ S → (b < B ∨ o.isCells = true) → W'.heap[b]? = some o
theorem KpR.trans {S : List Nat} {B : Nat} {X Y Z : World} (h : KpR S B X Y) (k : KpR S B Y Z) : KpR S B X Z := ⟨Nat.le_trans h.1 k.1, fun b o hb hS ho => k.2 b o (h.2 b o hb hS ho) hS ho⟩
theorem KpR.put {S : List Nat} {B : Nat} (W : World) (l : Nat) (o o' : Obj) (hl : B ≤ l) (ho : W.heap[l]? = some o) (hc : o.isCells = false) : KpR S B W (W.putObj l o') := by
  refine ⟨by simp, fun b q hb _ hq => ?_⟩
  by_cases e : b = l
  · subst e
    rw [ho] at hb
    cases hb
    rcases hq with h | h
    · omega
    · rw [hc] at h; cases h
  · rw [World.putObj_heap_other e]
    exact hb
theorem KpR.of_touch {S : List Nat} {B : Nat} {W W' : World} (t : Touch S W W') : KpR S B W W' := ⟨t.size, fun b o hb hS _ => (t.block b (Array.getElem?_eq_some_iff.1 hb).1 hS).trans hb⟩
theorem KpR.own {S : List Nat} {B : Nat} {W W' : World} {base n : Nat} {e : TypeId} {v : Value} {xs : List Value} (k : KpR S B W W') (hS : ∀ b ∈ S, b < base) (h : W.ownsRow base e 1 v n xs) : W'.ownsRow base e 1 v n xs := by
  refine own_of_block h fun g hg => ?_
  rcases h.2 with ⟨rfl, _⟩ | ⟨g', cap, cur, rfl, hb, hh, _⟩
  · simp [Value.ownBlock] at hg
  · simp [Value.ownBlock] at hg
    subst hg
    rw [hh]
    exact k.2 _ _ hh (fun hm => by have := hS _ hm; omega) (.inr rfl)
theorem mem_upto {α : Type} {f : Nat → α} {n : Nat} {a : α} : a ∈ upto f n ↔ ∃ j, j < n ∧ f j = a := by simp [upto]
theorem upto_congr {α : Type} {f g : Nat → α} {n : Nat} (h : ∀ i, i < n → f i = g i) : upto f n = upto g n := by
  unfold upto
  exact List.map_congr_left fun i hi => h i (List.mem_range.1 hi)
theorem upto_get {α : Type} {f g : Nat → α} {n m : Nat} (h : upto f n = upto g m) : n = m ∧ ∀ i, i < n → f i = g i := by
  have e := congrArg List.length h
  simp only [upto_length] at e
  subst e
  refine ⟨rfl, fun i hi => ?_⟩
  have := congrArg (fun l => l[i]?) h
  simpa [upto, hi] using this
theorem grown_touch {W W' : World} {row : Option Nat} (hg : W.grownBy W' row) : Touch row.toList W W' := (Touch.refl row.toList W).grown hg (fun k e => by subst e; simp)
end Go.Proofs.YtdpaiegojioimaaDoor

/-
  A region that draws its order, in a round of a range over a function: by the laws of a region outside of one.
-/
namespace Go.Proofs.YtdpaiegojioimaaDoor
open Go.ChangeShapes Go.WideShapes Go.ChangeAt Go.RowKit Go.Deep
set_option linter.unusedVariables false

section
variable {P : Program} {ops : Array Oper} {Q : Exit → Act → World → Prop}
theorem rows_wide {row : String} {args : Array Value} {w : World} {R : Value → World → Prop} {n l : Nat} (h : Rows P row args w R) : RowsIn (Fence.wide.inRound l) n P row args w R := by
  intro c cs _
  obtain ⟨v, w', r, s⟩ := h c cs
  exact ⟨v, w', r, stepsIn_wide.2 s⟩
theorem upon_round {o : Oper} {a : Act} {next next' : Act → World → Prop} {r : Result Next} {l n : Nat} (hn : ∀ a w, next a w → next' a w) (h : o.upon P a next Q r) : o.uponIn (Fence.wide.inRound l) n P a next' Q r := by
  cases r with
  | ok x w' =>
    cases x with
    | value v => exact hn _ _ h
    | skip => exact hn _ _ h
    | defer d => exact hn _ _ h
    | enter f args =>
      refine ⟨fun hd => (by cases hd), ?_⟩
      refine (CallsIn.inRound l (callsIn_wide.2 h)).mono fun e w'' he => ?_
      cases e with
      | returned v => exact hn _ _ he
      | panicked c => exact he
      | outgrown => exact he
    | row row args => exact ⟨fun hd => (by cases hd), (rows_wide h).mono fun v w'' he => hn _ _ he⟩
    | _ => exact h.elim
  | halt x w' =>
    cases x with
    | panic v => exact h
    | _ => exact h.elim
theorem ops_round {l n : Nat} (hno : ¬ LetsOut Q) (hd : ∀ (i : Nat) (o : Oper), ops[i]? = some o → ∀ c, o.op ≠ .defer c) : ∀ (is : List Nat) (a : Act) (w : World), wpOps P ops Q is a w → wpOpsIn (Fence.wide.inRound l) n P ops Q is a w
  | [], _, _, h => h
  | i :: is, a, w, h => by
    simp only [wpOps, wpOpsIn] at *
    cases ho : ops[i]? with
    | none => rw [ho] at h; exact ops_round hno hd is a w h
    | some o =>
      simp only [ho] at h ⊢
      by_cases hw : Region.wanted o (yielded ops a.tmps) = true
      · rw [if_pos hw] at h ⊢
        rcases h with h | ⟨_, h⟩
        · refine ⟨fun _ _ => trivial, ?_⟩
          rw [show (Fence.wide.inRound l).round = some l from rfl, Oper.semAt_some l a.eval o (hd i o ho)]
          exact upon_round (ops_round hno hd is) h
        · exact absurd h hno
      · rw [if_neg hw] at h ⊢
        exact ⟨fun _ _ => trivial, ops_round hno hd is _ w h⟩
/-- In a round a region that draws goes by the orders' own law. -/
theorem region_round {id : Nat} {a : Act} {w : World} {l n : Nat} (hm : P.follows .mixedOrders = true) (hno : ¬ LetsOut Q) (hd : (ops.all fun o => match o.op with | .defer _ => false | _ => true) = true)
    (h : wpAny P .any ops Q ops.size (Array.replicate ops.size false) a w.drew) : (Code.region id ops true).wpIn (Fence.wide.inRound l) n P Q a w :=
  wpIn_region_draw fun t => by
    simp only [Region.schedule, hm, Bool.true_or, if_true]
    refine ops_round hno (fun i o ho c e => ?_) _ _ _ (wpAny_sound ops.size t _ a _ h)
    have := Array.all_eq_true_iff_forall_mem.1 hd o (Array.mem_of_getElem? ho)
    simp [e] at this
end

/-- wp_region_tail's walk, as what the orders' own law asks. -/
theorem tail_start {P : Program} {Q : Exit → Act → World → Prop} {a : Act} {w wd : World} {l : List Oper} (n : Nat) (hB : Region.lexTailB .any l.toArray n = true) (hC : Touch [] wd w)
    (h : wpQuiet P l.toArray (fun w' => ∃ x : Cls wd, w' = x.val) (fun a' => ∀ x : Cls wd, wpList P l.toArray Q (l.drop n) a' x.val) (l.take n) a) : wpAny P .any l.toArray Q l.toArray.size (Array.replicate l.toArray.size false) a w := by
  simp only [Region.lexTailB, Bool.and_eq_true, decide_eq_true_eq] at hB
  obtain ⟨⟨⟨⟨hsel, hn⟩, hs⟩, hc⟩, hlex⟩ := hB
  have hn' : n < l.length := by simpa using hn
  have htl : (l.take n).length = n := by simp; omega
  have hdl : (l.drop n).length = l.toArray.size - n := by simp
  have inv0 : HeadInv .any l.toArray n (Array.replicate l.toArray.size false) := by
    constructor
    · simp
    · intro j oj _ hl
      rw [getD_replicate_false] at hl
      cases hl
    · intro t _ ht
      exact getD_in (by simpa using ht) (getD_replicate_false _ _)
  have H := Heads.text (g := l.toArray.size - n) hsel hs hc hn (l.take n) 0 _ a (fun j hj => by rw [htl] at hj; simp [hj]) (by omega) inv0 (by rw [htl]; exact hlex) h
  have := Heads.any (Q := Q) (g := l.toArray.size - n) (fun s a' w' ⟨x, hx⟩ hL => by
    subst hx
    have := wpAny_of_seq (md := .any) (Q' := Q) (l.drop n) n s a' x.val (fun j => by simp [List.getElem?_drop]) (by rw [hdl]; exact hL.1) (hL.2 x)
    rwa [hdl] at this) _ _ _ _ ⟨⟨_, hC⟩, rfl⟩ H
  rw [htl, show n + (l.toArray.size - n) = l.toArray.size by omega] at this
  exact this
end Go.Proofs.YtdpaiegojioimaaDoor

/-
  Layer 12 (ipv6): Make: a range over what slices.Backward returns.
-/
namespace Go.Proofs.YtdpaiegojioimaaDoor
open Go.ChangeShapes Go.WideShapes Go.ChangeAt Go.RowKit Go.Deep Go.Maps Go.Shelf
set_option linter.unusedVariables false
set_option linter.unusedSimpArgs false
attribute [local go_sem] Oper.semAt_some

/-! ### What a packet is -/
def nextOf (h : Hd) : List Int → Int
  | [] => h.proto
  | p :: _ => p
def extsA (h : Hd) : List Int → List UInt8
  | [] => []
  | p :: ps => extA h p (nextOf h ps) ++ extsA h ps
theorem extsA_length (h : Hd) : ∀ ks, (extsA h ks).length = 8 * ks.length
  | [] => rfl
  | p :: ps => by simp [extsA, extA_length, extsA_length h ps]; omega
def pack6 (h : Hd) (l : List Int) (pay : List UInt8) : List UInt8 :=
  if 8 < l.length ∨ 65471 < pay.length then [] else headA6 h (nextOf h (l.filter fol)) (8 * (l.filter fol).length + pay.length) ++ (extsA h (l.filter fol) ++ pay)
def stepM (h : Hd) (s : Int × List UInt8) (p : Int) : Int × List UInt8 := if fol p = true then (p, extA h p s.1 ++ s.2) else s
def stM (h : Hd) (pay : List UInt8) (pre : List (Nat × Int)) : Int × List UInt8 := pre.foldl (fun s y => stepM h s y.2) (h.proto, pay)
theorem stM_snoc (h : Hd) (pay : List UInt8) (pre : List (Nat × Int)) (y : Nat × Int) : stM h pay (pre ++ [y]) = stepM h (stM h pay pre) y.2 := by simp [stM]
theorem foldr_steps (h : Hd) (pay : List UInt8) : ∀ l : List Int, l.foldr (fun p s => stepM h s p) (h.proto, pay) = (nextOf h (l.filter fol), extsA h (l.filter fol) ++ pay)
  | [] => rfl
  | p :: l => by
    rw [List.foldr_cons, foldr_steps h pay l]
    unfold stepM
    by_cases hf : fol p = true
    · rw [if_pos hf, List.filter_cons_of_pos hf]
      simp [nextOf, extsA]
    · rw [if_neg hf, List.filter_cons_of_neg hf]
/-- What slices.Backward hands on. -/
def bk (n : Nat) (X : Nat → Int) (k : Nat) : Nat × Int := (n - 1 - k, X (n - 1 - k))
theorem bk_all (n : Nat) (X : Nat → Int) : (upto (bk n X) n).map (·.2) = (upto X n).reverse := by
  apply List.ext_getElem?
  intro i
  by_cases hi : i < n
  · rw [List.getElem?_reverse (by rw [upto_length]; exact hi), upto_length]
    simp [upto, bk, hi, show n - 1 - i < n by omega]
  · rw [List.getElem?_eq_none (by simp [upto_length]; omega), List.getElem?_eq_none (by simp [upto_length]; omega)]
theorem stM_all (h : Hd) (pay : List UInt8) (n : Nat) (X : Nat → Int) : stM h pay (upto (bk n X) n) = (nextOf h ((upto X n).filter fol), extsA h ((upto X n).filter fol) ++ pay) := by
  rw [← foldr_steps, ← List.foldl_reverse, ← bk_all, List.foldl_map]
  rfl
theorem stM_length (h : Hd) (pay : List UInt8) : ∀ pre : List (Nat × Int), (stM h pay pre).2.length ≤ 8 * pre.length + pay.length := by
  intro pre
  unfold stM
  suffices H : ∀ (s : Int × List UInt8), (pre.foldl (fun s y => stepM h s y.2) s).2.length ≤ 8 * pre.length + s.2.length from H _
  induction pre with
  | nil => intro s; simp
  | cons y pre ih =>
    intro s
    rw [List.foldl_cons]
    refine Nat.le_trans (ih _) ?_
    have : (stepM h s y.2).2.length ≤ 8 + s.2.length := by
      unfold stepM
      split
      · simp [extA_length]
      · omega
    simp only [List.length_cons]
    omega

/-! ### slices.Backward -/
def Keep (S : List Nat) (w wr : World) : Prop := w.heap.size ≤ wr.heap.size ∧ ∀ b, b < w.heap.size → b ∉ S → wr.heap[b]? = w.heap[b]?
theorem Keep.cell {S : List Nat} {w wr : World} (h : Keep S w wr) {a : Addr} (ha : a.block < w.heap.size) (hn : a.block ∉ S) : wr.cell? a = w.cell? a := World.cell?_of_block (w := w) (h.2 _ ha hn)
theorem Keep.go {S : List Nat} {w wr W : World} (h : Keep S w wr) (k : KpR S w.heap.size wr W) : Keep S w W := by
  refine ⟨Nat.le_trans h.1 k.1, fun b hb hS => ?_⟩
  rw [← h.2 b hb hS]
  have hlt : b < wr.heap.size := Nat.lt_of_lt_of_le hb h.1
  rw [k.2 b _ (Array.getElem?_eq_getElem hlt) hS (.inl hb), Array.getElem?_eq_getElem hlt]

set_option maxHeartbeats 1000000 in
set_option maxRecDepth 100000 in
theorem back1_stops {w : World} {n cap Bs : Nat} {A : Option Addr} {X : Nat → Int} (S : List Nat) (hn : n ≤ 100000) (hBs : Bs < w.heap.size) (hBS : Bs ∉ S) (hc : w.cell? ⟨Bs, 0, none⟩ = some (.slice A n cap)) (hX : IntCells w w.heap.size A n X) (hA : 0 < n → ∀ b off, A = some ⟨b, off, none⟩ → b ∉ S) (m : Nat) :
    SeqStopsK Fence.wide m Tryd.prog 65 #[.pointer (some ⟨Bs, 0, none⟩)] (fun y : Nat × Int => #[Value.int .i64 (y.1 : Int), Value.int .i64 y.2]) (KpR S w.heap.size) (fun ys => ys = upto (bk n X) n) (fun _ => True) n w := fun l J Jx W hW hJ hJx hY h0 => by
  have K0 : Keep S w W := ⟨hW.size, fun b hb _ => hW.block b hb⟩
  have hc' : W.cell? ⟨Bs, 0, none⟩ = some (.slice A n cap) := (K0.cell (a := ⟨Bs, 0, none⟩) hBs hBS).trans hc
  have hBW : Bs < W.heap.size := Nat.lt_of_lt_of_le hBs K0.1
  have HK := Lib.hid K0
  have HX := Lib.hid hX
  have HC := Lib.hid hc
  clear hW K0 hX hc
  refine callsIn_of_wp Tryd.func65 rfl trivial ?_ rfl
  simp only [Tryd.ntmps65, List.size_toArray, List.length_cons, List.length_nil, Nat.reduceAdd, Nat.reduceSub, Array.replicate_succ, Array.replicate_zero, List.push_toArray, List.append_toArray, List.nil_append, List.cons_append]
  gi_wp2
  gi_loopw [3] (fun i wr => (∃ k j : Nat, j + k + 1 = n ∧ i = .int .i64 (j : Int) ∧ J (upto (bk n X) k) wr ∧ Keep S w wr) ∨ (i = .int .i64 (-1) ∧ J (upto (bk n X) n) wr ∧ Keep S w wr)) (fun i _ => (intOf i + 1).toNat)
  case atStart =>
    by_cases h : n = 0
    · subst h
      exact .inr ⟨by simp, h0, HK.out⟩
    · exact .inl ⟨0, n - 1, by omega, by congr 1; omega, h0, HK.out⟩
  case round =>
    rcases hrel with ⟨k, j, hkj, rfl, hJk, hkp⟩ | ⟨rfl, hJk, hkp⟩
    · obtain ⟨fn, tmps, assign, body, hy, hR⟩ := hY _ (bk n X k) wr hJk (by rw [upto_length]; omega)
      have hb : bk n X k = (j, X j) := by unfold bk; rw [show n - 1 - k = j by omega]
      rw [hb] at hy
      simp only at hy
      obtain ⟨b, off, rfl, hbl, hcell⟩ := HX.out j (by omega)
      have hcj : wr.cell? ⟨b, off + j, none⟩ = some (.int .i64 (X j)) := (hkp.cell (a := ⟨b, off + j, none⟩) hbl (hA (by omega) b off rfl)).trans hcell
      have hcs : wr.cell? ⟨Bs, 0, none⟩ = some (.slice (some ⟨b, off, none⟩) n cap) := (hkp.cell (a := ⟨Bs, 0, none⟩) hBs hBS).trans HC.out
      have hjn : j < n := by omega
      have hBr : Bs < wr.heap.size := Nat.lt_of_lt_of_le hBs hkp.1
      have hbr : b < wr.heap.size := Nat.lt_of_lt_of_le hbl hkp.1
      have HKP := Lib.hid hkp
      have hj0 : (0 : Int) ≤ (j : Int) := by omega
      clear hkp hcell hb hc'
      gi_wp2
      refine ⟨fun h => (by cases h), hR.mono ?_⟩
      rintro e W3 (⟨rfl, hJ3, hk3⟩ | ⟨rfl, hJx3⟩)
      · have J3 := Lib.hid (show J (upto (bk n X) (k + 1)) W3 by rw [upto_succ]; exact hJ3)
        have KP3 := Lib.hid (HKP.out.go hk3)
        clear hJ3 hk3
        gi_wp2
        go_roundw
        case rel =>
          by_cases hj : j = 0
          · refine .inr ⟨by subst hj; simp, ?_, KP3.out⟩
            have : k + 1 = n := by omega
            rw [← this] at J3 ⊢
            exact J3.out
          · exact .inl ⟨k + 1, j - 1, by omega, by congr 1; omega, J3.out, KP3.out⟩
        case measure => simp [intOf]
      · gi_wp2
        refine bodyPost_ret (results_none rfl _ _ _) rfl ?_
        exact ⟨⟨_, rfl⟩, .inr ⟨_, trivial, hJx3⟩⟩
    · gi_wp2
      go_end0
      exact ⟨⟨_, rfl⟩, .inl ⟨_, rfl, hJk⟩⟩

theorem back12 (A : Option Addr) (n cap : Nat) (w : World) :
    Calls Tryd.prog 32 #[.slice A n cap] w fun e w' => e = .returned (.func (.func 65) #[] #[.pointer (some ⟨w.heap.size, 0, none⟩)]) ∧ w' = w.alloc (.cells #[.slice A n cap] 36) := by
  go_enter Tryd.func32, Tryd.ntmps32
  go_wp2
  go_ret
  exact ⟨rfl, rfl⟩

def MkI (w : World) (h : Hd) (pay : List UInt8) (b3 b7 b8 : Nat) (pre : List (Nat × Int)) (W : World) : Prop :=
  BoxV W b3 27 h.cells ∧ Box1 W b7 3 (.int .i64 (stM h pay pre).1) ∧ Box1 W b8 9 (.string (S (stM h pay pre).2)) ∧ Tab6 W ∧ Touch [] w W
theorem mkI_own {w : World} {h : Hd} {pay : List UInt8} {b3 b7 b8 B : Nat} (h3 : b3 < B) (h7 : b7 < B) (h8 : b8 < B) (h0 : 0 < B) (hw : w.heap.size ≤ B) : OwnFrom B (MkI w h pay b3 b7 b8) := by
  rintro pre W W' row ⟨c3, c7, c8, hk, ht⟩ hg hrow
  have t := grown_touch hg
  have hn : ∀ b, b < B → b ∉ row.toList := fun b hb hm => by
    have := (hrow b (by simpa using hm)).1
    omega
  exact ⟨c3.carry t (hn _ h3), c7.carry t (hn _ h7), c8.carry t (hn _ h8), hk.carry t (hn _ h0), ht.trans t (fun b hb => by have := (hrow b (by simpa using hb)).1; right; omega)⟩

set_option maxRecDepth 100000 in
set_option maxHeartbeats 2000000 in
theorem make12 (h : Hd) (ok : h.Ok6) {A : Option Addr} {n cap : Nat} {X : Nat → Int} (pay : List UInt8) {w : World} (K : Tab6 w) (hX : IntCells w w.heap.size A n X) (hn : n ≤ 9223372036854775807) (hp : pay.length ≤ 9223372036854775807) :
    Calls Tryd.prog 14 #[.agg h.cells, .slice A n cap, .string (S pay)] w fun e w' => e = .returned (.string (S (pack6 h (upto X n) pay))) ∧ Touch [] w w' := by
  have hss : (S pay).size = pay.length := S_size pay
  have T0 := Lib.hid ((Touch.refl [] w).alloc (.cells h.cells 27))
  by_cases h8 : 8 < n
  · have e : pack6 h (upto X n) pay = [] := by unfold pack6; rw [if_pos (.inl (by rw [upto_length]; exact h8))]
    rw [e]
    have d8 : decide (8 < (n : Int)) = true := by simp; omega
    unfold Hd.cells at *
    clear e hX K ok
    go_enter Tryd.func14, Tryd.ntmps14
    go_wp2_with fail
    go_ret
    exact ⟨rfl, T0.out⟩
  have d8 : decide (8 < (n : Int)) = false := by simp; omega
  by_cases h6 : 65471 < pay.length
  · have e : pack6 h (upto X n) pay = [] := by unfold pack6; rw [if_pos (.inr h6)]
    rw [e]
    have d6 : decide (65471 < (pay.length : Int)) = true := by simp; omega
    unfold Hd.cells at *
    clear e hX K ok
    go_enter Tryd.func14, Tryd.ntmps14
    go_wp2_with fail
    go_ret
    exact ⟨rfl, T0.out⟩
  have d6 : decide (65471 < (pay.length : Int)) = false := by simp; omega
  have e : pack6 h (upto X n) pay = headA6 h (stM h pay (upto (bk n X) n)).1 ((stM h pay (upto (bk n X) n)).2.length : Nat) ++ (stM h pay (upto (bk n X) n)).2 := by
    rw [stM_all]
    unfold pack6
    rw [if_neg (by rw [upto_length]; omega)]
    simp only [List.length_append, extsA_length]
    rfl
  obtain ⟨nx, bd, hF⟩ : ∃ nx bd, stM h pay (upto (bk n X) n) = (nx, bd) := ⟨_, _, rfl⟩
  rw [hF] at e
  simp only at e
  have hbl : bd.length ≤ 8 * n + pay.length := by
    have := stM_length h pay (upto (bk n X) n)
    rwa [hF, upto_length] at this
  obtain ⟨HA, hHA⟩ : ∃ HA, headA6 h nx (bd.length : Nat) = HA := ⟨_, rfl⟩
  have hHl : HA.length = 40 := by rw [← hHA]; exact headA6_length _ _ _
  rw [e, hHA]
  have ad := add_str HA bd (by omega)
  obtain ⟨R, hR⟩ : ∃ R, HA ++ bd = R := ⟨_, rfl⟩
  rw [hR] at ad ⊢
  have AD := Lib.hid ad
  have HFF := Lib.hid hF
  have HHA := Lib.hid hHA
  clear e hF hHA hR ad hHl
  refine (callsIn_wide (n := 6)).1 ?_
  refine callsIn_of_wp_marks Tryd.func14 rfl trivial ?_ rfl
  simp only [Tryd.ntmps14, List.size_toArray, List.length_cons, List.length_nil, Nat.reduceAdd, Nat.reduceSub, Array.replicate_succ, Array.replicate_zero, List.push_toArray, List.append_toArray, List.nil_append, List.cons_append]
  unfold Hd.cells at *
  gi_wp2
  refine ⟨trivial, ?_⟩
  refine (callsIn_wide.2 (back12 _ _ _ _)).mono ?_
  rintro e w2 ⟨rfl, rfl⟩
  gi_wp2
  have X3 : BoxV ((((w.alloc (.cells #[.int .u64 (h.sh : Int), .int .u64 (h.sl : Int), .int .u64 (h.dh : Int), .int .u64 (h.dl : Int), .int .i64 h.proto, .int .i64 h.start, .int .i64 h.size, .int .i64 h.off, .bool h.more] 27)).alloc (.cells #[.int .i64 h.proto] 3)).alloc (.cells #[.string (S pay)] 9)).alloc (.cells #[.slice A n cap] 36)) w.heap.size 27 #[.int .u64 (h.sh : Int), .int .u64 (h.sl : Int), .int .u64 (h.dh : Int), .int .u64 (h.dl : Int), .int .i64 h.proto, .int .i64 h.start, .int .i64 h.size, .int .i64 h.off, .bool h.more] := (BoxV.of3 (w := w)).carry ((Touch.refl [] _).alloc _) (by simp)
  have X7 : Box1 ((((w.alloc (.cells #[.int .u64 (h.sh : Int), .int .u64 (h.sl : Int), .int .u64 (h.dh : Int), .int .u64 (h.dl : Int), .int .i64 h.proto, .int .i64 h.start, .int .i64 h.size, .int .i64 h.off, .bool h.more] 27)).alloc (.cells #[.int .i64 h.proto] 3)).alloc (.cells #[.string (S pay)] 9)).alloc (.cells #[.slice A n cap] 36)) (w.heap.size + 1) 3 (.int .i64 h.proto) := by
    have := ((Box1.new (w.alloc (.cells #[.int .u64 (h.sh : Int), .int .u64 (h.sl : Int), .int .u64 (h.dh : Int), .int .u64 (h.dl : Int), .int .i64 h.proto, .int .i64 h.start, .int .i64 h.size, .int .i64 h.off, .bool h.more] 27)) 3 (.int .i64 h.proto)).carry ((Touch.refl [] _).alloc (.cells #[.string (S pay)] 9)) (by simp)).carry ((Touch.refl [] _).alloc (.cells #[.slice A n cap] 36)) (by simp)
    rwa [nblk_alloc] at this
  have X8 : Box1 ((((w.alloc (.cells #[.int .u64 (h.sh : Int), .int .u64 (h.sl : Int), .int .u64 (h.dh : Int), .int .u64 (h.dl : Int), .int .i64 h.proto, .int .i64 h.start, .int .i64 h.size, .int .i64 h.off, .bool h.more] 27)).alloc (.cells #[.int .i64 h.proto] 3)).alloc (.cells #[.string (S pay)] 9)).alloc (.cells #[.slice A n cap] 36)) (w.heap.size + 1 + 1) 9 (.string (S pay)) := by
    have := (Box1.new ((w.alloc (.cells #[.int .u64 (h.sh : Int), .int .u64 (h.sl : Int), .int .u64 (h.dh : Int), .int .u64 (h.dl : Int), .int .i64 h.proto, .int .i64 h.start, .int .i64 h.size, .int .i64 h.off, .bool h.more] 27)).alloc (.cells #[.int .i64 h.proto] 3)) 9 (.string (S pay))).carry ((Touch.refl [] _).alloc (.cells #[.slice A n cap] 36)) (by simp)
    rwa [nblk_alloc, nblk_alloc] at this
  have X9 : ((((w.alloc (.cells #[.int .u64 (h.sh : Int), .int .u64 (h.sl : Int), .int .u64 (h.dh : Int), .int .u64 (h.dl : Int), .int .i64 h.proto, .int .i64 h.start, .int .i64 h.size, .int .i64 h.off, .bool h.more] 27)).alloc (.cells #[.int .i64 h.proto] 3)).alloc (.cells #[.string (S pay)] 9)).alloc (.cells #[.slice A n cap] 36)).cell? ⟨w.heap.size + 1 + 1 + 1, 0, none⟩ = some (.slice A n cap) := by
    have := Box1.new (((w.alloc (.cells #[.int .u64 (h.sh : Int), .int .u64 (h.sl : Int), .int .u64 (h.dh : Int), .int .u64 (h.dl : Int), .int .i64 h.proto, .int .i64 h.start, .int .i64 h.size, .int .i64 h.off, .bool h.more] 27)).alloc (.cells #[.int .i64 h.proto] 3)).alloc (.cells #[.string (S pay)] 9)) 36 (.slice A n cap)
    rw [nblk_alloc, nblk_alloc, nblk_alloc] at this
    exact this.c0
  have T4 : Touch [] w ((((w.alloc (.cells #[.int .u64 (h.sh : Int), .int .u64 (h.sl : Int), .int .u64 (h.dh : Int), .int .u64 (h.dl : Int), .int .i64 h.proto, .int .i64 h.start, .int .i64 h.size, .int .i64 h.off, .bool h.more] 27)).alloc (.cells #[.int .i64 h.proto] 3)).alloc (.cells #[.string (S pay)] 9)).alloc (.cells #[.slice A n cap] 36)) := ((((Touch.refl [] w).alloc _).alloc _).alloc _).alloc _
  have s4 : ((((w.alloc (.cells #[.int .u64 (h.sh : Int), .int .u64 (h.sl : Int), .int .u64 (h.dh : Int), .int .u64 (h.dl : Int), .int .i64 h.proto, .int .i64 h.start, .int .i64 h.size, .int .i64 h.off, .bool h.more] 27)).alloc (.cells #[.int .i64 h.proto] 3)).alloc (.cells #[.string (S pay)] 9)).alloc (.cells #[.slice A n cap] 36)).heap.size = w.heap.size + 4 := by simp
  generalize (((w.alloc (.cells #[.int .u64 (h.sh : Int), .int .u64 (h.sl : Int), .int .u64 (h.dh : Int), .int .u64 (h.dl : Int), .int .i64 h.proto, .int .i64 h.start, .int .i64 h.size, .int .i64 h.off, .bool h.more] 27)).alloc (.cells #[.int .i64 h.proto] 3)).alloc (.cells #[.string (S pay)] 9)).alloc (.cells #[.slice A n cap] 36) = w4 at *
  have K4 := K.carry T4 (by simp)
  have k0 := K.lt
  have hX4 : IntCells w4 w4.heap.size A n X := fun i hi => by
    obtain ⟨b, off, hA, hb, hc⟩ := hX i hi
    exact ⟨b, off, hA, by omega, (T4.cell (a := ⟨b, off + i, none⟩) hb (by simp)).trans hc⟩
  have hAS : 0 < n → ∀ b off, A = some ⟨b, off, none⟩ → b ∉ [w.heap.size + 1, w.heap.size + 1 + 1] := fun h0 b' off' e => by
    obtain ⟨b, off, hA, hb, _⟩ := hX 0 h0
    rw [hA] at e
    cases e
    simp
    omega
  have HD : Hid (∀ p q w, Calls Tryd.prog 34 #[.agg h.cells, .int .i64 p, .int .i64 q] w fun e w' => e = .returned (.string (S (headA6 h p q))) ∧ Touch [] w w') := Lib.hid (fun p q w => header12 h ok p q w)
  have EX : Hid (∀ p q w, Calls Tryd.prog 33 #[.agg h.cells, .int .i64 p, .int .i64 q] w fun e w' => e = .returned (.string (S (extA h p q))) ∧ Touch [] w w') := Lib.hid (fun p q w => ext12 h p q w)
  unfold Hd.cells at HD EX
  have hseq : ∀ m, SeqStopsK Fence.wide m Tryd.prog 65 #[.pointer (some ⟨w.heap.size + 1 + 1 + 1, 0, none⟩)] (fun y : Nat × Int => #[Value.int .i64 (y.1 : Int), Value.int .i64 y.2]) (KpR [w.heap.size + 1, w.heap.size + 1 + 1] w4.heap.size) (fun ys => ys = upto (bk n X) n) (fun _ => True) n w4 := by
    intro m
    exact back1_stops [w.heap.size + 1, w.heap.size + 1 + 1] (by omega) (by omega) (by simp; omega) X9 hX4 hAS m
  have LEN := Lib.hid (fun pre => stM_length h pay pre)
  have I0 : Hid (MkI w h pay w.heap.size (w.heap.size + 1) (w.heap.size + 1 + 1) [] w4) := Lib.hid ⟨X3, X7, X8, K4, T4⟩
  clear X3 X7 X8 X9 K4 T4 hX4 hAS T0
  refine wpIn_rangeFunc_ownG rfl (by omega) (gf := 65) (lb := #[.pointer (some ⟨w.heap.size + 1 + 1 + 1, 0, none⟩)]) rfl trivial (enters_of Tryd.func65 (by kernel_rfl) rfl)
    (hseq _) KpR.trans (fun W l o o' hl ho hc _ => KpR.put W l o o' hl ho hc) (Below.refl _ _) (fun _ => rfl)
    (MkI w h pay w.heap.size (w.heap.size + 1) (w.heap.size + 1 + 1)) (fun _ _ _ => False)
    (mkI_own (by omega) (by omega) (by omega) (by omega) (by omega)) (fun _ _ _ _ _ hs _ _ => hs)
    I0.out
    (fun y => { tmps := #[.agg #[.int .u64 (h.sh : Int), .int .u64 (h.sl : Int), .int .u64 (h.dh : Int), .int .u64 (h.dl : Int), .int .i64 h.proto, .int .i64 h.start, .int .i64 h.size, .int .i64 h.off, .bool h.more], .slice A n cap, .string (S pay), .pointer (some ⟨w.heap.size, 0, none⟩), undef, undef, .string ⟨#[]⟩, .pointer (some ⟨w.heap.size + 1, 0, none⟩), .pointer (some ⟨w.heap.size + 1 + 1, 0, none⟩), undef, .int .i64 y.2, .slice A n cap, .int .i64 (n : Int), .bool false, .bool false, .string (S pay), .int .i64 (pay.length : Int), .bool false, .bool false, .pointer (some ⟨w.heap.size, 4, none⟩), .int .i64 h.proto, .string (S pay), .slice A n cap, .func (.func 65) #[] #[.pointer (some ⟨w.heap.size + 1 + 1 + 1, 0, none⟩)], .int .i64 (y.1 : Int), .int .i64 y.2, undef, undef, undef, undef, undef, undef, undef, undef, undef, undef, undef, undef, undef, undef, undef, undef], defers := [] }) ?assign ?body ?done ?stop
  case assign =>
    intro l y W K hK
    gi_wp2
    exact hK
  case body =>
    rintro l pre y W ⟨c3, c7, c8, hk, ht⟩ hlt
    have FW := Lib.hid (follows12 y.2 hk)
    have hsn := stM_snoc h pay pre y
    have hlen := LEN.out pre
    generalize stM h pay pre = st at *
    obtain ⟨nx, bd⟩ := st
    simp only at c7 c8 hlen
    have hyv : (y.2 : Int) = y.2 := rfl
    by_cases hf : fol y.2 = true
    · rw [hf] at FW
      have e1 : stM h pay (pre ++ [y]) = (y.2, extA h y.2 nx ++ bd) := by rw [hsn]; unfold stepM; rw [if_pos hf]
      have HI : Hid (∀ W', BoxV W' w.heap.size 27 h.cells → Box1 W' (w.heap.size + 1) 3 (.int .i64 y.2) → Box1 W' (w.heap.size + 1 + 1) 9 (.string (S (extA h y.2 nx ++ bd))) → Tab6 W' → Touch [] w W' → MkI w h pay w.heap.size (w.heap.size + 1) (w.heap.size + 1 + 1) (pre ++ [y]) W') := Lib.hid (fun W' a1 a2 a3 a4 a5 => ⟨a1, by rw [e1]; exact a2, by rw [e1]; exact a3, a4, a5⟩)
      have ad := add_str (extA h y.2 nx) bd (by rw [extA_length]; omega)
      generalize extA h y.2 nx ++ bd = R at *
      have EX1 := Lib.hid (fun w => EX.out y.2 nx w)
      generalize extA h y.2 nx = XA at *
      generalize y.2 = pv at *
      have C3 := Lib.hid c3
      have C7 := Lib.hid c7
      have C8 := Lib.hid c8
      have HK := Lib.hid hk
      have HT := Lib.hid ht
      clear c3 c7 c8 hk ht e1 hsn hf hlen
      unfold Hd.cells at C3
      gi_wp2
      refine ⟨trivial, ?_⟩
      refine (CallsIn.inRound l (callsIn_wide.2 FW.out)).mono ?_
      rintro e W2 ⟨rfl, hq⟩
      subst hq
      gi_wp2
      have k0 : ∀ x : Cls W2, x.val.cell? ⟨w.heap.size, 0, none⟩ = some (.int .u64 (h.sh : Int)) := fun x => (C3.out.carry x.property (by simp)).cell 0
      have k1 : ∀ x : Cls W2, x.val.cell? ⟨w.heap.size, 1, none⟩ = some (.int .u64 (h.sl : Int)) := fun x => (C3.out.carry x.property (by simp)).cell 1
      have k2 : ∀ x : Cls W2, x.val.cell? ⟨w.heap.size, 2, none⟩ = some (.int .u64 (h.dh : Int)) := fun x => (C3.out.carry x.property (by simp)).cell 2
      have k3 : ∀ x : Cls W2, x.val.cell? ⟨w.heap.size, 3, none⟩ = some (.int .u64 (h.dl : Int)) := fun x => (C3.out.carry x.property (by simp)).cell 3
      have k4 : ∀ x : Cls W2, x.val.cell? ⟨w.heap.size, 4, none⟩ = some (.int .i64 h.proto) := fun x => (C3.out.carry x.property (by simp)).cell 4
      have k5 : ∀ x : Cls W2, x.val.cell? ⟨w.heap.size, 5, none⟩ = some (.int .i64 h.start) := fun x => (C3.out.carry x.property (by simp)).cell 5
      have k6 : ∀ x : Cls W2, x.val.cell? ⟨w.heap.size, 6, none⟩ = some (.int .i64 h.size) := fun x => (C3.out.carry x.property (by simp)).cell 6
      have k7 : ∀ x : Cls W2, x.val.cell? ⟨w.heap.size, 7, none⟩ = some (.int .i64 h.off) := fun x => (C3.out.carry x.property (by simp)).cell 7
      have k8 : ∀ x : Cls W2, x.val.cell? ⟨w.heap.size, 8, none⟩ = some (.bool h.more) := fun x => (C3.out.carry x.property (by simp)).cell 8
      have q7 : ∀ x : Cls W2, x.val.cell? ⟨w.heap.size + 1, 0, none⟩ = some (.int .i64 nx) := fun x => (C7.out.carry x.property (by simp)).c0
      have q8 : ∀ x : Cls W2, x.val.cell? ⟨w.heap.size + 1 + 1, 0, none⟩ = some (.string (S bd)) := fun x => (C8.out.carry x.property (by simp)).c0
      refine region_round (by kernel_rfl) (fun ⟨_, _, h⟩ => h) (by kernel_rfl) ?_
      refine tail_start (wd := W2) 6 (by kernel_rfl) ((Touch.refl _ _).drew) ?_
      simp only [List.take_succ_cons, List.take_zero, List.drop_succ_cons, List.drop_zero]
      repeat (first | go_big_quiet_step ((go_at_call 33; with_reducible exact Calls.cls_at (EX1.out _))) | quiet_step ((go_at_call 33; with_reducible exact Calls.cls_at (EX1.out _))))
      refine wpQuiet_nil ?_
      intro z
      have Z8 := C8.out.carry z.property (by simp)
      have Z7 := C7.out.carry z.property (by simp)
      have Z3 := C3.out.carry z.property (by simp)
      have HKz := HK.out.carry z.property (by simp)
      have HTz := HT.out.trans z.property (by simp)
      have z8 := Z8.c0
      have z8f := Z8.fr 0
      have z8l := Z8.lt
      have u5 : Touch [w.heap.size + 1 + 1] z.val (z.val.setCell ⟨w.heap.size + 1 + 1, 0, none⟩ (.string (S R))) := (Touch.refl _ _).setCell (a := ⟨w.heap.size + 1 + 1, 0, none⟩) (by simp) _
      have Y8 := Lib.hid (Z8.set0 (.string (S R)))
      have Y7 := Lib.hid (Z7.carry u5 (by simp))
      have Y3 := Lib.hid (Z3.carry u5 (by simp <;> omega))
      have YK := Lib.hid (HKz.carry u5 (by simp <;> omega))
      have YT := Lib.hid (HTz.trans u5 (by simp <;> omega))
      have YU := Lib.hid ((z.property.mono (S' := [w.heap.size + 1, w.heap.size + 1 + 1]) (by simp)).trans u5 (by simp))
      clear Z8 Z7 Z3 HKz HTz u5 k0 k1 k2 k3 k4 k5 k6 k7 k8 q7 q8 C3 C7 C8 HK HT
      go_wp2_with fail
      generalize z.val.setCell ⟨w.heap.size + 1 + 1, 0, none⟩ (.string (S R)) = W5 at *
      have z7 := Y7.out.c0
      have z7f := Y7.out.fr 0
      have z7l := Y7.out.lt
      have u6 : Touch [w.heap.size + 1] W5 (W5.setCell ⟨w.heap.size + 1, 0, none⟩ (.int .i64 pv)) := (Touch.refl _ _).setCell (a := ⟨w.heap.size + 1, 0, none⟩) (by simp) _
      have FI := Lib.hid (HI.out (W5.setCell ⟨w.heap.size + 1, 0, none⟩ (.int .i64 pv)) (Y3.out.carry u6 (by simp)) (Y7.out.set0 _) (Y8.out.carry u6 (by simp)) (YK.out.carry u6 (by simp)) (YT.out.trans u6 (by simp)))
      have FU := YU.out.trans u6 (by simp)
      have HB2 := Lib.hid (show KeepsFrom w4.heap.size W2 (W5.setCell ⟨w.heap.size + 1, 0, none⟩ (.int .i64 pv)) from ⟨FU.size, fun k o hk ho _ => (FU.block k (Array.getElem?_eq_some_iff.1 ho).1 (fun hmm => by simp at hmm; omega)).trans ho⟩)
      have HK2 := Lib.hid (show KpR [w.heap.size + 1, w.heap.size + 1 + 1] w4.heap.size W2 (W5.setCell ⟨w.heap.size + 1, 0, none⟩ (.int .i64 pv)) from KpR.of_touch FU)
      clear FU u6
      gi_wp2
      exact ⟨HB2.out, HK2.out, FI.out⟩
    · have hf' : fol y.2 = false := by simpa using hf
      rw [hf'] at FW
      have e1 : stM h pay (pre ++ [y]) = (nx, bd) := by rw [hsn]; unfold stepM; rw [if_neg hf]
      have HI : Hid (MkI w h pay w.heap.size (w.heap.size + 1) (w.heap.size + 1 + 1) (pre ++ [y]) W) := Lib.hid ⟨c3, by rw [e1]; exact c7, by rw [e1]; exact c8, hk, ht⟩
      clear c3 c7 c8 hk ht e1 hsn hf hlen
      generalize y.2 = pv at *
      gi_wp2
      refine ⟨trivial, ?_⟩
      refine (CallsIn.inRound l (callsIn_wide.2 FW.out)).mono ?_
      rintro e W2 ⟨rfl, hq⟩
      subst hq
      gi_wp2
      exact ⟨KeepsFrom.refl _ _, KpR.of_touch (Touch.refl _ _), HI.out⟩
  case done =>
    rintro D ys W hD rfl ⟨c3, c7, c8, hk, ht⟩ hK
    rw [HFF.out] at c7 c8
    simp only at c7 c8
    have HD1 : Hid (∀ w, Calls Tryd.prog 34 #[.agg #[.int .u64 (h.sh : Int), .int .u64 (h.sl : Int), .int .u64 (h.dh : Int), .int .u64 (h.dl : Int), .int .i64 h.proto, .int .i64 h.start, .int .i64 h.size, .int .i64 h.off, .bool h.more], .int .i64 nx, .int .i64 (bd.length : Int)] w fun e w' => e = .returned (.string (S HA)) ∧ Touch [] w w') := Lib.hid (fun w => by
      have := HD.out nx (bd.length : Nat) w
      rwa [HHA.out] at this)
    have sb : (S bd).size = bd.length := S_size bd
    have ad := AD.out
    have C3 := Lib.hid c3
    have C7 := Lib.hid c7
    have C8 := Lib.hid c8
    have HT := Lib.hid ht
    have HDD := Lib.hid hK
    unfold Hd.cells at C3
    clear c3 c7 c8 hk ht HD EX LEN I0 hseq AD HFF HHA hK
    gi_wp2
    have k0 : ∀ x : Cls W, x.val.cell? ⟨w.heap.size, 0, none⟩ = some (.int .u64 (h.sh : Int)) := fun x => (C3.out.carry x.property (by simp)).cell 0
    have k1 : ∀ x : Cls W, x.val.cell? ⟨w.heap.size, 1, none⟩ = some (.int .u64 (h.sl : Int)) := fun x => (C3.out.carry x.property (by simp)).cell 1
    have k2 : ∀ x : Cls W, x.val.cell? ⟨w.heap.size, 2, none⟩ = some (.int .u64 (h.dh : Int)) := fun x => (C3.out.carry x.property (by simp)).cell 2
    have k3 : ∀ x : Cls W, x.val.cell? ⟨w.heap.size, 3, none⟩ = some (.int .u64 (h.dl : Int)) := fun x => (C3.out.carry x.property (by simp)).cell 3
    have k4 : ∀ x : Cls W, x.val.cell? ⟨w.heap.size, 4, none⟩ = some (.int .i64 h.proto) := fun x => (C3.out.carry x.property (by simp)).cell 4
    have k5 : ∀ x : Cls W, x.val.cell? ⟨w.heap.size, 5, none⟩ = some (.int .i64 h.start) := fun x => (C3.out.carry x.property (by simp)).cell 5
    have k6 : ∀ x : Cls W, x.val.cell? ⟨w.heap.size, 6, none⟩ = some (.int .i64 h.size) := fun x => (C3.out.carry x.property (by simp)).cell 6
    have k7 : ∀ x : Cls W, x.val.cell? ⟨w.heap.size, 7, none⟩ = some (.int .i64 h.off) := fun x => (C3.out.carry x.property (by simp)).cell 7
    have k8 : ∀ x : Cls W, x.val.cell? ⟨w.heap.size, 8, none⟩ = some (.bool h.more) := fun x => (C3.out.carry x.property (by simp)).cell 8
    have q7 : ∀ x : Cls W, x.val.cell? ⟨w.heap.size + 1, 0, none⟩ = some (.int .i64 nx) := fun x => (C7.out.carry x.property (by simp)).c0
    have q8 : ∀ x : Cls W, x.val.cell? ⟨w.heap.size + 1 + 1, 0, none⟩ = some (.string (S bd)) := fun x => (C8.out.carry x.property (by simp)).c0
    refine wpIn_wide.2 ?_
    refine wp_region_cls (wd := W) (by kernel_rfl) (by kernel_rfl) ((Touch.refl _ _).drew) ?_
    repeat (first | go_big_quiet_step ((go_at_call 34; with_reducible exact Calls.cls_at (HD1.out _))) | quiet_step ((go_at_call 34; with_reducible exact Calls.cls_at (HD1.out _))))
    refine wpQuiet_nil ?_
    rintro _ ⟨z, rfl⟩
    have hK' : z.val.heap[D]? = some (.deferred (some [])) := (z.property.block D (Array.getElem?_eq_some_iff.1 HDD.out).1 (by simp)).trans HDD.out
    have tp := grown_touch (grownBy_putObj' z.val D (.deferred none))
    have hT' := Lib.hid (show Touch [] w (z.val.putObj D (.deferred none)) from (HT.out.trans z.property (by simp)).trans tp (fun b hb => by simp at hb; right; omega))
    clear k0 k1 k2 k3 k4 k5 k6 k7 k8 q7 q8 tp
    gi_wp2
    refine ⟨by simp, .inl ⟨_, _, rfl, run_takeDeferred hK', ?_⟩⟩
    exact ⟨_, results_tmp rfl _ _ _, rfl, hT'.out⟩
  case stop =>
    rintro D c pre W _ _ h _
    exact h.elim
end Go.Proofs.YtdpaiegojioimaaDoor

/-
  Layer 12 (ipv6): the reference's Make.
-/
namespace Go.Proofs.YtdpaiegojioimaaDoor
open Go.ChangeShapes Go.WideShapes Go.ChangeAt Go.RowKit Go.Deep
set_option linter.unusedVariables false
set_option linter.unusedSimpArgs false

theorem i12_info : (Tryd.prog.info? 3).map (fun i => (i.zero, i.size, i.bytes)) = some (some (.int .i64 0), 1, 8) := by kernel_rfl
theorem own_ints {w : World} {base : Nat} {v : Value} {n : Nat} {X : Nat → Int} (h : w.ownsRow base 3 1 v n (iv X n)) : ∃ A cap, v = .slice A n cap ∧ n ≤ cap ∧ cap ≤ maxLen ∧ IntCells w w.heap.size A n X := by
  rcases h.2 with ⟨rfl, rfl⟩ | ⟨g, cap, cur, rfl, hg, hh, h2, h3, h4, h5⟩
  · exact ⟨none, 0, rfl, Nat.le_refl _, by unfold maxLen; omega, fun i hi => by omega⟩
  · refine ⟨some ⟨g, 0, none⟩, cap, rfl, h2, h3, fun i hi => ⟨g, 0, rfl, (Array.getElem?_eq_some_iff.1 hh).1, ?_⟩⟩
    have hx := iv_get X hi
    rw [← h5] at hx
    rw [Nat.zero_add, World.cell?, hh]
    simpa [List.getElem?_take, hi] using hx
theorem ints_touch {w w' : World} {A : Option Addr} {n : Nat} {X : Nat → Int} (h : IntCells w w.heap.size A n X) (t : Touch [] w w') : IntCells w' w'.heap.size A n X := fun i hi => by
  obtain ⟨b, off, hA, hb, hc⟩ := h i hi
  exact ⟨b, off, hA, Nat.lt_of_lt_of_le hb t.size, (t.cell (a := ⟨b, off + i, none⟩) hb (by simp)).trans hc⟩
theorem upto_upd (Y : Nat → Int) (m : Nat) (x : Int) : upto (upd Y m x) (m + 1) = upto Y m ++ [x] := by
  rw [upto_succ, upd_same, upto_congr (fun i hi => upd_other Y x (by omega))]
theorem fol_in {p : Int} (h : fol p = true) : 0 ≤ p ∧ p ≤ 60 := by
  unfold fol at h
  simp at h
  omega
theorem be_one_mod (a b : Nat) (h : a % 256 = b % 256) : be a 1 = be b 1 := by
  simp only [be, Nat.pow_zero, Nat.div_one]
  rw [show UInt8.ofNat a = UInt8.ofNat b from by apply UInt8.toNat_inj.1; simpa using h]
theorem drop_upto (Y : Nat → Int) {m i : Nat} (h : i < m) : (upto Y m).drop i = Y i :: (upto Y m).drop (i + 1) := by
  rw [List.drop_eq_getElem_cons (by rw [upto_length]; exact h)]
  congr 1
  simp [upto]
/-- The byte that names what comes at place i. -/
theorem next_byte (h : Hd) (Y : Nat → Int) (m i : Nat) (hi : i ≤ m) : be (u64n (upd Y m (u64n h.proto % 256 : Nat) i)) 1 = be (u64n (nextOf h ((upto Y m).drop i))) 1 := by
  rcases Nat.lt_or_ge i m with hlt | hge
  · rw [upd_other _ _ (by omega), drop_upto Y hlt]
    rfl
  · obtain rfl : i = m := by omega
    rw [upd_same, List.drop_eq_nil_of_le (by rw [upto_length]; exact Nat.le_refl _)]
    apply be_one_mod
    rw [u64n_nat _ (by omega)]
    show u64n h.proto % 256 % 256 = u64n h.proto % 256
    omega
theorem u64n_zero : u64n 0 = 0 := rfl

set_option maxRecDepth 100000 in
set_option maxHeartbeats 4000000 in
theorem refMake12 (h : Hd) (ok : h.Ok6) {A : Option Addr} {n cap : Nat} {X : Nat → Int} (pay : List UInt8) {w : World} (hX : IntCells w w.heap.size A n X) (hn : n ≤ 9223372036854775807) (hp : pay.length ≤ 9223372036854775807) :
    Calls Tryd.prog 15 #[.agg h.cells, .slice A n cap, .string (S pay)] w fun e w' => e = .returned (.string (S (pack6 h (upto X n) pay))) ∧ Touch [] w w' := by
  have hss : (S pay).size = pay.length := S_size pay
  have T0 := Lib.hid ((Touch.refl [] w).alloc (.cells h.cells 31))
  by_cases h8 : 8 < n
  · have e : pack6 h (upto X n) pay = [] := by unfold pack6; rw [if_pos (.inl (by rw [upto_length]; exact h8))]
    rw [e]
    have d8 : decide (8 < (n : Int)) = true := by simp; omega
    unfold Hd.cells at *
    clear e hX ok
    go_enter Tryd.func15, Tryd.ntmps15
    go_wp2_with fail
    go_ret
    exact ⟨rfl, T0.out⟩
  have d8 : decide (8 < (n : Int)) = false := by simp; omega
  by_cases h6 : 65471 < pay.length
  · have e : pack6 h (upto X n) pay = [] := by unfold pack6; rw [if_pos (.inr h6)]
    rw [e]
    have d6 : decide (65471 < (pay.length : Int)) = true := by simp; omega
    unfold Hd.cells at *
    clear e hX ok
    go_enter Tryd.func15, Tryd.ntmps15
    go_wp2_with fail
    go_ret
    exact ⟨rfl, T0.out⟩
  have d6 : decide (65471 < (pay.length : Int)) = false := by simp; omega
  have e : pack6 h (upto X n) pay = headA6 h (nextOf h ((upto X n).filter fol)) (8 * ((upto X n).filter fol).length + pay.length) ++ (extsA h ((upto X n).filter fol) ++ pay) := by
    unfold pack6
    rw [if_neg (by rw [upto_length]; omega)]
  obtain ⟨TG, hTG⟩ : ∃ TG, headA6 h (nextOf h ((upto X n).filter fol)) (8 * ((upto X n).filter fol).length + pay.length) ++ (extsA h ((upto X n).filter fol) ++ pay) = TG := ⟨_, rfl⟩
  rw [e, hTG]
  have HTG := Lib.hid hTG
  clear e hTG
  obtain ⟨i0, hi0, hz0, hz1, hz2⟩ := info_parts i12_info
  have B0 := Lib.hid (BoxV.new w 31 h.cells)
  have HX := Lib.hid (ints_touch hX T0.out)
  have OK := Lib.hid ok
  clear hX ok
  unfold Hd.cells at T0 B0 HX ⊢
  go_enter Tryd.func15, Tryd.ntmps15
  go_wp2_with fail
  generalize w.alloc (.cells #[.int .u64 (h.sh : Int), .int .u64 (h.sl : Int), .int .u64 (h.dh : Int), .int .u64 (h.dl : Int), .int .i64 h.proto, .int .i64 h.start, .int .i64 h.size, .int .i64 h.off, .bool h.more] 31) = w1 at *
  go_loopw [7, 8] (fun v i wr => ∃ (k m : Nat) (Y : Nat → Int), k ≤ n ∧ m ≤ k ∧ i = .int .i64 (k : Int) ∧ (upto X k).filter fol = upto Y m ∧ wr.ownsRow w1.heap.size 3 1 v m (iv Y m) ∧ Below w1.heap.size w1 wr) (fun _ i _ => n - (intOf i).toNat)
  case atStart => exact ⟨0, 0, fun _ => 0, Nat.zero_le _, Nat.le_refl _, rfl, rfl, World.ownsRow_nil _ _ _ _, Below.refl _ _⟩
  case round =>
    obtain ⟨k, m, Y, hk, hm, rfl, hfl, hown, hbl⟩ := hrel
    by_cases hlt : k < n
    · obtain ⟨b, off, rfl, hb, hc⟩ := HX.out k hlt
      have hck : wr.cell? ⟨b, off + k, none⟩ = some (.int .i64 (X k)) := (hbl.cell (p := ⟨b, off + k, none⟩) hb).trans hc
      have hbr : b < wr.heap.size := Nat.lt_of_lt_of_le hb hbl.size
      have FW := Lib.hid (fun w => refFollows12 (X k) w)
      have hup := upto_succ X k
      by_cases hf : fol (X k) = true
      · rw [hf] at FW
        have HF := Lib.hid (show (upto X (k + 1)).filter fol = upto (upd Y m (X k)) (m + 1) by rw [hup, List.filter_append, hfl, upto_upd]; simp [hf])
        have HN := Lib.hid (iv_succ Y m (X k))
        have hsz := hbl.size
        generalize iv Y m = L at *
        generalize X k = xk at *
        clear hup hf hc hfl
        go_upto_region 8 with fail
        refine (FW.out _).mono ?_
        rintro e wr ⟨rfl, hq⟩
        subst hq
        go_upto_region 6 with (at_builtin; refine wpList_append_own _ rfl (.tmp 32) (.tmp 37) 36 rfl w1.heap.size 3 i0 (.int .i64 0) 1 8 Tryd.underlying36 hi0 hz0 hz1 hz2 rfl (by decide) u7 m L rfl (hown.alloc _) ⟨wr.heap.size, 0, none⟩ 1 1 [.int .i64 xk] rfl rfl (cell_one_new _ _ _) (by intro u hu; simp at hu; subst hu; rfl) (by unfold maxLen; omega) (by omega) (by simp; omega) ?_; intro v' w2 hown' hgrow hnil)
        have hb2 : Below w1.heap.size w1 w2 := by
          refine (hbl.alloc hsz _).grown hgrow (by simp; omega) ?_
          intro j hj
          rcases hown.2 with ⟨rfl, _⟩ | ⟨g, cap, cur, rfl, hg, _⟩
          · simp [Value.ownBlock] at hj
          · simp [Value.ownBlock] at hj
            omega
        have HB2 := Lib.hid hb2
        rw [HN.out] at hown'
        have HO := Lib.hid hown'
        clear hb2 hgrow hown hbl hown' hnil
        go_wp2_with fail
        go_roundw
        case rel => exact ⟨k + 1, m + 1, _, by omega, by omega, by go_num, HF.out, HO.out, HB2.out⟩
        case measure => simp [intOf]; omega
      · have hf' : fol (X k) = false := by simpa using hf
        rw [hf'] at FW
        have HF := Lib.hid (show (upto X (k + 1)).filter fol = upto Y m by rw [hup, List.filter_append, hfl]; simp [hf'])
        generalize X k = xk at *
        clear hup hf hc hfl
        have HO := Lib.hid hown
        have HB2 := Lib.hid hbl
        go_wp2_with fail
        refine (FW.out _).mono ?_
        rintro e wr ⟨rfl, hq⟩
        subst hq
        go_wp2_with fail
        go_roundw
        case rel => exact ⟨k + 1, m, Y, by omega, by omega, by go_num, HF.out, HO.out, HB2.out⟩
        case measure => simp [intOf]; omega
    · obtain rfl : k = n := by omega
      have hYf : ∀ j, j < m → fol (Y j) = true := by
        intro j hj
        have : Y j ∈ (upto X k).filter fol := by rw [hfl]; exact mem_upto.2 ⟨j, hj, rfl⟩
        exact (List.mem_filter.1 this).2
      have HTG := Lib.hid (show headA6 h (nextOf h (upto Y m)) (8 * (m : Int) + (pay.length : Int)) ++ (extsA h (upto Y m) ++ pay) = TG by
        have := HTG.out
        rwa [hfl, upto_length] at this)
      obtain ⟨A1, c1, rfl, hc1, hm1, _⟩ := own_ints hown
      have hsz := hbl.size
      have hpm : ((u64n h.proto : Nat) : Int) % 256 = ((u64n h.proto % 256 : Nat) : Int) := by omega
      have hpu := u64n_cast h.proto
      have hpw : IntKind.u64.wrap h.proto = ((u64n h.proto : Nat) : Int) := by rw [IntKind.wrap_u64]; omega
      have HN := Lib.hid (iv_succ Y m ((u64n h.proto % 256 : Nat) : Int))
      have hb0 : wr.cell? ⟨w.heap.size, 4, none⟩ = some (.int .i64 h.proto) := (hbl.cell (p := ⟨w.heap.size, 4, none⟩) B0.out.lt).trans (B0.out.cell 4)
      have hbl0 : w.heap.size < wr.heap.size := Nat.lt_of_lt_of_le B0.out.lt hsz
      have hml : ((u64n h.proto % 256 : Nat) : Int) < 256 := by omega
      obtain ⟨pr, hpr⟩ : ∃ pr, u64n h.proto % 256 = pr := ⟨_, rfl⟩
      rw [hpr] at hpm hml HN
      have NB := Lib.hid (fun i hi => next_byte h Y m i hi)
      rw [hpr] at NB
      clear hpr
      generalize iv Y m = L at *
      go_upto_region 11 with (at_builtin; refine wpList_append_own _ rfl (.tmp 41) (.tmp 47) 36 rfl w1.heap.size 3 i0 (.int .i64 0) 1 8 Tryd.underlying36 hi0 hz0 hz1 hz2 rfl (by decide) (.slice A1 m c1) m L rfl (hown.alloc _) ⟨wr.heap.size, 0, none⟩ 1 1 [.int .i64 (pr : Int)] rfl rfl (cell_one_new _ _ _) (by intro u hu; simp at hu; subst hu; rfl) (by unfold maxLen; omega) (by omega) (by simp; omega) ?_; intro v' w2 hown' hgrow hnil)
      have hb2 : Below w1.heap.size w1 w2 := by
        refine (hbl.alloc hsz _).grown hgrow (by simp; omega) ?_
        intro j hj
        rcases hown.2 with ⟨h0, _⟩ | ⟨g, cap, cur, h0, hg, _⟩
        · rw [h0] at hj; simp [Value.ownBlock] at hj
        · rw [h0] at hj; simp [Value.ownBlock] at hj
          omega
      rw [HN.out] at hown'
      obtain ⟨A2, c2, rfl, hc2, hm2, hI2⟩ := own_ints hown'
      obtain ⟨g, go, rfl, hgl, hg0⟩ := hI2 0 (by omega)
      have hcell : ∀ i, i ≤ m → w2.cell? ⟨g, go + i, none⟩ = some (.int .i64 (upd Y m (pr : Int) i)) := fun i hi => by
        obtain ⟨b', o', e', _, hc⟩ := hI2 i (by omega)
        simp only [Option.some.injEq, Addr.mk.injEq, and_true] at e'
        obtain ⟨rfl, rfl⟩ := e'
        exact hc
      have t2 : Touch [] w1 w2 := Touch.ofBelow hb2
      have T2 := Lib.hid (T0.out.trans t2 (by simp))
      have BX := Lib.hid (B0.out.carry t2 (by simp))
      have CL := Lib.hid hcell
      have GL := Lib.hid hgl
      have hYr : ∀ i, i ≤ m → 0 ≤ upd Y m (pr : Int) i ∧ upd Y m (pr : Int) i ≤ 255 := fun i hi => by
        rcases Nat.lt_or_ge i m with hl | hg'
        · rw [upd_other _ _ (by omega)]
          have := fol_in (hYf i hl)
          omega
        · obtain rfl : i = m := by omega
          rw [upd_same]
          omega
      have YR := Lib.hid hYr
      clear hcell hI2 hown' hgrow hnil hown hbl hb2 t2 hg0 hgl hb0 hbl0 hYr T0 B0 HX hpm hpu hpw hml hsz hc1 hm1 HN
      have nb0 := NB.out 0 (Nat.zero_le _)
      rw [List.drop_zero] at nb0
      have y0r := YR.out 0 (Nat.zero_le _)
      have LW1 : Hid (∀ w, Calls Tryd.prog 35 #[.int .i64 (8 * (m : Int) + (pay.length : Int)), .int .i64 2] w fun e w' => e = .returned (.string (S (be (u64n (8 * (m : Int) + (pay.length : Int))) 2))) ∧ Touch [] w w') := Lib.hid (fun w => low11 _ 2 (by omega) (by omega) w)
      have LW2 := Lib.hid (fun w => low11 (upd Y m (pr : Int) 0) 1 (by omega) (by omega) w)
      rw [nb0] at LW2
      obtain ⟨HA6, hHA6⟩ : ∃ HA6, headA6 h (nextOf h (upto Y m)) (8 * (m : Int) + (pay.length : Int)) = HA6 := ⟨_, rfl⟩
      rw [hHA6] at HTG
      unfold headA6 at hHA6
      have hz1 := be_length (u64n (8 * (m : Int) + (pay.length : Int))) 2
      have hz2 := be_length (u64n (nextOf h (upto Y m))) 1
      have PA : Hid (∀ w, Calls Tryd.prog 36 #[.int .u64 (h.sh : Int), .int .i64 8] w fun e w' => e = .returned (.string (S (be h.sh 8))) ∧ Touch [] w w') := Lib.hid (fun w => refPutNum 8 (by omega) h.sh OK.out.sh w)
      have PB : Hid (∀ w, Calls Tryd.prog 36 #[.int .u64 (h.sl : Int), .int .i64 8] w fun e w' => e = .returned (.string (S (be h.sl 8))) ∧ Touch [] w w') := Lib.hid (fun w => refPutNum 8 (by omega) h.sl OK.out.sl w)
      have PC : Hid (∀ w, Calls Tryd.prog 36 #[.int .u64 (h.dh : Int), .int .i64 8] w fun e w' => e = .returned (.string (S (be h.dh 8))) ∧ Touch [] w w') := Lib.hid (fun w => refPutNum 8 (by omega) h.dh OK.out.dh w)
      have PD : Hid (∀ w, Calls Tryd.prog 36 #[.int .u64 (h.dl : Int), .int .i64 8] w fun e w' => e = .returned (.string (S (be h.dl 8))) ∧ Touch [] w w') := Lib.hid (fun w => refPutNum 8 (by omega) h.dl OK.out.dl w)
      have hza := be_length h.sh 8
      have hzb := be_length h.sl 8
      have hzc := be_length h.dh 8
      have hzd := be_length h.dl 8
      generalize be (u64n (8 * (m : Int) + (pay.length : Int))) 2 = Z1 at *
      generalize be (u64n (nextOf h (upto Y m))) 1 = Z2 at *
      generalize be h.sh 8 = ZA at *
      generalize be h.sl 8 = ZB at *
      generalize be h.dh 8 = ZC at *
      generalize be h.dl 8 = ZD at *
      have a1 : ∀ w : World, (Op.stringOp .add ⟨#[96, 0, 0, 0]⟩ (S Z1)).run Tryd.prog w = .ok (.string (S ([96, 0, 0, 0] ++ Z1))) w := fun w => add_str [96, 0, 0, 0] Z1 (by simp; omega) w
      have a2 : ∀ w : World, (Op.stringOp .add (S ([96, 0, 0, 0] ++ Z1)) (S Z2)).run Tryd.prog w = .ok (.string (S ([96, 0, 0, 0] ++ Z1 ++ Z2))) w := fun w => add_str _ _ (by simp; omega) w
      have a3 : ∀ w : World, (Op.stringOp .add (S ([96, 0, 0, 0] ++ Z1 ++ Z2)) ⟨#[0]⟩).run Tryd.prog w = .ok (.string (S ([96, 0, 0, 0] ++ Z1 ++ Z2 ++ [0]))) w := fun w => add_str _ [0] (by simp; omega) w
      have hq4 : ([96, 0, 0, 0] ++ Z1 ++ Z2 ++ [0]).length = 8 := by simp; omega
      rw [← List.append_assoc, ← List.append_assoc] at hHA6
      generalize [96, 0, 0, 0] ++ Z1 = Q1 at *
      generalize Q1 ++ Z2 = Q2 at *
      generalize Q2 ++ [0] = Q3 at *
      have kk0 : ∀ x : Cls w2, x.val.cell? ⟨g, go, none⟩ = some (.int .i64 (upd Y m (pr : Int) 0)) := fun x => (x.property.cell (a := ⟨g, go, none⟩) GL.out (by simp)).trans (CL.out 0 (Nat.zero_le _))
      generalize upd Y m (pr : Int) 0 = y0 at *
      refine wp_region_cls (wd := w2) (by kernel_rfl) (by kernel_rfl) ((Touch.refl _ _).drew) ?_
      repeat (first | go_big_quiet_step ((go_at_call 35; first | with_reducible exact Calls.cls_at (LW1.out _) | with_reducible exact Calls.cls_at (LW2.out _))) | quiet_step ((go_at_call 35; first | with_reducible exact Calls.cls_at (LW1.out _) | with_reducible exact Calls.cls_at (LW2.out _))))
      refine wpQuiet_nil ?_
      rintro _ ⟨x1, rfl⟩
      clear kk0 a1 a2 a3 LW1 LW2 nb0 y0r
      have T3 := Lib.hid (T2.out.trans x1.property (by simp))
      have BX3 := Lib.hid (BX.out.carry x1.property (by simp))
      have CL3 := Lib.hid (show ∀ i, i ≤ m → x1.val.cell? ⟨g, go + i, none⟩ = some (.int .i64 (upd Y m (pr : Int) i)) from fun i hi => (x1.property.cell (a := ⟨g, go + i, none⟩) GL.out (by simp)).trans (CL.out i hi))
      have GL3 := Lib.hid (show g < x1.val.heap.size from Nat.lt_of_lt_of_le GL.out x1.property.size)
      generalize x1.val = w3 at *
      clear T2 BX CL GL
      go_upto_region 12 with fail
      have b1 : ∀ w : World, (Op.stringOp .add (S Q3) (S ZA)).run Tryd.prog w = .ok (.string (S (Q3 ++ ZA))) w := fun w => add_str _ _ (by omega) w
      have b2 : ∀ w : World, (Op.stringOp .add (S (Q3 ++ ZA)) (S ZB)).run Tryd.prog w = .ok (.string (S (Q3 ++ ZA ++ ZB))) w := fun w => add_str _ _ (by rw [List.length_append]; omega) w
      have b3 : ∀ w : World, (Op.stringOp .add (S (Q3 ++ ZA ++ ZB)) (S ZC)).run Tryd.prog w = .ok (.string (S (Q3 ++ ZA ++ ZB ++ ZC))) w := fun w => add_str _ _ (by rw [List.length_append, List.length_append]; omega) w
      have b4 : ∀ w : World, (Op.stringOp .add (S (Q3 ++ ZA ++ ZB ++ ZC)) (S ZD)).run Tryd.prog w = .ok (.string (S HA6)) w := fun w => by rw [← hHA6]; exact add_str _ _ (by rw [List.length_append, List.length_append, List.length_append]; omega) w
      have hHl : HA6.length = 40 := by rw [← hHA6]; simp only [List.length_append]; omega
      generalize Q3 ++ ZA ++ ZB ++ ZC = Q6 at *
      generalize Q3 ++ ZA ++ ZB = Q5 at *
      generalize Q3 ++ ZA = Q4 at *
      have k0 : ∀ x : Cls w3, x.val.cell? ⟨w.heap.size, 0, none⟩ = some (.int .u64 (h.sh : Int)) := fun x => (BX3.out.carry x.property (by simp)).cell 0
      have k1 : ∀ x : Cls w3, x.val.cell? ⟨w.heap.size, 1, none⟩ = some (.int .u64 (h.sl : Int)) := fun x => (BX3.out.carry x.property (by simp)).cell 1
      have k2 : ∀ x : Cls w3, x.val.cell? ⟨w.heap.size, 2, none⟩ = some (.int .u64 (h.dh : Int)) := fun x => (BX3.out.carry x.property (by simp)).cell 2
      have k3 : ∀ x : Cls w3, x.val.cell? ⟨w.heap.size, 3, none⟩ = some (.int .u64 (h.dl : Int)) := fun x => (BX3.out.carry x.property (by simp)).cell 3
      refine wp_region_cls (wd := w3) (by kernel_rfl) (by kernel_rfl) ((Touch.refl _ _).drew) ?_
      repeat (first | go_big_quiet_step ((go_at_call 36; first | with_reducible exact Calls.cls_at (PA.out _) | with_reducible exact Calls.cls_at (PB.out _) | with_reducible exact Calls.cls_at (PC.out _) | with_reducible exact Calls.cls_at (PD.out _))) | quiet_step ((go_at_call 36; first | with_reducible exact Calls.cls_at (PA.out _) | with_reducible exact Calls.cls_at (PB.out _) | with_reducible exact Calls.cls_at (PC.out _) | with_reducible exact Calls.cls_at (PD.out _))))
      refine wpQuiet_nil ?_
      rintro _ ⟨x2, rfl⟩
      clear k0 k1 k2 k3 b1 b2 b3 b4 PA PB PC PD hHA6 hza hzb hzc hzd hq4
      have T4 := Lib.hid (T3.out.trans x2.property (by simp))
      have BX4 := Lib.hid (BX3.out.carry x2.property (by simp))
      have CL4 := Lib.hid (show ∀ i, i ≤ m → x2.val.cell? ⟨g, go + i, none⟩ = some (.int .i64 (upd Y m (pr : Int) i)) from fun i hi => (x2.property.cell (a := ⟨g, go + i, none⟩) GL3.out (by simp)).trans (CL3.out i hi))
      have GL4 := Lib.hid (show g < x2.val.heap.size from Nat.lt_of_lt_of_le GL3.out x2.property.size)
      generalize x2.val = w4 at *
      clear T3 BX3 CL3 GL3
      have LE := Lib.hid (extsA_length h (upto Y m))
      go_wp2_with fail
      go_loopw [10, 11] (fun s i wr => ∃ (j : Nat) (dn : List UInt8), j ≤ m ∧ i = .int .i64 (j : Int) ∧ s = .string (S (HA6 ++ dn)) ∧ dn ++ extsA h ((upto Y m).drop j) = extsA h (upto Y m) ∧ Touch [] w4 wr) (fun _ i _ => m - (intOf i).toNat)
      case atStart => exact ⟨0, [], Nat.zero_le _, rfl, by rw [List.append_nil], by simp, Touch.refl _ _⟩
      case round =>
        obtain ⟨j, dn, hj, rfl, rfl, heq, ht⟩ := hrel
        have hdl : dn.length ≤ 64 := by
          have e1 := congrArg List.length heq
          rw [List.length_append, LE.out, upto_length] at e1
          omega
        by_cases hlt : j < m
        · have nb := NB.out (j + 1) (by omega)
          have yr := YR.out (j + 1) (by omega)
          have L1 := fun w => low11 (upd Y m (pr : Int) (j + 1)) 1 (by omega) (by omega) w
          rw [nb] at L1
          rw [drop_upto Y hlt] at heq
          have hex : extA h (Y j) (nextOf h ((upto Y m).drop (j + 1))) = be (u64n (nextOf h ((upto Y m).drop (j + 1)))) 1 ++ [0] ++ (if Y j = 44 then be (flags6 h) 2 else [0, 0]) ++ [0, 0, 0, 0] := rfl
          simp only [extsA] at heq
          obtain ⟨FL, hFL⟩ : ∃ FL, (if Y j = 44 then be (flags6 h) 2 else [0, 0]) = FL := ⟨_, rfl⟩
          rw [hex, hFL, ← List.append_assoc] at heq
          have cj : wr.cell? ⟨g, go + j, none⟩ = some (.int .i64 (Y j)) := by
            have := (ht.cell (a := ⟨g, go + j, none⟩) GL4.out (by simp)).trans (CL4.out j (by omega))
            rwa [upd_other _ _ (by omega)] at this
          have cj1 : wr.cell? ⟨g, go + (j + 1), none⟩ = some (.int .i64 (upd Y m (pr : Int) (j + 1))) := (ht.cell (a := ⟨g, go + (j + 1), none⟩) GL4.out (by simp)).trans (CL4.out (j + 1) (by omega))
          have bx := BX4.out.carry ht (by simp)
          have b7 : wr.cell? ⟨w.heap.size, 7, none⟩ = some (.int .i64 h.off) := bx.cell 7
          have b8 : wr.cell? ⟨w.heap.size, 8, none⟩ = some (.bool h.more) := bx.cell 8
          have blt := bx.lt
          have glt : g < wr.heap.size := Nat.lt_of_lt_of_le GL4.out ht.size
          have hN1 := be_length (u64n (nextOf h ((upto Y m).drop (j + 1)))) 1
          generalize be (u64n (nextOf h ((upto Y m).drop (j + 1)))) 1 = N1 at *
          generalize upd Y m (pr : Int) (j + 1) = y1 at *
          have HT := Lib.hid ht
          have s1 : ∀ w : World, (Op.stringOp .add (S (HA6 ++ dn)) (S N1)).run Tryd.prog w = .ok (.string (S (HA6 ++ dn ++ N1))) w := fun w => add_str _ _ (by rw [List.length_append]; omega) w
          have s2 : ∀ w : World, (Op.stringOp .add (S (HA6 ++ dn ++ N1)) ⟨#[0]⟩).run Tryd.prog w = .ok (.string (S (HA6 ++ dn ++ N1 ++ [0]))) w := fun w => add_str _ [0] (by simp only [List.length_append, List.length_cons, List.length_nil]; omega) w
          have hq1 : (HA6 ++ dn ++ N1 ++ [0]).length ≤ 200 := by simp only [List.length_append, List.length_cons, List.length_nil]; omega
          have sj : ∀ FL : List UInt8, HA6 ++ dn ++ N1 ++ [0] ++ FL ++ [0, 0, 0, 0] = HA6 ++ (dn ++ (((N1 ++ [0]) ++ FL) ++ [0, 0, 0, 0])) := fun FL => by simp only [List.append_assoc]
          have ux := u64n_cast h.off
          have uw : IntKind.u64.wrap h.off = ((u64n h.off : Nat) : Int) := by rw [IntKind.wrap_u64]; omega
          have um : ((u64n h.off : Nat) : Int) % 8192 = ((u64n h.off % 8192 : Nat) : Int) := by omega
          have ul : u64n h.off % 8192 < 8192 := by omega
          have L1 := Lib.hid L1
          clear nb yr hex bx ht
          by_cases h44 : Y j = 44
          · have d44 : (Y j == 44) = true := by simpa using h44
            rw [if_pos h44] at hFL
            have hFl : FL.length = 2 := by rw [← hFL]; exact be_length _ _
            by_cases hmo : h.more = true
            · have ef : flags6 h = u64n h.off % 8192 * 8 + 1 := by unfold flags6; rw [if_pos hmo]
              rw [hmo] at b8
              have L2 := fun w => low11 ((flags6 h : Nat) : Int) 2 (by omega) (by rw [ef]; omega) w
              rw [u64n_nat _ (by rw [ef]; omega), show ((flags6 h : Nat) : Int) = 8 * ((u64n h.off % 8192 : Nat) : Int) + 1 by rw [ef]; omega] at L2
              rw [hFL] at L2
              generalize u64n h.off % 8192 = ox at *
              have EQ := Lib.hid heq
              clear hmo ef
              have L2 := Lib.hid L2
              have s3 : ∀ w : World, (Op.stringOp .add (S (HA6 ++ dn ++ N1 ++ [0])) (S FL)).run Tryd.prog w = .ok (.string (S (HA6 ++ dn ++ N1 ++ [0] ++ FL))) w := fun w => add_str _ _ (by omega) w
              have s4 : ∀ w : World, (Op.stringOp .add (S (HA6 ++ dn ++ N1 ++ [0] ++ FL)) ⟨#[0, 0, 0, 0]⟩).run Tryd.prog w = .ok (.string (S (HA6 ++ dn ++ N1 ++ [0] ++ FL ++ [0, 0, 0, 0]))) w := fun w => add_str _ [0, 0, 0, 0] (by rw [List.length_append]; simp only [List.length_cons, List.length_nil]; omega) w
              have APP := Lib.hid (sj FL)
              clear heq sj hFL
              generalize HA6 ++ dn ++ N1 ++ [0] ++ FL ++ [0, 0, 0, 0] = G4 at *
              generalize HA6 ++ dn ++ N1 ++ [0] ++ FL = G3 at *
              generalize HA6 ++ dn ++ N1 ++ [0] = G2 at *
              generalize HA6 ++ dn ++ N1 = G1 at *
              generalize Y j = yj at *
              clear h44
              go_wp2_with fail
              refine (L1.out _).mono ?_
              rintro e v1 ⟨rfl, t1⟩
              have TA := Lib.hid (HT.out.trans t1 (by simp))
              clear t1
              go_wp2_with fail
              refine (L2.out _).mono ?_
              rintro e v2 ⟨rfl, t2⟩
              have TB := Lib.hid (TA.out.trans t2 (by simp))
              clear t2
              go_wp2_with fail
              go_roundw
              case rel => exact ⟨j + 1, dn ++ (((N1 ++ [0]) ++ FL) ++ [0, 0, 0, 0]), by omega, by go_num, by rw [APP.out], EQ.out, TB.out⟩
              case measure => simp [intOf]; omega
            · have hmo' : h.more = false := by simpa using hmo
              have ef : flags6 h = u64n h.off % 8192 * 8 := by unfold flags6; rw [if_neg hmo]; rfl
              rw [hmo'] at b8
              have L2 := fun w => low11 ((flags6 h : Nat) : Int) 2 (by omega) (by rw [ef]; omega) w
              rw [u64n_nat _ (by rw [ef]; omega), show ((flags6 h : Nat) : Int) = 8 * ((u64n h.off % 8192 : Nat) : Int) by rw [ef]; omega] at L2
              rw [hFL] at L2
              generalize u64n h.off % 8192 = ox at *
              have EQ := Lib.hid heq
              clear hmo hmo' ef
              have L2 := Lib.hid L2
              have s3 : ∀ w : World, (Op.stringOp .add (S (HA6 ++ dn ++ N1 ++ [0])) (S FL)).run Tryd.prog w = .ok (.string (S (HA6 ++ dn ++ N1 ++ [0] ++ FL))) w := fun w => add_str _ _ (by omega) w
              have s4 : ∀ w : World, (Op.stringOp .add (S (HA6 ++ dn ++ N1 ++ [0] ++ FL)) ⟨#[0, 0, 0, 0]⟩).run Tryd.prog w = .ok (.string (S (HA6 ++ dn ++ N1 ++ [0] ++ FL ++ [0, 0, 0, 0]))) w := fun w => add_str _ [0, 0, 0, 0] (by rw [List.length_append]; simp only [List.length_cons, List.length_nil]; omega) w
              have APP := Lib.hid (sj FL)
              clear heq sj hFL
              generalize HA6 ++ dn ++ N1 ++ [0] ++ FL ++ [0, 0, 0, 0] = G4 at *
              generalize HA6 ++ dn ++ N1 ++ [0] ++ FL = G3 at *
              generalize HA6 ++ dn ++ N1 ++ [0] = G2 at *
              generalize HA6 ++ dn ++ N1 = G1 at *
              generalize Y j = yj at *
              clear h44
              go_wp2_with fail
              refine (L1.out _).mono ?_
              rintro e v1 ⟨rfl, t1⟩
              have TA := Lib.hid (HT.out.trans t1 (by simp))
              clear t1
              go_wp2_with fail
              refine (L2.out _).mono ?_
              rintro e v2 ⟨rfl, t2⟩
              have TB := Lib.hid (TA.out.trans t2 (by simp))
              clear t2
              go_wp2_with fail
              go_roundw
              case rel => exact ⟨j + 1, dn ++ (((N1 ++ [0]) ++ FL) ++ [0, 0, 0, 0]), by omega, by go_num, by rw [APP.out], EQ.out, TB.out⟩
              case measure => simp [intOf]; omega
          · have d44 : (Y j == 44) = false := by simpa using h44
            rw [if_neg h44] at hFL
            have hFl : FL.length = 2 := by rw [← hFL]; rfl
            have L2 : ∀ w, Calls Tryd.prog 35 #[.int .i64 0, .int .i64 2] w fun e w' => e = .returned (.string (S FL)) ∧ Touch [] w w' := fun w => by rw [← hFL]; exact low11 0 2 (by omega) (by omega) w
            have EQ := Lib.hid heq
            have L2 := Lib.hid L2
            have s3 : ∀ w : World, (Op.stringOp .add (S (HA6 ++ dn ++ N1 ++ [0])) (S FL)).run Tryd.prog w = .ok (.string (S (HA6 ++ dn ++ N1 ++ [0] ++ FL))) w := fun w => add_str _ _ (by omega) w
            have s4 : ∀ w : World, (Op.stringOp .add (S (HA6 ++ dn ++ N1 ++ [0] ++ FL)) ⟨#[0, 0, 0, 0]⟩).run Tryd.prog w = .ok (.string (S (HA6 ++ dn ++ N1 ++ [0] ++ FL ++ [0, 0, 0, 0]))) w := fun w => add_str _ [0, 0, 0, 0] (by rw [List.length_append]; simp only [List.length_cons, List.length_nil]; omega) w
            have APP := Lib.hid (sj FL)
            clear heq sj hFL
            generalize HA6 ++ dn ++ N1 ++ [0] ++ FL ++ [0, 0, 0, 0] = G4 at *
            generalize HA6 ++ dn ++ N1 ++ [0] ++ FL = G3 at *
            generalize HA6 ++ dn ++ N1 ++ [0] = G2 at *
            generalize HA6 ++ dn ++ N1 = G1 at *
            generalize Y j = yj at *
            clear h44
            go_wp2_with fail
            refine (L1.out _).mono ?_
            rintro e v1 ⟨rfl, t1⟩
            have TA := Lib.hid (HT.out.trans t1 (by simp))
            clear t1
            go_wp2_with fail
            refine (L2.out _).mono ?_
            rintro e v2 ⟨rfl, t2⟩
            have TB := Lib.hid (TA.out.trans t2 (by simp))
            clear t2
            go_wp2_with fail
            go_roundw
            case rel => exact ⟨j + 1, dn ++ (((N1 ++ [0]) ++ FL) ++ [0, 0, 0, 0]), by omega, by go_num, by rw [APP.out], EQ.out, TB.out⟩
            case measure => simp [intOf]; omega
        · obtain rfl : j = m := by omega
          rw [List.drop_eq_nil_of_le (by rw [upto_length]; exact Nat.le_refl _)] at heq
          simp only [extsA, List.append_nil] at heq
          have ad : ∀ w : World, (Op.stringOp .add (S (HA6 ++ dn)) (S pay)).run Tryd.prog w = .ok (.string (S TG)) w := fun w => by
            have e : HA6 ++ dn ++ pay = TG := by rw [List.append_assoc, heq]; exact HTG.out
            have := add_str (HA6 ++ dn) pay (by rw [List.length_append]; omega) w
            rwa [e] at this
          have HT := Lib.hid (T4.out.trans ht (by simp))
          clear ht heq
          go_wp2_with fail
          go_ret
          exact ⟨rfl, HT.out⟩
end Go.Proofs.YtdpaiegojioimaaDoor

/-
  Layer 12 (ipv6): the document's example; headers that came in.
-/
namespace Go.Proofs.YtdpaiegojioimaaDoor
open Go.ChangeShapes Go.WideShapes Go.ChangeAt Go.RowKit Go.Deep Go.Joins
set_option linter.unusedVariables false
set_option linter.unusedSimpArgs false

def exH6 : Hd := ⟨0, 0, 0, 0, 17, 0, 0, 0, false⟩
theorem exH6_ok : exH6.Ok6 := ⟨by unfold exH6; simp, by unfold exH6; simp, by unfold exH6; simp, by unfold exH6; simp, by unfold exH6; simp, by unfold exH6; simp⟩
def exX6 (i : Nat) : Int := if i = 0 then 0 else 44
def exP6 : List UInt8 := [96, 0, 0, 0, 0, 19, 0, 0, 0, 0, 0, 0, 0, 0, 0, 0, 0, 0, 0, 0, 0, 0, 0, 0, 0, 0, 0, 0, 0, 0, 0, 0, 0, 0, 0, 0, 0, 0, 0, 0, 44, 0, 0, 0, 0, 0, 0, 0, 17, 0, 0, 0, 0, 0, 0, 0, 97, 98, 99]
theorem ex_pack6 : pack6 exH6 (upto exX6 2) [97, 98, 99] = exP6 := by decide +kernel
theorem ex_err6 : err6 exP6 = 0 := by decide +kernel
theorem ex_hd6 : hd6 exP6 = ⟨0, 0, 0, 0, 17, 56, 59, 0, false⟩ := by kernel_rfl

set_option maxHeartbeats 1000000 in
set_option maxRecDepth 100000 in
theorem ipv6Lives {w : World} (K : Tab6 w) : Calls Tryd.prog 9 #[] w fun e w' => e = .returned (.bool true) ∧ Touch [] w w' := by
  have T1 : Touch [] w (w.alloc (.cells #[.int .i64 0, .int .i64 44] 3)) := (Touch.refl [] w).alloc _
  have hX : IntCells (w.alloc (.cells #[.int .i64 0, .int .i64 44] 3)) (w.alloc (.cells #[.int .i64 0, .int .i64 44] 3)).heap.size (some ⟨w.heap.size, 0, none⟩) 2 exX6 := fun i hi => by
    refine ⟨w.heap.size, 0, rfl, by simp, ?_⟩
    have B := BoxV.new w 3 #[.int .i64 0, .int .i64 44]
    rcases (show i = 0 ∨ i = 1 by omega) with rfl | rfl
    · exact B.cell 0
    · exact B.cell 1
  have M := make12 (cap := 2) exH6 exH6_ok [97, 98, 99] (K.carry T1 (by simp)) hX (by omega) (by simp)
  rw [ex_pack6] at M
  have P := fun (w : World) (K : Tab6 w) => parse12 exP6 (by decide) K
  rw [ex_err6, ex_hd6] at P
  have hss : (S exP6).size = 59 := by rw [S_size]; rfl
  generalize exP6 = X at *
  unfold exH6 at M
  unfold Hd.cells at *
  simp only [Int.ofNat_zero] at M
  have M := Lib.hid M
  have P := Lib.hid P
  have HT := Lib.hid T1
  have HK := Lib.hid K
  clear hX T1 K
  go_enter Tryd.func9, Tryd.ntmps9
  go_wp2_with fail
  refine (M.out).mono ?_
  rintro e w1 ⟨rfl, t1⟩
  have T1 := Lib.hid (HT.out.trans t1 (by simp))
  have P1 := Lib.hid (P.out w1 (HK.out.carry T1.out (by simp)))
  clear t1
  go_wp2_with fail
  refine (P1.out).mono ?_
  rintro e w2 ⟨rfl, t2⟩
  have T2 := Lib.hid (T1.out.trans t2 (by simp))
  clear t2
  go_wp2_with fail
  go_ret
  exact ⟨rfl, T2.out.alloc _⟩

section
variable {H : Type} {enc : TypeId × Value → H} {w : World} {base : Nat} {sp : Nat → Bool}
theorem field6 {P : Program} {t : TypeId} {fs : Array Field} {n : Nat} {cs : List Value} {x : DataW H × List MemPlace} (he : P.underlying t = some (.struct fs)) (hx : DataW.trod enc P w base sp true n t cs = some x) (j : Nat) (f : Field) (hj : fs[j]? = some f) :
    ∃ m y, DataW.trod enc P w base sp true m f.type ((cs.drop f.offset).take (P.cellsOf f.type)) = some y := by
  obtain ⟨xs, m, _, _, _, hl, hf⟩ := DataW.trod_struct he hx
  have hlt : j < fs.size := (Array.getElem?_eq_some_iff.1 hj).1
  have := hf j f hj
  rw [List.getElem?_eq_getElem (by omega)] at this
  exact ⟨m, _, this⟩
theorem arr9h {cs : Array Value} (h : cs.size = 9) : ∃ a0 a1 a2 a3 a4 a5 a6 a7 a8, cs = #[a0, a1, a2, a3, a4, a5, a6, a7, a8] := by
  obtain ⟨l⟩ := cs
  match l, h with
  | [a0, a1, a2, a3, a4, a5, a6, a7, a8], _ => exact ⟨a0, a1, a2, a3, a4, a5, a6, a7, a8, rfl⟩
set_option maxRecDepth 100000 in
/-- A header that came in by value. -/
theorem open_header6 {v : Value} {d : DataW H} {p : List MemPlace} {r : Reach} {b0 : Nat} (hv : Value.okWide Tryd.prog w r b0 27 v) (h : DataW.Trod enc Tryd.prog w base sp true 27 v d p) :
    ∃ q : Hd, v = .agg q.cells ∧ q.Ok6 ∧ (-9223372036854775808 ≤ q.start ∧ q.start ≤ 9223372036854775807) ∧ (-9223372036854775808 ≤ q.size ∧ q.size ≤ 9223372036854775807) := by
  have c3 : Tryd.prog.cellsOf 3 = 1 := by kernel_rfl
  have c4 : Tryd.prog.cellsOf 4 = 1 := by kernel_rfl
  have c30 : Tryd.prog.cellsOf 23 = 1 := by kernel_rfl
  have c44 : Tryd.prog.cellsOf 25 = 2 := by kernel_rfl
  obtain ⟨cs, rfl, hsz⟩ := okWide_struct Tryd.underlying27 hv
  obtain ⟨a0, a1, a2, a3, a4, a5, a6, a7, a8, rfl⟩ := arr9h (hsz.trans (by kernel_rfl))
  obtain ⟨fuel, hf⟩ := h
  have hcs : (Value.agg #[a0, a1, a2, a3, a4, a5, a6, a7, a8]).cells.toList = [a0, a1, a2, a3, a4, a5, a6, a7, a8] := rfl
  rw [hcs] at hf
  obtain ⟨m0, y0, h0⟩ := field6 Tryd.underlying27 hf 0 _ rfl
  obtain ⟨m1, y1, h1⟩ := field6 Tryd.underlying27 hf 1 _ rfl
  obtain ⟨m2, y2, h2⟩ := field6 Tryd.underlying27 hf 2 _ rfl
  obtain ⟨m3, y3, h3⟩ := field6 Tryd.underlying27 hf 3 _ rfl
  obtain ⟨m4, y4, h4⟩ := field6 Tryd.underlying27 hf 4 _ rfl
  obtain ⟨m5, y5, h5⟩ := field6 Tryd.underlying27 hf 5 _ rfl
  obtain ⟨m6, y6, h6⟩ := field6 Tryd.underlying27 hf 6 _ rfl
  simp [c3, c4, c44] at h0 h1 h2 h3 h4 h5 h6
  obtain ⟨n0, z0, k0⟩ := field6 Tryd.underlying25 h0 0 _ rfl
  obtain ⟨n1, z1, k1⟩ := field6 Tryd.underlying25 h0 1 _ rfl
  obtain ⟨n2, z2, k2⟩ := field6 Tryd.underlying25 h1 0 _ rfl
  obtain ⟨n3, z3, k3⟩ := field6 Tryd.underlying25 h1 1 _ rfl
  simp [c30] at k0 k1 k2 k3
  obtain ⟨b0, rfl, w0⟩ := cell_int Tryd.underlying23 k0
  obtain ⟨b1, rfl, w1⟩ := cell_int Tryd.underlying23 k1
  obtain ⟨b2, rfl, w2⟩ := cell_int Tryd.underlying23 k2
  obtain ⟨b3, rfl, w3⟩ := cell_int Tryd.underlying23 k3
  obtain ⟨b4, rfl, w4⟩ := cell_int Tryd.underlying3 h2
  obtain ⟨b5, rfl, w5⟩ := cell_int Tryd.underlying3 h3
  obtain ⟨b6, rfl, w6⟩ := cell_int Tryd.underlying3 h4
  obtain ⟨b7, rfl, w7⟩ := cell_int Tryd.underlying3 h5
  obtain ⟨b8, rfl⟩ := cell_bool boolType h6
  have u0 := u64_in w0
  have u1 := u64_in w1
  have u2 := u64_in w2
  have u3 := u64_in w3
  obtain ⟨x0, rfl⟩ := Int.eq_ofNat_of_zero_le u0.1
  obtain ⟨x1, rfl⟩ := Int.eq_ofNat_of_zero_le u1.1
  obtain ⟨x2, rfl⟩ := Int.eq_ofNat_of_zero_le u2.1
  obtain ⟨x3, rfl⟩ := Int.eq_ofNat_of_zero_le u3.1
  exact ⟨⟨x0, x1, x2, x3, b4, b5, b6, b7, b8⟩, rfl, ⟨by simp only; omega, by simp only; omega, by simp only; omega, by simp only; omega, i64_in w4, i64_in w7⟩, i64_in w5, i64_in w6⟩
end
end Go.Proofs.YtdpaiegojioimaaDoor

/-
  Laws behind the door: what the condition on the listed variable gives; a law's row from a contract that may use it; the witness.
-/
namespace Go.Proofs.YtdpaiegojioimaaDoor
open Go.ChangeShapes Go.WideShapes Go.ChangeAt Go.RowKit Go.Deep
set_option linter.unusedVariables false

def laid1 : List (String × DataW Unit) := [("flashlock/ipv6.known", Rows.laid_flashlock_ipv6_known)]
theorem gKnown : Tryd.prog.globalNamed "flashlock/ipv6.known" = some 0 := by kernel_rfl
theorem tKnown : (Tryd.prog.globals[0]?).map (·.type) = some 58 := by kernel_rfl

theorem known_of_laid {W : World} (h : laidMetH Tryd.prog laid1 W) : Tab6 W := by
  rw [MakeChecks.laidMetH_plain _ _ _ (by kernel_rfl)] at h
  obtain ⟨ps, ⟨g0, t0, cs0, f0, p0, q0, hg0, ht0, hv0, hd0, _, _⟩, _, _⟩ := h
  obtain rfl := Option.some.inj (gKnown.symm.trans hg0)
  obtain rfl := Option.some.inj (tKnown.symm.trans ht0)
  have c3 : Tryd.prog.cellsOf 3 = 1 := by kernel_rfl
  obtain ⟨xs, m1, e1, hx1, hlen, hn4, hel⟩ := DataW.trod_array Tryd.underlying58 hd0
  have cell : ∀ i, W.cell? ⟨0, i, none⟩ = cs0[i]? := fun i => World.var?_cell hg0 hv0 i
  simp only [Rows.laid_flashlock_ipv6_known, Prod.mk.injEq, DataW.agg.injEq] at hx1
  match xs, hn4, hx1, hel with
  | [x0, x1, x2, x3], _, hx1, hel =>
    simp only [List.map_cons, List.map_nil, List.cons.injEq] at hx1
    obtain ⟨⟨y0, y1, y2, y3, _⟩, _⟩ := hx1
    have get : ∀ (i : Nat) (x : DataW Unit × List MemPlace) (v : Int), [x0, x1, x2, x3][i]? = some x → DataW.lit (.int .i64 v) = x.1 → W.cell? ⟨0, i, none⟩ = some (.int .i64 v) := by
      intro i x v hi hv
      have hlt : i < 4 := by
        rcases Nat.lt_or_ge i 4 with h | h
        · exact h
        · rw [List.getElem?_eq_none (by simpa using h)] at hi; cases hi
      have hh := hel i (by simpa using hlt)
      rw [hi, c3] at hh
      obtain ⟨k, e2, e3, _⟩ := DataW.trod_int Tryd.underlying3 hh
      have hk : k = v := by rw [e3] at hv; simpa using hv.symm
      subst hk
      have q : (cs0.toList.drop (i * 1))[0]? = some (.int .i64 k) := by
        have := congrArg (fun l => l[0]?) e2
        simpa using this
      rw [cell]
      simpa using q
    exact ⟨get 0 x0 0 rfl y0, get 1 x1 43 rfl y1, get 2 x2 44 rfl y2, get 3 x3 60 rfl y3⟩

/-- The heap that the door's own run leaves meets the condition. -/
theorem door_met (os : Os) (args : Array Value) : laidMetH Tryd.prog laid1 ((World.doorLaid Tryd.prog 14 os).forCall (fun _ _ => 0) ⟨#[], args, []⟩).memory :=
  laidMetH_of_parts3 (fuel := 8) (laidMet_of_run' 8 (by kernel_rfl) (by kernel_rfl)) (by kernel_rfl) (by kernel_rfl)

section
variable {H : Type} {enc : TypeId × Value → H} {P : Program}
/-- The contract that the row of a law behind the door asks for. -/
def LawCallsK (P : Program) (f : FuncId) (fn : Func) : Prop :=
  ∀ (H : Type) (enc : TypeId × Value → H) (W : World) (base : Nat) (args : Array Value) (ds : List (DataW H)) (p : List MemPlace), Tab6 W →
    (∀ (j : Nat) (t : TypeId) (v : Value), fn.params[j]? = some t → args[j]? = some v → Value.okWide P W .any base t v) →
    DataW.TrodAll enc P W 0 (fun _ => true) true fn.params.toList args.toList ds p → (∀ x ∈ p, x.block < W.heap.size) →
    Calls P f args W fun e W' => e = .returned (.bool true) ∧ Below W.heap.size W W'
theorem law_contractK {f : FuncId} {fn : Func} {s : ChangeSpec} {bt : TypeId} (hl : laidOutB P = true) (hread : (fn.params.toList.all fun t => P.readableRec t && decide (t < P.types.size)) = true)
    (hvars : s.vars = []) (hres : fn.resultTypes = #[bt]) (hbt : P.underlying bt = some .bool)
    (hspec : ∀ ds : List (DataW H), ds.length = fn.params.toList.length → s.fn H ds = { results := [.lit (.bool true)], args := ds })
    (hcall : LawCallsK P f fn) (W : World) (hK : Tab6 W) (base : Nat) (args : Array Value) (ds gs : List (DataW H)) (before : List MemPlace)
    (hval : ∀ (j : Nat) t v, fn.params[j]? = some t → args[j]? = some v → Value.okWide P W .any base t v)
    (hW : DataW.Whole enc P fn.params.toList s.vars false W args.toList ds gs before) :
    Calls P f args W fun e W' => ∃ v, e = .returned v ∧ s.post enc P fn false true false false W args v W' := by
  have hW' := hW
  obtain ⟨p, q, hA, hV, rfl, hfz, hnd⟩ := hW
  rw [hvars] at hV
  obtain ⟨rfl, rfl⟩ := trodVars_none hV
  refine (hcall H enc W base args ds p hK hval hA (places_old hA)).mono fun e W' ⟨he, hb⟩ => ?_
  subst he
  have hsp := hspec ds (trod_length hA)
  refine ⟨_, rfl, ds, [], _, [], p, [], hW', ?_, ?_, ?_, hb.frame _, fun h => by cases h⟩
  · rw [List.append_nil, hsp, hres]
    exact trodAll_mk1 (shut_bool hbt true)
  · rw [List.append_nil, hsp]
    refine args_again hl hb (fun t ht => ?_) hA
    have := List.all_eq_true.1 hread t ht
    simpa using this
  · rw [List.append_nil, hsp, hvars]
    rfl
end
end Go.Proofs.YtdpaiegojioimaaDoor
