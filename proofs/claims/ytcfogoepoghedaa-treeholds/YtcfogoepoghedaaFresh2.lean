/-
  The law on regions with new blocks: one walk in the order of the text serves every order.
-/
import Derived.Test.YtcfogoepoghedaaFresh
namespace Go.Proofs.Ytcfogoepoghedaa
open Go.ChangeShapes Go.WideShapes Go.ChangeAt Go.RowKit Go.Deep
set_option linter.unusedVariables false

structure FreshOk (ops : Array Oper) (n N size : Nat) (K : List (Nat × Tmp)) : Prop where
  sel : Region.noSelect ops = true
  nN : n ≤ N
  hN : N < ops.size
  guard : ∀ i o, i < N → ops[i]? = some o → o.guard = none
  back : ∀ i o, i < N → ops[i]? = some o → ∀ e ∈ o.after, Region.binds .any e = true → e.on < i
  bound : ∀ i o d, i < N → ops[i]? = some o → o.dst = some d → d < size
  looks : ∀ i o, i < n → ops[i]? = some o → ∀ t ∈ o.looksAt ops, ∀ j o', j < N → ops[j]? = some o' → o'.dst = some t → j < i ∧ j < n ∧ Region.waitsFor .any ops i j = true
  one : ∀ i j o o' d, i < N → j < N → ops[i]? = some o → ops[j]? = some o' → o.dst = some d → o'.dst = some d → i = j
  mid : ∀ i o, n ≤ i → i < N → ops[i]? = some o → ∃ k ∈ K, k.1 = i ∧ o.dst = some k.2
  range : ∀ k ∈ K, n ≤ k.1 ∧ k.1 < N
  nodup : (dsts (ops.toList.take n)).Nodup
  sink : Region.sinkB .any ops N = true
  chain : Region.chainB .any ops N = true
  seq : Region.seqB .any ops (ops.size - N) N ((Array.range ops.size).map fun i => decide (i < N)) = true

theorem fresh_spec {ops : Array Oper} {n N size : Nat} {K : List (Nat × Tmp)} (h : freshB ops n N size K = true) : FreshOk ops n N size K := by
  unfold freshB at h
  simp only [Bool.and_eq_true, decide_eq_true_eq] at h
  obtain ⟨⟨⟨⟨⟨⟨⟨sel, nN⟩, hN⟩, hops⟩, hK⟩, hnd⟩, ht⟩, hseq⟩ := h
  rw [List.all_eq_true] at hops
  have key := fun (i : Nat) (o : Oper) (hi : i < N) (ho : ops[i]? = some o) => hops i (List.mem_range.2 hi)
  have key2 := fun (i : Nat) (o : Oper) (hi : i < N) (ho : ops[i]? = some o) => by
    have := key i o hi ho
    simp only [ho, Bool.and_eq_true] at this
    exact this
  refine ⟨sel, nN, hN, ?_, ?_, ?_, ?_, ?_, ?_, ?_, hnd, ht.1, ht.2, hseq⟩
  · intro i o hi ho
    have := (key2 i o hi ho).1.1.1.1.1
    simpa using this
  · intro i o hi ho e he hb
    have := (key2 i o hi ho).1.1.1.1.2
    rw [Array.all_eq_true'] at this
    have := this e he
    simpa [hb] using this
  · intro i o d hi ho hd
    have := (key2 i o hi ho).1.1.1.2
    simpa [hd] using this
  · intro i o hi ho t ht' j o' hj ho' hd
    have := (key2 i o (by omega) ho).1.1.2
    simp only [Bool.or_eq_true, decide_eq_true_eq] at this
    rcases this with h' | h'
    · omega
    · have := List.all_eq_true.1 (List.all_eq_true.1 h' t ht') j (List.mem_range.2 hj)
      simp only [ho', hd, bne_self_eq_false, Bool.false_or, Bool.and_eq_true, decide_eq_true_eq] at this
      exact ⟨this.1.1, this.1.2, this.2⟩
  · intro i j o o' d hi hj ho ho' hd hd'
    have := List.all_eq_true.1 (key2 i o hi ho).1.2 j (List.mem_range.2 hj)
    simp only [ho', hd, hd'] at this
    simp at this
    exact this.symm
  · intro i o hi hi' ho
    have := (key2 i o hi' ho).2
    simp only [Bool.or_eq_true, decide_eq_true_eq, List.any_eq_true, Bool.and_eq_true, beq_iff_eq] at this
    rcases this with h' | ⟨k, hk, h1, h2⟩
    · omega
    · exact ⟨k, hk, h1, h2⟩
  · intro k hk
    have := List.all_eq_true.1 hK k hk
    simpa using this

theorem puts_all (bs : Nat → Nat) : ∀ (K : List Alc) (a : Act), (∀ k ∈ K, k.dst < a.tmps.size) → (∀ k ∈ K, ∀ k' ∈ K, k.dst = k'.dst → k.idx = k'.idx) →
    ((K.foldl (fun a k => a.put (some k.dst) (ptrV (bs k.idx))) a).defers = a.defers ∧ (K.foldl (fun a k => a.put (some k.dst) (ptrV (bs k.idx))) a).tmps.size = a.tmps.size ∧
      (∀ t, (∀ k ∈ K, k.dst ≠ t) → (K.foldl (fun a k => a.put (some k.dst) (ptrV (bs k.idx))) a).tmps[t]? = a.tmps[t]?) ∧ ∀ k ∈ K, (K.foldl (fun a k => a.put (some k.dst) (ptrV (bs k.idx))) a).tmps[k.dst]? = some (ptrV (bs k.idx)))
  | [], a, _, _ => ⟨rfl, rfl, fun _ _ => rfl, fun k hk => by cases hk⟩
  | k :: K, a, hb, hd => by
    obtain ⟨h1, h2, h3, h4⟩ := puts_all bs K (a.put (some k.dst) (ptrV (bs k.idx))) (fun k' hk' => by rw [put_size]; exact hb k' (List.mem_cons_of_mem _ hk')) (fun x hx y hy => hd x (List.mem_cons_of_mem _ hx) y (List.mem_cons_of_mem _ hy))
    simp only [List.foldl_cons]
    refine ⟨by rw [h1, put_defers], by rw [h2, put_size], fun t ht => ?_, fun k' hk' => ?_⟩
    · rw [h3 t (fun x hx => ht x (List.mem_cons_of_mem _ hx)), put_ne]
      intro e
      exact ht k (by simp) (by simpa using e)
    · rcases List.mem_cons.1 hk' with rfl | hk'
      · by_cases hx : ∃ x ∈ K, x.dst = k'.dst
        · obtain ⟨x, hx, he⟩ := hx
          have h5 := h4 x hx
          rw [he, hd x (List.mem_cons_of_mem _ hx) k' (by simp) he] at h5
          exact h5
        · rw [h3 k'.dst (fun x hx' he => hx ⟨x, hx', he⟩)]
          exact put_eq a _ _ (hb k' (by simp))
      · exact h4 k' hk'

section
variable {P : Program} {ops : Array Oper} {Q : Exit → Act → World → Prop} {n N size : Nat} {K : List Alc} {a0 aF : Act} {wd : World}

/-- How far a drawn order has come. -/
structure Inv (ops : Array Oper) (n N : Nat) (K : List Alc) (aF : Act) (wd : World) (s : Array Bool) (ar : Act) (w : World) (bs : Nat → Nat) : Prop where
  inv : HeadInv .any ops N s
  touch : Touch [] wd w
  defers : ar.defers = aF.defers
  tsize : ar.tmps.size = aF.tmps.size
  other : ∀ t, (∀ i o, i < N → ops[i]? = some o → o.dst ≠ some t) → ar.tmps[t]? = aF.tmps[t]?
  head : ∀ i o d, i < n → s.getD i false = true → ops[i]? = some o → o.dst = some d → ar.tmps[d]? = aF.tmps[d]?
  box : ∀ k ∈ K, s.getD k.idx false = true → ar.tmps[k.dst]? = some (ptrV (bs k.idx)) ∧ BoxV w (bs k.idx) k.ty k.zero ∧ wd.heap.size ≤ bs k.idx
  apart : ∀ k ∈ K, ∀ k' ∈ K, s.getD k.idx false = true → s.getD k'.idx false = true → k.idx ≠ k'.idx → bs k.idx ≠ bs k'.idx

theorem getD_set_other {s : Array Bool} {i j : Nat} (b : Bool) (h : i ≠ j) : (s.setIfInBounds i true).getD j b = s.getD j b := by
  simp only [Array.getD_eq_getD_getElem?]
  rw [Array.getElem?_setIfInBounds_ne h]

theorem take_all {s : Array Bool} (hs : N ≤ s.size) : (s.toList.take N).count false = 0 ↔ ∀ i, i < N → s.getD i false = true := by
  rw [List.count_eq_zero]
  constructor
  · intro h i hi
    have hil : i < s.size := by omega
    rw [getD_of hil]
    cases hx : s[i]
    · exfalso
      apply h
      rw [List.mem_take_iff_getElem]
      exact ⟨i, by simp; omega, by simpa using hx⟩
    · rfl
  · intro h hm
    rw [List.mem_take_iff_getElem] at hm
    obtain ⟨i, hi, he⟩ := hm
    simp at hi
    have := h i (by omega)
    rw [getD_of (by omega)] at this
    simp at he
    rw [he] at this
    cases this

theorem take_step {s : Array Bool} {i fuel : Nat} (hi : i < N) (hs : N ≤ s.size) (hf : s.getD i true = false) (hc : (s.toList.take N).count false = fuel + 1) : ((s.setIfInBounds i true).toList.take N).count false = fuel := by
  have hil : i < s.size := by omega
  rw [getD_of hil] at hf
  have hlen : i < (s.toList.take N).length := by simp; omega
  rw [Array.toList_setIfInBounds, List.take_set, List.count_set hlen]
  have e0 : (s.toList.take N)[i] = false := by simpa using hf
  rw [e0, hc]
  simp

theorem fresh_end (ok : FreshOk ops n N size (K.map fun k => (k.idx, k.dst))) (hsz : aF.tmps.size = size) (hK : ∀ k ∈ K, ∃ o, ops[k.idx]? = some o ∧ o.dst = some k.dst) {s : Array Bool} {ar : Act} {w : World} {bs : Nat → Nat} (inv : Inv ops n N K aF wd s ar w bs) (all : ∀ i, i < N → s.getD i false = true) :
    s = (Array.range ops.size).map (fun i => decide (i < N)) ∧ ar = K.foldl (fun a k => a.put (some k.dst) (ptrV (bs k.idx))) aF := by
  constructor
  · apply Array.ext
    · simp [inv.inv.size]
    · intro i h1 h2
      have hi : i < ops.size := by rw [← inv.inv.size]; exact h1
      simp only [Array.getElem_map, Array.getElem_range]
      by_cases hN : i < N
      · have := all i hN
        rw [getD_of h1] at this
        rw [this, decide_eq_true hN]
      · have := inv.inv.tail i (by omega) hi
        rw [getD_of h1] at this
        rw [this, decide_eq_false hN]
  · have hrange : ∀ k ∈ K, n ≤ k.idx ∧ k.idx < N := fun k hk => ok.range _ (List.mem_map.2 ⟨k, hk, rfl⟩)
    obtain ⟨p1, p2, p3, p4⟩ := puts_all bs K aF (fun k hk => by
      obtain ⟨o, ho, hd⟩ := hK k hk
      rw [hsz]
      exact ok.bound _ o _ (hrange k hk).2 ho hd) (fun k hk k' hk' e => by
      obtain ⟨o, ho, hd⟩ := hK k hk
      obtain ⟨o', ho', hd'⟩ := hK k' hk'
      exact ok.one _ _ o o' _ (hrange k hk).2 (hrange k' hk').2 ho ho' hd (by rw [hd', e]))
    generalize K.foldl (fun a k => a.put (some k.dst) (ptrV (bs k.idx))) aF = b at *
    obtain ⟨bt, bd⟩ := b
    obtain ⟨at', ad⟩ := ar
    have e1 : ad = bd := inv.defers.trans p1.symm
    subst e1
    congr 1
    apply Array.ext_getElem?
    intro t
    show at'[t]? = bt[t]?
    by_cases hx : ∃ i o, i < N ∧ ops[i]? = some o ∧ o.dst = some t
    · obtain ⟨i, o, hi, ho, hd⟩ := hx
      by_cases hin : i < n
      · rw [show at'[t]? = aF.tmps[t]? from inv.head i o t hin (all i hi) ho hd]
        refine (p3 t fun k hk e => ?_).symm
        obtain ⟨o', ho', hd'⟩ := hK k hk
        have := ok.one _ _ o o' t hi (hrange k hk).2 ho ho' hd (by rw [hd', e])
        have := (hrange k hk).1
        omega
      · obtain ⟨k', hk', e1, e2⟩ := ok.mid i o (by omega) hi ho
        obtain ⟨k, hk, rfl⟩ := List.mem_map.1 hk'
        have ed : k.dst = t := by
          have : some t = some k.dst := hd.symm.trans e2
          simpa using this.symm
        subst ed
        have := (inv.box k hk (all _ (hrange k hk).2)).1
        rw [show at'[k.dst]? = _ from this]
        exact (p4 k hk).symm
    · rw [show at'[t]? = aF.tmps[t]? from inv.other t fun i o hi ho hd => hx ⟨i, o, hi, ho, hd⟩]
      refine (p3 t fun k hk e => ?_).symm
      obtain ⟨o', ho', hd'⟩ := hK k hk
      exact hx ⟨k.idx, o', (hrange k hk).2, ho', by rw [hd', e]⟩

set_option maxHeartbeats 1000000 in
theorem fresh_any (ok : FreshOk ops n N size (K.map fun k => (k.idx, k.dst))) (h0 : a0.tmps.size = size)
    (hK : ∀ k ∈ K, ∃ o, ops[k.idx]? = some o ∧ o.dst = some k.dst ∧ ∀ (a : Act) (w : World), (execOp a.eval o).run P w = .ok (.value (ptrV w.heap.size)) (w.alloc (.cells k.zero k.ty)))
    (hwalk : ∀ wd', Touch [] wd wd' → wpQuiet P ops (fun w' => ∃ x : Cls wd', w' = x.val) (fun a' => a' = aF) (ops.toList.take n) a0)
    (hend : ∀ (bs : Nat → Nat) (w : World), Touch [] wd w → (∀ k ∈ K, BoxV w (bs k.idx) k.ty k.zero ∧ wd.heap.size ≤ bs k.idx) → (∀ k ∈ K, ∀ k' ∈ K, k.idx ≠ k'.idx → bs k.idx ≠ bs k'.idx) →
      wpList P ops Q (ops.toList.drop N) (K.foldl (fun a k => a.put (some k.dst) (ptrV (bs k.idx))) aF) w) :
    ∀ (fuel : Nat) (s : Array Bool) (ar : Act) (w : World) (bs : Nat → Nat), Inv ops n N K aF wd s ar w bs → (s.toList.take N).count false = fuel → wpAny P .any ops Q (fuel + (ops.size - N)) s ar w := by
  have hrange : ∀ k ∈ K, n ≤ k.idx ∧ k.idx < N := fun k hk => ok.range _ (List.mem_map.2 ⟨k, hk, rfl⟩)
  have hnN := ok.nN
  have hNs := Nat.le_of_lt ok.hN
  have getTake : ∀ i, i < n → (ops.toList.take n)[i]? = ops[i]? := fun i hi => by rw [List.getElem?_take_of_lt hi]; simp
  have walk := fun w (t : Touch [] wd w) => walk_at (P := P) (ops := ops) (C := fun w' => ∃ x : Cls w, w' = x.val) (aF := aF) (ops.toList.take n) a0 (fun o ho => by
      obtain ⟨i, hi⟩ := List.mem_iff_getElem?.1 ho
      have hin : i < n := by
        have := (List.getElem?_eq_some_iff.1 hi).1
        simp at this
        omega
      rw [getTake i hin] at hi
      exact ok.guard i o (by omega) hi) ok.nodup (fun d hd => by
      obtain ⟨o, ho, hod⟩ := List.mem_filterMap.1 hd
      obtain ⟨i, hi⟩ := List.mem_iff_getElem?.1 ho
      have hin : i < n := by
        have := (List.getElem?_eq_some_iff.1 hi).1
        simp at this
        omega
      rw [getTake i hin] at hi
      rw [h0]
      exact ok.bound i o d (by omega) hi hod) (hwalk w t)
  have hsz : aF.tmps.size = size := by rw [← h0]; exact ((walk wd (Touch.refl _ _)).1.2.1).symm
  have hK' : ∀ k ∈ K, ∃ o, ops[k.idx]? = some o ∧ o.dst = some k.dst := fun k hk => by
    obtain ⟨o, h1, h2, _⟩ := hK k hk
    exact ⟨o, h1, h2⟩
  intro fuel
  induction fuel with
  | zero =>
    intro s ar w bs inv hc
    have all := (take_all (N := N) (by rw [inv.inv.size]; exact hNs)).1 hc
    obtain ⟨rfl, rfl⟩ := fresh_end ok hsz hK' inv all
    have W := hend bs w inv.touch (fun k hk => ⟨(inv.box k hk (all _ (hrange k hk).2)).2.1, (inv.box k hk (all _ (hrange k hk).2)).2.2⟩) (fun k hk k' hk' he => inv.apart k hk k' hk' (all _ (hrange k hk).2) (all _ (hrange k' hk').2) he)
    have := wpAny_of_seq (md := .any) (P := P) (ops := ops) (Q' := Q) (ops.toList.drop N) N _ _ w (fun j => by simp [List.getElem?_drop]) (by
      rw [List.length_drop, Array.length_toList]
      exact ok.seq) W
    rw [List.length_drop, Array.length_toList] at this
    rw [Nat.zero_add]
    exact this
  | succ fuel ih =>
    intro s ar w bs inv hc
    have hsN : N ≤ s.size := by rw [inv.inv.size]; exact hNs
    have notall : ¬ ∀ i, i < N → s.getD i false = true := fun h => by
      have := (take_all hsN).2 h
      omega
    rw [show fuel + 1 + (ops.size - N) = fuel + (ops.size - N) + 1 by omega]
    refine ⟨fun hr => absurd (all_heads (N := N) (fun i o hi ho e he hb => ok.back i o hi ho e he hb) hNs inv.inv.size hr) notall, fun i hi => ?_⟩
    obtain ⟨hun, o, ho, hall⟩ := mem_ready.1 hi
    have hil : i < ops.size := (Array.getElem?_eq_some_iff.1 ho).1
    have hiN : i < N := by
      rcases Nat.lt_or_ge i N with h | h
      · exact h
      · exfalso
        apply notall
        intro j hj
        have hjs : j < s.size := by omega
        cases hx : s[j]
        · exact absurd hi (tail_waits ok.sink ok.chain ok.hN inv.inv _ j rfl hj (by rw [getD_of hjs]; exact hx) i h)
        · rw [getD_of hjs]; exact hx
    by_cases hin : i < n
    · obtain ⟨aj, v, e1, e2, e3⟩ := (walk w inv.touch).2 i o (by rw [getTake i hin]; exact ho)
      have hex : execOp ar.eval o = execOp aj.eval o := by
        refine exec_same (ops := ops) (fun cs b => Region.noSelect_spec ok.sel i o cs b ho) fun t ht => ?_
        have r2 : aj.tmps[t]? = aF.tmps[t]? := by
          apply e1
          intro hm
          obtain ⟨o', ho', hd'⟩ := List.mem_filterMap.1 hm
          obtain ⟨j, hj⟩ := List.mem_iff_getElem?.1 ho'
          rw [List.getElem?_drop] at hj
          have hjn : i + j < n := by
            have := (List.getElem?_eq_some_iff.1 hj).1
            simp at this
            omega
          rw [getTake _ hjn] at hj
          have := ok.looks i o hin ho t ht (i + j) o' (by omega) hj hd'
          omega
        have r1 : ar.tmps[t]? = aF.tmps[t]? := by
          by_cases hx : ∃ j o', j < N ∧ ops[j]? = some o' ∧ o'.dst = some t
          · obtain ⟨j, o', hj, ho', hd'⟩ := hx
            obtain ⟨q1, q2, q3⟩ := ok.looks i o hin ho t ht j o' hj ho' hd'
            obtain ⟨oj, hoj, e, he, hb, rfl⟩ := Region.waitsFor_spec q3
            obtain rfl : o = oj := by rw [ho] at hoj; simpa using hoj
            exact inv.head _ o' t q2 (hall e he hb) ho' hd'
          · exact inv.other t fun j o' hj ho' hd' => hx ⟨j, o', hj, ho', hd'⟩
        rw [r1, r2]
      have hy : YieldsIn P ops (fun w' => ∃ x : Cls w, w' = x.val) o v ar := .inl ⟨wanted_of (ok.guard i o hiN ho), fun w' hw' => by
        unfold Oper.quietAt
        rw [hex]
        exact e2 w' hw'⟩
      refine wpOp_of_qOp (C := fun w' => ∃ x : Cls w, w' = x.val) ⟨⟨w, Touch.refl _ _⟩, rfl⟩ (fun a' w' hC h' => ?_) (hy.qOp (K := fun a' => a' = ar.put o.dst v) ho rfl)
      obtain ⟨x, rfl⟩ := hC
      subst h'
      have tx := x.property
      refine ih _ _ _ bs ?_ (take_step hiN hsN hun hc)
      refine ⟨inv.inv.set hi hiN, inv.touch.trans tx (by simp), by rw [put_defers]; exact inv.defers, by rw [put_size]; exact inv.tsize, fun t ht => ?_, fun j o' d hj hl ho' hd => ?_, fun k hk hl => ?_, fun k hk k' hk' hl hl' he => ?_⟩
      · rw [put_ne _ _ _ _ (ht i o hiN ho)]
        exact inv.other t ht
      · by_cases hji : i = j
        · subst hji
          obtain rfl : o = o' := by rw [ho] at ho'; simpa using ho'
          rw [hd, put_eq _ _ _ (by rw [inv.tsize, hsz]; exact ok.bound i o d hiN ho hd), e3 d hd]
        · rw [getD_set_other _ hji] at hl
          rw [put_ne _ _ _ _ (fun e => hji (ok.one i j o o' d hiN (by omega) ho ho' e hd))]
          exact inv.head j o' d hj hl ho' hd
      · have hki : i ≠ k.idx := by have := hrange k hk; omega
        rw [getD_set_other _ hki] at hl
        obtain ⟨b1, b2, b3⟩ := inv.box k hk hl
        obtain ⟨ok', hok, hokd⟩ := hK' k hk
        refine ⟨?_, b2.carry tx (by simp), b3⟩
        rw [put_ne _ _ _ _ (fun e => hki (ok.one i k.idx o ok' k.dst hiN (hrange k hk).2 ho hok e hokd))]
        exact b1
      · have hki : i ≠ k.idx := by have := hrange k hk; omega
        have hki' : i ≠ k'.idx := by have := hrange k' hk'; omega
        rw [getD_set_other _ hki] at hl
        rw [getD_set_other _ hki'] at hl'
        exact inv.apart k hk k' hk' hl hl' he
    · obtain ⟨k0', hk0', q1, q2⟩ := ok.mid i o (by omega) hiN ho
      obtain ⟨k0, hk0, rfl⟩ := List.mem_map.1 hk0'
      simp only at q1 q2
      obtain ⟨o0, hq0, hd0, hrun⟩ := hK k0 hk0
      rw [q1] at hq0
      obtain rfl : o = o0 := by rw [ho] at hq0; simpa using hq0
      refine Does.wpOp (φ := fun v w' => v = ptrV w.heap.size ∧ w' = w.alloc (.cells k0.zero k0.ty)) ho ⟨wanted_of (ok.guard i o hiN ho), by rw [hrun]; exact ⟨⟨rfl, rfl⟩, (Touch.refl _ _).alloc _⟩⟩ fun v w' hφ t => ?_
      obtain ⟨rfl, rfl⟩ := hφ
      refine ih _ _ _ (fun t => if t = i then w.heap.size else bs t) ?_ (take_step hiN hsN hun hc)
      have hsame : ∀ k ∈ K, k.idx = i → k.dst = k0.dst ∧ BoxV (w.alloc (.cells k0.zero k0.ty)) w.heap.size k.ty k.zero := by
        intro k hk he
        obtain ⟨o1, hq1, hd1, hrun1⟩ := hK k hk
        rw [he] at hq1
        obtain rfl : o = o1 := by rw [ho] at hq1; simpa using hq1
        have e1 := (hrun1 ar w).symm.trans (hrun ar w)
        simp only [Result.ok.injEq, true_and] at e1
        refine ⟨by rw [hd0] at hd1; simpa using hd1.symm, ?_⟩
        rw [← e1]
        exact BoxV.new w _ _
      refine ⟨inv.inv.set hi hiN, inv.touch.alloc _, by rw [put_defers]; exact inv.defers, by rw [put_size]; exact inv.tsize, fun t ht => ?_, fun j o' d hj hl ho' hd => ?_, fun k hk hl => ?_, fun k hk k' hk' hl hl' he => ?_⟩
      · rw [put_ne _ _ _ _ (ht i o hiN ho)]
        exact inv.other t ht
      · have hji : i ≠ j := by omega
        rw [getD_set_other _ hji] at hl
        rw [put_ne _ _ _ _ (fun e => hji (ok.one i j o o' d hiN (by omega) ho ho' e hd))]
        exact inv.head j o' d hj hl ho' hd
      · by_cases hki : k.idx = i
        · obtain ⟨s1, s2⟩ := hsame k hk hki
          simp only [hki, if_true]
          refine ⟨?_, s2, inv.touch.size⟩
          rw [hd0, s1]
          exact put_eq _ _ _ (by rw [inv.tsize, hsz]; exact ok.bound i o _ hiN ho hd0)
        · rw [getD_set_other _ (Ne.symm hki)] at hl
          obtain ⟨b1, b2, b3⟩ := inv.box k hk hl
          obtain ⟨ok', hok, hokd⟩ := hK' k hk
          simp only [hki, if_false]
          refine ⟨?_, b2.carry ((Touch.refl [] _).alloc _) (by simp), b3⟩
          rw [put_ne _ _ _ _ (fun e => hki (ok.one i k.idx o ok' k.dst hiN (hrange k hk).2 ho hok e hokd).symm)]
          exact b1
      · by_cases hki : k.idx = i
        · by_cases hki' : k'.idx = i
          · exact absurd (hki.trans hki'.symm) he
          · rw [getD_set_other _ (Ne.symm hki')] at hl'
            have := (inv.box k' hk' hl').2.1.lt
            simp only [hki, hki', if_true, if_false]
            omega
        · rw [getD_set_other _ (Ne.symm hki)] at hl
          by_cases hki' : k'.idx = i
          · have := (inv.box k hk hl).2.1.lt
            simp only [hki, hki', if_true, if_false]
            omega
          · rw [getD_set_other _ (Ne.symm hki')] at hl'
            simp only [hki, hki', if_false]
            exact inv.apart k hk k' hk' hl hl' he

/-- THE LAW: a region that draws its order: n operations that read or call what makes new memory alone, the new blocks K, a forced tail. -/
theorem fresh_start {l : List Oper} {w : World} (n : Nat) (K : List Alc) (aF : Act) (hB : freshB l.toArray n (n + K.length) a0.tmps.size (K.map fun k => (k.idx, k.dst)) = true) (hw : Touch [] wd w.drew)
    (hK : ∀ k ∈ K, ∃ o, l.toArray[k.idx]? = some o ∧ o.dst = some k.dst ∧ ∀ (a : Act) (w : World), (execOp a.eval o).run P w = .ok (.value (ptrV w.heap.size)) (w.alloc (.cells k.zero k.ty)))
    (hwalk : ∀ wd', Touch [] wd wd' → wpQuiet P l.toArray (fun w' => ∃ x : Cls wd', w' = x.val) (fun a' => a' = aF) (l.take n) a0)
    (hend : ∀ (bs : Nat → Nat) (w : World), Touch [] wd w → (∀ k ∈ K, BoxV w (bs k.idx) k.ty k.zero ∧ wd.heap.size ≤ bs k.idx) → (∀ k ∈ K, ∀ k' ∈ K, k.idx ≠ k'.idx → bs k.idx ≠ bs k'.idx) →
      wpList P l.toArray Q (l.drop (n + K.length)) (K.foldl (fun a k => a.put (some k.dst) (ptrV (bs k.idx))) aF) w) : wpAny P .any l.toArray Q l.toArray.size (Array.replicate l.toArray.size false) a0 w.drew := by
  have ok := fresh_spec hB
  have hs0 : (Array.replicate l.toArray.size false).size = l.toArray.size := by simp
  have hNs := Nat.le_of_lt ok.hN
  have hc : (((Array.replicate l.toArray.size false).toList.take (n + K.length)).count false) = n + K.length := by
    rw [Array.toList_replicate, List.take_replicate, List.count_replicate_self]
    omega
  have hget : ∀ j, (Array.replicate l.toArray.size false).getD j false = false := fun j => getD_replicate_false _ _
  have inv : Inv l.toArray n (n + K.length) K aF wd (Array.replicate l.toArray.size false) a0 w.drew (fun _ => 0) := by
    have hwk := walk_at (P := P) (ops := l.toArray) (C := fun w' => ∃ x : Cls wd, w' = x.val) (aF := aF) (l.take n) a0 (fun o ho => by
      obtain ⟨i, hi⟩ := List.mem_iff_getElem?.1 ho
      have hin : i < n := by
        have := (List.getElem?_eq_some_iff.1 hi).1
        simp at this
        omega
      rw [List.getElem?_take_of_lt hin] at hi
      exact ok.guard i o (by omega) (by simpa using hi)) (by simpa using ok.nodup) (fun d hd => by
      obtain ⟨o, ho, hod⟩ := List.mem_filterMap.1 hd
      obtain ⟨i, hi⟩ := List.mem_iff_getElem?.1 ho
      have hin : i < n := by
        have := (List.getElem?_eq_some_iff.1 hi).1
        simp at this
        omega
      rw [List.getElem?_take_of_lt hin] at hi
      exact ok.bound i o d (by omega) (by simpa using hi) hod) (hwalk wd (Touch.refl _ _))
    refine ⟨⟨hs0, fun j oj _ hl => (by rw [hget] at hl; cases hl), fun t h1 h2 => getD_in (by simpa using h2) (hget t)⟩, hw, hwk.1.1, hwk.1.2.1, fun t ht => hwk.1.2.2 t fun hm => ?_, fun i o d hi hl => ?_, fun k hk hl => ?_, fun k hk k' hk' hl => ?_⟩
    · obtain ⟨o, ho, hod⟩ := List.mem_filterMap.1 hm
      obtain ⟨i, hi⟩ := List.mem_iff_getElem?.1 ho
      have hin : i < n := by
        have := (List.getElem?_eq_some_iff.1 hi).1
        simp at this
        omega
      rw [List.getElem?_take_of_lt hin] at hi
      exact ht i o (by omega) (by simpa using hi) hod
    · rw [hget] at hl; cases hl
    · rw [hget] at hl; cases hl
    · rw [hget] at hl; cases hl
  have := fresh_any (Q := Q) ok rfl hK (by simpa using hwalk) (by simpa using hend) (n + K.length) _ a0 w.drew (fun _ => 0) inv hc
  rwa [show n + K.length + (l.toArray.size - (n + K.length)) = l.toArray.size by omega] at this
/-- The same of the region. -/
theorem wp_region_fresh {id : Nat} {l : List Oper} {w : World} (n : Nat) (K : List Alc) (aF : Act) (hm : P.follows .mixedOrders = true) (hB : freshB l.toArray n (n + K.length) a0.tmps.size (K.map fun k => (k.idx, k.dst)) = true) (hw : Touch [] wd w.drew)
    (hK : ∀ k ∈ K, ∃ o, l.toArray[k.idx]? = some o ∧ o.dst = some k.dst ∧ ∀ (a : Act) (w : World), (execOp a.eval o).run P w = .ok (.value (ptrV w.heap.size)) (w.alloc (.cells k.zero k.ty)))
    (hwalk : ∀ wd', Touch [] wd wd' → wpQuiet P l.toArray (fun w' => ∃ x : Cls wd', w' = x.val) (fun a' => a' = aF) (l.take n) a0)
    (hend : ∀ (bs : Nat → Nat) (w : World), Touch [] wd w → (∀ k ∈ K, BoxV w (bs k.idx) k.ty k.zero ∧ wd.heap.size ≤ bs k.idx) → (∀ k ∈ K, ∀ k' ∈ K, k.idx ≠ k'.idx → bs k.idx ≠ bs k'.idx) →
      wpList P l.toArray Q (l.drop (n + K.length)) (K.foldl (fun a k => a.put (some k.dst) (ptrV (bs k.idx))) aF) w) : (Code.region id l.toArray true).wp P Q a0 w :=
  wp_region_any hm (fresh_start n K aF hB hw hK hwalk hend)

/-- One new block. -/
theorem wp_region_fresh1 {id : Nat} {l : List Oper} {w : World} (n : Nat) (d : Tmp) (T : TypeId) (z : Array Value) (aF : Act) (hm : P.follows .mixedOrders = true) (hB : freshB l.toArray n (n + 1) a0.tmps.size [(n, d)] = true) (hw : Touch [] wd w.drew)
    (hK : ∃ o, l.toArray[n]? = some o ∧ o.dst = some d ∧ ∀ (a : Act) (w : World), (execOp a.eval o).run P w = .ok (.value (ptrV w.heap.size)) (w.alloc (.cells z T)))
    (hwalk : ∀ wd', Touch [] wd wd' → wpQuiet P l.toArray (fun w' => ∃ x : Cls wd', w' = x.val) (fun a' => a' = aF) (l.take n) a0)
    (hend : ∀ (b : Nat) (w : World), Touch [] wd w → BoxV w b T z → wd.heap.size ≤ b → wpList P l.toArray Q (l.drop (n + 1)) (aF.put (some d) (.pointer (some ⟨b, 0, none⟩))) w) : (Code.region id l.toArray true).wp P Q a0 w := by
  refine wp_region_fresh n [⟨n, d, T, z⟩] aF hm hB hw (fun k hk => ?_) hwalk (fun bs w' ht hb _ => ?_)
  · rw [List.mem_singleton] at hk
    subst hk
    exact hK
  · obtain ⟨h1, h2⟩ := hb _ (List.mem_singleton.2 rfl)
    exact hend _ w' ht h1 h2
/-- Two new blocks. -/
theorem wp_region_fresh2 {id : Nat} {l : List Oper} {w : World} (n : Nat) (d1 : Tmp) (T1 : TypeId) (z1 : Array Value) (d2 : Tmp) (T2 : TypeId) (z2 : Array Value) (aF : Act) (hm : P.follows .mixedOrders = true) (hB : freshB l.toArray n (n + 2) a0.tmps.size [(n, d1), (n + 1, d2)] = true) (hw : Touch [] wd w.drew)
    (hK1 : ∃ o, l.toArray[n]? = some o ∧ o.dst = some d1 ∧ ∀ (a : Act) (w : World), (execOp a.eval o).run P w = .ok (.value (ptrV w.heap.size)) (w.alloc (.cells z1 T1)))
    (hK2 : ∃ o, l.toArray[n + 1]? = some o ∧ o.dst = some d2 ∧ ∀ (a : Act) (w : World), (execOp a.eval o).run P w = .ok (.value (ptrV w.heap.size)) (w.alloc (.cells z2 T2)))
    (hwalk : ∀ wd', Touch [] wd wd' → wpQuiet P l.toArray (fun w' => ∃ x : Cls wd', w' = x.val) (fun a' => a' = aF) (l.take n) a0)
    (hend : ∀ (b1 b2 : Nat) (w : World), Touch [] wd w → BoxV w b1 T1 z1 → wd.heap.size ≤ b1 → BoxV w b2 T2 z2 → wd.heap.size ≤ b2 → b1 ≠ b2 → wpList P l.toArray Q (l.drop (n + 2)) ((aF.put (some d1) (.pointer (some ⟨b1, 0, none⟩))).put (some d2) (.pointer (some ⟨b2, 0, none⟩))) w) : (Code.region id l.toArray true).wp P Q a0 w := by
  refine wp_region_fresh n [⟨n, d1, T1, z1⟩, ⟨n + 1, d2, T2, z2⟩] aF hm hB hw (fun k hk => ?_) hwalk (fun bs w' ht hb hd => ?_)
  · simp only [List.mem_cons, List.not_mem_nil, or_false] at hk
    rcases hk with rfl | rfl
    · exact hK1
    · exact hK2
  · obtain ⟨h1, h2⟩ := hb ⟨n, d1, T1, z1⟩ (by simp)
    obtain ⟨h3, h4⟩ := hb ⟨n + 1, d2, T2, z2⟩ (by simp)
    exact hend _ _ w' ht h1 h2 h3 h4 (hd ⟨n, d1, T1, z1⟩ (by simp) ⟨n + 1, d2, T2, z2⟩ (by simp) (by simp))
end
end Go.Proofs.Ytcfogoepoghedaa
