/-
  Regions that draw their order, of this form: operations that read or call what makes new memory alone; new blocks, each for a variable of its own; then a forced tail (the stores into them). One walk in the order of the text, whichever order is drawn.
-/
import Derived.Test.YtcfogoepoghedaaPhi
import Derived.Test.YtcfogoepoghedaaBoxV
namespace Go.Proofs.Ytcfogoepoghedaa
open Go.ChangeShapes Go.WideShapes Go.ChangeAt Go.RowKit Go.Deep
set_option linter.unusedVariables false

/-- A new block among a region's operations: which operation, the slot that it fills, its type, its cells. -/
structure Alc where
  idx : Nat
  dst : Tmp
  ty : TypeId
  zero : Array Value
def ptrV (b : Nat) : Value := .pointer (some ⟨b, 0, none⟩)

section
variable {P : Program} {ops : Array Oper} {Q : Exit → Act → World → Prop}

theorem exec_same {o : Oper} {a b : Act} (hs : ∀ cs c, o.op ≠ .select cs c) (h : ∀ t ∈ o.looksAt ops, a.tmps[t]? = b.tmps[t]?) : execOp a.eval o = execOp b.eval o :=
  execOp_congr o hs fun x hx => by
    cases x with
    | tmp t =>
      have := h t (List.mem_append_left _ (List.mem_filterMap.2 ⟨.tmp t, by simpa using hx, rfl⟩))
      simp [Act.eval, this]
    | _ => rfl

def dsts (l : List Oper) : List Tmp := l.filterMap (·.dst)
theorem put_ne (a : Act) (dst : Option Tmp) (v : Value) (t : Nat) (h : dst ≠ some t) : (a.put dst v).tmps[t]? = a.tmps[t]? := by
  cases dst with
  | none => rfl
  | some d => simp only [Act.put]; exact Array.getElem?_setIfInBounds_ne (fun e => h (by rw [e]))
theorem put_eq (a : Act) (d : Tmp) (v : Value) (h : d < a.tmps.size) : (a.put (some d) v).tmps[d]? = some v := by simp [Act.put, h]
theorem put_size (a : Act) (dst : Option Tmp) (v : Value) : (a.put dst v).tmps.size = a.tmps.size := by cases dst <;> simp [Act.put]
theorem put_defers (a : Act) (dst : Option Tmp) (v : Value) : (a.put dst v).defers = a.defers := by cases dst <;> rfl

/-- What a walk in the order of the text says of each operation. -/
theorem walk_at {C : World → Prop} {aF : Act} : ∀ (l : List Oper) (a : Act), (∀ o ∈ l, o.guard = none) → (dsts l).Nodup → (∀ d ∈ dsts l, d < a.tmps.size) → wpQuiet P ops C (fun a' => a' = aF) l a →
    (a.defers = aF.defers ∧ a.tmps.size = aF.tmps.size ∧ ∀ t, t ∉ dsts l → a.tmps[t]? = aF.tmps[t]?) ∧
    ∀ (j : Nat) (o : Oper), l[j]? = some o → ∃ (aj : Act) (v : Value), (∀ t, t ∉ dsts (l.drop j) → aj.tmps[t]? = aF.tmps[t]?) ∧ (∀ w, C w → o.quietAt P aj C w v) ∧ ∀ d, o.dst = some d → aF.tmps[d]? = some v
  | [], a, _, _, _, h => by
    have h : a = aF := h
    subst h
    exact ⟨⟨rfl, rfl, fun _ _ => rfl⟩, fun j o ho => by simp at ho⟩
  | o :: l, a, hg, hn, hb, h => by
    have hw : Region.wanted o (yielded ops a.tmps) = true := by unfold Region.wanted; rw [hg o (by simp)]
    simp only [wpQuiet, hw, if_true] at h
    obtain ⟨v, h1, h2⟩ := h
    have hn' : (dsts l).Nodup := by
      unfold dsts at hn ⊢
      cases hd : o.dst with
      | none => simpa [hd] using hn
      | some d => simp only [List.filterMap_cons, hd] at hn; exact (List.nodup_cons.1 hn).2
    have hsub : ∀ d ∈ dsts l, d ∈ dsts (o :: l) := by
      intro d hd
      unfold dsts at hd ⊢
      cases ho : o.dst with
      | none => simpa [ho] using hd
      | some e => simp only [List.filterMap_cons, ho]; exact List.mem_cons_of_mem _ hd
    have hself : ∀ d, o.dst = some d → d ∈ dsts (o :: l) ∧ d ∉ dsts l := by
      intro d hd
      unfold dsts at hn ⊢
      simp only [List.filterMap_cons, hd] at hn ⊢
      exact ⟨List.mem_cons_self, (List.nodup_cons.1 hn).1⟩
    obtain ⟨⟨i1, i2, i3⟩, ih⟩ := walk_at l (a.put o.dst v) (fun o' ho' => hg o' (List.mem_cons_of_mem _ ho')) hn' (fun d hd => by rw [put_size]; exact hb d (hsub d hd)) h2
    have first : a.defers = aF.defers ∧ a.tmps.size = aF.tmps.size ∧ ∀ t, t ∉ dsts (o :: l) → a.tmps[t]? = aF.tmps[t]? := by
      refine ⟨by rw [← i1, put_defers], by rw [← i2, put_size], fun t ht => ?_⟩
      rw [← i3 t (fun hm => ht (hsub t hm)), put_ne]
      intro e
      exact ht (hself t e).1
    refine ⟨first, fun j o' ho' => ?_⟩
    cases j with
    | zero =>
      simp only [List.getElem?_cons_zero, Option.some.injEq] at ho'
      subst ho'
      refine ⟨a, v, first.2.2, h1, fun d hd => ?_⟩
      rw [← i3 d (hself d hd).2, hd]
      exact put_eq a d v (hb d (hself d hd).1)
    | succ j => exact ih j o' (by simpa using ho')

/-- The conditions on such a region, as one Bool: n operations that read or call, then the new blocks K, then the tail. -/
def freshB (ops : Array Oper) (n N size : Nat) (K : List (Nat × Tmp)) : Bool :=
  Region.noSelect ops && decide (n ≤ N) && decide (N < ops.size) &&
  ((List.range N).all fun i => match ops[i]? with
    | none => false
    | some o => o.guard.isNone && (o.after.all fun e => !Region.binds .any e || decide (e.on < i)) && (match o.dst with | none => decide (i < n) | some d => decide (d < size)) &&
      (decide (n ≤ i) || (o.looksAt ops).all fun t => (List.range N).all fun j => match ops[j]? with
        | none => true
        | some o' => (o'.dst != some t) || (decide (j < i) && decide (j < n) && Region.waitsFor .any ops i j)) &&
      ((List.range N).all fun j => (j == i) || (match ops[j]? with | none => true | some o' => (o.dst == none) || (o'.dst != o.dst))) &&
      (decide (i < n) || (K.any fun k => k.1 == i && o.dst == some k.2))) &&
  (K.all fun k => decide (n ≤ k.1) && decide (k.1 < N)) &&
  decide (dsts (ops.toList.take n)).Nodup &&
  (Region.sinkB .any ops N && Region.chainB .any ops N) &&
  Region.seqB .any ops (ops.size - N) N ((Array.range ops.size).map fun i => decide (i < N))

theorem wanted_of {o : Oper} {a : Act} (h : o.guard = none) : Region.wanted o (yielded ops a.tmps) = true := by unfold Region.wanted; rw [h]
theorem getD_of {s : Array Bool} {i : Nat} (hi : i < s.size) (b : Bool) : s.getD i b = s[i] := by simp [hi]

theorem all_heads {N : Nat} {s : Array Bool} (hacy : ∀ (i : Nat) (o : Oper), i < N → ops[i]? = some o → ∀ e ∈ o.after, Region.binds .any e = true → e.on < i) (hN : N ≤ ops.size) (hs : s.size = ops.size) (h0 : Region.ready .any ops s = []) :
    ∀ i, i < N → s.getD i false = true := by
  intro i
  induction i using Nat.strongRecOn with
  | _ i ih =>
    intro hi
    have hil : i < s.size := by omega
    have hio : i < ops.size := by omega
    by_cases hl : s.getD i true = false
    · exfalso
      have hm : i ∈ Region.ready .any ops s := by
        refine mem_ready.2 ⟨hl, ops[i], Array.getElem?_eq_getElem hio, fun e he hb => ?_⟩
        have hlt := hacy i _ hi (Array.getElem?_eq_getElem hio) e he hb
        exact ih e.on hlt (by omega)
      rw [h0] at hm
      cases hm
    · rw [getD_of hil] at hl ⊢
      cases hx : s[i]
      · exact absurd hx hl
      · rfl
end
end Go.Proofs.Ytcfogoepoghedaa
