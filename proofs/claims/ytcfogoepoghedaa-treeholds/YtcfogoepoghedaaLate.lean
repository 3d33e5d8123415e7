/-
  Regions that draw their order in which a part of a result may be taken behind the store of another part ('h, e := f(..)'): it may be taken ahead of it.
-/
import Derived.Test.YtcfogoepoghedaaFresh2
namespace Go.Proofs.Ytcfogoepoghedaa
open Go.ChangeShapes Go.WideShapes Go.ChangeAt Go.RowKit Go.Deep
set_option linter.unusedVariables false

/-- The same operation, waiting for f besides. -/
def waitsToo (f : Nat) (o : Oper) : Oper := { o with after := o.after.push { on := f, ground := .data } }
def late (l : List Oper) (f t : Nat) : List Oper := l.modify t (waitsToo f)

section
variable {P : Program} {l : List Oper} {Q : Exit → Act → World → Prop} {f t : Nat}
theorem late_get (j : Nat) : (late l f t).toArray[j]? = if t = j then (l.toArray[j]?).map (waitsToo f) else l.toArray[j]? := by
  simp only [late, List.getElem?_toArray, List.getElem?_modify]
  by_cases h : t = j
  · simp [h]
  · simp [h]
theorem late_dst (j : Nat) : ((late l f t).toArray[j]?).bind (·.dst) = (l.toArray[j]?).bind (·.dst) := by
  rw [late_get]
  by_cases h : t = j
  · rw [if_pos h]; cases l.toArray[j]? <;> rfl
  · rw [if_neg h]
theorem late_yielded (tmps : Array Value) : yielded (late l f t).toArray tmps = yielded l.toArray tmps := by
  funext j
  unfold yielded
  rw [late_dst]
theorem late_wpOp {i : Nat} {K : Act → World → Prop} {a : Act} {w : World} : wpOp P (late l f t).toArray Q i K a w = wpOp P l.toArray Q i K a w := by
  unfold wpOp
  rw [late_get, late_yielded]
  by_cases h : t = i
  · rw [if_pos h]; cases l.toArray[i]? <;> rfl
  · rw [if_neg h]
theorem late_ready {i : Nat} {s : Array Bool} : i ∈ Region.ready .any (late l f t).toArray s ↔ i ∈ Region.ready .any l.toArray s ∧ (i = t → s.getD f false = true) := by
  rw [mem_ready, mem_ready, late_get]
  by_cases h : t = i
  · subst h
    rw [if_pos rfl]
    constructor
    · rintro ⟨h0, o', ho', hall⟩
      cases ho : l.toArray[t]? with
      | none => rw [ho] at ho'; cases ho'
      | some o =>
        rw [ho] at ho'
        cases ho'
        refine ⟨⟨h0, o, rfl, fun e he hb => hall e (by simp [waitsToo, he]) hb⟩, fun _ => hall { on := f, ground := .data } (by simp [waitsToo]) rfl⟩
    · rintro ⟨⟨h0, o, ho, hall⟩, hf⟩
      refine ⟨h0, waitsToo f o, by rw [ho]; rfl, fun e he hb => ?_⟩
      simp only [waitsToo, Array.mem_push] at he
      rcases he with he | rfl
      · exact hall e he hb
      · exact hf rfl
  · rw [if_neg h]
    exact ⟨fun x => ⟨x, fun e => absurd e.symm h⟩, fun x => x.1⟩
theorem late_quiet {C : World → Prop} {L : Act → Prop} : ∀ (m : List Oper) (a : Act), wpQuiet P (late l f t).toArray C L m a = wpQuiet P l.toArray C L m a
  | [], _ => rfl
  | o :: m, a => by
    have ih : wpQuiet P (late l f t).toArray C L m = wpQuiet P l.toArray C L m := funext (late_quiet m)
    simp only [wpQuiet]
    rw [late_yielded, ih]
theorem late_list : ∀ (m : List Oper), wpList P (late l f t).toArray Q m = wpList P l.toArray Q m
  | [] => rfl
  | o :: m => by
    funext a w
    simp only [wpList]
    rw [late_yielded, late_list m]
theorem list_late {ops : Array Oper} : ∀ (m : List Oper) (k : Nat), wpList P ops Q (m.modify k (waitsToo f)) = wpList P ops Q m
  | [], k => by cases k <;> rfl
  | o :: m, 0 => by
    funext a w
    rfl
  | o :: m, k + 1 => by
    funext a w
    simp only [List.modify_succ_cons, wpList]
    rw [list_late m k]

/-- An operation that takes a part of a tuple: it yields, or nothing is to be shown of what follows. -/
theorem extract_exec {o : Oper} {x : Operand} {j : Nat} (ho : o.op = .extract x j) (a : Act) : (∃ v, execOp a.eval o = .pure (.value v)) ∨ ∃ why, execOp a.eval o = .halt (.stuck why) := by
  have e : execOp a.eval o = (do pure (Next.value (← Instr.extract (a.eval x) j)) : Sem Next) := by unfold execOp; rw [ho]
  rw [e]
  unfold Instr.extract
  cases a.eval x with
  | tuple vs =>
    cases hv : vs[j]? with
    | some v => exact .inl ⟨v, by simp only [hv]; rfl⟩
    | none => exact .inr ⟨"Extract: no such component", by simp only [hv]; rfl⟩
  | _ => exact .inr ⟨"Extract: tuple expected", rfl⟩
theorem extract_pure {ops : Array Oper} {o : Oper} {x : Operand} {j i : Nat} (hi : ops[i]? = some o) (ho : o.op = .extract x j) (hg : o.guard = none) {K : Act → World → Prop} {a : Act} {w : World} (h : wpOp P ops Q i K a w) :
    ∃ v, Yields P ops o v a ∧ K (a.put o.dst v) w := by
  have hw : Region.wanted o (yielded ops a.tmps) = true := wanted_of hg
  unfold wpOp at h
  simp only [hi] at h
  rw [if_pos hw] at h
  rcases extract_exec ho a with ⟨v, hv⟩ | ⟨why, hv⟩
  · refine ⟨v, .inl ⟨hw, fun w => by rw [hv]; rfl⟩, ?_⟩
    rcases h with h | ⟨⟨h, _⟩, _⟩
    · unfold Oper.wp at h
      rw [hv] at h
      exact h
    · rw [hv] at h
      exact absurd h (by simp [Sem.runT])
  · rcases h with h | ⟨⟨h, _⟩, _⟩
    · unfold Oper.wp at h
      rw [hv] at h
      exact h.elim
    · rw [hv] at h
      exact absurd h (by simp [Sem.runT])

/-- f takes a part of a tuple; all that it waits for t waits for too; every other operation waits for it, is waited for by it, or is apart from it. -/
def lateB (l : List Oper) (f t : Nat) : Bool :=
  Region.noSelect l.toArray && (match l.toArray[f]?, l.toArray[t]? with
    | some of, some ot => (match of.op with | .extract _ _ => true | _ => false) && of.guard.isNone && of.dst.isSome && (f != t) && (of.after.all fun e => !Region.binds .any e || ot.after.any fun e' => Region.binds .any e' && e'.on == e.on) &&
      ((List.range l.length).all fun j => (j == f) || Region.waitsFor .any l.toArray j f || Region.waitsFor .any l.toArray f j || (match l.toArray[j]? with | some oj => of.apart l.toArray oj | none => true))
    | _, _ => false)
theorem wpAny_late (hB : lateB l f t = true) (hQ : ∀ d v c a w, Q (.panic c) (Act.put a (some d) v) w → Q (.panic c) a w) :
    ∀ (fuel : Nat) (s : Array Bool) (a : Act) (w : World), s.size = l.toArray.size → wpAny P .any (late l f t).toArray Q fuel s a w → wpAny P .any l.toArray Q fuel s a w := by
  unfold lateB at hB
  rw [Bool.and_eq_true] at hB
  obtain ⟨hsel, hB⟩ := hB
  cases hf : l.toArray[f]? with
  | none => rw [hf] at hB; simp at hB
  | some of =>
  cases ht : l.toArray[t]? with
  | none => rw [hf, ht] at hB; simp at hB
  | some ot =>
  rw [hf, ht] at hB
  simp only [Bool.and_eq_true] at hB
  obtain ⟨⟨⟨⟨⟨hx, hg⟩, hds⟩, hne⟩, hdep⟩, hap⟩ := hB
  obtain ⟨dd, hdd⟩ := Option.isSome_iff_exists.1 hds
  obtain ⟨x, k, ho⟩ : ∃ x k, of.op = .extract x k := by
    revert hx
    cases of.op <;> simp
  have hg' : of.guard = none := by simpa using hg
  have hne' : f ≠ t := by simpa using hne
  -- where t is ready, and f has not come up, f is ready
  have rdy : ∀ s, t ∈ Region.ready .any l.toArray s → s.getD f false = false → s.getD f true = false → f ∈ Region.ready .any l.toArray s := by
    intro s hts h0 h1
    obtain ⟨_, o, ho', hall⟩ := mem_ready.1 hts
    obtain rfl : ot = o := by rw [ht] at ho'; simpa using ho'
    refine mem_ready.2 ⟨h1, of, hf, fun e he hb => ?_⟩
    have := Array.all_eq_true_iff_forall_mem.1 hdep e he
    rw [hb] at this
    simp only [Bool.not_true, Bool.false_or] at this
    obtain ⟨e', he', hb'⟩ := Array.any_eq_true'.1 this
    simp only [Bool.and_eq_true, beq_iff_eq] at hb'
    rw [← hb'.2]
    exact hall e' he' hb'.1
  have free : ∀ s, f ∈ Region.ready .any l.toArray s → ∀ j oj, l.toArray[j]? = some oj → j ≠ f → s.getD j true = false → (∀ e ∈ oj.after, Region.binds .any e = true → e.on ≠ f) → of.apart l.toArray oj = true := by
    intro s hfs j oj hoj hjf hun hno
    obtain ⟨_, o, ho', hall⟩ := mem_ready.1 hfs
    obtain rfl : of = o := by rw [hf] at ho'; simpa using ho'
    have hlt : j < l.length := by simpa using (Array.getElem?_eq_some_iff.1 hoj).1
    have := List.all_eq_true.1 hap j (List.mem_range.2 hlt)
    simp only [Bool.or_eq_true, beq_iff_eq, hjf, false_or, hoj] at this
    rcases this with (h | h) | h
    · obtain ⟨o2, ho2, e, he, hb, heq⟩ := Region.waitsFor_spec h
      obtain rfl : oj = o2 := by rw [hoj] at ho2; simpa using ho2
      exact absurd heq (hno e he hb)
    · obtain ⟨o2, ho2, e, he, hb, heq⟩ := Region.waitsFor_spec h
      obtain rfl : of = o2 := by rw [hf] at ho2; simpa using ho2
      have h2 := hall e he hb
      rw [heq] at h2
      exfalso
      rcases Nat.lt_or_ge j s.size with h' | h'
      · simp [h'] at hun h2; rw [hun] at h2; cases h2
      · simp [Array.getElem?_eq_none h'] at h2
    · exact h
  have hfl : f < l.toArray.size := (Array.getElem?_eq_some_iff.1 hf).1
  have cases2 : ∀ s : Array Bool, s.size = l.toArray.size → f ∈ Region.ready .any l.toArray s ∨ ∀ i, i ∈ Region.ready .any l.toArray s → i ∈ Region.ready .any (late l f t).toArray s := by
    intro s hs
    by_cases h : f ∈ Region.ready .any l.toArray s
    · exact .inl h
    · refine .inr fun i hi => late_ready.2 ⟨hi, fun e => ?_⟩
      subst e
      have h' : f < s.size := by omega
      cases hd : s.getD f false with
      | true => rfl
      | false =>
        exfalso
        apply h
        exact rdy s hi hd (by simp [h'] at hd ⊢; exact hd)
  intro fuel
  induction fuel with
  | zero =>
    intro s a w hs h
    refine ⟨List.eq_nil_iff_forall_not_mem.2 fun i hi => ?_, h.2⟩
    rcases cases2 s hs with hr | hr
    · have : f ∈ Region.ready .any (late l f t).toArray s := late_ready.2 ⟨hr, fun e => absurd e hne'⟩
      rw [h.1] at this
      cases this
    · have := hr i hi
      rw [h.1] at this
      cases this
  | succ fuel ih =>
    intro s a w hs h
    rcases cases2 s hs with hr | hr
    · have h1 := h.2 f (late_ready.2 ⟨hr, fun e => absurd e hne'⟩)
      rw [late_wpOp] at h1
      obtain ⟨v, hy, hK⟩ := extract_pure hf ho hg' h1
      exact wpAny_first hf (Region.noSelect_spec hsel) (fun c a w => by rw [hdd]; exact hQ dd _ c a w) fuel s a w (free s hr) hr hy (ih _ _ _ (by simpa using hs) hK)
    · refine ⟨fun h0 => h.1 (List.eq_nil_iff_forall_not_mem.2 fun i hi => ?_), fun i hi => ?_⟩
      · have := (late_ready.1 hi).1
        rw [h0] at this
        cases this
      · have h1 := h.2 i (hr i hi)
        rw [late_wpOp] at h1
        exact wpOp_mono (fun a' w' h' => ih _ a' w' (by simpa using hs) h') h1

/-- One new block, and a part of the result that may be taken behind the store of the other. -/
theorem wp_region_late1 {id : Nat} {w wd : World} {a0 : Act} (f t n : Nat) (d : Tmp) (T : TypeId) (z : Array Value) (aF : Act) (hm : P.follows .mixedOrders = true) (hL : lateB l f t = true) (hB : freshB (late l f t).toArray n (n + 1) a0.tmps.size [(n, d)] = true) (hnt : n < t) (hw : Touch [] wd w.drew)
    (hQ : ∀ d v c a w, Q (.panic c) (Act.put a (some d) v) w → Q (.panic c) a w)
    (hK : ∃ o, l.toArray[n]? = some o ∧ o.dst = some d ∧ ∀ (a : Act) (w : World), (execOp a.eval o).run P w = .ok (.value (ptrV w.heap.size)) (w.alloc (.cells z T)))
    (hwalk : ∀ wd', Touch [] wd wd' → wpQuiet P l.toArray (fun w' => ∃ x : Cls wd', w' = x.val) (fun a' => a' = aF) (l.take n) a0)
    (hend : ∀ (b : Nat) (w : World), Touch [] wd w → BoxV w b T z → wd.heap.size ≤ b → wpList P l.toArray Q (l.drop (n + 1)) (aF.put (some d) (.pointer (some ⟨b, 0, none⟩))) w) : (Code.region id l.toArray true).wp P Q a0 w := by
  have hlen : (late l f t).toArray.size = l.toArray.size := by simp [late]
  have ht : (late l f t).take n = l.take n := by
    apply List.ext_getElem?
    intro j
    by_cases hj : j < n
    · rw [List.getElem?_take_of_lt hj, List.getElem?_take_of_lt hj]
      have hne : ¬ t = j := by omega
      simp [late, hne]
    · rw [List.getElem?_eq_none (by simp; omega), List.getElem?_eq_none (by simp; omega)]
  have hd : (late l f t).drop (n + 1) = (l.drop (n + 1)).modify (t - (n + 1)) (waitsToo f) := by
    apply List.ext_getElem?
    intro j
    simp only [late, List.getElem?_drop, List.getElem?_modify]
    have e : (t = n + 1 + j) = (t - (n + 1) = j) := by apply propext; omega
    simp only [e]
  have K1 : ∃ o, (late l f t).toArray[n]? = some o ∧ o.dst = some d ∧ ∀ (a : Act) (w : World), (execOp a.eval o).run P w = .ok (.value (ptrV w.heap.size)) (w.alloc (.cells z T)) := by
    rw [late_get, if_neg (by omega)]
    exact hK
  refine wp_region_any hm ?_
  have := fresh_start (P := P) (Q := Q) (l := late l f t) (w := w) (wd := wd) (a0 := a0) n [⟨n, d, T, z⟩] aF hB hw (fun k hk => by
      rw [List.mem_singleton] at hk
      subst hk
      exact K1) (fun wd' t' => by rw [late_quiet, ht]; exact hwalk wd' t') (fun bs w' t' hb _ => by
      obtain ⟨h1, h2⟩ := hb _ (List.mem_singleton.2 rfl)
      rw [late_list]
      show wpList P l.toArray Q ((late l f t).drop (n + 1)) _ w'
      rw [hd, list_late]
      exact hend _ w' t' h1 h2)
  rw [hlen] at this
  exact wpAny_late hL hQ _ _ _ _ (by simp) this
end
end Go.Proofs.Ytcfogoepoghedaa
