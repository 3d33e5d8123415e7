/-
  Regions that draw their order, whose operations make new memory alone: what each leaves is a value, or whatever meets a predicate that new memory does not disturb; guarded operations may be passed by; the rest goes on with the slots written out.
-/
import Derived.Test.YtcfogoepoghedaaPhi2
import Derived.BigFrame
import Derived.BigRegion
import Derived.BigCall
namespace Go.Proofs.Ytcfogoepoghedaa
open Go.ChangeShapes Go.WideShapes Go.ChangeAt Go.RowKit Go.Deep
set_option linter.unusedVariables false

/-- What an operation leaves. -/
inductive Leaf where
  | const (c : Value)
  | pred (φ : Value → World → Prop)
def Leaf.ok : Leaf → Value → World → Prop
  | .const c, v, _ => v = c
  | .pred φ, v, w => φ v w
def StabL : List Leaf → Prop
  | [] => True
  | .const _ :: L => StabL L
  | .pred φ :: L => Stab φ ∧ StabL L
def okL (L : List Leaf) (j : Nat) (v : Value) (w : World) : Prop := match L[j]? with | some l => l.ok v w | none => True
theorem okL_stab : ∀ {L : List Leaf}, StabL L → ∀ j, Stab (okL L j)
  | [], _, j, v, w, w', h, t => by simp [okL]
  | .const c :: L, hs, 0, v, w, w', h, t => by simpa [okL, Leaf.ok] using h
  | .pred φ :: L, hs, 0, v, w, w', h, t => by
    have : φ v w' := hs.1 v w w' (by simpa [okL, Leaf.ok] using h) t
    simpa [okL, Leaf.ok] using this
  | .const c :: L, hs, j + 1, v, w, w', h, t => okL_stab (L := L) hs j v w w' h t
  | .pred φ :: L, hs, j + 1, v, w, w', h, t => okL_stab (L := L) hs.2 j v w w' h t
/-- The slots behind the region. -/
def putL (x : Nat → Value) : List Leaf → List Oper → Nat → Act → Act
  | .const c :: L, o :: ops, k, a => putL x L ops (k + 1) (a.put o.dst c)
  | .pred _ :: L, o :: ops, k, a => putL x L ops (k + 1) (a.put o.dst (x k))
  | _, _, _, a => a
/-- What is known of the values that are not written out. -/
def KnowL (x : Nat → Value) (w : World) : List Leaf → Nat → Prop
  | [], _ => True
  | .const _ :: L, k => KnowL x w L (k + 1)
  | .pred φ :: L, k => φ (x k) w ∧ KnowL x w L (k + 1)

def DoesG (P : Program) (ops : Array Oper) (φ : Value → World → Prop) (o : Oper) (a : Act) (w : World) : Prop :=
  (Region.wanted o (yielded ops a.tmps) = true ∧ RunsTo P φ w ((execOp a.eval o).run P w)) ∨ (Region.wanted o (yielded ops a.tmps) = false ∧ φ undef w)

section
variable {P : Program} {ops : Array Oper} {Q : Exit → Act → World → Prop}
theorem DoesG.wpOp {i : Nat} {o : Oper} {a : Act} {w : World} {φ : Value → World → Prop} {K : Act → World → Prop} (hi : ops[i]? = some o) (h : DoesG P ops φ o a w) (hK : ∀ v w', φ v w' → Touch [] w w' → K (a.put o.dst v) w') :
    wpOp P ops Q i K a w := by
  rcases h with h | ⟨h1, h2⟩
  · exact Does.wpOp hi h hK
  · unfold Go.wpOp
    simp only [hi]
    rw [if_neg (by rw [h1]; decide)]
    exact hK _ _ h2 (Touch.refl _ _)

theorem wpAny_phi3 {a0 : Act} {wd : World} {Φ : Nat → Value → World → Prop} (hst : ∀ j, Stab (Φ j)) (hdst : ∀ (i j : Nat) (o o' : Oper) (d : Tmp), ops[i]? = some o → ops[j]? = some o' → o.dst = some d → o'.dst = some d → i = j)
    (hin : ∀ (i : Nat) (o : Oper) (d : Tmp), ops[i]? = some o → o.dst = some d → d < a0.tmps.size) (hacy : ∀ (i : Nat) (o : Oper) (e : Edge), ops[i]? = some o → e ∈ o.after → Region.binds .any e = true → e.on < i)
    (hop : ∀ (i : Nat) (o : Oper), ops[i]? = some o → ∀ a w, Touch [] wd w → Known ops a0 a → (∀ e ∈ o.after, Region.binds .any e = true → Has ops Φ a w e.on) → DoesG P ops (Φ i) o a w)
    (hend : ∀ a w, Touch [] wd w → Known ops a0 a → (∀ j, j < ops.size → Has ops Φ a w j) → Q .normal a w) :
    ∀ (fuel : Nat) (listed : Array Bool) (a : Act) (w : World), listed.size = ops.size → listed.toList.count false ≤ fuel → Touch [] wd w → Known ops a0 a → (∀ j, listed.getD j false = true → Has ops Φ a w j) → wpAny P .any ops Q fuel listed a w := by
  intro fuel
  induction fuel with
  | zero =>
    intro listed a w hs hc ht hk hh
    have hall : ∀ i, i < ops.size → listed.getD i false = true := by
      intro i hi
      have hil : i < listed.size := by omega
      have h0 : listed.toList.count false = 0 := by omega
      rw [List.count_eq_zero] at h0
      simp only [Array.getD_eq_getD_getElem?, Array.getElem?_eq_getElem hil, Option.getD_some]
      cases hx : listed[i]
      · exact absurd (by rw [← hx]; simp) h0
      · rfl
    exact ⟨none_ready hall, hend a w ht hk fun j hj => hh j (hall j hj)⟩
  | succ fuel ih =>
    intro listed a w hs hc ht hk hh
    refine ⟨fun h0 => hend a w ht hk fun j hj => hh j (all_listed hacy hs h0 j hj), fun i hi => ?_⟩
    obtain ⟨hun, o, ho, hall⟩ := mem_ready.1 hi
    have hlt : i < ops.size := (Array.getElem?_eq_some_iff.1 ho).1
    have hil : i < listed.size := by omega
    have hif : listed[i] = false := by simpa [Array.getD_eq_getD_getElem?, Array.getElem?_eq_getElem hil] using hun
    refine DoesG.wpOp ho (hop i o ho a w ht hk fun e he hb => hh e.on (hall e he hb)) fun v w' hφ t => ?_
    refine ih _ _ _ (by simpa using hs) ?_ (ht.trans t (by simp)) ?_ ?_
    · rw [Array.toList_setIfInBounds, List.count_set (by simpa using hil)]
      have : listed.toList[i]'(by simpa using hil) = false := by simpa using hif
      rw [this]
      have hpos : 0 < listed.toList.count false := List.count_pos_iff.2 (by rw [← this]; simp)
      have e1 : (if (false == false) = true then 1 else 0 : Nat) = 1 := rfl
      have e2 : (if (true == false) = true then 1 else 0 : Nat) = 0 := rfl
      rw [e1, e2]
      omega
    · obtain ⟨k1, k2, k3⟩ := hk
      cases hd : o.dst with
      | none => exact ⟨k1, k2, k3⟩
      | some d =>
        refine ⟨k1, by simp [Act.put, k2], fun q hq => ?_⟩
        have hne : d ≠ q := fun e => hq i o ho (by rw [hd, e])
        simp only [Act.put]
        rw [Array.getElem?_setIfInBounds_ne hne]
        exact k3 q hq
    · intro j hj o' d' ho' hd'
      by_cases e : j = i
      · subst e
        obtain rfl : o = o' := by rw [ho] at ho'; simpa using ho'
        refine ⟨v, ?_, hφ⟩
        rw [hd']
        have := hin j o d' ho hd'
        simp [Act.put, hk.2.1, this]
      · have hjl : listed.getD j false = true := by
          simp only [Array.getD_eq_getD_getElem?] at hj ⊢
          rwa [Array.getElem?_setIfInBounds_ne (fun h => e h.symm)] at hj
        obtain ⟨u, hu, hΦ⟩ := hh j hjl o' d' ho' hd'
        refine ⟨u, ?_, hst j u w w' hΦ t⟩
        cases hd : o.dst with
        | none => exact hu
        | some d =>
          have hne : d ≠ d' := fun e2 => e (hdst j i o' o d' ho' ho hd' (by rw [hd, e2]))
          simp only [Act.put]
          rw [Array.getElem?_setIfInBounds_ne hne]
          exact hu

theorem actPut_same {a : Act} {t : Nat} (h : t < a.tmps.size) (v : Value) : (a.put (some t) v).tmps[t]? = some v := by simp [Act.put, h]
theorem actPut_other {a : Act} {o : Oper} {t : Nat} (v : Value) (h : o.dst ≠ some t) : (a.put o.dst v).tmps[t]? = a.tmps[t]? := by
  cases hd : o.dst with
  | none => rfl
  | some d => exact Array.getElem?_setIfInBounds_ne (fun e => h (by rw [hd, e]))
theorem actPut_size (a : Act) (d : Option Tmp) (v : Value) : (a.put d v).tmps.size = a.tmps.size := by cases d <;> simp [Act.put]
theorem actPut_defers (a : Act) (d : Option Tmp) (v : Value) : (a.put d v).defers = a.defers := by cases d <;> rfl

theorem putL_all {a : Act} {w : World} {L0 : List Leaf} (x : Nat → Value) (hx : ∀ (j : Nat) (o : Oper) (d : Tmp), ops[j]? = some o → o.dst = some d → x j = a.tmps.getD d undef) (hh : ∀ j, j < ops.size → Has ops (okL L0) a w j) :
    ∀ (L : List Leaf) (l : List Oper) (k : Nat) (b : Act), (∀ j, L[j]? = L0[k + j]?) → (∀ j, l[j]? = ops[k + j]?) → L.length = l.length → b.defers = a.defers → b.tmps.size = a.tmps.size →
      (∀ t : Nat, (∀ (j : Nat) (o : Oper), k ≤ j → ops[j]? = some o → o.dst ≠ some t) → b.tmps[t]? = a.tmps[t]?) → putL x L l k b = a
  | [], [], k, b, hL, hl, _, hd, hs, ht => by
    have : b.tmps = a.tmps := Array.ext_getElem? fun t => ht t fun j o hkj ho => by
      have := hl (j - k)
      rw [show k + (j - k) = j by omega, ho] at this
      simp at this
    obtain ⟨bt, bd⟩ := b
    obtain ⟨at', ad⟩ := a
    simp only at this hd
    subst this hd
    rfl
  | lf :: L, o :: l, k, b, hL, hl, hlen, hd, hs, ht => by
    have ho : ops[k]? = some o := by simpa using (hl 0).symm
    have hlf : L0[k]? = some lf := by simpa using (hL 0).symm
    have hks : k < ops.size := (Array.getElem?_eq_some_iff.1 ho).1
    have step : ∀ v, (∀ d, o.dst = some d → a.tmps[d]? = some v) → putL x L l (k + 1) (b.put o.dst v) = a := fun v hv => by
      refine putL_all x hx hh L l (k + 1) _ (fun j => ?_) (fun j => ?_) (by simpa using hlen) (by rw [actPut_defers, hd]) (by rw [actPut_size, hs]) fun t hn => ?_
      · have := hL (j + 1)
        rw [show k + 1 + j = k + (j + 1) by omega, ← this]
        rfl
      · have := hl (j + 1)
        rw [show k + 1 + j = k + (j + 1) by omega, ← this]
        rfl
      · by_cases e : o.dst = some t
        · have h1 := hv t e
          rw [h1, e]
          have : t < a.tmps.size := (Array.getElem?_eq_some_iff.1 h1).1
          exact actPut_same (by omega) v
        · rw [actPut_other v e]
          refine ht t fun j o' hkj ho' => ?_
          by_cases ej : j = k
          · subst ej
            rw [ho] at ho'
            obtain rfl := Option.some.inj ho'
            exact e
          · exact hn j o' (by omega) ho'
    cases lf with
    | const c =>
      refine step c fun d hd' => ?_
      obtain ⟨v, h1, h2⟩ := hh k hks o d ho hd'
      unfold okL at h2
      rw [hlf] at h2
      rw [h1]
      exact congrArg some h2
    | pred φ =>
      refine step (x k) fun d hd' => ?_
      obtain ⟨v, h1, h2⟩ := hh k hks o d ho hd'
      rw [hx k o d ho hd', h1]
      simp [Array.getD_eq_getD_getElem?, h1]
  | [], _ :: _, _, _, _, _, hlen, _, _, _ => by simp at hlen
  | _ :: _, [], _, _, _, _, hlen, _, _, _ => by simp at hlen

/-- Every predicate stands at an operation that has a slot. -/
def slotsB : List Leaf → List Oper → Bool
  | .pred _ :: L, o :: ops => o.dst.isSome && slotsB L ops
  | .const _ :: L, _ :: ops => slotsB L ops
  | [], [] => true
  | _, _ => false
theorem slotsB_length : ∀ {L : List Leaf} {l : List Oper}, slotsB L l = true → L.length = l.length
  | [], [], _ => rfl
  | .pred _ :: L, o :: l, h => by simp only [slotsB, Bool.and_eq_true] at h; simp [slotsB_length h.2]
  | .const _ :: L, o :: l, h => by simp only [slotsB] at h; simp [slotsB_length h]
  | [], _ :: _, h => by simp [slotsB] at h
  | .pred _ :: _, [], h => by simp [slotsB] at h
  | .const _ :: _, [], h => by simp [slotsB] at h
theorem knowL_of {a : Act} {w : World} {L0 : List Leaf} (x : Nat → Value) (hx : ∀ (j : Nat) (o : Oper) (d : Tmp), ops[j]? = some o → o.dst = some d → x j = a.tmps.getD d undef) (hh : ∀ j, j < ops.size → Has ops (okL L0) a w j) :
    ∀ (L : List Leaf) (l : List Oper) (k : Nat), (∀ j, L[j]? = L0[k + j]?) → (∀ j, l[j]? = ops[k + j]?) → slotsB L l = true → KnowL x w L k
  | [], [], k, _, _, _ => trivial
  | .const c :: L, o :: l, k, hL, hl, hb => by
    refine knowL_of x hx hh L l (k + 1) (fun j => ?_) (fun j => ?_) hb
    · have := hL (j + 1)
      rw [show k + 1 + j = k + (j + 1) by omega, ← this]
      rfl
    · have := hl (j + 1)
      rw [show k + 1 + j = k + (j + 1) by omega, ← this]
      rfl
  | .pred φ :: L, o :: l, k, hL, hl, hb => by
    simp only [slotsB, Bool.and_eq_true] at hb
    have ho : ops[k]? = some o := by simpa using (hl 0).symm
    have hlf : L0[k]? = some (.pred φ) := by simpa using (hL 0).symm
    have hks : k < ops.size := (Array.getElem?_eq_some_iff.1 ho).1
    obtain ⟨d, hd⟩ := Option.isSome_iff_exists.1 hb.1
    obtain ⟨v, h1, h2⟩ := hh k hks o d ho hd
    refine ⟨?_, knowL_of x hx hh L l (k + 1) (fun j => ?_) (fun j => ?_) hb.2⟩
    · rw [hx k o d ho hd]
      simp only [Array.getD_eq_getD_getElem?, h1, Option.getD_some]
      unfold okL at h2
      rw [hlf] at h2
      exact h2
    · have := hL (j + 1)
      rw [show k + 1 + j = k + (j + 1) by omega, ← this]
      rfl
    · have := hl (j + 1)
      rw [show k + 1 + j = k + (j + 1) by omega, ← this]
      rfl
  | [], _ :: _, _, _, _, h => by simp [slotsB] at h
  | .pred _ :: _, [], _, _, _, h => by simp [slotsB] at h
  | .const _ :: _, [], _, _, _, h => by simp [slotsB] at h

/-- The same with the state behind it written out. -/
theorem wp_region_leaves {id : Nat} {a0 : Act} {w wd : World} {l : List Oper} (L : List Leaf) (hm : P.follows .mixedOrders = true) (hB : phiB l.toArray a0.tmps.size = true) (hL : slotsB L l = true) (hw : Touch [] wd w.drew) (hst : StabL L)
    (hop : ∀ (i : Nat) (o : Oper), l[i]? = some o → ∀ a w, Touch [] wd w → Known l.toArray a0 a → (∀ e ∈ o.after, Region.binds .any e = true → Has l.toArray (okL L) a w e.on) → DoesG P l.toArray (okL L i) o a w)
    (hend : ∀ (x : Nat → Value) (w : World), Touch [] wd w → KnowL x w L 0 → Q .normal (putL x L l 0 a0) w) : (Code.region id l.toArray true).wp P Q a0 w := by
  obtain ⟨h1, h2, h3⟩ := phiB_spec hB
  refine wp_region_any hm (wpAny_phi3 (okL_stab hst) h1 h2 h3 (fun i o ho => hop i o (by simpa using ho)) (fun a w ht hk hh => ?_) l.toArray.size (Array.replicate l.toArray.size false) a0 _ (by simp) (by simp) hw ⟨rfl, rfl, fun _ _ => rfl⟩ (fun j hj => ?_))
  · have hx : ∀ (j : Nat) (o : Oper) (d : Tmp), l.toArray[j]? = some o → o.dst = some d → (fun j => a.tmps.getD (((l[j]?).bind (·.dst)).getD 0) undef) j = a.tmps.getD d undef := fun j o d ho hd => by
      have ho' : l[j]? = some o := by simpa using ho
      simp [ho', hd]
    have e := putL_all (a := a) (w := w) (L0 := L) (fun j => a.tmps.getD (((l[j]?).bind (·.dst)).getD 0) undef) hx hh L l 0 a0 (fun j => by rw [Nat.zero_add]) (fun j => by rw [Nat.zero_add]; simp) (slotsB_length hL) hk.1.symm hk.2.1.symm
      (fun t hn => (hk.2.2 t fun j o ho => hn j o (Nat.zero_le _) ho).symm)
    have k := knowL_of (a := a) (w := w) (L0 := L) _ hx hh L l 0 (fun j => by rw [Nat.zero_add]) (fun j => by rw [Nat.zero_add]; simp) hL
    have := hend _ w ht k
    rwa [e] at this
  · simp only [Array.getD_eq_getD_getElem?] at hj
    rcases Nat.lt_or_ge j l.toArray.size with hlt | hge
    · simp [show j < l.length by simpa using hlt] at hj
    · simp only [List.size_toArray] at hj hge
      rw [Array.getElem?_eq_none (by simpa using hge)] at hj
      simp at hj
end

section
variable {P : Program} {ops : Array Oper} {a a0 : Act} {w : World} {φ : Value → World → Prop} {o : Oper} {L : List Leaf}
theorem has_const {j : Nat} (h : Has ops (okL L) a w j) {o : Oper} {d : Tmp} {c : Value} (ho : ops[j]? = some o) (hd : o.dst = some d) (hl : L[j]? = some (.const c)) : a.eval (.tmp d) = c := by
  obtain ⟨v, h1, h2⟩ := h o d ho hd
  unfold okL at h2
  rw [hl] at h2
  simp only [Act.eval, Array.getD_eq_getD_getElem?, h1, Option.getD_some]
  exact h2
theorem has_pred {j : Nat} {φ : Value → World → Prop} (h : Has ops (okL L) a w j) {o : Oper} {d : Tmp} (ho : ops[j]? = some o) (hd : o.dst = some d) (hl : L[j]? = some (.pred φ)) : ∃ v, a.eval (.tmp d) = v ∧ φ v w := by
  obtain ⟨v, h1, h2⟩ := h o d ho hd
  unfold okL at h2
  rw [hl] at h2
  exact ⟨v, by simp [Act.eval, Array.getD_eq_getD_getElem?, h1], h2⟩
theorem has_dep {Φ : Nat → Value → World → Prop} (hd : ∀ e ∈ o.after, Region.binds .any e = true → Has ops Φ a w e.on) (j : Nat) (hb : (o.after.any fun e => (e.on == j) && Region.binds .any e) = true) : Has ops Φ a w j := by
  rw [Array.any_eq_true'] at hb
  obtain ⟨e, he, h⟩ := hb
  simp only [Bool.and_eq_true, beq_iff_eq] at h
  have := hd e he h.2
  rwa [h.1] at this
theorem wanted_not {g : Nat} {b : Bool} {og : Oper} {d : Tmp} (h : o.guard = some (g, b)) (hg : ops[g]? = some og) (hd : og.dst = some d) (hv : a.eval (.tmp d) = .bool (!b)) : Region.wanted o (yielded ops a.tmps) = false := by
  unfold Region.wanted
  rw [h]
  simp only [yielded, hg, Option.bind_some, hd]
  simp only [Act.eval, Array.getD_eq_getD_getElem?] at hv
  cases hx : a.tmps[d]? with
  | none => rw [hx] at hv; simp [undef] at hv
  | some u =>
    rw [hx] at hv
    simp at hv
    subst hv
    cases b <;> simp
theorem wanted_undef {g : Nat} {b : Bool} {og : Oper} {d : Tmp} (h : o.guard = some (g, b)) (hg : ops[g]? = some og) (hd : og.dst = some d) (hv : a.eval (.tmp d) = undef) : Region.wanted o (yielded ops a.tmps) = false := by
  unfold Region.wanted
  rw [h]
  simp only [yielded, hg, Option.bind_some, hd]
  simp only [Act.eval, Array.getD_eq_getD_getElem?] at hv
  cases hx : a.tmps[d]? with
  | none => simp
  | some u =>
    rw [hx] at hv
    simp at hv
    subst hv
    simp [undef]
theorem do_value (hw : Region.wanted o (yielded ops a.tmps) = true) {v : Value} (hrun : (execOp a.eval o).run P w = .ok (.value v) w) (h : φ v w) : DoesG P ops φ o a w := .inl ⟨hw, by rw [hrun]; exact ⟨h, Touch.refl _ _⟩⟩
theorem do_enter (hw : Region.wanted o (yielded ops a.tmps) = true) {f : FuncId} {args : Array Value} (hrun : (execOp a.eval o).run P w = .ok (.enter f args) w)
    (h : Calls P f args w fun e w'' => ∃ v, e = .returned v ∧ φ v w'' ∧ Touch [] w w'') : DoesG P ops φ o a w := .inl ⟨hw, by rw [hrun]; exact ⟨Touch.refl _ _, h⟩⟩
theorem do_skip (hw : Region.wanted o (yielded ops a.tmps) = false) (h : φ undef w) : DoesG P ops φ o a w := .inr ⟨hw, h⟩
theorem run_value {ρ : Operand → Value} {s : Sem Value} {v : Value} (h : execOp ρ o = (do pure (.value (← s)))) (hs : s.run P w = .ok v w) : (execOp ρ o).run P w = .ok (.value v) w := by
  rw [h]
  simp [hs]
theorem run_go3 (f : FuncId) (xs : Array Operand) (ats : Array TypeId) (h : o.op = .call { callee := .value (.func f), args := xs, argTypes := ats }) : (execOp a.eval o).run P w = (callFunc f (#[] ++ xs.map a.eval ++ #[])).run P w := by
  obtain ⟨dst, op, ty, pos, after, guard⟩ := o
  simp only at h
  subst h
  rfl
theorem run_pickT {ρ : Operand → Value} {c x y : Operand} (h : o.op = .pick c x y) (hc : ρ c = .bool true) : (execOp ρ o).run P w = .ok (.value (ρ x)) w := by
  obtain ⟨dst, op, ty, pos, after, guard⟩ := o
  simp only at h
  subst h
  simp [execOp, hc, asBool]
theorem run_pickF {ρ : Operand → Value} {c x y : Operand} (h : o.op = .pick c x y) (hc : ρ c = .bool false) : (execOp ρ o).run P w = .ok (.value (ρ y)) w := by
  obtain ⟨dst, op, ty, pos, after, guard⟩ := o
  simp only at h
  subst h
  simp [execOp, hc, asBool]
theorem run_len3 {ρ : Operand → Value} {x : Operand} {t e : TypeId} {A : Option Addr} {n c : Nat} (h : o.op = .call { callee := .builtin .len, args := #[x], argTypes := #[t] }) (ht : P.underlying t = some (.slice e)) (hx : ρ x = .slice A n c) :
    (execOp ρ o).run P w = .ok (.value (.int .i64 (n : Int))) w := by
  obtain ⟨dst, op, ty, pos, after, guard⟩ := o
  simp only at h
  subst h
  have e : execOp ρ { dst, op := .call { callee := .builtin .len, args := #[x], argTypes := #[t] }, type := ty, pos, after, guard } = (do pure (.value (← Builtin.len_ #[t] ty #[ρ x]))) := by rw [BigFrame.execOp_builtin, BigFrame.builtin_len]; simp
  rw [e, hx]
  simp [Builtin.len_, ht, underlying, goInt]
theorem eval_c (a : Act) (v : Value) : a.eval (.const v) = v := rfl
end
/-- A contract with one value. -/
theorem Calls.leaf {P : Program} {f : FuncId} {args : Array Value} {w : World} {v : Value} (h : Calls P f args w fun e w' => e = .returned v ∧ Touch [] w w') : Calls P f args w fun e w'' => ∃ u, e = .returned u ∧ u = v ∧ Touch [] w w'' :=
  h.mono fun e w' ⟨h1, h2⟩ => ⟨_, h1, rfl, h2⟩
theorem Calls.leafSame {P : Program} {f : FuncId} {args : Array Value} {w : World} {v : Value} (h : Calls P f args w fun e w' => e = .returned v ∧ w' = w) : Calls P f args w fun e w'' => ∃ u, e = .returned u ∧ u = v ∧ Touch [] w w'' :=
  h.mono fun e w' ⟨h1, h2⟩ => ⟨_, h1, rfl, by rw [h2]; exact Touch.refl _ _⟩
end Go.Proofs.Ytcfogoepoghedaa
