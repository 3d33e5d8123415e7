/-
  Regions that draw their order, whose operations hold together by what is in the slots and in memory (fresh blocks of several calls, apart).
-/
import Derived.Test.YtcfogoepoghedaaPhi8
namespace Go.Proofs.Ytcfogoepoghedaa
open Go.ChangeShapes Go.WideShapes Go.ChangeAt Go.RowKit Go.Deep
set_option linter.unusedVariables false

section
variable {P : Program} {ops : Array Oper} {Q : Exit → Act → World → Prop}
theorem wpAny_phi9 {a0 : Act} {wd : World} {S : List Nat} {J : (Nat → Bool) → Act → World → Prop} {Φ : Nat → Value → World → Prop} (hst : ∀ j, StabS S (Φ j)) (hdst : ∀ (i j : Nat) (o o' : Oper) (d : Tmp), ops[i]? = some o → ops[j]? = some o' → o.dst = some d → o'.dst = some d → i = j)
    (hin : ∀ (i : Nat) (o : Oper) (d : Tmp), ops[i]? = some o → o.dst = some d → d < a0.tmps.size) (hacy : ∀ (i : Nat) (o : Oper) (e : Edge), ops[i]? = some o → e ∈ o.after → Region.binds .any e = true → e.on < i)
    (hop : ∀ (i : Nat) (o : Oper), ops[i]? = some o → ∀ f a w, f i = false → Touch S wd w → J f a w → Known ops a0 a → (∀ e ∈ o.after, Region.binds .any e = true → f e.on = true) → (∀ e ∈ o.after, Region.binds .any e = true → Has ops Φ a w e.on) → DoesJ P ops S (fun v w' => Φ i v w' ∧ J (mark f i) (a.put o.dst v) w') (fun _ => True) o a w)
    (hend : ∀ a w f, Touch S wd w → J f a w → (∀ j, j < ops.size → f j = true) → Known ops a0 a → (∀ j, j < ops.size → Has ops Φ a w j) → Q .normal a w) :
    ∀ (fuel : Nat) (listed : Array Bool) (a : Act) (w : World), listed.size = ops.size → listed.toList.count false ≤ fuel → Touch S wd w → J (listedF listed) a w → Known ops a0 a → (∀ j, listed.getD j false = true → Has ops Φ a w j) → wpAny P .any ops Q fuel listed a w := by
  intro fuel
  induction fuel with
  | zero =>
    intro listed a w hs hc ht hj hk hh
    have hall : ∀ i, i < ops.size → listed.getD i false = true := by
      intro i hi
      have hil : i < listed.size := by omega
      have h0 : listed.toList.count false = 0 := by omega
      rw [List.count_eq_zero] at h0
      simp only [Array.getD_eq_getD_getElem?, Array.getElem?_eq_getElem hil, Option.getD_some]
      cases hx : listed[i]
      · exact absurd (by rw [← hx]; simp) h0
      · rfl
    exact ⟨none_ready hall, hend a w _ ht hj (fun j hj' => hall j hj') hk fun j hj' => hh j (hall j hj')⟩
  | succ fuel ih =>
    intro listed a w hs hc ht hj hk hh
    refine ⟨fun h0 => hend a w _ ht hj (fun j hj' => all_listed hacy hs h0 j hj') hk fun j hj' => hh j (all_listed hacy hs h0 j hj'), fun i hi => ?_⟩
    obtain ⟨hun, o, ho, hall⟩ := mem_ready.1 hi
    have hlt : i < ops.size := (Array.getElem?_eq_some_iff.1 ho).1
    have hil : i < listed.size := by omega
    have hif : listed[i] = false := by simpa [Array.getD_eq_getD_getElem?, Array.getElem?_eq_getElem hil] using hun
    have hnl : listedF listed i = false := by simp only [listedF, Array.getD_eq_getD_getElem?, Array.getElem?_eq_getElem hil, Option.getD_some]; exact hif
    have hmk : mark (listedF listed) i = listedF (listed.setIfInBounds i true) := by
      funext j
      unfold mark listedF
      by_cases e : j = i
      · subst e
        simp [Array.getD_eq_getD_getElem?, hil]
      · rw [if_neg e]
        simp only [Array.getD_eq_getD_getElem?]
        rw [Array.getElem?_setIfInBounds_ne (fun h => e h.symm)]
    refine DoesJ.wpOp ho (hop i o ho (listedF listed) a w hnl ht hj hk (fun e he hb => hall e he hb) fun e he hb => hh e.on (hall e he hb)) fun v w' hφψ _ t => ?_
    obtain ⟨hφ, hψ⟩ := hφψ
    rw [hmk] at hψ
    refine ih _ _ _ (by simpa using hs) ?_ (ht.trans t (fun b hb => .inl hb)) hψ ?_ ?_
    · rw [Array.toList_setIfInBounds, List.count_set (by simpa using hil)]
      have : listed.toList[i]'(by simpa using hil) = false := by simpa using hif
      rw [this]
      have hpos : 0 < listed.toList.count false := List.count_pos_iff.2 (by rw [← this]; simp)
      have e1 : (if (false == false) = true then 1 else 0 : Nat) = 1 := rfl
      have e2 : (if (true == false) = true then 1 else 0 : Nat) = 0 := rfl
      rw [e1, e2]
      omega
    · obtain ⟨k1, k2, k3⟩ := hk
      cases hd : o.dst with
      | none => exact ⟨k1, k2, k3⟩
      | some d =>
        refine ⟨k1, by simp [Act.put, k2], fun q hq => ?_⟩
        have hne : d ≠ q := fun e => hq i o ho (by rw [hd, e])
        simp only [Act.put]
        rw [Array.getElem?_setIfInBounds_ne hne]
        exact k3 q hq
    · intro j hjj o' d' ho' hd'
      by_cases e : j = i
      · subst e
        obtain rfl : o = o' := by rw [ho] at ho'; simpa using ho'
        refine ⟨v, ?_, hφ⟩
        rw [hd']
        have := hin j o d' ho hd'
        simp [Act.put, hk.2.1, this]
      · have hjl : listed.getD j false = true := by
          simp only [Array.getD_eq_getD_getElem?] at hjj ⊢
          rwa [Array.getElem?_setIfInBounds_ne (fun h => e h.symm)] at hjj
        obtain ⟨u, hu, hΦ⟩ := hh j hjl o' d' ho' hd'
        refine ⟨u, ?_, hst j u w w' hΦ t⟩
        cases hd : o.dst with
        | none => exact hu
        | some d =>
          have hne : d ≠ d' := fun e2 => e (hdst j i o' o d' ho' ho hd' (by rw [hd, e2]))
          simp only [Act.put]
          rw [Array.getElem?_setIfInBounds_ne hne]
          exact hu

/-- A region whose operations hold together: J tells of the slots and of memory by what is through. -/
theorem wp_region_joint {id : Nat} {a0 : Act} {w wd : World} {l : List Oper} (S : List Nat) (J : (Nat → Bool) → Act → World → Prop) (L : List Leaf) (hm : P.follows .mixedOrders = true) (hB : phiB l.toArray a0.tmps.size = true) (hL : slotsB L l = true) (hw : Touch S wd w.drew) (hst : StabLS S L)
    (hJ : ∀ f, (∀ j, f j = false) → J f a0 w.drew)
    (hop : ∀ (i : Nat) (o : Oper), l[i]? = some o → ∀ f a w, f i = false → Touch S wd w → J f a w → Known l.toArray a0 a → (∀ e ∈ o.after, Region.binds .any e = true → f e.on = true) → (∀ e ∈ o.after, Region.binds .any e = true → Has l.toArray (okL L) a w e.on) → DoesJ P l.toArray S (fun v w' => okL L i v w' ∧ J (mark f i) (a.put o.dst v) w') (fun _ => True) o a w)
    (hend : ∀ (x : Nat → Value) (w : World) (f : Nat → Bool), Touch S wd w → J f (putL x L l 0 a0) w → (∀ j, j < l.length → f j = true) → KnowL x w L 0 → Q .normal (putL x L l 0 a0) w) : (Code.region id l.toArray true).wp P Q a0 w := by
  obtain ⟨h1, h2, h3⟩ := phiB_spec hB
  refine wp_region_any hm (wpAny_phi9 (J := J) (okL_stabS hst) h1 h2 h3 (fun i o ho => hop i o (by simpa using ho)) (fun a w f ht hj hf hk hh => ?_) l.toArray.size (Array.replicate l.toArray.size false) a0 _ (by simp) (by simp) hw (hJ _ fun j => ?_) ⟨rfl, rfl, fun _ _ => rfl⟩ (fun j hj => ?_))
  · have hx : ∀ (j : Nat) (o : Oper) (d : Tmp), l.toArray[j]? = some o → o.dst = some d → (fun j => a.tmps.getD (((l[j]?).bind (·.dst)).getD 0) undef) j = a.tmps.getD d undef := fun j o d ho hd => by
      have ho' : l[j]? = some o := by simpa using ho
      simp [ho', hd]
    have e := putL_all (a := a) (w := w) (L0 := L) (fun j => a.tmps.getD (((l[j]?).bind (·.dst)).getD 0) undef) hx hh L l 0 a0 (fun j => by rw [Nat.zero_add]) (fun j => by rw [Nat.zero_add]; simp) (slotsB_length hL) hk.1.symm hk.2.1.symm
      (fun t hn => (hk.2.2 t fun j o ho => hn j o (Nat.zero_le _) ho).symm)
    have k := knowL_of (a := a) (w := w) (L0 := L) _ hx hh L l 0 (fun j => by rw [Nat.zero_add]) (fun j => by rw [Nat.zero_add]; simp) hL
    have := hend _ w f ht (by rw [e]; exact hj) (fun j hj => hf j (by simpa using hj)) k
    rwa [e] at this
  · simp only [listedF, Array.getD_eq_getD_getElem?]
    rcases Nat.lt_or_ge j l.toArray.size with hlt | hge
    · simp [show j < l.length by simpa using hlt]
    · rw [Array.getElem?_eq_none (by simpa using hge)]
      rfl
  · simp only [Array.getD_eq_getD_getElem?] at hj
    rcases Nat.lt_or_ge j l.toArray.size with hlt | hge
    · simp [show j < l.length by simpa using hlt] at hj
    · simp only [List.size_toArray] at hj hge
      rw [Array.getElem?_eq_none (by simpa using hge)] at hj
      simp at hj
end
section
variable {P : Program} {ops : Array Oper} {a : Act} {w : World} {φ : Value → World → Prop} {o : Oper} {S : List Nat}
/-- An operation that leaves a value and memory as it is. -/
theorem doJ_value (hw : Region.wanted o (yielded ops a.tmps) = true) {v : Value} (hrun : (execOp a.eval o).run P w = .ok (.value v) w) (h : φ v w) : DoesJ P ops S φ (fun _ => True) o a w := .inl ⟨hw, by rw [hrun]; exact ⟨h, trivial, Touch.refl _ _⟩⟩
/-- An operation that leaves a value and makes new memory. -/
theorem doJ_made (hw : Region.wanted o (yielded ops a.tmps) = true) {v : Value} {w' : World} (hrun : (execOp a.eval o).run P w = .ok (.value v) w') (t : Touch S w w') (h : φ v w') : DoesJ P ops S φ (fun _ => True) o a w := .inl ⟨hw, by rw [hrun]; exact ⟨h, trivial, t⟩⟩
theorem doJ_enter (hw : Region.wanted o (yielded ops a.tmps) = true) {f : FuncId} {args : Array Value} (hrun : (execOp a.eval o).run P w = .ok (.enter f args) w)
    (h : Calls P f args w fun e w'' => ∃ v, e = .returned v ∧ φ v w'' ∧ Touch S w w'') : DoesJ P ops S φ (fun _ => True) o a w := .inl ⟨hw, by rw [hrun]; exact ⟨Touch.refl _ _, h.mono fun e w'' ⟨v, he, hφ, t⟩ => ⟨v, he, hφ, trivial, t⟩⟩⟩
end
section
variable {P : Program} {ops : Array Oper} {a : Act} {w : World} {φ : Value → World → Prop} {J' : Value → World → Prop} {o : Oper} {S : List Nat}
theorem DoesG.toJoint (h : DoesG P ops φ o a w) (hJ : ∀ v w', φ v w' → Touch [] w w' → J' v w') : DoesJ P ops S (fun v w' => φ v w' ∧ J' v w') (fun _ => True) o a w := by
  rcases h with ⟨h1, h2⟩ | ⟨h1, h2⟩
  · refine .inl ⟨h1, ?_⟩
    generalize (execOp a.eval o).run P w = r at *
    cases r with
    | ok n w' =>
      cases n with
      | value v => exact ⟨⟨h2.1, hJ _ _ h2.1 h2.2⟩, trivial, h2.2.mono (by simp)⟩
      | skip => exact h2.elim
      | enter f args =>
        obtain ⟨t, hc⟩ := h2
        exact ⟨t, hc.mono fun e w'' ⟨v, he, hφ, t'⟩ => ⟨v, he, ⟨hφ, hJ _ _ hφ (t.trans t' (by simp))⟩, trivial, t'.mono (by simp)⟩⟩
      | _ => exact h2.elim
    | halt x w' => exact h2.elim
  · exact .inr ⟨h1, ⟨h2, hJ _ _ h2 (Touch.refl _ _)⟩, trivial⟩
end
/-- The blocks that some operations have made lie apart: T tells their numbers and slots. -/
def Apart (T : List (Nat × Nat)) (f : Nat → Bool) (a : Act) (w : World) : Prop :=
  (∀ x ∈ T, f x.1 = true → ∀ g, (a.tmps.getD x.2 undef).ownBlock = some g → g < w.heap.size) ∧
  ∀ x ∈ T, ∀ y ∈ T, x.2 ≠ y.2 → f x.1 = true → f y.1 = true → ∀ g, (a.tmps.getD x.2 undef).ownBlock = some g → (a.tmps.getD y.2 undef).ownBlock ≠ some g
section
variable {T : List (Nat × Nat)} {f : Nat → Bool} {a : Act} {w w' : World} {S : List Nat}
theorem apart_start (hf : ∀ j, f j = false) : Apart T f a w := by
  constructor
  · intro x _ h
    rw [hf] at h
    cases h
  · intro x _ y _ _ h
    rw [hf] at h
    cases h
theorem getD_put_other {a : Act} {d e : Nat} (h : d ≠ e) (v : Value) : (a.put (some d) v).tmps.getD e undef = a.tmps.getD e undef := by
  simp only [Act.put, Array.getD_eq_getD_getElem?]
  rw [Array.getElem?_setIfInBounds_ne h]
theorem getD_put_same {a : Act} {d : Nat} (h : d < a.tmps.size) (v : Value) : (a.put (some d) v).tmps.getD d undef = v := by
  simp only [Act.put, Array.getD_eq_getD_getElem?]
  simp [h]
theorem Apart.keep (h : Apart T f a w) (t : Touch S w w') {i d : Nat} (hi : ∀ x ∈ T, x.1 ≠ i) (hd : ∀ x ∈ T, d ≠ x.2) (v : Value) : Apart T (mark f i) (a.put (some d) v) w' := by
  refine ⟨fun x hx hf g hg => ?_, fun x hx y hy hne hf1 hf2 g hg => ?_⟩
  · rw [mark_other f (hi x hx)] at hf
    rw [getD_put_other (hd x hx)] at hg
    exact Nat.lt_of_lt_of_le (h.1 x hx hf g hg) t.size
  · rw [mark_other f (hi x hx)] at hf1
    rw [mark_other f (hi y hy)] at hf2
    rw [getD_put_other (hd x hx)] at hg
    rw [getD_put_other (hd y hy)]
    exact h.2 x hx y hy hne hf1 hf2 g hg
theorem Apart.made (h : Apart T f a w) (t : Touch S w w') {i d : Nat} (hT : ∀ x ∈ T, x.2 = d ↔ x.1 = i) (hd : d < a.tmps.size) {v : Value} (hv : ∀ g, v.ownBlock = some g → w.heap.size ≤ g ∧ g < w'.heap.size) : Apart T (mark f i) (a.put (some d) v) w' := by
  refine ⟨fun x hx hf g hg => ?_, fun x hx y hy hne hf1 hf2 g hg hg2 => ?_⟩
  · by_cases e : x.2 = d
    · rw [e, getD_put_same hd] at hg
      exact (hv g hg).2
    · rw [mark_other f (fun e2 => e ((hT x hx).2 e2))] at hf
      rw [getD_put_other (Ne.symm e)] at hg
      exact Nat.lt_of_lt_of_le (h.1 x hx hf g hg) t.size
  · by_cases e : x.2 = d
    · have e3 : y.2 ≠ d := fun e4 => hne (e.trans e4.symm)
      rw [e, getD_put_same hd] at hg
      rw [getD_put_other (Ne.symm e3)] at hg2
      rw [mark_other f (fun e2 => e3 ((hT y hy).2 e2))] at hf2
      have h1 := h.1 y hy hf2 g hg2
      have h2 := (hv g hg).1
      omega
    · rw [getD_put_other (Ne.symm e)] at hg
      rw [mark_other f (fun e2 => e ((hT x hx).2 e2))] at hf1
      by_cases e3 : y.2 = d
      · rw [e3, getD_put_same hd] at hg2
        have h1 := h.1 x hx hf1 g hg
        have h2 := (hv g hg2).1
        omega
      · rw [getD_put_other (Ne.symm e3)] at hg2
        rw [mark_other f (fun e2 => e3 ((hT y hy).2 e2))] at hf2
        exact h.2 x hx y hy hne hf1 hf2 g hg hg2
end
end Go.Proofs.Ytcfogoepoghedaa
