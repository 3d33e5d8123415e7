/-
  Regions that draw their order and hold several stores: what memory is, by which operations are through (J).
-/
import Derived.Test.YtcfogoepoghedaaPhi4
import Derived.Test.YtcfogoepoghedaaWhole
import Derived.Deep.MidRow
namespace Go.Proofs.Ytcfogoepoghedaa
open Go.ChangeShapes Go.WideShapes Go.ChangeAt Go.RowKit Go.Deep
set_option linter.unusedVariables false

def RunsToJ (P : Program) (S : List Nat) (φ : Value → World → Prop) (ψ : World → Prop) (w : World) : Result Next → Prop
  | .ok (.value v) w' => φ v w' ∧ ψ w' ∧ Touch S w w'
  | .ok .skip w' => φ undef w' ∧ ψ w' ∧ Touch S w w'
  | .ok (.enter f args) w' => Touch [] w w' ∧ Calls P f args w' fun e w'' => ∃ v, e = .returned v ∧ φ v w'' ∧ ψ w'' ∧ Touch S w' w''
  | _ => False
def DoesJ (P : Program) (ops : Array Oper) (S : List Nat) (φ : Value → World → Prop) (ψ : World → Prop) (o : Oper) (a : Act) (w : World) : Prop :=
  (Region.wanted o (yielded ops a.tmps) = true ∧ RunsToJ P S φ ψ w ((execOp a.eval o).run P w)) ∨ (Region.wanted o (yielded ops a.tmps) = false ∧ φ undef w ∧ ψ w)
def mark (f : Nat → Bool) (i : Nat) : Nat → Bool := fun j => if j = i then true else f j
theorem mark_same (f : Nat → Bool) (i : Nat) : mark f i i = true := by simp [mark]
theorem mark_other (f : Nat → Bool) {i j : Nat} (h : j ≠ i) : mark f i j = f j := by simp [mark, h]
def listedF (l : Array Bool) : Nat → Bool := fun j => l.getD j false

section
variable {P : Program} {ops : Array Oper} {Q : Exit → Act → World → Prop}
theorem DoesG.toJ {S : List Nat} {o : Oper} {a : Act} {w : World} {φ : Value → World → Prop} {ψ : World → Prop} (h : DoesG P ops φ o a w) (hψ : ∀ w', Touch [] w w' → ψ w') : DoesJ P ops S φ ψ o a w := by
  rcases h with ⟨h1, h2⟩ | ⟨h1, h2⟩
  · refine .inl ⟨h1, ?_⟩
    generalize (execOp a.eval o).run P w = r at *
    cases r with
    | ok n w' =>
      cases n with
      | value v => exact ⟨h2.1, hψ _ h2.2, h2.2.mono (by simp)⟩
      | skip => exact h2.elim
      | enter f args =>
        obtain ⟨t, hc⟩ := h2
        exact ⟨t, hc.mono fun e w'' ⟨v, he, hφ, t'⟩ => ⟨v, he, hφ, hψ _ (t.trans t' (by simp)), t'.mono (by simp)⟩⟩
      | _ => exact h2.elim
    | halt x w' => exact h2.elim
  · exact .inr ⟨h1, h2, hψ _ (Touch.refl _ _)⟩
theorem DoesJ.wpOp {S : List Nat} {i : Nat} {o : Oper} {a : Act} {w : World} {φ : Value → World → Prop} {ψ : World → Prop} {K : Act → World → Prop} (hi : ops[i]? = some o) (h : DoesJ P ops S φ ψ o a w) (hK : ∀ v w', φ v w' → ψ w' → Touch S w w' → K (a.put o.dst v) w') :
    wpOp P ops Q i K a w := by
  unfold Go.wpOp
  simp only [hi]
  rcases h with ⟨h1, h2⟩ | ⟨h1, h2, h3⟩
  · rw [if_pos h1]
    left
    unfold Oper.wp
    generalize (execOp a.eval o).run P w = r at *
    cases r with
    | ok n w' =>
      cases n with
      | value v => exact hK v w' h2.1 h2.2.1 h2.2.2
      | skip => exact hK undef w' h2.1 h2.2.1 h2.2.2
      | enter f args =>
        obtain ⟨t, hc⟩ := h2
        show Calls P f args w' _
        exact hc.mono fun e w'' ⟨v, he, hφ, hψ, t'⟩ => by subst he; exact hK v w'' hφ hψ ((t.mono (S' := S) (by simp)).trans t' (fun b hb => .inl hb))
      | _ => exact h2.elim
    | halt x w' => exact h2.elim
  · rw [if_neg (by rw [h1]; decide)]
    exact hK _ _ h2 h3 (Touch.refl _ _)

theorem wpAny_phi8 {a0 : Act} {wd : World} {S : List Nat} {J : (Nat → Bool) → World → Prop} {Φ : Nat → Value → World → Prop} (hst : ∀ j, StabS S (Φ j)) (hdst : ∀ (i j : Nat) (o o' : Oper) (d : Tmp), ops[i]? = some o → ops[j]? = some o' → o.dst = some d → o'.dst = some d → i = j)
    (hin : ∀ (i : Nat) (o : Oper) (d : Tmp), ops[i]? = some o → o.dst = some d → d < a0.tmps.size) (hacy : ∀ (i : Nat) (o : Oper) (e : Edge), ops[i]? = some o → e ∈ o.after → Region.binds .any e = true → e.on < i)
    (hop : ∀ (i : Nat) (o : Oper), ops[i]? = some o → ∀ f a w, f i = false → Touch S wd w → J f w → Known ops a0 a → (∀ e ∈ o.after, Region.binds .any e = true → f e.on = true) → (∀ e ∈ o.after, Region.binds .any e = true → Has ops Φ a w e.on) → DoesJ P ops S (Φ i) (J (mark f i)) o a w)
    (hend : ∀ a w f, Touch S wd w → J f w → (∀ j, j < ops.size → f j = true) → Known ops a0 a → (∀ j, j < ops.size → Has ops Φ a w j) → Q .normal a w) :
    ∀ (fuel : Nat) (listed : Array Bool) (a : Act) (w : World), listed.size = ops.size → listed.toList.count false ≤ fuel → Touch S wd w → J (listedF listed) w → Known ops a0 a → (∀ j, listed.getD j false = true → Has ops Φ a w j) → wpAny P .any ops Q fuel listed a w := by
  intro fuel
  induction fuel with
  | zero =>
    intro listed a w hs hc ht hj hk hh
    have hall : ∀ i, i < ops.size → listed.getD i false = true := by
      intro i hi
      have hil : i < listed.size := by omega
      have h0 : listed.toList.count false = 0 := by omega
      rw [List.count_eq_zero] at h0
      simp only [Array.getD_eq_getD_getElem?, Array.getElem?_eq_getElem hil, Option.getD_some]
      cases hx : listed[i]
      · exact absurd (by rw [← hx]; simp) h0
      · rfl
    exact ⟨none_ready hall, hend a w _ ht hj (fun j hj' => hall j hj') hk fun j hj' => hh j (hall j hj')⟩
  | succ fuel ih =>
    intro listed a w hs hc ht hj hk hh
    refine ⟨fun h0 => hend a w _ ht hj (fun j hj' => all_listed hacy hs h0 j hj') hk fun j hj' => hh j (all_listed hacy hs h0 j hj'), fun i hi => ?_⟩
    obtain ⟨hun, o, ho, hall⟩ := mem_ready.1 hi
    have hlt : i < ops.size := (Array.getElem?_eq_some_iff.1 ho).1
    have hil : i < listed.size := by omega
    have hif : listed[i] = false := by simpa [Array.getD_eq_getD_getElem?, Array.getElem?_eq_getElem hil] using hun
    have hnl : listedF listed i = false := by simp only [listedF, Array.getD_eq_getD_getElem?, Array.getElem?_eq_getElem hil, Option.getD_some]; exact hif
    have hmk : mark (listedF listed) i = listedF (listed.setIfInBounds i true) := by
      funext j
      unfold mark listedF
      by_cases e : j = i
      · subst e
        simp [Array.getD_eq_getD_getElem?, hil]
      · rw [if_neg e]
        simp only [Array.getD_eq_getD_getElem?]
        rw [Array.getElem?_setIfInBounds_ne (fun h => e h.symm)]
    refine DoesJ.wpOp ho (hop i o ho (listedF listed) a w hnl ht hj hk (fun e he hb => hall e he hb) fun e he hb => hh e.on (hall e he hb)) fun v w' hφ hψ t => ?_
    rw [hmk] at hψ
    refine ih _ _ _ (by simpa using hs) ?_ (ht.trans t (fun b hb => .inl hb)) hψ ?_ ?_
    · rw [Array.toList_setIfInBounds, List.count_set (by simpa using hil)]
      have : listed.toList[i]'(by simpa using hil) = false := by simpa using hif
      rw [this]
      have hpos : 0 < listed.toList.count false := List.count_pos_iff.2 (by rw [← this]; simp)
      have e1 : (if (false == false) = true then 1 else 0 : Nat) = 1 := rfl
      have e2 : (if (true == false) = true then 1 else 0 : Nat) = 0 := rfl
      rw [e1, e2]
      omega
    · obtain ⟨k1, k2, k3⟩ := hk
      cases hd : o.dst with
      | none => exact ⟨k1, k2, k3⟩
      | some d =>
        refine ⟨k1, by simp [Act.put, k2], fun q hq => ?_⟩
        have hne : d ≠ q := fun e => hq i o ho (by rw [hd, e])
        simp only [Act.put]
        rw [Array.getElem?_setIfInBounds_ne hne]
        exact k3 q hq
    · intro j hjj o' d' ho' hd'
      by_cases e : j = i
      · subst e
        obtain rfl : o = o' := by rw [ho] at ho'; simpa using ho'
        refine ⟨v, ?_, hφ⟩
        rw [hd']
        have := hin j o d' ho hd'
        simp [Act.put, hk.2.1, this]
      · have hjl : listed.getD j false = true := by
          simp only [Array.getD_eq_getD_getElem?] at hjj ⊢
          rwa [Array.getElem?_setIfInBounds_ne (fun h => e h.symm)] at hjj
        obtain ⟨u, hu, hΦ⟩ := hh j hjl o' d' ho' hd'
        refine ⟨u, ?_, hst j u w w' hΦ t⟩
        cases hd : o.dst with
        | none => exact hu
        | some d =>
          have hne : d ≠ d' := fun e2 => e (hdst j i o' o d' ho' ho hd' (by rw [hd, e2]))
          simp only [Act.put]
          rw [Array.getElem?_setIfInBounds_ne hne]
          exact hu

def StabLS (S : List Nat) : List Leaf → Prop
  | [] => True
  | .const _ :: L => StabLS S L
  | .pred φ :: L => StabS S φ ∧ StabLS S L
theorem okL_stabS {S : List Nat} : ∀ {L : List Leaf}, StabLS S L → ∀ j, StabS S (okL L j)
  | [], _, j, v, w, w', h, t => by simp [okL]
  | .const c :: L, hs, 0, v, w, w', h, t => by simpa [okL, Leaf.ok] using h
  | .pred φ :: L, hs, 0, v, w, w', h, t => by
    have : φ v w' := hs.1 v w w' (by simpa [okL, Leaf.ok] using h) t
    simpa [okL, Leaf.ok] using this
  | .const c :: L, hs, j + 1, v, w, w', h, t => okL_stabS (L := L) hs j v w w' h t
  | .pred φ :: L, hs, j + 1, v, w, w', h, t => okL_stabS (L := L) hs.2 j v w w' h t

/-- A region with several stores, which write the blocks S; J tells what is in memory by what is through. -/
theorem wp_region_stores {id : Nat} {a0 : Act} {w wd : World} {l : List Oper} (S : List Nat) (J : (Nat → Bool) → World → Prop) (L : List Leaf) (hm : P.follows .mixedOrders = true) (hB : phiB l.toArray a0.tmps.size = true) (hL : slotsB L l = true) (hw : Touch S wd w.drew) (hst : StabLS S L)
    (hJ : ∀ f, (∀ j, f j = false) → J f w.drew)
    (hop : ∀ (i : Nat) (o : Oper), l[i]? = some o → ∀ f a w, f i = false → Touch S wd w → J f w → Known l.toArray a0 a → (∀ e ∈ o.after, Region.binds .any e = true → f e.on = true) → (∀ e ∈ o.after, Region.binds .any e = true → Has l.toArray (okL L) a w e.on) → DoesJ P l.toArray S (okL L i) (J (mark f i)) o a w)
    (hend : ∀ (x : Nat → Value) (w : World) (f : Nat → Bool), Touch S wd w → J f w → (∀ j, j < l.length → f j = true) → KnowL x w L 0 → Q .normal (putL x L l 0 a0) w) : (Code.region id l.toArray true).wp P Q a0 w := by
  obtain ⟨h1, h2, h3⟩ := phiB_spec hB
  refine wp_region_any hm (wpAny_phi8 (J := J) (okL_stabS hst) h1 h2 h3 (fun i o ho => hop i o (by simpa using ho)) (fun a w f ht hj hf hk hh => ?_) l.toArray.size (Array.replicate l.toArray.size false) a0 _ (by simp) (by simp) hw (hJ _ fun j => ?_) ⟨rfl, rfl, fun _ _ => rfl⟩ (fun j hj => ?_))
  · have hx : ∀ (j : Nat) (o : Oper) (d : Tmp), l.toArray[j]? = some o → o.dst = some d → (fun j => a.tmps.getD (((l[j]?).bind (·.dst)).getD 0) undef) j = a.tmps.getD d undef := fun j o d ho hd => by
      have ho' : l[j]? = some o := by simpa using ho
      simp [ho', hd]
    have e := putL_all (a := a) (w := w) (L0 := L) (fun j => a.tmps.getD (((l[j]?).bind (·.dst)).getD 0) undef) hx hh L l 0 a0 (fun j => by rw [Nat.zero_add]) (fun j => by rw [Nat.zero_add]; simp) (slotsB_length hL) hk.1.symm hk.2.1.symm
      (fun t hn => (hk.2.2 t fun j o ho => hn j o (Nat.zero_le _) ho).symm)
    have k := knowL_of (a := a) (w := w) (L0 := L) _ hx hh L l 0 (fun j => by rw [Nat.zero_add]) (fun j => by rw [Nat.zero_add]; simp) hL
    have := hend _ w f ht hj (fun j hj => hf j (by simpa using hj)) k
    rwa [e] at this
  · simp only [listedF, Array.getD_eq_getD_getElem?]
    rcases Nat.lt_or_ge j l.toArray.size with hlt | hge
    · simp [show j < l.length by simpa using hlt]
    · rw [Array.getElem?_eq_none (by simpa using hge)]
      rfl
  · simp only [Array.getD_eq_getD_getElem?] at hj
    rcases Nat.lt_or_ge j l.toArray.size with hlt | hge
    · simp [show j < l.length by simpa using hlt] at hj
    · simp only [List.size_toArray] at hj hge
      rw [Array.getElem?_eq_none (by simpa using hge)] at hj
      simp at hj
/-- A store of a whole struct into a block, at such a step. -/
theorem doJ_store {S : List Nat} {o : Oper} {a : Act} {w : World} {φ : Value → World → Prop} {ψ : World → Prop} (hw : Region.wanted o (yielded ops a.tmps) = true) {ty : TypeId} {x y : Operand} (ho : o.op = .store ty x y) {b n : Nat} {cells : Array Value} (hx : a.eval x = .pointer (some ⟨b, n, none⟩)) (hy : a.eval y = .agg cells)
    (ht : w.there b n cells.size) (hi : (P.info? ty).map (·.size) = some cells.size) (h1 : cells.all (·.oneCell') = true) (h : φ undef (w.setCells b n cells.toList) ∧ ψ (w.setCells b n cells.toList) ∧ Touch S w (w.setCells b n cells.toList)) : DoesJ P ops S φ ψ o a w := by
  refine .inl ⟨hw, ?_⟩
  unfold execOp
  simp only [ho, hx, hy, Instr.storeAt, Instr.sureAddr, Sem.run_bind, Sem.run_pure, Result.andThen_ok, run_storeVar_mid w b n ty cells ht hi h1]
  exact h
end
/-- Two blocks, each stored whole by one operation (i1, i2). -/
def TwoJ (b1 b2 i1 i2 : Nat) (T1 T2 : TypeId) (c1 c1' c2 c2' : Array Value) (f : Nat → Bool) (w : World) : Prop := BoxV w b1 T1 (if f i1 = true then c1' else c1) ∧ BoxV w b2 T2 (if f i2 = true then c2' else c2)
section
variable {b1 b2 i1 i2 : Nat} {T1 T2 : TypeId} {c1 c1' c2 c2' : Array Value} {f : Nat → Bool} {w w' : World}
theorem TwoJ.keep (h : TwoJ b1 b2 i1 i2 T1 T2 c1 c1' c2 c2' f w) (t : Touch [] w w') {i : Nat} (h1 : i ≠ i1) (h2 : i ≠ i2) : TwoJ b1 b2 i1 i2 T1 T2 c1 c1' c2 c2' (mark f i) w' := by
  unfold TwoJ
  rw [mark_other f (Ne.symm h1), mark_other f (Ne.symm h2)]
  exact ⟨h.1.carry t (by simp), h.2.carry t (by simp)⟩
theorem TwoJ.put1 (h : TwoJ b1 b2 i1 i2 T1 T2 c1 c1' c2 c2' f w) (hf : f i1 = false) (hs : c1'.size = c1.size) (hb : b1 ≠ b2) (hi : i1 ≠ i2) : TwoJ b1 b2 i1 i2 T1 T2 c1 c1' c2 c2' (mark f i1) (w.setCells b1 0 c1'.toList) := by
  have h1 := h.1
  have h2 := h.2
  rw [if_neg (by rw [hf]; decide)] at h1
  unfold TwoJ
  rw [mark_same, mark_other f (Ne.symm hi), if_pos rfl]
  exact ⟨h1.wholeW c1' hs, h2.carry (touch_cellsW _ _ _) (by simpa using Ne.symm hb)⟩
theorem TwoJ.put2 (h : TwoJ b1 b2 i1 i2 T1 T2 c1 c1' c2 c2' f w) (hf : f i2 = false) (hs : c2'.size = c2.size) (hb : b1 ≠ b2) (hi : i1 ≠ i2) : TwoJ b1 b2 i1 i2 T1 T2 c1 c1' c2 c2' (mark f i2) (w.setCells b2 0 c2'.toList) := by
  have h1 := h.1
  have h2 := h.2
  rw [if_neg (by rw [hf]; decide)] at h2
  unfold TwoJ
  rw [mark_same, mark_other f hi, if_pos rfl]
  exact ⟨h1.carry (touch_cellsW _ _ _) (by simpa using hb), h2.wholeW c2' hs⟩
theorem TwoJ.there1 (h : TwoJ b1 b2 i1 i2 T1 T2 c1 c1' c2 c2' f w) (hs : c1'.size = c1.size) : w.there b1 0 c1'.size := h.1.thereW 0 _ (by split <;> omega)
theorem TwoJ.there2 (h : TwoJ b1 b2 i1 i2 T1 T2 c1 c1' c2 c2' f w) (hs : c2'.size = c2.size) : w.there b2 0 c2'.size := h.2.thereW 0 _ (by split <;> omega)
end
end Go.Proofs.Ytcfogoepoghedaa
