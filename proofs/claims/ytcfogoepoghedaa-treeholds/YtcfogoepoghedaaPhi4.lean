/-
  Regions that draw their order, one of whose operations writes known blocks; the others make new memory alone.
-/
import Derived.Test.YtcfogoepoghedaaPhi3
namespace Go.Proofs.Ytcfogoepoghedaa
open Go.ChangeShapes Go.WideShapes Go.ChangeAt Go.RowKit Go.Deep
set_option linter.unusedVariables false

/-- A predicate that writing those blocks does not disturb. -/
def StabS (S : List Nat) (φ : Value → World → Prop) : Prop := ∀ v w w', φ v w → Touch S w w' → φ v w'
def RunsToS (P : Program) (S : List Nat) (φ : Value → World → Prop) (w : World) : Result Next → Prop
  | .ok (.value v) w' => φ v w' ∧ Touch S w w'
  | .ok .skip w' => φ undef w' ∧ Touch S w w'
  | .ok (.enter f args) w' => Touch [] w w' ∧ Calls P f args w' fun e w'' => ∃ v, e = .returned v ∧ φ v w'' ∧ Touch S w' w''
  | _ => False
def DoesS (P : Program) (ops : Array Oper) (S : List Nat) (φ : Value → World → Prop) (o : Oper) (a : Act) (w : World) : Prop :=
  (Region.wanted o (yielded ops a.tmps) = true ∧ RunsToS P S φ w ((execOp a.eval o).run P w)) ∨ (Region.wanted o (yielded ops a.tmps) = false ∧ φ undef w)
/-- What each leaves stays: of the writer's under new memory, of the others' under what the writer writes, too. -/
def StabW (S : List Nat) (jw : Nat) : List Leaf → Nat → Prop
  | [], _ => True
  | .const _ :: L, k => StabW S jw L (k + 1)
  | .pred φ :: L, k => (if k = jw then StabS [] φ else StabS S φ) ∧ StabW S jw L (k + 1)
theorem okL_stabW {S : List Nat} {jw : Nat} : ∀ {L : List Leaf} {k : Nat}, StabW S jw L k → ∀ j, (k + j ≠ jw → StabS S (okL L j)) ∧ (k + j = jw → StabS [] (okL L j))
  | [], _, _, j => ⟨fun _ v w w' h t => by simp [okL], fun _ v w w' h t => by simp [okL]⟩
  | .const c :: L, k, hs, 0 => ⟨fun _ v w w' h t => by simpa [okL, Leaf.ok] using h, fun _ v w w' h t => by simpa [okL, Leaf.ok] using h⟩
  | .pred φ :: L, k, hs, 0 => by
    have h1 := hs.1
    refine ⟨fun hne v w w' h t => ?_, fun heq v w w' h t => ?_⟩
    · rw [if_neg (by simpa using hne)] at h1
      have : φ v w' := h1 v w w' (by simpa [okL, Leaf.ok] using h) t
      simpa [okL, Leaf.ok] using this
    · rw [if_pos (by simpa using heq)] at h1
      have : φ v w' := h1 v w w' (by simpa [okL, Leaf.ok] using h) t
      simpa [okL, Leaf.ok] using this
  | .const c :: L, k, hs, j + 1 => by
    have := okL_stabW (L := L) (k := k + 1) hs j
    rw [show k + (j + 1) = k + 1 + j by omega]
    exact this
  | .pred φ :: L, k, hs, j + 1 => by
    have := okL_stabW (L := L) (k := k + 1) hs.2 j
    rw [show k + (j + 1) = k + 1 + j by omega]
    exact this

section
variable {P : Program} {ops : Array Oper} {Q : Exit → Act → World → Prop}
theorem DoesS.wpOp {S : List Nat} {i : Nat} {o : Oper} {a : Act} {w : World} {φ : Value → World → Prop} {K : Act → World → Prop} (hi : ops[i]? = some o) (h : DoesS P ops S φ o a w) (hK : ∀ v w', φ v w' → Touch S w w' → K (a.put o.dst v) w') :
    wpOp P ops Q i K a w := by
  unfold Go.wpOp
  simp only [hi]
  rcases h with ⟨h1, h2⟩ | ⟨h1, h2⟩
  · rw [if_pos h1]
    left
    unfold Oper.wp
    generalize (execOp a.eval o).run P w = r at *
    cases r with
    | ok n w' =>
      cases n with
      | value v => exact hK v w' h2.1 h2.2
      | skip => exact hK undef w' h2.1 h2.2
      | enter f args =>
        obtain ⟨t, hc⟩ := h2
        show Calls P f args w' _
        exact hc.mono fun e w'' ⟨v, he, hφ, t'⟩ => by subst he; exact hK v w'' hφ ((t.mono (S' := S) (by simp)).trans t' (fun b hb => .inl hb))
      | _ => exact h2.elim
    | halt x w' => exact h2.elim
  · rw [if_neg (by rw [h1]; decide)]
    exact hK _ _ h2 (Touch.refl _ _)

/-- The worlds on the way: till the writer is through, new memory alone. -/
def OnWay (S : List Nat) (jw : Nat) (listed : Array Bool) (wd w : World) : Prop := if listed.getD jw false = true then Touch S wd w else Touch [] wd w
theorem OnWay.all {S : List Nat} {jw : Nat} {listed : Array Bool} {wd w : World} (h : OnWay S jw listed wd w) : Touch S wd w := by
  unfold OnWay at h
  split at h
  · exact h
  · exact h.mono (by simp)

theorem wpAny_phiW {a0 : Act} {wd : World} {S : List Nat} {jw : Nat} {Φ : Nat → Value → World → Prop} (hst : ∀ j, (j ≠ jw → StabS S (Φ j)) ∧ (j = jw → StabS [] (Φ j))) (hdst : ∀ (i j : Nat) (o o' : Oper) (d : Tmp), ops[i]? = some o → ops[j]? = some o' → o.dst = some d → o'.dst = some d → i = j)
    (hin : ∀ (i : Nat) (o : Oper) (d : Tmp), ops[i]? = some o → o.dst = some d → d < a0.tmps.size) (hacy : ∀ (i : Nat) (o : Oper) (e : Edge), ops[i]? = some o → e ∈ o.after → Region.binds .any e = true → e.on < i)
    (hop : ∀ (i : Nat) (o : Oper), ops[i]? = some o → i ≠ jw → ∀ a w, Touch S wd w → Known ops a0 a → (∀ e ∈ o.after, Region.binds .any e = true → Has ops Φ a w e.on) → DoesG P ops (Φ i) o a w)
    (hwr : ∀ (o : Oper), ops[jw]? = some o → ∀ a w, Touch [] wd w → Known ops a0 a → (∀ e ∈ o.after, Region.binds .any e = true → Has ops Φ a w e.on) → DoesS P ops S (Φ jw) o a w)
    (hend : ∀ a w, Touch S wd w → Known ops a0 a → (∀ j, j < ops.size → Has ops Φ a w j) → Q .normal a w) :
    ∀ (fuel : Nat) (listed : Array Bool) (a : Act) (w : World), listed.size = ops.size → listed.toList.count false ≤ fuel → OnWay S jw listed wd w → Known ops a0 a → (∀ j, listed.getD j false = true → Has ops Φ a w j) → wpAny P .any ops Q fuel listed a w := by
  intro fuel
  induction fuel with
  | zero =>
    intro listed a w hs hc ht hk hh
    have hall : ∀ i, i < ops.size → listed.getD i false = true := by
      intro i hi
      have hil : i < listed.size := by omega
      have h0 : listed.toList.count false = 0 := by omega
      rw [List.count_eq_zero] at h0
      simp only [Array.getD_eq_getD_getElem?, Array.getElem?_eq_getElem hil, Option.getD_some]
      cases hx : listed[i]
      · exact absurd (by rw [← hx]; simp) h0
      · rfl
    exact ⟨none_ready hall, hend a w ht.all hk fun j hj => hh j (hall j hj)⟩
  | succ fuel ih =>
    intro listed a w hs hc ht hk hh
    refine ⟨fun h0 => hend a w ht.all hk fun j hj => hh j (all_listed hacy hs h0 j hj), fun i hi => ?_⟩
    obtain ⟨hun, o, ho, hall⟩ := mem_ready.1 hi
    have hlt : i < ops.size := (Array.getElem?_eq_some_iff.1 ho).1
    have hil : i < listed.size := by omega
    have hif : listed[i] = false := by simpa [Array.getD_eq_getD_getElem?, Array.getElem?_eq_getElem hil] using hun
    have step : ∀ (T : List Nat) (v : Value) (w' : World), (∀ j, j ≠ i → StabS T (Φ j) ∨ listed.getD j false = false) → Φ i v w' → Touch T w w' → OnWay S jw (listed.setIfInBounds i true) wd w' → wpAny P .any ops Q fuel (listed.setIfInBounds i true) (a.put o.dst v) w' := by
      intro T v w' hT hφ t hway
      refine ih _ _ _ (by simpa using hs) ?_ hway ?_ ?_
      · rw [Array.toList_setIfInBounds, List.count_set (by simpa using hil)]
        have : listed.toList[i]'(by simpa using hil) = false := by simpa using hif
        rw [this]
        have hpos : 0 < listed.toList.count false := List.count_pos_iff.2 (by rw [← this]; simp)
        have e1 : (if (false == false) = true then 1 else 0 : Nat) = 1 := rfl
        have e2 : (if (true == false) = true then 1 else 0 : Nat) = 0 := rfl
        rw [e1, e2]
        omega
      · obtain ⟨k1, k2, k3⟩ := hk
        cases hd : o.dst with
        | none => exact ⟨k1, k2, k3⟩
        | some d =>
          refine ⟨k1, by simp [Act.put, k2], fun q hq => ?_⟩
          have hne : d ≠ q := fun e => hq i o ho (by rw [hd, e])
          simp only [Act.put]
          rw [Array.getElem?_setIfInBounds_ne hne]
          exact k3 q hq
      · intro j hj o' d' ho' hd'
        by_cases e : j = i
        · subst e
          obtain rfl : o = o' := by rw [ho] at ho'; simpa using ho'
          refine ⟨v, ?_, hφ⟩
          rw [hd']
          have := hin j o d' ho hd'
          simp [Act.put, hk.2.1, this]
        · have hjl : listed.getD j false = true := by
            simp only [Array.getD_eq_getD_getElem?] at hj ⊢
            rwa [Array.getElem?_setIfInBounds_ne (fun h => e h.symm)] at hj
          obtain ⟨u, hu, hΦ⟩ := hh j hjl o' d' ho' hd'
          have hs' : StabS T (Φ j) := by
            rcases hT j e with h | h
            · exact h
            · rw [hjl] at h; cases h
          refine ⟨u, ?_, hs' u w w' hΦ t⟩
          cases hd : o.dst with
          | none => exact hu
          | some d =>
            have hne : d ≠ d' := fun e2 => e (hdst j i o' o d' ho' ho hd' (by rw [hd, e2]))
            simp only [Act.put]
            rw [Array.getElem?_setIfInBounds_ne hne]
            exact hu
    by_cases hij : i = jw
    · subst hij
      have hnl : listed.getD i false = false := by simp only [Array.getD_eq_getD_getElem?, Array.getElem?_eq_getElem hil, Option.getD_some]; exact hif
      have ht0 : Touch [] wd w := by
        unfold OnWay at ht
        rwa [if_neg (by rw [hnl]; decide)] at ht
      refine DoesS.wpOp ho (hwr o ho a w ht0 hk fun e he hb => hh e.on (hall e he hb)) fun v w' hφ t => ?_
      refine step S v w' (fun j hj => .inl ((hst j).1 hj)) hφ t ?_
      unfold OnWay
      rw [if_pos (by simp [Array.getD_eq_getD_getElem?, hil])]
      exact (ht0.mono (S' := S) (by simp)).trans t (fun b hb => .inl hb)
    · refine DoesG.wpOp ho (hop i o ho hij a w ht.all hk fun e he hb => hh e.on (hall e he hb)) fun v w' hφ t => ?_
      refine step [] v w' (fun j hj => .inl ?_) hφ t ?_
      · by_cases hjw : j = jw
        · exact (hst j).2 hjw
        · exact fun v w w' h t => (hst j).1 hjw v w w' h (t.mono (by simp))
      · unfold OnWay at ht ⊢
        have : (listed.setIfInBounds i true).getD jw false = listed.getD jw false := by
          simp only [Array.getD_eq_getD_getElem?]
          rw [Array.getElem?_setIfInBounds_ne hij]
        rw [this]
        split at ht
        · rename_i h
          rw [if_pos h]
          exact ht.trans t (by simp)
        · rename_i h
          rw [if_neg h]
          exact ht.trans t (by simp)

/-- A region one of whose operations (jw) writes the blocks S. -/
theorem wp_region_writes {id : Nat} {a0 : Act} {w wd : World} {l : List Oper} (S : List Nat) (jw : Nat) (L : List Leaf) (hm : P.follows .mixedOrders = true) (hB : phiB l.toArray a0.tmps.size = true) (hL : slotsB L l = true) (hw : Touch [] wd w.drew) (hst : StabW S jw L 0)
    (hop : ∀ (i : Nat) (o : Oper), l[i]? = some o → i ≠ jw → ∀ a w, Touch S wd w → Known l.toArray a0 a → (∀ e ∈ o.after, Region.binds .any e = true → Has l.toArray (okL L) a w e.on) → DoesG P l.toArray (okL L i) o a w)
    (hwr : ∀ (o : Oper), l[jw]? = some o → ∀ a w, Touch [] wd w → Known l.toArray a0 a → (∀ e ∈ o.after, Region.binds .any e = true → Has l.toArray (okL L) a w e.on) → DoesS P l.toArray S (okL L jw) o a w)
    (hend : ∀ (x : Nat → Value) (w : World), Touch S wd w → KnowL x w L 0 → Q .normal (putL x L l 0 a0) w) : (Code.region id l.toArray true).wp P Q a0 w := by
  obtain ⟨h1, h2, h3⟩ := phiB_spec hB
  have hs := okL_stabW hst
  simp only [Nat.zero_add] at hs
  refine wp_region_any hm (wpAny_phiW hs h1 h2 h3 (fun i o ho => hop i o (by simpa using ho)) (fun o ho => hwr o (by simpa using ho)) (fun a w ht hk hh => ?_) l.toArray.size (Array.replicate l.toArray.size false) a0 _ (by simp) (by simp) (by
      unfold OnWay
      rw [if_neg (by
        simp only [Array.getD_eq_getD_getElem?]
        rcases Nat.lt_or_ge jw l.toArray.size with hlt | hge
        · simp [show jw < l.length by simpa using hlt]
        · rw [Array.getElem?_eq_none (by simpa using hge)]; simp)]
      exact hw) ⟨rfl, rfl, fun _ _ => rfl⟩ (fun j hj => ?_))
  · have hx : ∀ (j : Nat) (o : Oper) (d : Tmp), l.toArray[j]? = some o → o.dst = some d → (fun j => a.tmps.getD (((l[j]?).bind (·.dst)).getD 0) undef) j = a.tmps.getD d undef := fun j o d ho hd => by
      have ho' : l[j]? = some o := by simpa using ho
      simp [ho', hd]
    have e := putL_all (a := a) (w := w) (L0 := L) (fun j => a.tmps.getD (((l[j]?).bind (·.dst)).getD 0) undef) hx hh L l 0 a0 (fun j => by rw [Nat.zero_add]) (fun j => by rw [Nat.zero_add]; simp) (slotsB_length hL) hk.1.symm hk.2.1.symm
      (fun t hn => (hk.2.2 t fun j o ho => hn j o (Nat.zero_le _) ho).symm)
    have k := knowL_of (a := a) (w := w) (L0 := L) _ hx hh L l 0 (fun j => by rw [Nat.zero_add]) (fun j => by rw [Nat.zero_add]; simp) hL
    have := hend _ w ht k
    rwa [e] at this
  · simp only [Array.getD_eq_getD_getElem?] at hj
    rcases Nat.lt_or_ge j l.toArray.size with hlt | hge
    · simp [show j < l.length by simpa using hlt] at hj
    · simp only [List.size_toArray] at hj hge
      rw [Array.getElem?_eq_none (by simpa using hge)] at hj
      simp at hj
end
section
variable {P : Program} {ops : Array Oper} {a a0 : Act} {w : World} {φ : Value → World → Prop} {o : Oper} {S : List Nat}
theorem doS_enter (hw : Region.wanted o (yielded ops a.tmps) = true) {f : FuncId} {args : Array Value} (hrun : (execOp a.eval o).run P w = .ok (.enter f args) w)
    (h : Calls P f args w fun e w'' => ∃ v, e = .returned v ∧ φ v w'' ∧ Touch S w w'') : DoesS P ops S φ o a w := .inl ⟨hw, by rw [hrun]; exact ⟨Touch.refl _ _, h⟩⟩
end
end Go.Proofs.Ytcfogoepoghedaa
