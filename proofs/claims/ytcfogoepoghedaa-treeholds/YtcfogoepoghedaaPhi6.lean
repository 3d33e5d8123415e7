/-
  Regions that draw their order, ahead of a store that waits for all others, in which one operation may write new memory that a few others have made (append onto a row of the region's own).
-/
import Derived.Test.YtcfogoepoghedaaPhi5
namespace Go.Proofs.Ytcfogoepoghedaa
open Go.ChangeShapes Go.WideShapes Go.ChangeAt Go.RowKit Go.Deep
set_option linter.unusedVariables false

def waitsB (ops : Array Oper) (i j : Nat) : Bool := match ops[i]? with
  | some o => o.after.any fun e => (e.on == j) && Region.binds .any e
  | none => false
/-- jw writes what the operations D have made: it waits for all of them, they serve it alone, and all behind it wait for it. -/
def localB (ops : Array Oper) (n jw : Nat) (D : List Nat) : Bool :=
  decide (jw < n) && (D.all fun d => decide (d < jw) && (waitsB ops jw d || D.any fun d' => waitsB ops jw d' && waitsB ops d' d)) &&
    ((List.range ops.size).all fun i => (decide (i ≤ jw) || waitsB ops i jw) && (i == jw || D.contains i || i == n || D.all fun d => !waitsB ops i d))
def constB (L : List Leaf) (jw : Nat) (D : List Nat) : Bool := (List.range jw).all fun j => D.contains j || match L[j]? with | some (.const _) => true | _ => false
def LocalDoes (P : Program) (ops : Array Oper) (wd : World) (φ : Value → World → Prop) (o : Oper) (a : Act) (w : World) : Prop :=
  Region.wanted o (yielded ops a.tmps) = true ∧ ∃ v w', (execOp a.eval o).run P w = .ok (.value v) w' ∧ φ v w' ∧ Touch [] wd w'
section
variable {P : Program} {ops : Array Oper} {Q : Exit → Act → World → Prop}
theorem waits_spec {i j : Nat} (h : waitsB ops i j = true) : ∃ o, ops[i]? = some o ∧ ∃ e ∈ o.after, Region.binds .any e = true ∧ e.on = j := by
  unfold waitsB at h
  cases ho : ops[i]? with
  | none => rw [ho] at h; cases h
  | some o =>
    rw [ho] at h
    simp only [Array.any_eq_true'] at h
    obtain ⟨e, he, h3⟩ := h
    simp only [Bool.and_eq_true, beq_iff_eq] at h3
    exact ⟨o, rfl, e, he, h3.2, h3.1⟩
theorem waits_of {i : Nat} {o : Oper} {e : Edge} (ho : ops[i]? = some o) (he : e ∈ o.after) (hb : Region.binds .any e = true) : waitsB ops i e.on = true := by
  unfold waitsB
  rw [ho]
  simp only [Array.any_eq_true']
  exact ⟨e, he, by simp [hb]⟩
/-- Whatever is listed has what it waits for listed. -/
def Closed (ops : Array Oper) (listed : Array Bool) : Prop := ∀ i j, waitsB ops i j = true → listed.getD i false = true → listed.getD j false = true

theorem wpAny_phi6 {a0 : Act} {wd : World} {L : List Leaf} {n jw : Nat} {D : List Nat} (hst : ∀ j, Stab (okL L j)) (hdst : ∀ (i j : Nat) (o o' : Oper) (d : Tmp), ops[i]? = some o → ops[j]? = some o' → o.dst = some d → o'.dst = some d → i = j)
    (hin : ∀ (i : Nat) (o : Oper) (d : Tmp), ops[i]? = some o → o.dst = some d → d < a0.tmps.size) (hacy : ∀ (i : Nat) (o : Oper) (e : Edge), ops[i]? = some o → e ∈ o.after → Region.binds .any e = true → e.on < i)
    (hlast : lastB ops n = true) (hloc : localB ops n jw D = true) (hcon : constB L jw D = true)
    (hop : ∀ (i : Nat) (o : Oper), ops[i]? = some o → i < n → i ≠ jw → ∀ a w, Touch [] wd w → Known ops a0 a → (∀ e ∈ o.after, Region.binds .any e = true → Has ops (okL L) a w e.on) → DoesG P ops (okL L i) o a w)
    (hwr : ∀ (o : Oper), ops[jw]? = some o → ∀ a w, Touch [] wd w → Known ops a0 a → (∀ e ∈ o.after, Region.binds .any e = true → Has ops (okL L) a w e.on) → LocalDoes P ops wd (okL L jw) o a w)
    (hend : ∀ a w, Touch [] wd w → Known ops a0 a → (∀ j, j < ops.size → j ∉ D → Has ops (okL L) a w j) → ∀ K : Act → World → Prop, (∀ a' w', Q .normal a' w' → K a' w') → wpOp P ops Q n K a w) :
    ∀ (fuel : Nat) (listed : Array Bool) (a : Act) (w : World), listed.size = ops.size → listed.getD n false = false → listed.toList.count false ≤ fuel → Touch [] wd w → Known ops a0 a → Closed ops listed →
      (∀ j, listed.getD j false = true → (j ∉ D ∨ listed.getD jw false = false) → Has ops (okL L) a w j) → wpAny P .any ops Q fuel listed a w := by
  obtain ⟨hsz, on, hon, hdn, hwait⟩ := lastB_spec hlast
  unfold localB at hloc
  simp only [Bool.and_eq_true, decide_eq_true_eq, List.all_eq_true, List.mem_range, Bool.or_eq_true, List.any_eq_true] at hloc
  obtain ⟨⟨hjn, hD⟩, hI⟩ := hloc
  have hDall : ∀ listed, Closed ops listed → ∀ d ∈ D, (∀ j, waitsB ops jw j = true → listed.getD j false = true) → listed.getD d false = true := by
    intro listed hcl d hd hr
    rcases (hD d hd).2 with h | ⟨d', _, h1, h2⟩
    · exact hr d h
    · exact hcl d' d h2 (hr d' h1)
  intro fuel
  induction fuel with
  | zero =>
    intro listed a w hs hn hc ht hk hcl hh
    exfalso
    have hil : n < listed.size := by omega
    have h0 : listed.toList.count false = 0 := by omega
    rw [List.count_eq_zero] at h0
    have hx : listed[n] = false := by simpa [Array.getD_eq_getD_getElem?, Array.getElem?_eq_getElem hil] using hn
    exact h0 (by rw [← hx]; simp)
  | succ fuel ih =>
    intro listed a w hs hn hc ht hk hcl hh
    refine ⟨fun h0 => ?_, fun i hi => ?_⟩
    · have := all_listed hacy hs h0 n (by omega)
      rw [this] at hn
      cases hn
    obtain ⟨hun, o, ho, hall⟩ := mem_ready.1 hi
    have hlt : i < ops.size := (Array.getElem?_eq_some_iff.1 ho).1
    have hil : i < listed.size := by omega
    have hready : ∀ j, waitsB ops i j = true → listed.getD j false = true := fun j hj => by
      obtain ⟨o', ho', e, he, hb, hej⟩ := waits_spec hj
      rw [ho] at ho'
      cases ho'
      have := hall e he hb
      rwa [hej] at this
    by_cases hin' : i = n
    · subst hin'
      obtain rfl : on = o := by rw [hon] at ho; simpa using ho
      have hl : ∀ j, j < i → listed.getD j false = true := fun j hj => by
        obtain ⟨e, he, hb, hej⟩ := hwait j hj
        have := hall e he hb
        rwa [hej] at this
      refine hend a w ht hk (fun j hj hjD => ?_) _ fun a' w' hq => wpAny_done hq fuel _ fun j hj => ?_
      · rcases Nat.lt_or_ge j i with h | h
        · exact hh j (hl j h) (.inl hjD)
        · obtain rfl : j = i := by omega
          intro o' d' ho' hd'
          rw [hon] at ho'
          cases ho'
          rw [hdn] at hd'
          cases hd'
      · simp only [Array.getD_eq_getD_getElem?]
        by_cases e : j = i
        · subst e
          simp [hil]
        · rw [Array.getElem?_setIfInBounds_ne (fun h => e h.symm)]
          have := hl j (by omega)
          simpa only [Array.getD_eq_getD_getElem?] using this
    have hif : listed[i] = false := by simpa [Array.getD_eq_getD_getElem?, Array.getElem?_eq_getElem hil] using hun
    have hun' : listed.getD i false = false := by simp [Array.getD_eq_getD_getElem?, Array.getElem?_eq_getElem hil, hif]
    have hset : ∀ j, (listed.setIfInBounds i true).getD j false = true ↔ (j = i ∨ listed.getD j false = true) := fun j => by
      simp only [Array.getD_eq_getD_getElem?]
      by_cases e : j = i
      · subst e; simp [hil]
      · rw [Array.getElem?_setIfInBounds_ne (fun h => e h.symm)]; simp [e]
    have hcl' : Closed ops (listed.setIfInBounds i true) := fun i' j' hw hl' => by
      rw [hset] at hl' ⊢
      rcases hl' with rfl | hl'
      · exact .inr (hready j' hw)
      · exact .inr (hcl i' j' hw hl')
    have hkn : ∀ v, Known ops a0 (a.put o.dst v) := fun v => by
      obtain ⟨k1, k2, k3⟩ := hk
      cases hd : o.dst with
      | none => exact ⟨k1, k2, k3⟩
      | some d =>
        refine ⟨k1, by simp [Act.put, k2], fun q hq => ?_⟩
        have hne : d ≠ q := fun e => hq i o ho (by rw [hd, e])
        simp only [Act.put]
        rw [Array.getElem?_setIfInBounds_ne hne]
        exact k3 q hq
    have hcount : (listed.setIfInBounds i true).toList.count false ≤ fuel := by
      rw [Array.toList_setIfInBounds, List.count_set (by simpa using hil)]
      have : listed.toList[i]'(by simpa using hil) = false := by simpa using hif
      rw [this]
      have hpos : 0 < listed.toList.count false := List.count_pos_iff.2 (by rw [← this]; simp)
      have e1 : (if (false == false) = true then 1 else 0 : Nat) = 1 := rfl
      have e2 : (if (true == false) = true then 1 else 0 : Nat) = 0 := rfl
      rw [e1, e2]
      omega
    have hnn : (listed.setIfInBounds i true).getD n false = false := by
      cases h : (listed.setIfInBounds i true).getD n false with
      | false => rfl
      | true =>
        rcases (hset n).1 h with h' | h'
        · exact absurd h'.symm hin'
        · rw [hn] at h'; cases h'
    have hput : ∀ (v : Value) (w' : World) (j : Nat) (o' : Oper) (d' : Tmp), ops[j]? = some o' → o'.dst = some d' → j ≠ i → (a.put o.dst v).eval (.tmp d') = a.eval (.tmp d') := fun v w' j o' d' ho' hd' hne => by
      cases hd : o.dst with
      | none => rfl
      | some d =>
        have hne2 : d ≠ d' := fun e2 => hne (hdst j i o' o d' ho' ho hd' (by rw [hd, e2]))
        simp [Act.put, Act.eval, Array.getElem?_setIfInBounds_ne hne2]
    have hown : ∀ (v : Value) (d' : Tmp), o.dst = some d' → (a.put o.dst v).tmps[d']? = some v := fun v d' hd' => by
      rw [hd']
      have := hin i o d' ho hd'
      simp [Act.put, hk.2.1, this]
    by_cases hij : i = jw
    · subst hij
      obtain ⟨hwant, v, w', hrun, hφ, ht'⟩ := hwr o ho a w ht hk fun e he hb => hh e.on (hall e he hb) (.inr hun')
      unfold Go.wpOp
      simp only [ho]
      rw [if_pos hwant]
      left
      unfold Oper.wp
      rw [hrun]
      refine ih _ _ _ (by simpa using hs) hnn hcount ht' (hkn v) hcl' fun j hj hjD => ?_
      intro o' d' ho' hd'
      by_cases e : j = i
      · subst e
        obtain rfl : o = o' := by rw [ho] at ho'; simpa using ho'
        exact ⟨v, hown v d' hd', hφ⟩
      · have hjl : listed.getD j false = true := by
          rcases (hset j).1 hj with h | h
          · exact absurd h e
          · exact h
        have hjD' : j ∉ D := by
          rcases hjD with h | h
          · exact h
          · have := (hset i).2 (.inl rfl)
            rw [this] at h
            cases h
        have hji : j < i := by
          rcases Nat.lt_or_ge i j with h | h
          · have hlj : j < ops.size := by
              rcases Nat.lt_or_ge j listed.size with h' | h'
              · omega
              · simp [Array.getD_eq_getD_getElem?, Array.getElem?_eq_none h'] at hjl
            rcases (hI j hlj).1 with h' | h'
            · omega
            · have := hcl j i h' hjl
              rw [hun'] at this
              cases this
          · omega
        obtain ⟨u, hu, hΦ⟩ := hh j hjl (.inl hjD') o' d' ho' hd'
        have hc0 : okL L j u w' := by
          unfold constB at hcon
          rw [List.all_eq_true] at hcon
          have := hcon j (List.mem_range.2 hji)
          simp only [Bool.or_eq_true, List.contains_iff_mem] at this
          rcases this with h | h
          · exact absurd h hjD'
          · unfold okL at hΦ ⊢
            cases hLj : L[j]? with
            | none => trivial
            | some l =>
              rw [hLj] at h hΦ
              cases l with
              | const c => exact hΦ
              | pred φ => cases h
        refine ⟨u, ?_, hc0⟩
        cases hd : o.dst with
        | none => exact hu
        | some d =>
          have hne : d ≠ d' := fun e2 => e (hdst j i o' o d' ho' ho hd' (by rw [hd, e2]))
          simp only [Act.put]
          rw [Array.getElem?_setIfInBounds_ne hne]
          exact hu
    · have hdeps : ∀ e ∈ o.after, Region.binds .any e = true → Has ops (okL L) a w e.on := fun e he hb => by
        refine hh e.on (hall e he hb) ?_
        by_cases hjl : listed.getD jw false = true
        · left
          intro hmem
          have hw := waits_of ho he hb
          rcases (hI i hlt).2 with ((h | h) | h) | h
          · exact hij (by simpa using h)
          · have hiD : i ∈ D := by simpa using h
            have hdl := hDall listed hcl i hiD (fun j hj => hcl jw j hj hjl)
            rw [hun'] at hdl
            cases hdl
          · exact hin' (by simpa using h)
          · have := h e.on hmem
            rw [hw] at this
            cases this
        · right
          simpa using hjl
      refine DoesG.wpOp ho (hop i o ho (by omega) hij a w ht hk hdeps) fun v w' hφ t => ?_
      refine ih _ _ _ (by simpa using hs) hnn hcount (ht.trans t (by simp)) (hkn v) hcl' fun j hj hjD => ?_
      intro o' d' ho' hd'
      by_cases e : j = i
      · subst e
        obtain rfl : o = o' := by rw [ho] at ho'; simpa using ho'
        exact ⟨v, hown v d' hd', hφ⟩
      · have hjl : listed.getD j false = true := by
          rcases (hset j).1 hj with h | h
          · exact absurd h e
          · exact h
        have hjD' : j ∉ D ∨ listed.getD jw false = false := by
          rcases hjD with h | h
          · exact .inl h
          · right
            cases hjw : listed.getD jw false with
            | false => rfl
            | true =>
              have := (hset jw).2 (.inr hjw)
              rw [this] at h
              cases h
        obtain ⟨u, hu, hΦ⟩ := hh j hjl hjD' o' d' ho' hd'
        refine ⟨u, ?_, hst j u w w' hΦ t⟩
        cases hd : o.dst with
        | none => exact hu
        | some d =>
          have hne : d ≠ d' := fun e2 => e (hdst j i o' o d' ho' ho hd' (by rw [hd, e2]))
          simp only [Act.put]
          rw [Array.getElem?_setIfInBounds_ne hne]
          exact hu

/-- The leaves without what D has left. -/
def forget (D : List Nat) (L : List Leaf) : List Leaf := L.mapIdx fun j l => if j ∈ D then .pred (fun _ _ => True) else l
theorem forget_get (D : List Nat) (L : List Leaf) (j : Nat) : (forget D L)[j]? = (L[j]?).map fun l => if j ∈ D then .pred (fun _ _ => True) else l := by
  unfold forget
  rw [List.getElem?_mapIdx]
/-- The same with the state ahead of the store written out. -/
theorem wp_region_local {id : Nat} {a0 : Act} {w wd : World} {l : List Oper} (n jw : Nat) (D : List Nat) (L : List Leaf) (hm : P.follows .mixedOrders = true) (hB : phiB l.toArray a0.tmps.size = true) (hL : slotsB (forget D L) l = true) (hlast : lastB l.toArray n = true)
    (hloc : localB l.toArray n jw D = true) (hcon : constB L jw D = true) (hw : Touch [] wd w.drew) (hst : StabL L)
    (hop : ∀ (i : Nat) (o : Oper), l[i]? = some o → i < n → i ≠ jw → ∀ a w, Touch [] wd w → Known l.toArray a0 a → (∀ e ∈ o.after, Region.binds .any e = true → Has l.toArray (okL L) a w e.on) → DoesG P l.toArray (okL L i) o a w)
    (hwr : ∀ (o : Oper), l[jw]? = some o → ∀ a w, Touch [] wd w → Known l.toArray a0 a → (∀ e ∈ o.after, Region.binds .any e = true → Has l.toArray (okL L) a w e.on) → LocalDoes P l.toArray wd (okL L jw) o a w)
    (hend : ∀ (x : Nat → Value) (w : World), Touch [] wd w → KnowL x w (forget D L) 0 → wpList P l.toArray Q (l.drop n) (putL x (forget D L) l 0 a0) w) : (Code.region id l.toArray true).wp P Q a0 w := by
  obtain ⟨h1, h2, h3⟩ := phiB_spec hB
  obtain ⟨hsz, on, hon, hdn, hwait⟩ := lastB_spec hlast
  have hln : l.length = n + 1 := by simpa using hsz
  have hon' : l[n]? = some on := by simpa using hon
  have hdrop : l.drop n = [on] := by
    have hlt : n < l.length := by omega
    have e := List.drop_eq_getElem_cons hlt
    rw [e]
    have : l[n] = on := by
      rw [List.getElem?_eq_getElem hlt] at hon'
      simpa using hon'
    rw [this, List.drop_of_length_le (by omega)]
  refine wp_region_any hm (wpAny_phi6 (n := n) (jw := jw) (D := D) (L := L) (okL_stab hst) h1 h2 h3 hlast hloc hcon (fun i o ho => hop i o (by simpa using ho)) (fun o ho => hwr o (by simpa using ho)) (fun a w ht hk hh K hK => ?_) l.toArray.size (Array.replicate l.toArray.size false) a0 _ (by simp) ?_ (by simp) hw ⟨rfl, rfl, fun _ _ => rfl⟩ (fun i j _ hj => ?_) (fun j hj => ?_))
  · have hh' : ∀ j, j < l.toArray.size → Has l.toArray (okL (forget D L)) a w j := fun j hj => by
      intro o' d' ho' hd'
      by_cases hjD : j ∈ D
      · have hd : d' < a.tmps.size := by rw [hk.2.1]; exact h2 j o' d' ho' hd'
        refine ⟨a.tmps[d'], Array.getElem?_eq_getElem hd, ?_⟩
        unfold okL
        rw [forget_get]
        cases hLj : L[j]? with
        | none => simp
        | some l => simp [hjD, Leaf.ok]
      · obtain ⟨u, hu, hΦ⟩ := hh j hj hjD o' d' ho' hd'
        refine ⟨u, hu, ?_⟩
        unfold okL at hΦ ⊢
        rw [forget_get]
        cases hLj : L[j]? with
        | none => simp
        | some l => rw [hLj] at hΦ; simpa [hjD] using hΦ
    have hx : ∀ (j : Nat) (o : Oper) (d : Tmp), l.toArray[j]? = some o → o.dst = some d → (fun j => a.tmps.getD (((l[j]?).bind (·.dst)).getD 0) undef) j = a.tmps.getD d undef := fun j o d ho hd => by
      have ho' : l[j]? = some o := by simpa using ho
      simp [ho', hd]
    have e := putL_all (a := a) (w := w) (L0 := forget D L) (fun j => a.tmps.getD (((l[j]?).bind (·.dst)).getD 0) undef) hx hh' (forget D L) l 0 a0 (fun j => by rw [Nat.zero_add]) (fun j => by rw [Nat.zero_add]; simp) (slotsB_length hL) hk.1.symm hk.2.1.symm
      (fun t hn => (hk.2.2 t fun j o ho => hn j o (Nat.zero_le _) ho).symm)
    have k := knowL_of (a := a) (w := w) (L0 := forget D L) _ hx hh' (forget D L) l 0 (fun j => by rw [Nat.zero_add]) (fun j => by rw [Nat.zero_add]; simp) hL
    have := hend _ w ht k
    rw [e, hdrop] at this
    have hw' : wpOp P l.toArray Q n (wpList P l.toArray Q []) a w := by
      unfold wpOp
      simp only [hon]
      exact this
    exact wpOp_mono (fun a' w' h' => hK a' w' h') hw'
  · simp only [Array.getD_eq_getD_getElem?]
    rw [Array.getElem?_replicate]
    split <;> rfl
  · simp only [Array.getD_eq_getD_getElem?] at hj
    rw [Array.getElem?_replicate] at hj
    split at hj <;> simp at hj
  · simp only [Array.getD_eq_getD_getElem?] at hj
    rw [Array.getElem?_replicate] at hj
    split at hj <;> simp at hj
end
end Go.Proofs.Ytcfogoepoghedaa
