/-
  Regions that draw their order, whose operations make new memory alone, up to the last one, a store that waits for all others.
-/
import Derived.Test.YtcfogoepoghedaaPhi3
import Derived.StillTail
namespace Go.Proofs.Ytcfogoepoghedaa
open Go.ChangeShapes Go.WideShapes Go.ChangeAt Go.RowKit Go.Deep
set_option linter.unusedVariables false

def lastB (ops : Array Oper) (n : Nat) : Bool :=
  decide (ops.size = n + 1) && match ops[n]? with
    | some o => o.dst.isNone && (List.range n).all fun j => o.after.any fun e => (e.on == j) && Region.binds .any e
    | none => false
section
variable {P : Program} {ops : Array Oper} {Q : Exit → Act → World → Prop}
theorem lastB_spec {n : Nat} (h : lastB ops n = true) : ops.size = n + 1 ∧ ∃ o, ops[n]? = some o ∧ o.dst = none ∧ ∀ j, j < n → ∃ e ∈ o.after, Region.binds .any e = true ∧ e.on = j := by
  unfold lastB at h
  rw [Bool.and_eq_true, decide_eq_true_eq] at h
  obtain ⟨h1, h2⟩ := h
  refine ⟨h1, ?_⟩
  cases ho : ops[n]? with
  | none => rw [ho] at h2; simp at h2
  | some o =>
    rw [ho] at h2
    simp only [Bool.and_eq_true, Option.isNone_iff_eq_none, List.all_eq_true, List.mem_range, Array.any_eq_true'] at h2
    refine ⟨o, rfl, h2.1, fun j hj => ?_⟩
    obtain ⟨e, he, h3, h4⟩ := by simpa using h2.2 j hj
    exact ⟨e, he, h4, by simpa using h3⟩

theorem wpAny_done {a : Act} {w : World} (h : Q .normal a w) : ∀ (fuel : Nat) (listed : Array Bool), (∀ i, i < ops.size → listed.getD i false = true) → wpAny P .any ops Q fuel listed a w
  | 0, listed, hall => ⟨none_ready hall, h⟩
  | fuel + 1, listed, hall => ⟨fun _ => h, fun i hi => by rw [none_ready hall] at hi; cases hi⟩

theorem wpAny_phi5 {a0 : Act} {wd : World} {Φ : Nat → Value → World → Prop} {n : Nat} (hst : ∀ j, Stab (Φ j)) (hdst : ∀ (i j : Nat) (o o' : Oper) (d : Tmp), ops[i]? = some o → ops[j]? = some o' → o.dst = some d → o'.dst = some d → i = j)
    (hin : ∀ (i : Nat) (o : Oper) (d : Tmp), ops[i]? = some o → o.dst = some d → d < a0.tmps.size) (hacy : ∀ (i : Nat) (o : Oper) (e : Edge), ops[i]? = some o → e ∈ o.after → Region.binds .any e = true → e.on < i)
    (hlast : lastB ops n = true)
    (hop : ∀ (i : Nat) (o : Oper), ops[i]? = some o → i < n → ∀ a w, Touch [] wd w → Known ops a0 a → (∀ e ∈ o.after, Region.binds .any e = true → Has ops Φ a w e.on) → DoesG P ops (Φ i) o a w)
    (hend : ∀ a w, Touch [] wd w → Known ops a0 a → (∀ j, j < ops.size → Has ops Φ a w j) → ∀ K : Act → World → Prop, (∀ a' w', Q .normal a' w' → K a' w') → wpOp P ops Q n K a w) :
    ∀ (fuel : Nat) (listed : Array Bool) (a : Act) (w : World), listed.size = ops.size → listed.getD n false = false → listed.toList.count false ≤ fuel → Touch [] wd w → Known ops a0 a → (∀ j, listed.getD j false = true → Has ops Φ a w j) → wpAny P .any ops Q fuel listed a w := by
  obtain ⟨hsz, on, hon, hdn, hwait⟩ := lastB_spec hlast
  intro fuel
  induction fuel with
  | zero =>
    intro listed a w hs hn hc ht hk hh
    exfalso
    have hil : n < listed.size := by omega
    have h0 : listed.toList.count false = 0 := by omega
    rw [List.count_eq_zero] at h0
    have hx : listed[n] = false := by simpa [Array.getD_eq_getD_getElem?, Array.getElem?_eq_getElem hil] using hn
    exact h0 (by rw [← hx]; simp)
  | succ fuel ih =>
    intro listed a w hs hn hc ht hk hh
    refine ⟨fun h0 => ?_, fun i hi => ?_⟩
    · have := all_listed hacy hs h0 n (by omega)
      rw [this] at hn
      cases hn
    obtain ⟨hun, o, ho, hall⟩ := mem_ready.1 hi
    have hlt : i < ops.size := (Array.getElem?_eq_some_iff.1 ho).1
    have hil : i < listed.size := by omega
    by_cases hin' : i = n
    · subst hin'
      obtain rfl : on = o := by rw [hon] at ho; simpa using ho
      have hl : ∀ j, j < i → listed.getD j false = true := fun j hj => by
        obtain ⟨e, he, hb, hej⟩ := hwait j hj
        have := hall e he hb
        rwa [hej] at this
      refine hend a w ht hk (fun j hj => ?_) _ fun a' w' hq => wpAny_done hq fuel _ fun j hj => ?_
      · rcases Nat.lt_or_ge j i with h | h
        · exact hh j (hl j h)
        · obtain rfl : j = i := by omega
          intro o' d' ho' hd'
          rw [hon] at ho'
          cases ho'
          rw [hdn] at hd'
          cases hd'
      · simp only [Array.getD_eq_getD_getElem?]
        by_cases e : j = i
        · subst e
          simp [hil]
        · rw [Array.getElem?_setIfInBounds_ne (fun h => e h.symm)]
          have := hl j (by omega)
          simpa only [Array.getD_eq_getD_getElem?] using this
    have hif : listed[i] = false := by simpa [Array.getD_eq_getD_getElem?, Array.getElem?_eq_getElem hil] using hun
    refine DoesG.wpOp ho (hop i o ho (by omega) a w ht hk fun e he hb => hh e.on (hall e he hb)) fun v w' hφ t => ?_
    refine ih _ _ _ (by simpa using hs) ?_ ?_ (ht.trans t (by simp)) ?_ ?_
    · simp only [Array.getD_eq_getD_getElem?] at hn ⊢
      rwa [Array.getElem?_setIfInBounds_ne (fun h => hin' h)]
    · rw [Array.toList_setIfInBounds, List.count_set (by simpa using hil)]
      have : listed.toList[i]'(by simpa using hil) = false := by simpa using hif
      rw [this]
      have hpos : 0 < listed.toList.count false := List.count_pos_iff.2 (by rw [← this]; simp)
      have e1 : (if (false == false) = true then 1 else 0 : Nat) = 1 := rfl
      have e2 : (if (true == false) = true then 1 else 0 : Nat) = 0 := rfl
      rw [e1, e2]
      omega
    · obtain ⟨k1, k2, k3⟩ := hk
      cases hd : o.dst with
      | none => exact ⟨k1, k2, k3⟩
      | some d =>
        refine ⟨k1, by simp [Act.put, k2], fun q hq => ?_⟩
        have hne : d ≠ q := fun e => hq i o ho (by rw [hd, e])
        simp only [Act.put]
        rw [Array.getElem?_setIfInBounds_ne hne]
        exact k3 q hq
    · intro j hj o' d' ho' hd'
      by_cases e : j = i
      · subst e
        obtain rfl : o = o' := by rw [ho] at ho'; simpa using ho'
        refine ⟨v, ?_, hφ⟩
        rw [hd']
        have := hin j o d' ho hd'
        simp [Act.put, hk.2.1, this]
      · have hjl : listed.getD j false = true := by
          simp only [Array.getD_eq_getD_getElem?] at hj ⊢
          rwa [Array.getElem?_setIfInBounds_ne (fun h => e h.symm)] at hj
        obtain ⟨u, hu, hΦ⟩ := hh j hjl o' d' ho' hd'
        refine ⟨u, ?_, hst j u w w' hΦ t⟩
        cases hd : o.dst with
        | none => exact hu
        | some d =>
          have hne : d ≠ d' := fun e2 => e (hdst j i o' o d' ho' ho hd' (by rw [hd, e2]))
          simp only [Act.put]
          rw [Array.getElem?_setIfInBounds_ne hne]
          exact hu

/-- The same with the state ahead of the store written out. -/
theorem wp_region_store {id : Nat} {a0 : Act} {w wd : World} {l : List Oper} (n : Nat) (L : List Leaf) (hm : P.follows .mixedOrders = true) (hB : phiB l.toArray a0.tmps.size = true) (hL : slotsB L l = true) (hlast : lastB l.toArray n = true) (hw : Touch [] wd w.drew) (hst : StabL L)
    (hop : ∀ (i : Nat) (o : Oper), l[i]? = some o → i < n → ∀ a w, Touch [] wd w → Known l.toArray a0 a → (∀ e ∈ o.after, Region.binds .any e = true → Has l.toArray (okL L) a w e.on) → DoesG P l.toArray (okL L i) o a w)
    (hend : ∀ (x : Nat → Value) (w : World), Touch [] wd w → KnowL x w L 0 → wpList P l.toArray Q (l.drop n) (putL x L l 0 a0) w) : (Code.region id l.toArray true).wp P Q a0 w := by
  obtain ⟨h1, h2, h3⟩ := phiB_spec hB
  obtain ⟨hsz, on, hon, hdn, hwait⟩ := lastB_spec hlast
  have hln : l.length = n + 1 := by simpa using hsz
  have hon' : l[n]? = some on := by simpa using hon
  have hdrop : l.drop n = [on] := by
    have hlt : n < l.length := by omega
    have e := List.drop_eq_getElem_cons hlt
    rw [e]
    have : l[n] = on := by
      rw [List.getElem?_eq_getElem hlt] at hon'
      simpa using hon'
    rw [this, List.drop_of_length_le (by omega)]
  refine wp_region_any hm (wpAny_phi5 (n := n) (okL_stab hst) h1 h2 h3 hlast (fun i o ho => hop i o (by simpa using ho)) (fun a w ht hk hh K hK => ?_) l.toArray.size (Array.replicate l.toArray.size false) a0 _ (by simp) ?_ (by simp) hw ⟨rfl, rfl, fun _ _ => rfl⟩ (fun j hj => ?_))
  · have hx : ∀ (j : Nat) (o : Oper) (d : Tmp), l.toArray[j]? = some o → o.dst = some d → (fun j => a.tmps.getD (((l[j]?).bind (·.dst)).getD 0) undef) j = a.tmps.getD d undef := fun j o d ho hd => by
      have ho' : l[j]? = some o := by simpa using ho
      simp [ho', hd]
    have e := putL_all (a := a) (w := w) (L0 := L) (fun j => a.tmps.getD (((l[j]?).bind (·.dst)).getD 0) undef) hx hh L l 0 a0 (fun j => by rw [Nat.zero_add]) (fun j => by rw [Nat.zero_add]; simp) (slotsB_length hL) hk.1.symm hk.2.1.symm
      (fun t hn => (hk.2.2 t fun j o ho => hn j o (Nat.zero_le _) ho).symm)
    have k := knowL_of (a := a) (w := w) (L0 := L) _ hx hh L l 0 (fun j => by rw [Nat.zero_add]) (fun j => by rw [Nat.zero_add]; simp) hL
    have := hend _ w ht k
    rw [e, hdrop] at this
    have hw' : wpOp P l.toArray Q n (wpList P l.toArray Q []) a w := by
      unfold wpOp
      simp only [hon]
      exact this
    exact wpOp_mono (fun a' w' h' => hK a' w' h') hw'
  · simp only [Array.getD_eq_getD_getElem?]
    rw [Array.getElem?_replicate]
    split <;> rfl
  · simp only [Array.getD_eq_getD_getElem?] at hj
    rw [Array.getElem?_replicate] at hj
    split at hj <;> simp at hj
end
end Go.Proofs.Ytcfogoepoghedaa
