/-
  Regions that draw their order, whose operations make new memory alone and may hand back fresh pointers: each operation by itself, in whatever state in which what it waits for has been done.
-/
import Derived.Test.YtcfogoepoghedaaCls
namespace Go.Proofs.Ytcfogoepoghedaa
open Go.ChangeShapes Go.WideShapes Go.ChangeAt Go.RowKit Go.Deep
set_option linter.unusedVariables false

/-- A predicate on a value and a world that new memory does not disturb. -/
def Stab (φ : Value → World → Prop) : Prop := ∀ v w w', φ v w → Touch [] w w' → φ v w'
/-- What an operation has led to. -/
def RunsTo (P : Program) (φ : Value → World → Prop) (w : World) : Result Next → Prop
  | .ok (.value v) w' => φ v w' ∧ Touch [] w w'
  | .ok (.enter f args) w' => Touch [] w w' ∧ Calls P f args w' fun e w'' => ∃ v, e = .returned v ∧ φ v w'' ∧ Touch [] w' w''
  | _ => False
def Does (P : Program) (ops : Array Oper) (φ : Value → World → Prop) (o : Oper) (a : Act) (w : World) : Prop :=
  Region.wanted o (yielded ops a.tmps) = true ∧ RunsTo P φ w ((execOp a.eval o).run P w)

section
variable {P : Program} {ops : Array Oper} {Q : Exit → Act → World → Prop}
theorem Does.wpOp {i : Nat} {o : Oper} {a : Act} {w : World} {φ : Value → World → Prop} {K : Act → World → Prop} (hi : ops[i]? = some o) (h : Does P ops φ o a w) (hK : ∀ v w', φ v w' → Touch [] w w' → K (a.put o.dst v) w') :
    wpOp P ops Q i K a w := by
  unfold Go.wpOp
  simp only [hi]
  rw [if_pos h.1]
  left
  have h2 := h.2
  unfold Oper.wp
  generalize (execOp a.eval o).run P w = r at *
  cases r with
  | ok n w' =>
    cases n with
    | value v => exact hK v w' h2.1 h2.2
    | enter f args =>
      obtain ⟨t, hc⟩ := h2
      show Calls P f args w' _
      exact hc.mono fun e w'' ⟨v, he, hφ, t'⟩ => by subst he; exact hK v w'' hφ (t.trans t' (by simp))
    | _ => exact h2.elim
  | halt x w' => exact h2.elim

/-- The slots into which the region does not write are as they were. -/
def Known (ops : Array Oper) (a0 a : Act) : Prop := a.defers = a0.defers ∧ a.tmps.size = a0.tmps.size ∧ ∀ t : Nat, (∀ (j : Nat) (o : Oper), ops[j]? = some o → o.dst ≠ some t) → a.tmps[t]? = a0.tmps[t]?
/-- What operation j has left. -/
def Has (ops : Array Oper) (Φ : Nat → Value → World → Prop) (a : Act) (w : World) (j : Nat) : Prop := ∀ (o : Oper) (d : Tmp), ops[j]? = some o → o.dst = some d → ∃ v, a.tmps[d]? = some v ∧ Φ j v w

theorem all_listed {listed : Array Bool} (hacy : ∀ (i : Nat) (o : Oper) (e : Edge), ops[i]? = some o → e ∈ o.after → Region.binds .any e = true → e.on < i) (hs : listed.size = ops.size) (h0 : Region.ready .any ops listed = []) :
    ∀ i, i < ops.size → listed.getD i false = true := by
  intro i
  induction i using Nat.strongRecOn with
  | _ i ih =>
    intro hi
    have hil : i < listed.size := by omega
    by_cases hl : listed.getD i true = false
    · exfalso
      have hm : i ∈ Region.ready .any ops listed := by
        refine mem_ready.2 ⟨hl, ops[i], Array.getElem?_eq_getElem hi, fun e he hb => ?_⟩
        have hlt := hacy i _ e (Array.getElem?_eq_getElem hi) he hb
        exact ih e.on hlt (by omega)
      rw [h0] at hm
      cases hm
    · simp only [Array.getD_eq_getD_getElem?, Array.getElem?_eq_getElem hil, Option.getD_some] at hl ⊢
      cases hx : listed[i]
      · exact absurd hx hl
      · rfl
theorem none_ready {listed : Array Bool} (h : ∀ i, i < ops.size → listed.getD i false = true) : Region.ready .any ops listed = [] := by
  rw [List.eq_nil_iff_forall_not_mem]
  intro j hj
  obtain ⟨h1, o, ho, _⟩ := mem_ready.1 hj
  have hlt : j < ops.size := (Array.getElem?_eq_some_iff.1 ho).1
  have h2 := h j hlt
  simp only [Array.getD_eq_getD_getElem?] at h1 h2
  cases hx : listed[j]? with
  | none => rw [hx] at h2; simp at h2
  | some b => rw [hx] at h1 h2; simp at h1 h2; rw [h1] at h2; cases h2

theorem wpAny_phi {a0 : Act} {wd : World} {Φ : Nat → Value → World → Prop} (hst : ∀ j, Stab (Φ j)) (hdst : ∀ (i j : Nat) (o o' : Oper) (d : Tmp), ops[i]? = some o → ops[j]? = some o' → o.dst = some d → o'.dst = some d → i = j)
    (hin : ∀ (i : Nat) (o : Oper) (d : Tmp), ops[i]? = some o → o.dst = some d → d < a0.tmps.size) (hacy : ∀ (i : Nat) (o : Oper) (e : Edge), ops[i]? = some o → e ∈ o.after → Region.binds .any e = true → e.on < i)
    (hop : ∀ (i : Nat) (o : Oper), ops[i]? = some o → ∀ a w, Touch [] wd w → Known ops a0 a → (∀ e ∈ o.after, Region.binds .any e = true → Has ops Φ a w e.on) → Does P ops (Φ i) o a w)
    (hend : ∀ a w, Touch [] wd w → Known ops a0 a → (∀ j, j < ops.size → Has ops Φ a w j) → Q .normal a w) :
    ∀ (fuel : Nat) (listed : Array Bool) (a : Act) (w : World), listed.size = ops.size → listed.toList.count false ≤ fuel → Touch [] wd w → Known ops a0 a → (∀ j, listed.getD j false = true → Has ops Φ a w j) → wpAny P .any ops Q fuel listed a w := by
  intro fuel
  induction fuel with
  | zero =>
    intro listed a w hs hc ht hk hh
    have hall : ∀ i, i < ops.size → listed.getD i false = true := by
      intro i hi
      have hil : i < listed.size := by omega
      have h0 : listed.toList.count false = 0 := by omega
      rw [List.count_eq_zero] at h0
      simp only [Array.getD_eq_getD_getElem?, Array.getElem?_eq_getElem hil, Option.getD_some]
      cases hx : listed[i]
      · exact absurd (by rw [← hx]; simp) h0
      · rfl
    exact ⟨none_ready hall, hend a w ht hk fun j hj => hh j (hall j hj)⟩
  | succ fuel ih =>
    intro listed a w hs hc ht hk hh
    refine ⟨fun h0 => hend a w ht hk fun j hj => hh j (all_listed hacy hs h0 j hj), fun i hi => ?_⟩
    obtain ⟨hun, o, ho, hall⟩ := mem_ready.1 hi
    have hlt : i < ops.size := (Array.getElem?_eq_some_iff.1 ho).1
    have hil : i < listed.size := by omega
    have hif : listed[i] = false := by simpa [Array.getD_eq_getD_getElem?, Array.getElem?_eq_getElem hil] using hun
    refine Does.wpOp ho (hop i o ho a w ht hk fun e he hb => hh e.on (hall e he hb)) fun v w' hφ t => ?_
    refine ih _ _ _ (by simpa using hs) ?_ (ht.trans t (by simp)) ?_ ?_
    · rw [Array.toList_setIfInBounds, List.count_set (by simpa using hil)]
      have : listed.toList[i]'(by simpa using hil) = false := by simpa using hif
      rw [this]
      have hpos : 0 < listed.toList.count false := List.count_pos_iff.2 (by rw [← this]; simp)
      have e1 : (if (false == false) = true then 1 else 0 : Nat) = 1 := rfl
      have e2 : (if (true == false) = true then 1 else 0 : Nat) = 0 := rfl
      rw [e1, e2]
      omega
    · obtain ⟨k1, k2, k3⟩ := hk
      cases hd : o.dst with
      | none => exact ⟨k1, k2, k3⟩
      | some d =>
        refine ⟨k1, by simp [Act.put, k2], fun q hq => ?_⟩
        have hne : d ≠ q := fun e => hq i o ho (by rw [hd, e])
        simp only [Act.put]
        rw [Array.getElem?_setIfInBounds_ne hne]
        exact k3 q hq
    · intro j hj o' d' ho' hd'
      by_cases e : j = i
      · subst e
        obtain rfl : o = o' := by rw [ho] at ho'; simpa using ho'
        refine ⟨v, ?_, hφ⟩
        rw [hd']
        have := hin j o d' ho hd'
        simp [Act.put, hk.2.1, this]
      · have hjl : listed.getD j false = true := by
          simp only [Array.getD_eq_getD_getElem?] at hj ⊢
          rwa [Array.getElem?_setIfInBounds_ne (fun h => e h.symm)] at hj
        obtain ⟨u, hu, hΦ⟩ := hh j hjl o' d' ho' hd'
        refine ⟨u, ?_, hst j u w w' hΦ t⟩
        cases hd : o.dst with
        | none => exact hu
        | some d =>
          have hne : d ≠ d' := fun e2 => e (hdst j i o' o d' ho' ho hd' (by rw [hd, e2]))
          simp only [Act.put]
          rw [Array.getElem?_setIfInBounds_ne hne]
          exact hu

/-- The conditions on a region's slots and edges, as one Bool. -/
def phiB (ops : Array Oper) (n : Nat) : Bool :=
  (List.range ops.size).all fun i => match ops[i]? with
    | none => true
    | some o => (o.after.all fun e => !Region.binds .any e || decide (e.on < i)) && (match o.dst with
      | none => true
      | some d => decide (d < n) && (List.range ops.size).all fun j => (j == i) || (match ops[j]? with | none => true | some o' => o'.dst != some d))
theorem phiB_spec {n : Nat} (h : phiB ops n = true) :
    (∀ (i j : Nat) (o o' : Oper) (d : Tmp), ops[i]? = some o → ops[j]? = some o' → o.dst = some d → o'.dst = some d → i = j) ∧ (∀ (i : Nat) (o : Oper) (d : Tmp), ops[i]? = some o → o.dst = some d → d < n) ∧ (∀ (i : Nat) (o : Oper) (e : Edge), ops[i]? = some o → e ∈ o.after → Region.binds .any e = true → e.on < i) := by
  unfold phiB at h
  rw [List.all_eq_true] at h
  have key : ∀ (i : Nat) (o : Oper), ops[i]? = some o → (o.after.all fun e => !Region.binds .any e || decide (e.on < i)) = true ∧ (match o.dst with
      | none => true
      | some d => decide (d < n) && (List.range ops.size).all fun j => (j == i) || (match ops[j]? with | none => true | some o' => o'.dst != some d)) = true := fun i o ho => by
    have := h i (List.mem_range.2 (Array.getElem?_eq_some_iff.1 ho).1)
    simp only [ho, Bool.and_eq_true] at this
    exact this
  refine ⟨fun i j o o' d ho ho' hd hd' => ?_, fun i o d ho hd => ?_, fun i o e ho he hb => ?_⟩
  · have := (key i o ho).2
    simp only [hd, Bool.and_eq_true, List.all_eq_true] at this
    have := this.2 j (List.mem_range.2 (Array.getElem?_eq_some_iff.1 ho').1)
    simp only [ho', hd', Bool.or_eq_true, beq_iff_eq, bne_self_eq_false, Bool.false_eq_true, or_false] at this
    exact this.symm
  · have := (key i o ho).2
    simp only [hd, Bool.and_eq_true, decide_eq_true_eq] at this
    exact this.1
  · have := (key i o ho).1
    rw [Array.all_eq_true'] at this
    have := this e he
    simpa [hb] using this

/-- A region that draws its order, by what each operation leaves. -/
theorem wp_region_phi {id : Nat} {a0 : Act} {w wd : World} {Φ : Nat → Value → World → Prop} (hm : P.follows .mixedOrders = true) (hB : phiB ops a0.tmps.size = true) (hw : Touch [] wd w.drew) (hst : ∀ j, Stab (Φ j))
    (hop : ∀ (i : Nat) (o : Oper), ops[i]? = some o → ∀ a w, Touch [] wd w → Known ops a0 a → (∀ e ∈ o.after, Region.binds .any e = true → Has ops Φ a w e.on) → Does P ops (Φ i) o a w)
    (hend : ∀ a w, Touch [] wd w → Known ops a0 a → (∀ j, j < ops.size → Has ops Φ a w j) → Q .normal a w) : (Code.region id ops true).wp P Q a0 w := by
  obtain ⟨h1, h2, h3⟩ := phiB_spec hB
  refine wp_region_any hm (wpAny_phi hst h1 h2 h3 hop hend ops.size (Array.replicate ops.size false) a0 _ (by simp) (by simp) hw ⟨rfl, rfl, fun _ _ => rfl⟩ (fun j hj => ?_))
  simp only [Array.getD_eq_getD_getElem?] at hj
  rcases Nat.lt_or_ge j ops.size with hlt | hge
  · simp [hlt] at hj
  · simp [Array.getElem?_eq_none (show (Array.replicate ops.size false).size ≤ j by simpa using hge)] at hj
end
end Go.Proofs.Ytcfogoepoghedaa
