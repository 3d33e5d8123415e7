/-
  Layer 31 (wrr): whose turn it is: the numbers.
-/
import Derived.Test.YtcggpgjnjfjfnaaWrr2
namespace Go.Proofs.Ytcggpgjnjfjfnaa
open Go.ChangeShapes Go.WideShapes Go.ChangeAt Go.RowKit Go.Deep Go.Maps
set_option linter.unusedVariables false
set_option linter.unusedSimpArgs false

def turn1 : List Int → List Int
  | [] => []
  | a :: M => M ++ [a]
def rotL : Nat → List Int → List Int
  | 0, L => L
  | i + 1, L => turn1 (rotL i L)
theorem turn1_length (L : List Int) : (turn1 L).length = L.length := by cases L <;> simp [turn1]
theorem rotL_length (i : Nat) (L : List Int) : (rotL i L).length = L.length := by
  induction i with
  | zero => rfl
  | succ i ih => rw [rotL, turn1_length, ih]
theorem turn1_mem {L : List Int} {x : Int} : x ∈ turn1 L ↔ x ∈ L := by
  cases L with
  | nil => rfl
  | cons a M => simp [turn1, or_comm]
theorem rotL_mem {i : Nat} {L : List Int} {x : Int} : x ∈ rotL i L ↔ x ∈ L := by
  induction i with
  | zero => rfl
  | succ i ih => rw [rotL, turn1_mem, ih]
theorem rotL_add (i j : Nat) (L : List Int) : rotL (i + j) L = rotL i (rotL j L) := by
  induction i with
  | zero => simp [rotL]
  | succ i ih => rw [Nat.succ_add, rotL, rotL, ih]
theorem rotL_upto (L : List Int) : ∀ j, j ≤ L.length → rotL j L = L.drop j ++ L.take j
  | 0, _ => by simp [rotL]
  | j + 1, h => by
    rw [rotL, rotL_upto L j (by omega), List.drop_eq_getElem_cons (by omega), List.cons_append]
    show (L.drop (j + 1) ++ L.take j) ++ [L[j]] = _
    rw [List.append_assoc, List.take_succ_eq_append_getElem (by omega)]
theorem rotL_all (L : List Int) : rotL L.length L = L := by rw [rotL_upto L _ (Nat.le_refl _)]; simp
def hdx (L : List Int) (i : Nat) : Int := at0 (rotL i L) 0
theorem hdx_lt {L : List Int} {j : Nat} (h : j < L.length) : hdx L j = at0 L j := by
  unfold hdx at0
  rw [rotL_upto L j (by omega), List.getElem?_append_left (by rw [List.length_drop]; omega), List.getElem?_drop]
  rfl
theorem hdx_per (L : List Int) (i : Nat) : hdx L (i + L.length) = hdx L i := by
  unfold hdx
  rw [rotL_add, rotL_all]
theorem hdx_pers (L : List Int) (i m : Nat) : hdx L (i + m * L.length) = hdx L i := by
  induction m with
  | zero => simp
  | succ m ih => rw [Nat.succ_mul, ← Nat.add_assoc, hdx_per, ih]
theorem rotL_cons {L : List Int} (h : L ≠ []) (i : Nat) : ∃ M, rotL i L = hdx L i :: M := by
  cases hr : rotL i L with
  | nil =>
    have := rotL_length i L
    rw [hr] at this
    exact absurd (List.length_eq_zero_iff.1 this.symm) h
  | cons a M => exact ⟨M, by unfold hdx; rw [hr]; rfl⟩
theorem hdx_mem {L : List Int} (h : L ≠ []) (i : Nat) : hdx L i ∈ L := by
  obtain ⟨M, hM⟩ := rotL_cons h i
  have : hdx L i ∈ rotL i L := by rw [hM]; simp
  exact rotL_mem.1 this

abbrev Acc := Int → Option (Int × Int)
def visC (C : Acc) (id : Int) : Acc := match C id with
  | some x => updC C id (some (clampC x.2 (satAdd x.1 x.2), x.2))
  | none => C
def crd (C : Acc) (id : Int) : Int := ((C id).getD (0, 0)).1
def crs (able : Int → Bool) (L : List Int) (C : Acc) : Nat → Acc
  | 0 => C
  | i + 1 => if able (hdx L i) = true then visC (crs able L C i) (hdx L i) else crs able L C i
def stops (able : Int → Bool) (L : List Int) (C : Acc) (i : Nat) : Prop := able (hdx L i) = true ∧ 0 < crd (crs able L C (i + 1)) (hdx L i)
theorem visC_dom (C : Acc) (id j : Int) : (visC C id j).isSome = (C j).isSome := by
  unfold visC
  cases h : C id with
  | none => rfl
  | some x =>
    simp only
    unfold updC
    split
    · rename_i e; rw [e, h]; rfl
    · rfl
theorem crs_dom (able : Int → Bool) (L : List Int) (C : Acc) (i : Nat) (j : Int) : (crs able L C i j).isSome = (C j).isSome := by
  induction i with
  | zero => rfl
  | succ i ih =>
    rw [crs]
    split
    · rw [visC_dom, ih]
    · exact ih
theorem visC_ok {C : Acc} (h : ∀ i x, C i = some x → okAcc x) (id : Int) : ∀ i x, visC C id i = some x → okAcc x := by
  unfold visC
  cases hx : C id with
  | none => exact h
  | some x =>
    have ho := h id x hx
    refine ok_upd h id _ ?_
    rintro y ⟨⟩
    obtain ⟨a, b⟩ := clampC_in (q := x.2) (n := satAdd x.1 x.2) ho.1
    exact ⟨ho.1, ho.2.1, a, b⟩
theorem crs_ok {able : Int → Bool} {L : List Int} {C : Acc} (h : ∀ i x, C i = some x → okAcc x) (i : Nat) : ∀ j x, crs able L C i j = some x → okAcc x := by
  induction i with
  | zero => exact h
  | succ i ih =>
    rw [crs]
    split
    · exact visC_ok ih _
    · exact ih
/-- The visits that an account still wants, while none has stopped. -/
theorem visits_fall {able : Int → Bool} {L : List Int} {C : Acc} (hok : ∀ i x, C i = some x → okAcc x) {id : Int} {x : Int × Int} (hx : C id = some x) (hne : L ≠ []) (N : Nat) (hno : ∀ i, i < N → ¬ stops able L C i) (hab : able id = true) :
    ∀ i, i ≤ N → ∃ c, crs able L C i id = some (c, x.2) ∧ visitsV c x.2 + ((List.range i).filter fun j => hdx L j == id).length = visitsV x.1 x.2 := by
  intro i
  induction i with
  | zero => intro _; exact ⟨x.1, by rw [crs, hx], by simp⟩
  | succ i ih =>
    intro hi
    obtain ⟨c, hc, hv⟩ := ih (by omega)
    have ho := crs_ok (able := able) (L := L) hok i id _ hc
    rw [List.range_succ, List.filter_append, List.length_append]
    by_cases e : hdx L i = id
    · have hs := hno i (by omega)
      unfold stops at hs
      have hcr : crs able L C (i + 1) = visC (crs able L C i) (hdx L i) := by rw [crs, if_pos (by rw [e]; exact hab)]
      have hval : crs able L C (i + 1) id = some (clampC x.2 (satAdd c x.2), x.2) := by
        rw [hcr, e]
        unfold visC
        rw [hc]
        simp only
        exact updC_same _ _ _
      refine ⟨_, hval, ?_⟩
      have st := visit_step (c := c) (q := x.2) (m := visitsV c x.2) ⟨ho.1, ho.2.1⟩ ⟨ho.2.2.1, ho.2.2.2⟩ rfl
      have hpos : ¬ 0 < clampC x.2 (satAdd c x.2) := fun hp => hs ⟨by rw [e]; exact hab, by unfold crd; rw [e, hval]; exact hp⟩
      have h2 : 2 ≤ visitsV c x.2 := by
        rcases (show visitsV c x.2 = 1 ∨ 2 ≤ visitsV c x.2 by omega) with h | h
        · exact absurd (st.2.2.1 h) hpos
        · exact h
      have := (st.2.1 h2).2
      simp only [List.filter_cons, List.filter_nil, show (hdx L i == id) = true by simpa using e, if_true, List.length_singleton]
      omega
    · refine ⟨c, ?_, ?_⟩
      · rw [crs]
        split
        · unfold visC
          cases hz : crs able L C i (hdx L i) with
          | none => exact hc
          | some z =>
            simp only
            rw [updC_other _ _ (Ne.symm e)]
            exact hc
        · exact hc
      · simp only [List.filter_cons, List.filter_nil, show (hdx L i == id) = false by simpa using e]
        simpa using hv
theorem stop_in {able : Int → Bool} {L : List Int} {C : Acc} (hok : ∀ i x, C i = some x → okAcc x) {id : Int} (hin : id ∈ L) (hab : able id = true) (hC : (C id).isSome = true) : ∃ i, i < 65538 * L.length ∧ stops able L C i := by
  apply Classical.byContradiction
  intro hno
  have hno : ∀ i, i < 65538 * L.length → ¬ stops able L C i := fun i hi h => hno ⟨i, hi, h⟩
  obtain ⟨x, hx⟩ := Option.isSome_iff_exists.1 hC
  have ho := hok id x hx
  obtain ⟨j, hj, hje⟩ := List.getElem_of_mem hin
  have hje' : hdx L j = id := by rw [hdx_lt hj, at0, List.getElem?_eq_getElem hj]; exact hje
  have hne : L ≠ [] := by rintro rfl; simp at hin
  obtain ⟨m, hm⟩ : ∃ m : Nat, visitsV x.1 x.2 = (m : Int) := ⟨(visitsV x.1 x.2).toNat, by
    have := (visit_step (c := x.1) (q := x.2) (m := visitsV x.1 x.2) ⟨ho.1, ho.2.1⟩ ⟨ho.2.2.1, ho.2.2.2⟩ rfl).1
    omega⟩
  have hmb : m ≤ 65537 := by
    unfold visitsV at hm
    obtain ⟨h1, h2, h3, h4⟩ := ho
    have g0 : (0 : Int) ≤ (if 0 < -x.1 then -x.1 else 0) := by split <;> omega
    have g1 : (if 0 < -x.1 then -x.1 else 0) ≤ 65536 := by split <;> omega
    have hd' := Int.ediv_le_self x.2 g0
    omega
  have hup : j + m * L.length ≤ 65538 * L.length := by
    have := Nat.mul_le_mul_right L.length hmb
    omega
  have count : ∀ t, t ≤ ((List.range (j + t * L.length)).filter fun i => hdx L i == id).length := by
    intro t
    induction t with
    | zero => omega
    | succ t ih =>
      have hlen : 0 < L.length := by omega
      have e : j + (t + 1) * L.length = (j + t * L.length) + L.length := by rw [Nat.succ_mul]; omega
      rw [e, List.range_add, List.filter_append, List.length_append]
      have : 1 ≤ (((List.range L.length).map (fun x => j + t * L.length + x)).filter fun i => hdx L i == id).length := by
        apply List.length_pos_of_mem (a := j + t * L.length)
        rw [List.mem_filter]
        refine ⟨List.mem_map.2 ⟨0, List.mem_range.2 hlen, by omega⟩, ?_⟩
        rw [hdx_pers, hje']
        simp
      omega
  obtain ⟨c, hc, hv⟩ := visits_fall hok hx hne (j + m * L.length) (fun i hi => hno i (by omega)) hab (j + m * L.length) (Nat.le_refl _)
  have ho' := crs_ok (able := able) (L := L) hok (j + m * L.length) id _ hc
  have h1 := (visit_step (c := c) (q := x.2) (m := visitsV c x.2) ⟨ho'.1, ho'.2.1⟩ ⟨ho'.2.2.1, ho'.2.2.2⟩ rfl).1
  have h2 := count m
  omega
theorem stop_ex {able : Int → Bool} {L : List Int} {C : Acc} (hok : ∀ i x, C i = some x → okAcc x) {id : Int} (hin : id ∈ L) (hab : able id = true) (hC : (C id).isSome = true) : ∃ i, stops able L C i :=
  let ⟨i, _, h⟩ := stop_in hok hin hab hC
  ⟨i, h⟩
/-- The first one that stops. -/
theorem stop_first {able : Int → Bool} {L : List Int} {C : Acc} (h : ∃ i, stops able L C i) : ∃ i, stops able L C i ∧ ∀ j, j < i → ¬ stops able L C j := by
  obtain ⟨i, hi⟩ := h
  induction i using Nat.strongRecOn with
  | _ i ih =>
    by_cases h : ∃ j, j < i ∧ stops able L C j
    · obtain ⟨j, hj, hs⟩ := h
      exact ih j hj hs
    · exact ⟨i, hi, fun j hj hs => h ⟨j, hj, hs⟩⟩
def anyIn (able : Int → Bool) (L : List Int) : Bool := L.any able
/-- Without one who is able nothing is visited. -/
theorem crs_none {able : Int → Bool} {L : List Int} {C : Acc} (hne : L ≠ []) (h : anyIn able L = false) (i : Nat) : crs able L C i = C ∧ able (hdx L i) = false := by
  have hab : ∀ i, able (hdx L i) = false := fun i => by
    unfold anyIn at h
    rw [List.any_eq_false] at h
    have := h _ (hdx_mem hne i)
    simpa using this
  refine ⟨?_, hab i⟩
  induction i with
  | zero => rfl
  | succ i ih => rw [crs, if_neg (by rw [hab i]; decide), ih]
end Go.Proofs.Ytcggpgjnjfjfnaa
