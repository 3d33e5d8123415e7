/-
  The reference of layer 30 (credit): rows of accounts in a slice that is read, never written; At, Without, put.
-/
import Derived.Test.YtcggpgjnjfjfnaaCreditCopy
import Derived.Deep.DeepCutAuto
import Derived.OwnWalk
namespace Go.Proofs.Ytcggpgjnjfjfnaa
open Go.ChangeShapes Go.WideShapes Go.ChangeAt Go.RowKit Go.Deep Go.Maps
set_option linter.unusedVariables false

structure RowC where
  id : Int
  q : Int
  c : Int

def cof : List RowC → Int → Option (Int × Int)
  | [], _ => none
  | r :: L, i => if r.id = i then some (r.c, r.q) else cof L i
theorem cof_at {L : List RowC} {i : Int} : ∀ {j : Nat} {r : RowC}, L[j]? = some r → r.id = i → (∀ (j' : Nat) (r' : RowC), j' < j → L[j']? = some r' → r'.id ≠ i) → cof L i = some (r.c, r.q) := by
  induction L with
  | nil => intro j r h; simp at h
  | cons a L ih =>
    intro j r h hr hn
    unfold cof
    cases j with
    | zero =>
      simp at h
      subst h
      rw [if_pos hr]
    | succ j =>
      rw [if_neg (hn 0 a (by omega) rfl)]
      exact ih (by simpa using h) hr (fun j' r' hj hj' => hn (j' + 1) r' (by omega) (by simpa using hj'))
theorem cof_none {L : List RowC} {i : Int} (h : ∀ (j : Nat) (r : RowC), L[j]? = some r → r.id ≠ i) : cof L i = none := by
  induction L with
  | nil => rfl
  | cons a L ih =>
    unfold cof
    rw [if_neg (h 0 a rfl)]
    exact ih fun j r hj => h (j + 1) r (by simpa using hj)
def without (i : Int) (L : List RowC) : List RowC := L.filter fun r => r.id != i
theorem cof_without (L : List RowC) (i : Int) : cof (without i L) = updC (cof L) i none := by
  funext j
  unfold updC without
  induction L with
  | nil => simp [cof]
  | cons a L ih =>
    by_cases h : a.id = i
    · rw [List.filter_cons_of_neg (by simp [h]), ih]
      by_cases hj : j = i
      · rw [if_pos hj, if_pos hj]
      · rw [if_neg hj, if_neg hj]
        conv => rhs; unfold cof
        rw [if_neg (by omega)]
    · rw [List.filter_cons_of_pos (by simp [h])]
      conv => lhs; unfold cof
      rw [ih]
      conv => rhs; unfold cof
      by_cases h1 : a.id = j
      · rw [if_pos h1, if_pos h1, if_neg (by omega)]
      · rw [if_neg h1, if_neg h1]
def clampR (q n : Int) : Int := if n < -65536 then -65536 else if q < n then q else n
def putRow (i n : Int) (r : RowC) : RowC := if r.id = i then ⟨r.id, r.q, clampR r.q n⟩ else r
theorem cof_put (L : List RowC) (i n : Int) : ∀ j, cof (L.map (putRow i n)) j = if j = i then (cof L i).map (fun x => (clampR x.2 n, x.2)) else cof L j := by
  intro j
  induction L with
  | nil => simp [cof]
  | cons a L ih =>
    rw [List.map_cons]
    unfold cof
    rw [ih]
    unfold putRow
    by_cases h : a.id = i
    · by_cases hj : j = i
      · subst hj
        simp [h]
      · simp [h, hj, Ne.symm hj]
    · by_cases hj : j = i
      · subst hj
        simp [h]
      · simp [h, hj]
theorem clampR_is {q n : Int} (hq : 1 ≤ q) : clampR q n = clampC q n := by
  unfold clampR clampC
  repeat' split
  all_goals omega
theorem cof_puts {L : List RowC} {i n : Int} {x : Int × Int} (h : cof L i = some x) (hq : 1 ≤ x.2) : cof (L.map (putRow i n)) = updC (cof L) i (some (clampC x.2 n, x.2)) := by
  funext j
  rw [cof_put, h]
  unfold updC
  split
  · simp [clampR_is hq]
  · rfl
theorem cof_putn {L : List RowC} {i n : Int} (h : cof L i = none) : cof (L.map (putRow i n)) = cof L := by
  funext j
  rw [cof_put, h]
  split
  · rename_i e; rw [e, h]; rfl
  · rfl
theorem cof_open {L : List RowC} {i q : Int} (h : cof L i = none) : cof (L ++ [⟨i, q, 0⟩]) = updC (cof L) i (some (0, q)) := by
  funext j
  unfold updC
  induction L with
  | nil => 
    simp only [List.nil_append, cof]
    by_cases e : j = i
    · rw [if_pos e, if_pos e.symm]
    · rw [if_neg e, if_neg (fun x => e x.symm)]
  | cons a L ih =>
    unfold cof at h
    split at h
    · cases h
    · rename_i ha
      rw [List.cons_append]
      conv => lhs; unfold cof
      rw [ih h]
      conv => rhs; unfold cof
      by_cases h1 : a.id = j
      · rw [if_pos h1, if_pos h1, if_neg (by omega)]
      · rw [if_neg h1, if_neg h1]

/-! ### rows in memory -/
def rv (L : List RowC) : List Value := L.flatMap fun r => [.int .i64 r.id, .int .i64 r.q, .int .i64 r.c]
theorem rv_length (L : List RowC) : (rv L).length = L.length * 3 := by
  induction L with
  | nil => rfl
  | cons a L ih => rw [show rv (a :: L) = [.int .i64 a.id, .int .i64 a.q, .int .i64 a.c] ++ rv L from rfl, List.length_append, ih]; simp; omega
theorem rv_snoc (L : List RowC) (r : RowC) : rv (L ++ [r]) = rv L ++ [.int .i64 r.id, .int .i64 r.q, .int .i64 r.c] := by simp [rv]
theorem rv_get {L : List RowC} : ∀ {j : Nat} {r : RowC}, L[j]? = some r → (rv L)[j * 3]? = some (.int .i64 r.id) ∧ (rv L)[j * 3 + 1]? = some (.int .i64 r.q) ∧ (rv L)[j * 3 + 2]? = some (.int .i64 r.c) := by
  induction L with
  | nil => intro j r h; simp at h
  | cons a L ih =>
    intro j r h
    have e : rv (a :: L) = .int .i64 a.id :: .int .i64 a.q :: .int .i64 a.c :: rv L := rfl
    rw [e]
    cases j with
    | zero =>
      simp at h
      subst h
      exact ⟨rfl, rfl, rfl⟩
    | succ j =>
      obtain ⟨h1, h2, h3⟩ := ih (j := j) (r := r) (by simpa using h)
      rw [show (j + 1) * 3 = j * 3 + 1 + 1 + 1 by omega]
      exact ⟨by simpa using h1, by simpa using h2, by simpa using h3⟩
theorem rv_one (L : List RowC) : ∀ u ∈ rv L, u.oneCell' = true := by
  intro u hu
  simp [rv] at hu
  obtain ⟨r, _, h | h | h⟩ := hu <;> subst h <;> rfl

/-- The rows L lie in a slice, in no block of Z. -/
def RowsAt (Z : List Nat) (w : World) (v : Value) (L : List RowC) : Prop :=
  ∃ A c, v = .slice A L.length c ∧ (L.length ≤ c ∧ (A = none → c = 0)) ∧ c ≤ maxLen ∧ ∀ j r, L[j]? = some r → ∃ b off, A = some ⟨b, off, none⟩ ∧ b < w.heap.size ∧ b ∉ Z ∧
    w.cell? ⟨b, off + j * 3, none⟩ = some (.int .i64 r.id) ∧ w.cell? ⟨b, off + j * 3 + 1, none⟩ = some (.int .i64 r.q) ∧ w.cell? ⟨b, off + j * 3 + 2, none⟩ = some (.int .i64 r.c)
section
variable {Z Z' S : List Nat} {w w' : World} {v : Value} {L : List RowC}
theorem RowsAt.carry (h : RowsAt Z w v L) (t : Touch S w w') (hS : ∀ b ∈ S, b ∈ Z ∨ w.heap.size ≤ b) : RowsAt Z w' v L := by
  obtain ⟨A, c, rfl, h1, h2, h3⟩ := h
  refine ⟨A, c, rfl, h1, h2, fun j r hj => ?_⟩
  obtain ⟨b, off, hA, hb, hz, c0, c1, c2⟩ := h3 j r hj
  have hn : b ∉ S := fun hm => by rcases hS b hm with h | h <;> first | exact hz h | omega
  exact ⟨b, off, hA, Nat.lt_of_lt_of_le hb t.size, hz, (t.cell (a := ⟨b, _, none⟩) hb hn).trans c0, (t.cell (a := ⟨b, _, none⟩) hb hn).trans c1, (t.cell (a := ⟨b, _, none⟩) hb hn).trans c2⟩
theorem RowsAt.avoid (h : RowsAt Z w v L) (hZ : ∀ b ∈ Z', b ∈ Z ∨ w.heap.size ≤ b) : RowsAt Z' w v L := by
  obtain ⟨A, c, rfl, h1, h2, h3⟩ := h
  refine ⟨A, c, rfl, h1, h2, fun j r hj => ?_⟩
  obtain ⟨b, off, hA, hb, hz, hc⟩ := h3 j r hj
  exact ⟨b, off, hA, hb, fun hm => by rcases hZ b hm with h | h <;> first | exact hz h | omega, hc⟩
theorem RowsAt.own {base n : Nat} (h : w.ownsRow base 86 3 v n (rv L)) (hn : n = L.length) (hZ : ∀ b ∈ Z, b < base) : RowsAt Z w v L := by
  subst hn
  rcases h.2 with ⟨rfl, hl⟩ | ⟨g, cap, cur, rfl, h1, hh, h2, h3, h4, h5⟩
  · refine ⟨none, 0, by rw [hl], ⟨by omega, fun _ => rfl⟩, Nat.zero_le _, fun j r hj => ?_⟩
    have := (List.getElem?_eq_some_iff.1 hj).1
    omega
  · refine ⟨_, _, rfl, ⟨h2, fun h => by cases h⟩, h3, fun j r hj => ?_⟩
    have hlt := (List.getElem?_eq_some_iff.1 hj).1
    obtain ⟨g0, g1, g2⟩ := rv_get hj
    refine ⟨g, 0, rfl, (Array.getElem?_eq_some_iff.1 hh).1, fun hm => by have := hZ g hm; omega, ?_, ?_, ?_⟩
    · rw [Nat.zero_add, h.cellAt _ (by omega), g0]
    · rw [Nat.zero_add, h.cellAt _ (by omega), g1]
    · rw [Nat.zero_add, h.cellAt _ (by omega), g2]
theorem RowsAt.nil (Z : List Nat) (w : World) : RowsAt Z w (.slice none 0 0) [] := ⟨none, 0, rfl, ⟨Nat.le_refl _, fun _ => rfl⟩, Nat.zero_le _, fun j r hj => by simp at hj⟩

/-- What At tells: a place and the row there, or none. -/
def AtYes (L : List RowC) (i : Int) (k : Nat) (r : RowC) : Prop := L[k]? = some r ∧ r.id = i ∧ ∀ j' r', j' < k → L[j']? = some r' → r'.id ≠ i
def Far (L : List RowC) (i : Int) (k : Nat) : Prop := ∀ j' r', j' < k → L[j']? = some r' → r'.id ≠ i
theorem at_cases (L : List RowC) (i : Int) : (∃ k r, AtYes L i k r) ∨ Far L i L.length := by
  induction L with
  | nil => exact .inr fun j r hj h => by simp at h
  | cons a L ih =>
    by_cases h : a.id = i
    · exact .inl ⟨0, a, rfl, h, fun j' r' hj => by omega⟩
    · rcases ih with ⟨k, r, h1, h2, h3⟩ | hf
      · refine .inl ⟨k + 1, r, by simpa using h1, h2, fun j' r' hj hr => ?_⟩
        cases j' with
        | zero => simp at hr; subst hr; exact h
        | succ j' => exact h3 j' r' (by omega) (by simpa using hr)
      · refine .inr fun j' r' hj hr => ?_
        cases j' with
        | zero => simp at hr; subst hr; exact h
        | succ j' => exact hf j' r' (by simpa using hj) (by simpa using hr)
theorem AtYes.cof {i : Int} {k : Nat} {r : RowC} (h : AtYes L i k r) : cof L i = some (r.c, r.q) := cof_at h.1 h.2.1 h.2.2
theorem Far.cof {i : Int} (h : Far L i L.length) : cof L i = none := cof_none fun j r hj => h j r (List.getElem?_eq_some_iff.1 hj).1 hj

set_option maxHeartbeats 1000000 in
theorem refAt_yes (h : RowsAt Z w v L) (i : Int) (k : Nat) (r : RowC) (hat : AtYes L i k r) (hL : L.length ≤ 1000) :
    Calls Try.prog 60 #[v, .int .i64 i] w fun e w' => e = .returned (.int .i64 k) ∧ w = w' := by
  obtain ⟨A, c, rfl, h1, h2, h3⟩ := h
  have h1 := h1.1
  have H3 := Lib.hid h3
  have HA := Lib.hid hat
  have hk : k < L.length := (List.getElem?_eq_some_iff.1 hat.1).1
  generalize hn : L.length = n at *
  clear h3 hat hn
  go_enter Try.func60, Try.ntmps60
  go_wp2
  go_loop [5] (fun x => ∃ j : Nat, j ≤ k ∧ x = .int .i64 j) (fun x => k - (intOf x).toNat)
  case atStart => exact ⟨0, Nat.zero_le _, rfl⟩
  case round =>
    obtain ⟨j, hj, rfl⟩ := hrel
    by_cases hlt : j < k
    · have hlen : j < L.length := by have := (List.getElem?_eq_some_iff.1 HA.out.1).1; omega
      obtain ⟨b, off, hA, hb, _, c0, _, _⟩ := H3.out j L[j] (List.getElem?_eq_getElem hlen)
      have hne := HA.out.2.2 j L[j] hlt (List.getElem?_eq_getElem hlen)
      subst hA
      generalize L[j].id = z at *
      have b1 : (z == i) = false := by simpa using hne
      have hjn : j < n := by omega
      clear hne
      go_wp2
      go_round
      case rel => exact ⟨j + 1, by omega, by go_num⟩
      case measure => simp [intOf]; omega
    · obtain rfl : j = k := by omega
      obtain ⟨b, off, hA, hb, _, c0, _, _⟩ := H3.out j r HA.out.1
      subst hA
      rw [HA.out.2.1] at c0
      go_wp2
      go_ret
      exact ⟨rfl, rfl⟩
set_option maxHeartbeats 1000000 in
theorem refAt_no (h : RowsAt Z w v L) (i : Int) (hf : Far L i L.length) (hL : L.length ≤ 1000) :
    Calls Try.prog 60 #[v, .int .i64 i] w fun e w' => e = .returned (.int .i64 (-1)) ∧ w = w' := by
  obtain ⟨A, c, rfl, h1, h2, h3⟩ := h
  have h1 := h1.1
  have H3 := Lib.hid h3
  have HF := Lib.hid hf
  have hN : Hid (∀ j, j < L.length → L[j]? = some (L[j]?.getD ⟨0, 0, 0⟩)) := Lib.hid fun j hj => by rw [List.getElem?_eq_getElem hj]; rfl
  generalize hn : L.length = n at *
  clear h3 hf hn
  go_enter Try.func60, Try.ntmps60
  go_wp2
  go_loop [5] (fun x => ∃ j : Nat, j ≤ n ∧ x = .int .i64 j) (fun x => n - (intOf x).toNat)
  case atStart => exact ⟨0, Nat.zero_le _, rfl⟩
  case round =>
    obtain ⟨j, hj, rfl⟩ := hrel
    by_cases hlt : j < n
    · obtain ⟨b, off, hA, hb, _, c0, _, _⟩ := H3.out j _ (hN.out j hlt)
      have hne := HF.out j _ hlt (hN.out j hlt)
      subst hA
      generalize (L[j]?.getD ⟨0, 0, 0⟩).id = z at *
      have b1 : (z == i) = false := by simpa using hne
      clear hne
      go_wp2
      go_round
      case rel => exact ⟨j + 1, by omega, by go_num⟩
      case measure => simp [intOf]; omega
    · obtain rfl : j = n := by omega
      go_wp2
      go_ret
      exact ⟨rfl, rfl⟩
end
end Go.Proofs.Ytcggpgjnjfjfnaa
