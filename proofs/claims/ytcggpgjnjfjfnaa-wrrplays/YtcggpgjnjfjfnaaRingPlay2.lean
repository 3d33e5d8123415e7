/-
  What RingPlays does where a ring is written: Add and Drop at a ring that is as the law's own list.
-/
import Derived.Test.YtcggpgjnjfjfnaaRingPlay
namespace Go.Proofs.Ytcggpgjnjfjfnaa
open Go.ChangeShapes Go.WideShapes Go.ChangeAt Go.RowKit Go.Deep Go.Maps
set_option linter.unusedVariables false

theorem without_not {id : Int} {L : List Int} (h : id ∉ L) : without29 id L = L := by
  unfold without29
  rw [List.filter_eq_self]
  intro a ha
  simp
  rintro rfl
  exact h ha
theorem without_at {id : Int} {L : List Int} {j : Nat} (hj : j < L.length) (hid : at0 L j = id) (hinj : ∀ i, i < L.length → at0 L i = id → i = j) :
    (without29 id L).length + 1 = L.length ∧ ∀ i, i < (without29 id L).length → at0 (without29 id L) i = if i < j then at0 L i else at0 L (i + 1) := by
  have hsp : L = L.take j ++ id :: L.drop (j + 1) := by
    have e1 : L[j] = id := by rw [← hid, at0, List.getElem?_eq_getElem hj]; rfl
    rw [← e1, List.getElem_cons_drop, List.take_append_drop]
  have ht : without29 id (L.take j) = L.take j := without_not fun hm => by
    obtain ⟨i, hi, e⟩ := List.getElem_of_mem hm
    rw [List.length_take] at hi
    have : i = j := hinj i (by omega) (by rw [at0, List.getElem?_eq_getElem (by omega)]; simpa using e)
    omega
  have hd : without29 id (L.drop (j + 1)) = L.drop (j + 1) := without_not fun hm => by
    obtain ⟨i, hi, e⟩ := List.getElem_of_mem hm
    rw [List.length_drop] at hi
    have : j + 1 + i = j := hinj (j + 1 + i) (by omega) (by rw [at0, List.getElem?_eq_getElem (by omega)]; simpa using e)
    omega
  have hw : without29 id L = L.take j ++ L.drop (j + 1) := by
    conv => lhs; rw [hsp]
    unfold without29 at ht hd ⊢
    rw [List.filter_append, ht, List.filter_cons]
    simp [hd]
  have hl : (without29 id L).length + 1 = L.length := by rw [hw, List.length_append, List.length_take, List.length_drop]; omega
  refine ⟨hl, fun i hi => ?_⟩
  rw [hw]
  unfold at0
  split
  · rename_i h
    rw [List.getElem?_append_left (by rw [List.length_take]; omega), List.getElem?_take, if_pos h]
  · rename_i h
    rw [List.getElem?_append_right (by rw [List.length_take]; omega), List.length_take, List.getElem?_drop, show j + 1 + (i - min j L.length) = i + 1 by omega]

section
variable {W0 w : World} {k p b1 b2 : Nat} {L : List Int} {y : Nat → Int} {v : Value}
/-- A ring as that list. -/
def AsList (w : World) (p b1 b2 : Nat) (L : List Int) : Prop := ∃ y, Ringed w p b1 b2 L.length y ∧ ∀ i, i < L.length → y i = at0 L i
theorem AsList.carry {S : List Nat} {w w' : World} {p b1 b2 : Nat} {L : List Int} (h : AsList w p b1 b2 L) (t : Touch S w w') (hp : p ∉ S) (h1 : b1 ∉ S) (h2 : b2 ∉ S) : AsList w' p b1 b2 L := by
  obtain ⟨y, a, c⟩ := h
  exact ⟨y, a.carry t hp h1 h2, c⟩
theorem Play.asList (h : Play W0 k p b1 b2 L y v w) : AsList w p b1 b2 L := ⟨y, h.ring, h.same⟩
theorem Play.addYes (h : Play W0 k p b1 b2 L y v w) (id : Int) (hid : i64k id) (hn : id ∉ L) (hk : k ≤ 1000) :
    Calls Try.prog 29 #[.pointer (some ⟨p, 0, none⟩), .int .i64 id] w fun e w' => ∃ u, e = .returned u ∧ (u = .bool true ∧ AsList w' p b1 b2 (L ++ [id])) ∧ Touch [p, b1, b2] w w' := by
  have hl := h.len
  refine (h.ring.add_yes id hid (fun j hj e => hn ((h.mem id).1 ⟨j, hj, e⟩)) (by omega)).mono ?_
  rintro e w' ⟨he, hr, t⟩
  refine ⟨_, he, ⟨rfl, ext L.length y id, by simpa using hr, fun i hi => ?_⟩, t⟩
  simp at hi
  by_cases hi' : i < L.length
  · rw [ext_lt _ _ hi', h.same i hi']
    simp [at0, List.getElem?_append_left hi']
  · obtain rfl : i = L.length := by omega
    rw [ext_at]
    simp [at0]
theorem Play.addNo (h : Play W0 k p b1 b2 L y v w) (id : Int) (hid : i64k id) (hn : id ∈ L) :
    Calls Try.prog 29 #[.pointer (some ⟨p, 0, none⟩), .int .i64 id] w fun e w' => e = .returned (.bool false) ∧ w' = w :=
  h.ring.add_no id hid ((h.mem id).2 hn)
theorem Play.dropNo (h : Play W0 k p b1 b2 L y v w) (id : Int) (hid : i64k id) (hn : id ∉ L) :
    Calls Try.prog 31 #[.pointer (some ⟨p, 0, none⟩), .int .i64 id] w fun e w' => e = .returned (.bool false) ∧ w' = w :=
  h.ring.drop_no id hid fun j hj e => hn ((h.mem id).1 ⟨j, hj, e⟩)
theorem Play.dropYes (h : Play W0 k p b1 b2 L y v w) (id : Int) (hn : id ∈ L) (hk : k ≤ 1000) :
    Calls Try.prog 31 #[.pointer (some ⟨p, 0, none⟩), .int .i64 id] w fun e w' => ∃ u, e = .returned u ∧ (u = .bool true ∧ AsList w' p b1 b2 (without29 id L)) ∧ Touch [p, b1, b2] w w' := by
  have hl := h.len
  obtain ⟨j, hj, hy⟩ := (h.mem id).2 hn
  obtain ⟨hd, N, Q, a, c⟩ := h.ring
  have hinj : ∀ i, i < L.length → at0 L i = id → i = j := fun i hi e => c.inj i j hi hj (by rw [h.same i hi, e, hy])
  obtain ⟨w1, w2⟩ := without_at hj (by rw [← h.same j hj, hy]) hinj
  have hr := h.ring
  obtain ⟨n, hn'⟩ : ∃ n, L.length = n + 1 := ⟨L.length - 1, by omega⟩
  rw [hn'] at hr c
  have := hr.drop_yes j (by omega) (by omega)
  rw [hy] at this
  refine this.mono ?_
  rintro e w' ⟨he, hr', t⟩
  have hw : (without29 id L).length = n := by omega
  refine ⟨_, he, ⟨rfl, Cyc.sans n j y, by rw [hw]; exact hr', fun i hi => ?_⟩, t⟩
  rw [c.sans_lt (by omega) (by omega), w2 i hi]
  split
  · exact h.same i (by omega)
  · exact h.same (i + 1) (by omega)
theorem Play.stepList (h : Play W0 k p b1 b2 L y v w) {L' : List Int} {v' : Value} {w1 w2 : World} (hr : AsList w1 p b1 b2 L') (t : Touch [p, b1, b2] w w1) (ho : w2.ownsRow w1.heap.size 3 1 v' L'.length (iv (at0 L') L'.length)) (hb : Below w1.heap.size w1 w2) (hl : L'.length ≤ k) : ∃ y', Play W0 k p b1 b2 L' y' v' w2 := by
  obtain ⟨y', a, c⟩ := hr
  exact ⟨y', h.step a t c ho hb hl⟩
end
end Go.Proofs.Ytcggpgjnjfjfnaa
