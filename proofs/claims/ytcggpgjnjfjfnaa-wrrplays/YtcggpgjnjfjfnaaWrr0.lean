/-
  Rings as lists (layer 29), for wrr: each method at a ring that is as a list.
-/
import Derived.Test.YtcggpgjnjfjfnaaRingPlay2
namespace Go.Proofs.Ytcggpgjnjfjfnaa
open Go.ChangeShapes Go.WideShapes Go.ChangeAt Go.RowKit Go.Deep Go.Maps
set_option linter.unusedVariables false

section
variable {w : World} {p b1 b2 : Nat} {L : List Int}
theorem AsList.lt (h : AsList w p b1 b2 L) : p < w.heap.size ∧ b1 < w.heap.size ∧ b2 < w.heap.size := by obtain ⟨y, a, c⟩ := h; exact a.lt
theorem AsList.i64 (h : AsList w p b1 b2 L) : ∀ i ∈ L, i64k i := by
  obtain ⟨y, ⟨hd, N, Q, a, c⟩, e⟩ := h
  intro i hi
  obtain ⟨j, hj, rfl⟩ := List.getElem_of_mem hi
  have := c.i64 (by omega) j
  rw [e j hj, at0, List.getElem?_eq_getElem hj] at this
  exact this
theorem AsList.nodup (h : AsList w p b1 b2 L) {i j : Nat} (hi : i < L.length) (hj : j < L.length) (he : at0 L i = at0 L j) : i = j := by
  obtain ⟨y, ⟨hd, N, Q, a, c⟩, e⟩ := h
  exact c.inj i j hi hj (by rw [e i hi, e j hj, he])
theorem AsList.ex {id : Int} {y : Nat → Int} (e : ∀ i, i < L.length → y i = at0 L i) : (∃ j, j < L.length ∧ y j = id) ↔ id ∈ L := by
  constructor
  · rintro ⟨j, hj, rfl⟩
    rw [e j hj, at0, List.getElem?_eq_getElem hj]
    exact List.getElem_mem hj
  · intro hm
    obtain ⟨j, hj, e'⟩ := List.getElem_of_mem hm
    exact ⟨j, hj, by rw [e j hj, at0, List.getElem?_eq_getElem hj]; exact e'⟩
theorem AsList.hasC (h : AsList w p b1 b2 L) (id : Int) (hid : i64k id) :
    Calls Try.prog 39 #[.pointer (some ⟨p, 0, none⟩), .int .i64 id] w fun e w' => e = .returned (.bool (decide (id ∈ L))) ∧ w' = w := by
  obtain ⟨y, a, e⟩ := h
  exact a.has id hid _ (by rw [decide_eq_true_iff]; exact (AsList.ex e).symm)
theorem AsList.lenC (h : AsList w p b1 b2 L) : Calls Try.prog 38 #[.pointer (some ⟨p, 0, none⟩)] w fun e w' => e = .returned (.int .i64 (L.length : Nat)) ∧ w' = w := by
  obtain ⟨y, a, e⟩ := h
  exact a.len
theorem AsList.orderC (h : AsList w p b1 b2 L) (hn : L.length ≤ 100000) : Calls Try.prog 40 #[.pointer (some ⟨p, 0, none⟩)] w (IntsPost w L) := by
  obtain ⟨y, a, e⟩ := h
  refine (a.order hn).mono ?_
  rintro e' w' ⟨v, h1, h2, h3⟩
  refine ⟨v, h1, ?_, h3⟩
  rwa [iv_congr (f' := at0 L) e] at h2
theorem AsList.addC (h : AsList w p b1 b2 L) (id : Int) (hid : i64k id) (hn : id ∉ L) (hl : L.length ≤ 100000) :
    Calls Try.prog 29 #[.pointer (some ⟨p, 0, none⟩), .int .i64 id] w fun e w' => e = .returned (.bool true) ∧ AsList w' p b1 b2 (L ++ [id]) ∧ Touch [p, b1, b2] w w' := by
  obtain ⟨y, a, e⟩ := h
  refine (a.add_yes id hid (fun j hj e' => hn ((AsList.ex e).1 ⟨j, hj, e'⟩)) (by omega)).mono ?_
  rintro e' w' ⟨he, hr, t⟩
  refine ⟨he, ⟨ext L.length y id, by simpa using hr, fun i hi => ?_⟩, t⟩
  simp at hi
  by_cases hi' : i < L.length
  · rw [ext_lt _ _ hi', e i hi']
    simp [at0, List.getElem?_append_left hi']
  · obtain rfl : i = L.length := by omega
    rw [ext_at]
    simp [at0]
theorem AsList.dropC (h : AsList w p b1 b2 L) (id : Int) (hn : id ∈ L) (hl : L.length ≤ 100000) :
    Calls Try.prog 31 #[.pointer (some ⟨p, 0, none⟩), .int .i64 id] w fun e w' => e = .returned (.bool true) ∧ AsList w' p b1 b2 (without29 id L) ∧ Touch [p, b1, b2] w w' := by
  obtain ⟨y, a, e⟩ := h
  obtain ⟨j, hj, hy⟩ := (AsList.ex e).2 hn
  have hr := a
  obtain ⟨hd, N, Q, a, c⟩ := a
  have hinj : ∀ i, i < L.length → at0 L i = id → i = j := fun i hi e' => c.inj i j hi hj (by rw [e i hi, e', hy])
  obtain ⟨w1, w2⟩ := without_at hj (by rw [← e j hj, hy]) hinj
  obtain ⟨n, hn'⟩ : ∃ n, L.length = n + 1 := ⟨L.length - 1, by omega⟩
  rw [hn'] at hr c
  have := hr.drop_yes j (by omega) (by omega)
  rw [hy] at this
  refine this.mono ?_
  rintro e' w' ⟨he, hr', t⟩
  have hw : (without29 id L).length = n := by omega
  refine ⟨he, ⟨Cyc.sans n j y, by rw [hw]; exact hr', fun i hi => ?_⟩, t⟩
  rw [c.sans_lt (by omega) (by omega), w2 i hi]
  split
  · exact e i (by omega)
  · exact e (i + 1) (by omega)
theorem AsList.copyC (h : AsList w p b1 b2 L) (hl : L.length ≤ 100000) :
    Calls Try.prog 35 #[.pointer (some ⟨p, 0, none⟩)] w fun e w' => ∃ q c1 c2, e = .returned (.pointer (some ⟨q, 0, none⟩)) ∧ AsList w' q c1 c2 L ∧ (w.heap.size ≤ q ∧ w.heap.size ≤ c1 ∧ w.heap.size ≤ c2) ∧ Touch [] w w' := by
  obtain ⟨y, a, e⟩ := h
  refine (a.copy hl).mono ?_
  rintro e' w' ⟨q, c1, c2, y', h1, h2, h3, h4, h5⟩
  exact ⟨q, c1, c2, h1, ⟨y', h2, fun i hi => (h3 i hi).trans (e i hi)⟩, h4, h5⟩
/-- Turned: the first one goes behind the last. -/
theorem AsList.turnC {a : Int} {M : List Int} (h : AsList w p b1 b2 (a :: M)) :
    Calls Try.prog 33 #[.pointer (some ⟨p, 0, none⟩)] w fun e w' => e = .returned (.tuple #[.int .i64 a, .bool true]) ∧ AsList w' p b1 b2 (M ++ [a]) ∧ Touch [p, b1, b2] w w' := by
  obtain ⟨y, r, e⟩ := h
  have h0 := e 0 (by simp)
  have hp := r.per 0
  have C := r.turn (by simp)
  unfold TurnPost at C
  rw [show y 0 = a by rw [h0]; rfl] at C
  refine C.mono ?_
  rintro e' w' ⟨he, hr, t⟩
  refine ⟨he, ⟨fun i => y (i + 1), by simpa using hr, fun i hi => ?_⟩, t.mono (by simp)⟩
  simp at hi
  show y (i + 1) = at0 (M ++ [a]) i
  rcases (show i < M.length ∨ i = M.length by omega) with h | h
  · rw [e (i + 1) (by simp; omega)]
    simp [at0, List.getElem?_append_left h]
  · simp only [List.length_cons, Nat.zero_add] at hp
    rw [h, hp, h0]
    simp [at0]
theorem asNew : Calls Try.prog 28 #[] w fun e w' => ∃ q c1 c2, e = .returned (.pointer (some ⟨q, 0, none⟩)) ∧ AsList w' q c1 c2 [] ∧ (w.heap.size ≤ q ∧ w.heap.size ≤ c1 ∧ w.heap.size ≤ c2) ∧ Touch [] w w' := by
  refine (ringNew_any w).mono ?_
  rintro e w1 ⟨he, a1, t1⟩
  exact ⟨_, _, _, he, ⟨fun _ => 0, ⟨_, _, _, a1, Cyc.new⟩, fun i hi => by simp at hi⟩, ⟨by omega, Nat.le_refl _, by omega⟩, t1⟩
end
end Go.Proofs.Ytcggpgjnjfjfnaa
