/-
  Layer 31 (wrr): the program's rings and the reference's state, call by call.
-/
import Derived.Test.YtcggpgjnjfjfnaaWrrSync
namespace Go.Proofs.Ytcggpgjnjfjfnaa
open Go.ChangeShapes Go.WideShapes Go.ChangeAt Go.RowKit Go.Deep Go.Maps
set_option linter.unusedVariables false
set_option linter.unusedSimpArgs false

/-- The program's rings and the reference's state in block b4, behind k calls. -/
structure PlayW (wd : World) (b4 kk q c cb s : Nat) (R : Tri) (L : Nat → List Int) (C : Acc) (w : World) : Prop where
  at' : WAt w q c cb s R L C
  st : ∃ A k d A' k' d', BoxV w b4 29 #[.slice A k d, .slice A' k' d'] ∧ RingsAt (b4 :: zone q c cb R) w (.slice A k d) L ∧ RowsNew (b4 :: zone q c cb R) kk C (.slice A' k' d') w
  low : ∀ b ∈ zone q c cb R, wd.heap.size ≤ b
  low4 : wd.heap.size ≤ b4
  far : b4 ∉ zone q c cb R
  len : ∀ j, j < 8 → (L j).length ≤ kk
  many : s ≤ kk
  sync : Sync L C
  t : Touch [] wd w
section
variable {wd w w1 w2 w3 : World} {b4 kk q c cb s s' : Nat} {R : Tri} {L L' : Nat → List Int} {C C' : Acc}
theorem PlayW.carry (h : PlayW wd b4 kk q c cb s R L C w) (t : Touch [] w w1) : PlayW wd b4 kk q c cb s R L C w1 := by
  obtain ⟨A, k, d, A', k', d', h1, h2, h3⟩ := h.st
  exact ⟨h.at'.new t, ⟨A, k, d, A', k', d', h1.carry t (by simp), h2.carry t (by simp), h3.carry t (by simp)⟩, h.low, h.low4, h.far, h.len, h.many, h.sync, h.t.trans t (by simp)⟩
theorem PlayW.z (h : PlayW wd b4 kk q c cb s R L C w) : ∀ b ∈ b4 :: zone q c cb R, b < w.heap.size := by
  intro b hb
  rw [List.mem_cons] at hb
  rcases hb with rfl | hb
  · obtain ⟨A, k, d, A', k', d', h1, _⟩ := h.st
    exact h1.lt
  · exact h.at'.lt b hb
theorem PlayW.state (h : PlayW wd b4 kk q c cb s R L C w) : ∃ A k d A' k' d', BoxV w b4 29 #[.slice A k d, .slice A' k' d'] ∧ StateV (b4 :: zone q c cb R) kk L C (.agg #[.slice A k d, .slice A' k' d']) w := by
  obtain ⟨A, k, d, A', k', d', h1, h2, h3⟩ := h.st
  exact ⟨A, k, d, A', k', d', h1, _, _, rfl, h2, h3⟩
/-- The rings ahead of the program's call, when the reference's state has been stored. -/
theorem PlayW.ahead (h : PlayW wd b4 kk q c cb s R L C w) (t1 : Touch [] w w1) (t2 : Touch [b4] w1 w2) : WAt w2 q c cb s R L C := (h.at'.new t1).carry t2 (fun b hb hm => by simp at hm; subst hm; exact h.far hb)
theorem PlayW.after {A A' : Option Addr} {k d k' d' : Nat} (h : PlayW wd b4 kk q c cb s R L C w) (t1 : Touch [] w w1) (hS : StateV (b4 :: zone q c cb R) (kk + 1) L' C' (.agg #[.slice A k d, .slice A' k' d']) w1) (t2 : Touch [b4] w1 w2) (hB : BoxV w2 b4 29 #[.slice A k d, .slice A' k' d'])
    (hW : WAt w3 q c cb s' R L' C') (t3 : Touch (zone q c cb R) w2 w3) (hl : ∀ j, j < 8 → (L' j).length ≤ kk + 1) (hs : s' ≤ kk + 1) (hy : Sync L' C') : PlayW wd b4 (kk + 1) q c cb s' R L' C' w3 := by
  obtain ⟨rv, lv, he, h1, h2⟩ := hS
  cases he
  refine ⟨hW, ⟨A, k, d, A', k', d', hB.carry t3 h.far, (h1.carry t2 (by simp)).carry t3 (fun b hb => .inl (by simp [hb])), (h2.carry t2 (by simp)).carry t3 (fun b hb => .inl (by simp [hb]))⟩, h.low, h.low4, h.far, hl, hs, hy, ?_⟩
  exact ((h.t.trans t1 (by simp)).trans t2 (fun b hb => by simp at hb; subst hb; exact .inr h.low4)).trans t3 (fun b hb => .inr (h.low b hb))
theorem RowsNew.more {Z : List Nat} {m : Nat} {v : Value} (h : RowsNew Z m C v w) : RowsNew Z (m + 1) C v w := by
  obtain ⟨Lr, h1, h2, h3⟩ := h
  exact ⟨Lr, h1, h2, by omega⟩
theorem StateV.more {Z : List Nat} {m : Nat} {v : Value} (h : StateV Z m L C v w) : StateV Z (m + 1) L C v w := by
  obtain ⟨rv, lv, hv, h1, h2⟩ := h
  exact ⟨rv, lv, hv, h1, h2.more⟩
theorem StateV.slices {Z : List Nat} {m : Nat} {v : Value} (h : StateV Z m L C v w) : ∃ A k d A' k' d', v = .agg #[.slice A k d, .slice A' k' d'] := by
  obtain ⟨rv, lv, rfl, h1, h2⟩ := h
  obtain ⟨A, k, d, rfl⟩ := h1.slice
  obtain ⟨A', k', d', rfl⟩ := h2.slice
  exact ⟨_, _, _, _, _, _, rfl⟩
end

section
variable {wd w : World} {b4 kk q c cb s : Nat} {R : Tri} {L : Nat → List Int} {C : Acc}
/-- The reference's call, the program's, and what both leave. -/
def Both2 (b4 kk q c cb s : Nat) (R : Tri) (L : Nat → List Int) (C : Acc) (w : World) (f : FuncId) (fargs : Array Value) (res : Value → Value) (g : FuncId) (gargs : Array Value) (gres : Value) : Prop :=
  ∃ L' C' s', (Calls Try.prog f fargs w fun e w' => ∃ u, e = .returned (res u) ∧ StateV (b4 :: zone q c cb R) (kk + 1) L' C' u w' ∧ Touch [] w w') ∧
    (∀ w2, WAt w2 q c cb s R L C → Calls Try.prog g gargs w2 fun e w' => e = .returned gres ∧ WAt w' q c cb s' R L' C' ∧ Touch (zone q c cb R) w2 w') ∧
    (∀ j, j < 8 → (L' j).length ≤ kk + 1) ∧ s' ≤ kk + 1 ∧ Sync L' C'
theorem updL_len {l : List Int} {k : Nat} (h : ∀ j, j < 8 → (L j).length ≤ kk) (hl : l.length ≤ kk + 1) : ∀ j, j < 8 → (updL L k l j).length ≤ kk + 1 := fun j hj => by
  unfold updL
  split
  · exact hl
  · exact Nat.le_succ_of_le (h j hj)
theorem join_both (h : PlayW wd b4 kk q c cb s R L C w) (hkk : kk ≤ 900) {v : Value} (hv : StateV (b4 :: zone q c cb R) kk L C v w) (id pr m : Int) (hi : i64k id) {np : Int} {bp : Bool} (hp : PrioIs L id np bp) :
    ∃ ok, Both2 b4 kk q c cb s R L C w 11 #[v, .int .i64 id, .int .i64 pr, .int .i64 m] (fun u => .tuple #[u, .bool ok]) 12 #[pt q, .int .i64 id, .int .i64 pr, .int .i64 m] (.bool ok) := by
  obtain ⟨ok, hok⟩ : ∃ ok, joins C id pr m bp = ok := ⟨_, rfl⟩
  have hl9 : ∀ k, k < 8 → (L k).length ≤ 999 := fun k hk => by have := h.len k hk; omega
  have hl10 : ∀ k, k < 8 → (L k).length ≤ 1000 := fun k hk => by have := h.len k hk; omega
  have J := refJoinW hv hl9 (by omega) h.z id pr m hp hok
  have hs : s < 1000 := by have := h.many; omega
  refine ⟨ok, ?_⟩
  cases ok with
  | false =>
    refine ⟨L, C, s, J.mono ?_, fun w2 h2 => (joinW_any h2 h.sync hl10 hs id pr m hi hp hok).mono ?_, fun j hj => Nat.le_succ_of_le (h.len j hj), Nat.le_succ_of_le h.many, h.sync⟩
    · rintro e w' ⟨u, he, h1, _, t⟩
      exact ⟨u, he, (h1 rfl).more, t⟩
    · rintro e w' ⟨he, h1, _, t⟩
      exact ⟨he, h1 rfl, t⟩
  | true =>
    have hj := hok
    unfold joins at hj
    simp only [Bool.and_eq_true, decide_eq_true_eq, Bool.not_eq_true'] at hj
    obtain ⟨⟨⟨h0, h7⟩, hb⟩, hop⟩ := hj
    obtain ⟨k, rfl⟩ : ∃ k : Nat, pr = (k : Int) := ⟨pr.toNat, by omega⟩
    have hk : k < 8 := by omega
    have hop2 := hop
    unfold opens at hop2
    rw [Bool.and_eq_true] at hop2
    have hC : C id = none := by simpa using hop2.1
    refine ⟨updL L k (L k ++ [id]), openA C id m, s + 1, J.mono ?_, fun w2 h2 => (joinW_any h2 h.sync hl10 hs id k m hi hp hok).mono ?_, updL_len h.len (by have := h.len k hk; simp; omega), Nat.succ_le_succ h.many, ?_⟩
    · rintro e w' ⟨u, he, _, h1, t⟩
      exact ⟨u, he, h1 rfl k rfl, t⟩
    · rintro e w' ⟨he, _, h1, t⟩
      exact ⟨he, h1 rfl k rfl, t⟩
    · unfold openA
      rw [if_pos hop]
      exact h.sync.join hk hC
theorem leave_both (h : PlayW wd b4 kk q c cb s R L C w) (hkk : kk ≤ 900) {v : Value} (hv : StateV (b4 :: zone q c cb R) kk L C v w) (id : Int) (hi : i64k id) {np : Int} {bp : Bool} (hp : PrioIs L id np bp) :
    Both2 b4 kk q c cb s R L C w 13 #[v, .int .i64 id] (fun u => .tuple #[u, .bool bp]) 14 #[pt q, .int .i64 id] (.bool bp) := by
  have hl10 : ∀ k, k < 8 → (L k).length ≤ 1000 := fun k hk => by have := h.len k hk; omega
  have J := refLeaveW hv hl10 (by omega) h.z id hp
  have hs : s < 1000 := by have := h.many; omega
  rcases (show bp = false ∨ bp = true by cases bp <;> simp) with rfl | rfl
  · refine ⟨L, C, s, J.mono ?_, fun w2 h2 => (leaveW_any h2 h.sync hl10 id hi hp).mono ?_, fun j hj => Nat.le_succ_of_le (h.len j hj), Nat.le_succ_of_le h.many, h.sync⟩
    · rintro e w' ⟨u, he, h1, _, t⟩
      exact ⟨u, he, (h1 rfl).more, t⟩
    · rintro e w' ⟨he, h1, _, t⟩
      exact ⟨he, h1 rfl, t⟩
  · have hp2 := hp
    rcases hp2 with ⟨_, k, hk, rfl, hm, _⟩ | ⟨hf, _⟩
    · refine ⟨updL L k (without29 id (L k)), updC C id none, s - 1, J.mono ?_, fun w2 h2 => (leaveW_any h2 h.sync hl10 id hi hp).mono ?_, updL_len h.len (Nat.le_trans (List.length_filter_le _ _) (Nat.le_succ_of_le (h.len k hk))), by have := h.many; omega, h.sync.leave hk hm⟩
      · rintro e w' ⟨u, he, _, h1, t⟩
        exact ⟨u, he, (h1 rfl k rfl).more, t⟩
      · rintro e w' ⟨he, _, h1, t⟩
        exact ⟨he, h1 rfl k rfl, t⟩
    · cases hf
theorem sent_both (h : PlayW wd b4 kk q c cb s R L C w) (hkk : kk ≤ 900) {v : Value} (hv : StateV (b4 :: zone q c cb R) kk L C v w) (id m : Int) (hi : i64k id) {np : Int} {bp : Bool} (hp : PrioIs L id np bp) :
    Both2 b4 kk q c cb s R L C w 17 #[v, .int .i64 id, .int .i64 m] (fun u => u) 18 #[pt q, .int .i64 id, .int .i64 m] (.bool bp) := by
  have J := refSentW hv h.at'.cred.ok (by omega) h.z id m
  have hs : s < 1000 := by have := h.many; omega
  refine ⟨L, spendA C id m, s, J.mono ?_, fun w2 h2 => (sentW_any h2 hs id m hi).mono ?_, fun j hj => Nat.le_succ_of_le (h.len j hj), Nat.le_succ_of_le h.many, h.sync.credit (spendA_dom C id m)⟩
  · rintro e w' ⟨u, he, h1, t⟩
    exact ⟨u, he, h1.more, t⟩
  · rintro e w' ⟨he, h1, t⟩
    rw [h.sync.in_iff hp] at he
    exact ⟨he, h1, t⟩
theorem pick_both (h : PlayW wd b4 kk q c cb s R L C w) (hkk : kk ≤ 900) {v u : Value} {M : List Int} {Z : List Nat} (hv : StateV (b4 :: zone q c cb R) kk L C v w) (hu : LInts Z w u M) (hM : M.length ≤ 1000) (hfit : ∀ x ∈ M, fit64 x) (hZ : ∀ w2, Touch [b4] w w2 → LInts Z w2 u M) :
    ∃ L' C' id ok, (Calls Try.prog 15 #[v, u] w fun e w' => ∃ x, e = .returned (.tuple #[x, .int .i64 id, .bool ok]) ∧ StateV (b4 :: zone q c cb R) (kk + 1) L' C' x w' ∧ Touch [] w w') ∧
      (∀ w2, WAt w2 q c cb s R L C → Touch [b4] w w2 → Calls Try.prog 16 #[pt q, u] w2 fun e w' => e = .returned (.tuple #[.int .i64 id, .bool ok]) ∧ WAt w' q c cb s R L' C' ∧ Touch (zone q c cb R) w2 w') ∧
      (∀ j, j < 8 → (L' j).length ≤ kk + 1) ∧ Sync L' C' := by
  have hl10 : ∀ k, k < 8 → (L k).length ≤ 1000 := fun k hk => by have := h.len k hk; omega
  have hl6 : ∀ k, k < 8 → (L k).length ≤ 100000 := fun k hk => by have := h.len k hk; omega
  have hs : s < 1000 := by have := h.many; omega
  have J := refPickW hv hu hM hl10 h.at'.cred.ok (by omega) h.z h.sync.mem
  obtain ⟨kq, hkq, hfirst, hat⟩ := anyIn_first (able := inM M) L
  rcases Nat.lt_or_ge kq 8 with hlt | hge
  · have hany := hat hlt
    obtain ⟨idm, hin, hab⟩ := List.any_eq_true.1 hany
    obtain ⟨i0, hst0, hfst0⟩ := stop_first (stop_ex h.at'.cred.ok hin hab (h.sync.mem kq hlt idm hin))
    refine ⟨updL L kq (rotL (i0 + 1) (L kq)), crs (inM M) (L kq) C (i0 + 1), hdx (L kq) i0, true, J.mono ?_, fun w2 h2 t2 => (pick_one h2 (hZ w2 t2) hM hfit hl6 hs h.sync.mem hlt hany hfirst hst0 hfst0).mono ?_, fun j hj => Nat.le_succ_of_le (updL_rot_len h.len j hj), (h.sync.turn kq (i0 + 1)).credit (crs_dom (inM M) (L kq) C (i0 + 1))⟩
    · rintro e w' ⟨x, hp, t⟩
      rcases hp with ⟨_, hno, _⟩ | ⟨k, i, hk, g1, g2, g3, g4, he, hs'⟩
      · rw [hno kq hlt] at hany; exact Bool.noConfusion hany
      · have e1 : k = kq := by
          rcases Nat.lt_trichotomy k kq with h | h | h
          · rw [hfirst k h] at g1; exact Bool.noConfusion g1
          · exact h
          · rw [g2 kq h] at hany; exact Bool.noConfusion hany
        subst e1
        have e2 : i = i0 := by
          rcases Nat.lt_trichotomy i i0 with h | h | h
          · exact absurd g3 (hfst0 i h)
          · exact h
          · exact absurd hst0 (g4 i0 h)
        subst e2
        exact ⟨x, he, hs'.more, t⟩
    · rintro e w' ⟨he, h1, t⟩
      exact ⟨he, h1, t⟩
  · have hno : ∀ k, k < 8 → anyIn (inM M) (L k) = false := fun k hk => hfirst k (by omega)
    refine ⟨L, C, 0, false, J.mono ?_, fun w2 h2 t2 => (pick_zero h2 (hZ w2 t2) hM hfit hl6 hs h.sync.mem hno).mono ?_, fun j hj => Nat.le_succ_of_le (h.len j hj), h.sync⟩
    · rintro e w' ⟨x, hp, t⟩
      rcases hp with ⟨he, _, hs'⟩ | ⟨k, i, hk, g1, _⟩
      · exact ⟨x, he, hs'.more, t⟩
      · rw [hno k hk] at g1; exact Bool.noConfusion g1
    · rintro e w' ⟨he, h1, t⟩
      exact ⟨he, h1, t⟩
end
end Go.Proofs.Ytcggpgjnjfjfnaa
