/-
  Layer 31 (wrr): the rings and accounts of the program, and the reference's, hand in hand.
-/
import Derived.Test.YtcggpgjnjfjfnaaRefWrr5
import Derived.Test.YtcggpgjnjfjfnaaWrrCopy
namespace Go.Proofs.Ytcggpgjnjfjfnaa
open Go.ChangeShapes Go.WideShapes Go.ChangeAt Go.RowKit Go.Deep Go.Maps
set_option linter.unusedVariables false
set_option linter.unusedSimpArgs false

/-- Members have accounts, accounts have members, and each is in one ring. -/
structure Sync (L : Nat → List Int) (C : Acc) : Prop where
  mem : ∀ k, k < 8 → ∀ i ∈ L k, (C i).isSome = true
  back : ∀ i, (C i).isSome = true → ∃ k, k < 8 ∧ i ∈ L k
  one : ∀ j k, j < 8 → k < 8 → ∀ i, i ∈ L j → i ∈ L k → j = k
theorem sync_new : Sync (fun _ => []) (fun _ => none) := ⟨fun k _ i h => by simp at h, fun i h => by simp at h, fun j k _ _ i h => by simp at h⟩
theorem Sync.credit {L : Nat → List Int} {C C' : Acc} (h : Sync L C) (hd : ∀ i, (C' i).isSome = (C i).isSome) : Sync L C' :=
  ⟨fun k hk i hi => by rw [hd]; exact h.mem k hk i hi, fun i hi => h.back i (by rwa [hd] at hi), h.one⟩
theorem Sync.turn {L : Nat → List Int} {C : Acc} (h : Sync L C) (k i : Nat) : Sync (updL L k (rotL i (L k))) C := by
  have e : ∀ j x, x ∈ updL L k (rotL i (L k)) j ↔ x ∈ L j := fun j x => by
    unfold updL
    split
    · rename_i e; subst e; exact rotL_mem
    · exact Iff.rfl
  exact ⟨fun j hj x hx => h.mem j hj x ((e j x).1 hx), fun x hx => by obtain ⟨j, hj, hm⟩ := h.back x hx; exact ⟨j, hj, (e j x).2 hm⟩, fun j j' hj hj' x hx hx' => h.one j j' hj hj' x ((e j x).1 hx) ((e j' x).1 hx')⟩
theorem Sync.in_iff {L : Nat → List Int} {C : Acc} (h : Sync L C) {id n : Int} {b : Bool} (hp : PrioIs L id n b) : (C id).isSome = b := by
  rcases hp with ⟨rfl, k, hk, _, hm, _⟩ | ⟨rfl, _, hn⟩
  · exact h.mem k hk id hm
  · cases hc : (C id).isSome with
    | false => rfl
    | true =>
      obtain ⟨k, hk, hm⟩ := h.back id hc
      exact absurd hm (hn k hk)
theorem Sync.join {L : Nat → List Int} {C : Acc} (h : Sync L C) {id q : Int} {k : Nat} (hk : k < 8) (hn : C id = none) : Sync (updL L k (L k ++ [id])) (updC C id (some (0, q))) := by
  have hno : ∀ j, j < 8 → id ∉ L j := fun j hj hm => by
    have := h.mem j hj id hm
    rw [hn] at this
    cases this
  have e : ∀ j x, x ∈ updL L k (L k ++ [id]) j ↔ x ∈ L j ∨ (j = k ∧ x = id) := fun j x => by
    unfold updL
    by_cases hj : j = k
    · subst hj; simp
    · simp [hj]
  refine ⟨fun j hj x hx => ?_, fun x hx => ?_, fun j j' hj hj' x hx hx' => ?_⟩
  · rcases (e j x).1 hx with hm | ⟨_, rfl⟩
    · by_cases hxe : x = id
      · subst hxe; rw [updC_same]; rfl
      · rw [updC_other _ _ hxe]; exact h.mem j hj x hm
    · rw [updC_same]; rfl
  · by_cases hxe : x = id
    · subst hxe; exact ⟨k, hk, (e k x).2 (.inr ⟨rfl, rfl⟩)⟩
    · rw [updC_other _ _ hxe] at hx
      obtain ⟨j, hj, hm⟩ := h.back x hx
      exact ⟨j, hj, (e j x).2 (.inl hm)⟩
  · rcases (e j x).1 hx with hm | ⟨rfl, rfl⟩
    · rcases (e j' x).1 hx' with hm' | ⟨rfl, rfl⟩
      · exact h.one j j' hj hj' x hm hm'
      · exact absurd hm (hno j hj)
    · rcases (e j' x).1 hx' with hm' | ⟨h1, _⟩
      · exact absurd hm' (hno j' hj')
      · exact h1.symm
theorem without_mem {id x : Int} {l : List Int} : x ∈ without29 id l ↔ x ∈ l ∧ x ≠ id := by
  unfold without29
  rw [List.mem_filter]
  simp
theorem Sync.leave {L : Nat → List Int} {C : Acc} (h : Sync L C) {id : Int} {k : Nat} (hk : k < 8) (hm : id ∈ L k) : Sync (updL L k (without29 id (L k))) (updC C id none) := by
  have e : ∀ j x, j < 8 → (x ∈ updL L k (without29 id (L k)) j ↔ x ∈ L j ∧ x ≠ id) := fun j x hj => by
    unfold updL
    by_cases hjk : j = k
    · subst hjk; simp [without_mem]
    · simp only [hjk, if_false]
      constructor
      · intro hx
        refine ⟨hx, fun he => ?_⟩
        subst he
        exact hjk (h.one j k hj hk x hx hm)
      · exact fun hx => hx.1
  refine ⟨fun j hj x hx => ?_, fun x hx => ?_, fun j j' hj hj' x hx hx' => ?_⟩
  · obtain ⟨h1, h2⟩ := (e j x hj).1 hx
    rw [updC_other _ _ h2]
    exact h.mem j hj x h1
  · by_cases hxe : x = id
    · subst hxe; rw [updC_same] at hx; cases hx
    · rw [updC_other _ _ hxe] at hx
      obtain ⟨j, hj, hm'⟩ := h.back x hx
      exact ⟨j, hj, (e j x hj).2 ⟨hm', hxe⟩⟩
  · exact h.one j j' hj hj' x ((e j x hj).1 hx).1 ((e j' x hj').1 hx').1
theorem giveA_dom (C : Acc) (id n i : Int) : (giveA C id n i).isSome = (C i).isSome := by
  unfold giveA
  cases h : C id with
  | none => rfl
  | some x =>
    simp only
    by_cases e : i = id
    · subst e; rw [updC_same, h]; rfl
    · rw [updC_other _ _ e]
theorem spendA_dom (C : Acc) (id n i : Int) : (spendA C id n i).isSome = (C i).isSome := by
  unfold spendA
  cases h : C id with
  | none => rfl
  | some x =>
    simp only
    by_cases e : i = id
    · subst e; rw [updC_same, h]; rfl
    · rw [updC_other _ _ e]

section
variable {w : World} {q c cb s : Nat} {R : Tri} {L : Nat → List Int} {C : Acc}
/-- The same turn as the reference's. -/
theorem pick_one {Z : List Nat} {u : Value} {M : List Int} {k i : Nat} (h : WAt w q c cb s R L C) (hu : LInts Z w u M) (hM : M.length ≤ 1000) (hfit : ∀ x ∈ M, fit64 x) (hl : ∀ k, k < 8 → (L k).length ≤ 100000) (hs : s < 1000) (hmem : ∀ k, k < 8 → ∀ i ∈ L k, (C i).isSome = true)
    (hk : k < 8) (h1 : anyIn (inM M) (L k) = true) (h2 : ∀ j, j < k → anyIn (inM M) (L j) = false) (h3 : stops (inM M) (L k) C i) (h4 : ∀ j, j < i → ¬ stops (inM M) (L k) C j) :
    Calls Try.prog 16 #[pt q, u] w (PickOne (inM M) k i q c cb s R L C w) := by
  obtain ⟨A, cc, rfl, k1, k2, k3⟩ := hu.cells
  have P := pickW (cap := cc) h k3 (by unfold maxLen; omega) (fun j hj => hfit _ (by rw [at0, List.getElem?_eq_getElem hj]; exact List.getElem_mem hj)) hl hs hmem
  rw [ableB_inM] at P
  exact P.mono fun e w' hp => pick_known hk h1 h2 h3 h4 hp
theorem pick_zero {Z : List Nat} {u : Value} {M : List Int} (h : WAt w q c cb s R L C) (hu : LInts Z w u M) (hM : M.length ≤ 1000) (hfit : ∀ x ∈ M, fit64 x) (hl : ∀ k, k < 8 → (L k).length ≤ 100000) (hs : s < 1000) (hmem : ∀ k, k < 8 → ∀ i ∈ L k, (C i).isSome = true)
    (h0 : ∀ k, k < 8 → anyIn (inM M) (L k) = false) :
    Calls Try.prog 16 #[pt q, u] w (PickNone q c cb s R L C w) := by
  obtain ⟨A, cc, rfl, k1, k2, k3⟩ := hu.cells
  have P := pickW (cap := cc) h k3 (by unfold maxLen; omega) (fun j hj => hfit _ (by rw [at0, List.getElem?_eq_getElem hj]; exact List.getElem_mem hj)) hl hs hmem
  rw [ableB_inM] at P
  refine P.mono fun e w' hp => ?_
  rcases hp with ⟨_, h⟩ | ⟨k, i, hk, g1, _⟩
  · exact h
  · rw [h0 k hk] at g1; exact Bool.noConfusion g1
/-- A pick of which only the rings and accounts may have turned. -/
def SomeW (q c cb s : Nat) (R : Tri) (kk : Nat) (w : World) (e : Ending) (w' : World) : Prop :=
  ∃ v L C, e = .returned v ∧ WAt w' q c cb s R L C ∧ (∀ k, k < 8 → (L k).length ≤ kk) ∧ (∀ k, k < 8 → ∀ i ∈ L k, (C i).isSome = true) ∧ Touch (zone q c cb R) w w'
theorem joinW_any (h : WAt w q c cb s R L C) (hsy : Sync L C) (hl : ∀ k, k < 8 → (L k).length ≤ 1000) (hs : s < 1000) (id p n : Int) (hid : i64k id) {m : Int} {b ok : Bool} (hp : PrioIs L id m b) (hj : joins C id p n b = ok) :
    Calls Try.prog 12 #[pt q, .int .i64 id, .int .i64 p, .int .i64 n] w fun e w' => e = .returned (.bool ok) ∧ (ok = false → WAt w' q c cb s R L C) ∧ (ok = true → ∀ k : Nat, p = (k : Int) → WAt w' q c cb (s + 1) R (updL L k (L k ++ [id])) (openA C id n)) ∧ Touch (zone q c cb R) w w' := by
  have hb := hsy.in_iff hp
  by_cases hr : p < 0 ∨ 8 ≤ p
  · have hok : ok = false := by
      rw [← hj]
      unfold joins
      rcases hr with h | h
      · rw [show decide (0 ≤ p) = false by simp; omega]; rfl
      · rw [show decide (p ≤ 7) = false by simp; omega]; simp
    subst hok
    refine (joinW_bad (pt q) id p n (Lib.hid (ringW_no _ (.inr rfl) p hr w))).mono ?_
    rintro e w' ⟨he, hw⟩
    subst hw
    exact ⟨he, fun _ => h, fun h => Bool.noConfusion h, Touch.refl _ _⟩
  · obtain ⟨k, rfl⟩ : ∃ k : Nat, p = (k : Int) := ⟨p.toNat, by omega⟩
    have hk : k < 8 := by omega
    by_cases ho : opens C id n = true
    · have h1 := ho
      unfold opens at h1
      rw [Bool.and_eq_true, decide_eq_true_eq] at h1
      have hC : C id = none := by simpa using h1.1
      have hnot : id ∉ L k := fun hm => by
        have := hsy.mem k hk id hm
        rw [hC] at this
        cases this
      have hok : ok = true := by
        rw [← hj]
        unfold joins
        rw [ho, ← hb, hC]
        simp
        omega
      subst hok
      refine (joinW_yes h id n hid k hk (Nat.le_trans (hl k hk) (by omega)) hC h1.2 hs hnot).mono ?_
      rintro e w' ⟨he, ha, t⟩
      refine ⟨he, fun h => Bool.noConfusion h, fun _ k' hk' => ?_, t.mono fun b hb => .inl (zone_of hk b hb)⟩
      obtain rfl : k' = k := by omega
      unfold openA
      rw [if_pos ho]
      exact ha
    · have ho' : opens C id n = false := by simpa using ho
      have hok : ok = false := by
        rw [← hj]
        unfold joins
        rw [ho']
        simp
      subst hok
      have hO : Calls Try.prog 48 #[pt c, .int .i64 id, .int .i64 n] w fun e w' => e = .returned (.bool false) ∧ Touch [] w w' := by
        by_cases hn : 1 ≤ n ∧ n ≤ 65536
        · cases hx : C id with
          | none =>
            unfold opens at ho'
            rw [hx] at ho'
            simp at ho'
            omega
          | some x => exact open_twice h.cred id n hid x hx hn
        · exact open_bad id n _ hn (.inr ⟨c, rfl⟩) w
      refine (joinW_no h id n k hk (Lib.hid hO)).mono ?_
      rintro e w' ⟨he, t⟩
      exact ⟨he, fun _ => h.new t, fun h => Bool.noConfusion h, t.mono (by simp)⟩
theorem leaveW_any (h : WAt w q c cb s R L C) (hsy : Sync L C) (hl : ∀ k, k < 8 → (L k).length ≤ 1000) (id : Int) (hid : i64k id) {m : Int} {b : Bool} (hp : PrioIs L id m b) :
    Calls Try.prog 14 #[pt q, .int .i64 id] w fun e w' => e = .returned (.bool b) ∧ (b = false → WAt w' q c cb s R L C) ∧ (b = true → ∀ k : Nat, m = (k : Int) → WAt w' q c cb (s - 1) R (updL L k (without29 id (L k))) (updC C id none)) ∧ Touch (zone q c cb R) w w' := by
  rcases hp with ⟨rfl, k, hk, rfl, h1, h2⟩ | ⟨rfl, rfl, h1⟩
  · obtain ⟨x, hx⟩ := Option.isSome_iff_exists.1 (hsy.mem k hk id h1)
    refine (leaveW_yes h id hid k hk (Nat.le_trans (hl k hk) (by omega)) h1 h2 x hx).mono ?_
    rintro e w' ⟨he, ha, t⟩
    refine ⟨he, fun h => Bool.noConfusion h, fun _ k' hk' => ?_, t.mono fun b hb => .inl (zone_of hk b hb)⟩
    obtain rfl : k' = k := by omega
    exact ha
  · refine (leaveW_no (pt q) id (Lib.hid (prioW_none h id hid h1))).mono ?_
    rintro e w' ⟨he, hw⟩
    subst hw
    exact ⟨he, fun _ => h, fun h => Bool.noConfusion h, Touch.refl _ _⟩
theorem sentW_any (h : WAt w q c cb s R L C) (hs : s < 1000) (id n : Int) (hid : i64k id) :
    Calls Try.prog 18 #[pt q, .int .i64 id, .int .i64 n] w fun e w' => e = .returned (.bool (C id).isSome) ∧ WAt w' q c cb s R L (spendA C id n) ∧ Touch (zone q c cb R) w w' := by
  have CR := Lib.hid (creditsW h)
  unfold spendA
  cases hx : C id with
  | none => exact sentW_of (pt q) (pt c) id n CR (P := fun w' => WAt w' q c cb s R L C ∧ Touch (zone q c cb R) w w') (Lib.hid ((spend_no id n _ (Lib.hid (find_no h.cred id hid hx))).mono fun e w' k => ⟨k.1, h.new k.2, k.2.mono (by simp)⟩))
  | some x => exact sentW_of (pt q) (pt c) id n CR (P := fun w' => WAt w' q c cb s R L _ ∧ Touch (zone q c cb R) w w') (Lib.hid ((spend_yes h.cred id n hid x hx hs).mono fun e w' k => ⟨k.1, h.credNow k.2.1 k.2.2, k.2.2.mono fun b hb => by simp at hb; subst hb; exact .inl (mem_zone.2 (.inr (.inr (.inl rfl))))⟩))
theorem giveW_any (h : WAt w q c cb s R L C) (hs : s < 1000) (id n : Int) (hid : i64k id) :
    Calls Try.prog 20 #[pt q, .int .i64 id, .int .i64 n] w fun e w' => e = .returned (.bool (C id).isSome) ∧ WAt w' q c cb s R L (giveA C id n) ∧ Touch (zone q c cb R) w w' := by
  have CR := Lib.hid (creditsW h)
  unfold giveA
  cases hx : C id with
  | none => exact giveW_of (pt q) (pt c) id n CR (P := fun w' => WAt w' q c cb s R L C ∧ Touch (zone q c cb R) w w') (Lib.hid ((give_no id n _ (Lib.hid (find_no h.cred id hid hx))).mono fun e w' k => ⟨k.1, h.new k.2, k.2.mono (by simp)⟩))
  | some x => exact giveW_of (pt q) (pt c) id n CR (P := fun w' => WAt w' q c cb s R L _ ∧ Touch (zone q c cb R) w w') (Lib.hid ((give_yes h.cred id n hid x hx hs).mono fun e w' k => ⟨k.1, h.credNow k.2.1 k.2.2, k.2.2.mono fun b hb => by simp at hb; subst hb; exact .inl (mem_zone.2 (.inr (.inr (.inl rfl))))⟩))
theorem creditW_any (h : WAt w q c cb s R L C) (id : Int) (hid : i64k id) :
    Calls Try.prog 23 #[pt q, .int .i64 id] w fun e w' => e = .returned (.tuple #[.int .i64 (crd C id), .bool (C id).isSome]) ∧ Touch [] w w' := by
  have CR := Lib.hid (creditsW h)
  unfold crd
  cases hx : C id with
  | none => exact creditW_of (pt q) (pt c) id CR (Lib.hid (credOf_no id _ (Lib.hid (find_no h.cred id hid hx))))
  | some x => exact creditW_of (pt q) (pt c) id CR (Lib.hid (credOf_yes h.cred id hid x hx))
theorem updL_rot_len {k i kk : Nat} (hl : ∀ k, k < 8 → (L k).length ≤ kk) : ∀ j, j < 8 → (updL L k (rotL i (L k)) j).length ≤ kk := fun j hj => by
  unfold updL
  split
  · rename_i e; subst e; rw [rotL_length]; exact hl j hj
  · exact hl j hj
theorem pick_some {Z : List Nat} {u : Value} {M : List Int} {kk : Nat} (h : WAt w q c cb s R L C) (hu : LInts Z w u M) (hM : M.length ≤ 1000) (hfit : ∀ x ∈ M, fit64 x) (hl : ∀ k, k < 8 → (L k).length ≤ kk) (hkk : kk ≤ 100000) (hs : s < 1000) (hmem : ∀ k, k < 8 → ∀ i ∈ L k, (C i).isSome = true) :
    Calls Try.prog 16 #[pt q, u] w (SomeW q c cb s R kk w) := by
  obtain ⟨A, cc, rfl, k1, k2, k3⟩ := hu.cells
  have P := pickW (cap := cc) h k3 (by unfold maxLen; omega) (fun j hj => hfit _ (by rw [at0, List.getElem?_eq_getElem hj]; exact List.getElem_mem hj)) (fun k hk => Nat.le_trans (hl k hk) hkk) hs hmem
  refine P.mono fun e w' hp => ?_
  rcases hp with ⟨_, h1, h2, h3⟩ | ⟨k, i, hk, _, _, _, _, h1, h2, h3⟩
  · exact ⟨_, L, C, h1, h2, hl, hmem, h3⟩
  · refine ⟨_, _, _, h1, h2, updL_rot_len hl, fun j hj x hx => ?_, h3⟩
    rw [crs_dom]
    unfold updL at hx
    split at hx
    · rename_i e; subst e; exact hmem j hj x (rotL_mem.1 hx)
    · exact hmem j hj x hx
theorem leave_some {kk : Nat} (h : WAt w q c cb s R L C) (id : Int) (hid : i64k id) (hl : ∀ k, k < 8 → (L k).length ≤ kk) (hkk : kk ≤ 100000) (hmem : ∀ k, k < 8 → ∀ i ∈ L k, (C i).isSome = true) :
    Calls Try.prog 14 #[pt q, .int .i64 id] w fun e w' => ∃ v, e = .returned v ∧ Touch (zone q c cb R) w w' := by
  obtain ⟨n, b, hp⟩ := prio_is L id
  rcases hp with ⟨rfl, k, hk, rfl, h1, h2⟩ | ⟨rfl, rfl, h1⟩
  · obtain ⟨x, hx⟩ := Option.isSome_iff_exists.1 (hmem k hk id h1)
    refine (leaveW_yes h id hid k hk (Nat.le_trans (hl k hk) hkk) h1 h2 x hx).mono ?_
    intro e w' hp
    exact ⟨_, hp.1, hp.2.2.mono (fun b hb => .inl (zone_of hk b hb))⟩
  · refine (leaveW_no (pt q) id (Lib.hid (prioW_none h id hid h1))).mono ?_
    rintro e w' ⟨he, hw⟩
    exact ⟨_, he, by rw [hw]; exact Touch.refl _ _⟩
end
end Go.Proofs.Ytcggpgjnjfjfnaa
