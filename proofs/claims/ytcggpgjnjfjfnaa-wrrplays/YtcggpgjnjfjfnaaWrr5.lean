/-
  Layer 31 (wrr): the laws' own example.
-/
import Derived.Test.YtcggpgjnjfjfnaaWrr4
namespace Go.Proofs.Ytcggpgjnjfjfnaa
open Go.ChangeShapes Go.WideShapes Go.ChangeAt Go.RowKit Go.Deep Go.Maps
set_option linter.unusedVariables false
set_option linter.unusedSimpArgs false

section
variable {w : World} {q c cb s : Nat} {R : Tri} {L : Nat → List Int} {C : Acc}
/-- Which one Pick tells, where the ring and the turn are known. -/
theorem pick_known {able : Int → Bool} {e : Ending} {w' : World} {k0 i0 : Nat} (hk : k0 < 8) (h1 : anyIn able (L k0) = true) (h2 : ∀ j, j < k0 → anyIn able (L j) = false) (h3 : stops able (L k0) C i0) (h4 : ∀ j, j < i0 → ¬ stops able (L k0) C j)
    (h : ((∀ k, k < 8 → anyIn able (L k) = false) ∧ PickNone q c cb s R L C w e w') ∨ ∃ k i, k < 8 ∧ anyIn able (L k) = true ∧ (∀ j, j < k → anyIn able (L j) = false) ∧ stops able (L k) C i ∧ (∀ j, j < i → ¬ stops able (L k) C j) ∧ PickOne able k i q c cb s R L C w e w') :
    PickOne able k0 i0 q c cb s R L C w e w' := by
  rcases h with ⟨hn, _⟩ | ⟨k, i, hk', g1, g2, g3, g4, g5⟩
  · rw [hn k0 hk] at h1; exact Bool.noConfusion h1
  · have e1 : k = k0 := by
      rcases Nat.lt_trichotomy k k0 with h | h | h
      · rw [h2 k h] at g1; exact Bool.noConfusion g1
      · exact h
      · rw [g2 k0 h] at h1; exact Bool.noConfusion h1
    subst e1
    have e2 : i = i0 := by
      rcases Nat.lt_trichotomy i i0 with h | h | h
      · exact absurd g3 (h4 i h)
      · exact h
      · exact absurd h3 (g4 i0 h)
    subst e2
    exact g5
def LL (l : List Int) : Nat → List Int := updL (fun _ => []) 0 l
theorem LL_mem {l : List Int} (h : ∀ i ∈ l, (C i).isSome = true) : ∀ k, k < 8 → ∀ i ∈ LL l k, (C i).isSome = true := by
  intro k _ i hi
  unfold LL updL at hi
  split at hi
  · exact h i hi
  · simp at hi
theorem LL_len {l : List Int} (h : l.length ≤ 100000) : ∀ k, k < 8 → (LL l k).length ≤ 100000 := by
  intro k _
  unfold LL updL
  split
  · exact h
  · simp
theorem LL_zero (l : List Int) : LL l 0 = l := rfl
theorem LL_upd (l l' : List Int) : updL (LL l) 0 l' = LL l' := updL_updL _ _ _ _
def x12 (j : Nat) : Int := if j = 0 then 1 else 2
theorem lit12 (w : World) (t : TypeId) : IntCells (w.alloc (.cells #[.int .i64 1, .int .i64 2] t)) (w.alloc (.cells #[.int .i64 1, .int .i64 2] t)).heap.size (some ⟨w.heap.size, 0, none⟩) 2 x12 := fun i hi => by
  have hb := heap_alloc_new w (.cells #[.int .i64 1, .int .i64 2] t)
  refine ⟨w.heap.size, 0, rfl, by simp, ?_⟩
  rw [cell_of_row _ _ _ _ t (0, 0) hb]
  rcases (show i = 0 ∨ i = 1 by omega) with rfl | rfl
  · rfl
  · rfl
/-- Pick of 1 and 2, where ring 0 alone has members. -/
theorem pick12 (t : TypeId) {l : List Int} {i0 : Nat} (h : WAt w q c cb s R (LL l) C) (hl : l.length ≤ 100000) (hs : s < 1000) (hm : ∀ i ∈ l, (C i).isSome = true) (h1 : anyIn (ableB x12 2) l = true) (h3 : stops (ableB x12 2) l C i0) (h4 : ∀ j, j < i0 → ¬ stops (ableB x12 2) l C j) :
    Calls Try.prog 16 #[.pointer (some ⟨q, 0, none⟩), .slice (some ⟨w.heap.size, 0, none⟩) 2 2] (w.alloc (.cells #[.int .i64 1, .int .i64 2] t)) fun e w' =>
      e = .returned (.tuple #[.int .i64 (hdx l i0), .bool true]) ∧ WAt w' q c cb s R (LL (rotL (i0 + 1) l)) (crs (ableB x12 2) l C (i0 + 1)) ∧ Touch (zone q c cb R) w w' := by
  have t0 : Touch [] w (w.alloc (.cells #[.int .i64 1, .int .i64 2] t)) := (Touch.refl [] w).alloc _
  refine (pickW (h.new t0) (lit12 w t) (by unfold maxLen; omega) (fun i hi => by rcases (show i = 0 ∨ i = 1 by omega) with rfl | rfl <;> (unfold fit64 x12; decide)) (LL_len hl) hs (LL_mem hm)).mono ?_
  intro e w' hp
  obtain ⟨he, hw, t1⟩ := pick_known (by omega) (k0 := 0) (i0 := i0) h1 (fun j hj => absurd hj (Nat.not_lt_zero _)) h3 h4 hp
  rw [LL_upd] at hw
  exact ⟨he, hw, (t0.mono (by simp)).trans t1 (fun b hb => .inl hb)⟩
end
def cv2 : Acc := updC (updC (fun _ => none) 1 (some (0, 100))) 2 (some (0, 100))
def cv3 : Acc := crs (ableB x12 2) [1, 2] cv2 1
def cv4 : Acc := updC cv3 1 (some (clampC 100 (satSub 100 (size2048 300)), 100))
def cv5 : Acc := crs (ableB x12 2) [2, 1] cv4 1
theorem cv3_one : cv3 1 = some (100, 100) := by decide +kernel
theorem cvA : stops (ableB x12 2) [1, 2] cv2 0 := by unfold stops; decide +kernel
theorem cvB : stops (ableB x12 2) [2, 1] cv4 0 := by unfold stops; decide +kernel
theorem cvC0 : ¬ stops (ableB x12 2) [1, 2] cv5 0 := by unfold stops; decide +kernel
theorem cvC : stops (ableB x12 2) [1, 2] cv5 1 := by unfold stops; decide +kernel
theorem cvM : (∀ i ∈ [1, 2], (cv2 i).isSome = true) ∧ (∀ i ∈ [2, 1], (cv4 i).isSome = true) ∧ ∀ i ∈ [1, 2], (cv5 i).isSome = true := by decide +kernel
theorem zone_of {q c cb k : Nat} {R : Tri} (hk : k < 8) : ∀ b ∈ cb :: tri R k, b ∈ zone q c cb R := by
  intro b hb
  rcases List.mem_cons.1 hb with rfl | hb
  · exact mem_zone.2 (.inr (.inr (.inl rfl)))
  · exact mem_zone.2 (.inr (.inr (.inr ⟨k, hk, hb⟩)))

set_option maxHeartbeats 4000000 in
set_option maxRecDepth 100000 in
theorem wrrLives_any (w : World) :
    Calls Try.prog 7 #[] w fun e w' => e = .returned (.bool true) ∧ Below w.heap.size w w' := by
  have N := Lib.hid (newW w)
  go_enter Try.func7, Try.ntmps7
  go_wp2_with fail
  refine (N.out).mono ?_
  rintro e w1 ⟨q, c, cb, R, rfl, a1, hz, t1⟩
  clear N
  have HZ := Lib.hid hz
  have J1 := joinW_yes a1 1 100 (by exact rfl) 0 (by omega) (by simp) rfl (by omega) (by omega) (by simp)
  have T1 := Lib.hid t1
  have J1 := Lib.hid J1
  clear a1 hz t1
  unfold pt at *
  go_wp2_with fail
  refine (J1.out).mono ?_
  rintro e w2 ⟨rfl, a2, t2⟩
  have T2 := Lib.hid (T1.out.trans t2 (fun b hb => .inr (HZ.out b (zone_of (by omega) b hb))))
  have J2 := Lib.hid (joinW_yes a2 2 100 (by exact rfl) 0 (by omega) (by rw [updL_same]; simp) rfl (by omega) (by omega) (by rw [updL_same]; simp))
  clear J1 a2 t2 T1
  unfold pt at *
  go_wp2_with fail
  refine (J2.out).mono ?_
  rintro e w3 ⟨rfl, a3, t3⟩
  have T3 := Lib.hid (T2.out.trans t3 (fun b hb => .inr (HZ.out b (zone_of (by omega) b hb))))
  rw [updL_updL, updL_same] at a3
  have a3 : WAt w3 q c cb 2 R (LL [1, 2]) cv2 := a3
  have P1 := Lib.hid (pick12 3 a3 (by decide) (by omega) cvM.1 (by decide +kernel) cvA (fun j hj => absurd hj (Nat.not_lt_zero _)))
  clear J2 a3 t3 T2
  go_wp2_with fail
  refine (P1.out).mono ?_
  rintro e w4 ⟨rfl, a4, t4⟩
  have T4 := Lib.hid (T3.out.trans t4 (fun b hb => .inr (HZ.out b hb)))
  have a4 : WAt w4 q c cb 2 R (LL [2, 1]) cv3 := a4
  have CR := Lib.hid (creditsW a4)
  have S1 := Lib.hid (sentW_of (.pointer (some ⟨q, 0, none⟩)) (.pointer (some ⟨c, 0, none⟩)) 1 300 CR (P := fun w' => WAt w' q c cb 2 R (LL [2, 1]) cv4 ∧ Touch (zone q c cb R) w4 w') (Lib.hid ((spend_yes a4.cred 1 300 (by exact rfl) (100, 100) cv3_one (by omega)).mono fun e w' h => ⟨h.1, a4.credNow h.2.1 h.2.2, h.2.2.mono fun b hb => by simp at hb; subst hb; exact .inl (mem_zone.2 (.inr (.inr (.inl rfl))))⟩)))
  clear P1 a4 t4 T3 CR
  have hd1 : hdx [1, 2] 0 = 1 := by decide +kernel
  rw [hd1]
  go_wp2_with fail
  refine (S1.out).mono ?_
  rintro e w5 ⟨rfl, a5, t5⟩
  have T5 := Lib.hid (T4.out.trans t5 (fun b hb => .inr (HZ.out b hb)))
  have P2 := Lib.hid (pick12 3 a5 (by decide) (by omega) cvM.2.1 (by decide +kernel) cvB (fun j hj => absurd hj (Nat.not_lt_zero _)))
  clear S1 a5 t5 T4
  go_wp2_with fail
  refine (P2.out).mono ?_
  rintro e w6 ⟨rfl, a6, t6⟩
  have T6 := Lib.hid (T5.out.trans t6 (fun b hb => .inr (HZ.out b hb)))
  have a6 : WAt w6 q c cb 2 R (LL [1, 2]) cv5 := a6
  have P3 := Lib.hid (pick12 3 a6 (by decide) (by omega) cvM.2.2 (by decide +kernel) cvC (fun j hj => by rw [show j = 0 from Nat.lt_one_iff.1 hj]; exact cvC0))
  clear P2 a6 t6 T5
  have hd2 : hdx [2, 1] 0 = 2 := by decide +kernel
  rw [hd2]
  go_wp2_with fail
  refine (P3.out).mono ?_
  rintro e w7 ⟨rfl, a7, t7⟩
  have T7 := Lib.hid (T6.out.trans t7 (fun b hb => .inr (HZ.out b hb)))
  clear P3 a7 t7 T6
  have hd3 : hdx [1, 2] 1 = 2 := by decide +kernel
  rw [hd3]
  go_wp2_with fail
  go_ret
  exact ⟨rfl, T7.out.below (by simp) (Nat.le_refl _)⟩
end Go.Proofs.Ytcggpgjnjfjfnaa
