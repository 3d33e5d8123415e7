/-
  Layer 31 (wrr): the rings and accounts in memory; ring, credits, Prio, Credit, Order.
-/
import Derived.Test.YtcggpgjnjfjfnaaWrr0
import Derived.Test.YtcggpgjnjfjfnaaCreditLaws
import Derived.Test.YtcggpgjnjfjfnaaBoxV
namespace Go.Proofs.Ytcggpgjnjfjfnaa
open Go.ChangeShapes Go.WideShapes Go.ChangeAt Go.RowKit Go.Deep Go.Maps
set_option linter.unusedVariables false
set_option linter.unusedSimpArgs false

abbrev Tri := Nat → Nat × Nat × Nat
def tri (R : Tri) (k : Nat) : List Nat := [(R k).1, (R k).2.1, (R k).2.2]
def pt (b : Nat) : Value := .pointer (some ⟨b, 0, none⟩)
def wcells (R : Tri) (c : Nat) : Array Value := #[pt (R 0).1, pt (R 1).1, pt (R 2).1, pt (R 3).1, pt (R 4).1, pt (R 5).1, pt (R 6).1, pt (R 7).1, pt c]
/-- The blocks are apart. -/
structure Apart (q c cb : Nat) (R : Tri) : Prop where
  out : ∀ k, k < 8 → ∀ b ∈ tri R k, b ≠ q ∧ b ≠ c ∧ b ≠ cb
  two : ∀ j k, j < 8 → k < 8 → j ≠ k → ∀ b ∈ tri R j, b ∉ tri R k
  q : q ≠ c ∧ q ≠ cb ∧ c ≠ cb
/-- Eight rings with the lists L, and the accounts C, behind the pointer q. -/
structure WAt (w : World) (q c cb s : Nat) (R : Tri) (L : Nat → List Int) (C : Int → Option (Int × Int)) : Prop where
  box : BoxV w q 75 (wcells R c)
  ring : ∀ k, k < 8 → AsList w (R k).1 (R k).2.1 (R k).2.2 (L k)
  cred : CredAt w c cb s C
  apart : Apart q c cb R
def zone (q c cb : Nat) (R : Tri) : List Nat := q :: c :: cb :: (List.range 8).flatMap (tri R)
theorem mem_zone {q c cb : Nat} {R : Tri} {b : Nat} : b ∈ zone q c cb R ↔ b = q ∨ b = c ∨ b = cb ∨ ∃ k, k < 8 ∧ b ∈ tri R k := by
  unfold zone
  simp only [List.mem_cons, List.mem_flatMap, List.mem_range]
namespace WAt
variable {w w' : World} {q c cb s : Nat} {R : Tri} {L : Nat → List Int} {C : Int → Option (Int × Int)} {S : List Nat}
theorem carry (h : WAt w q c cb s R L C) (t : Touch S w w') (hS : ∀ b ∈ zone q c cb R, b ∉ S) : WAt w' q c cb s R L C :=
  ⟨h.box.carry t (hS q (mem_zone.2 (.inl rfl))),
   fun k hk => (h.ring k hk).carry t (hS _ (mem_zone.2 (.inr (.inr (.inr ⟨k, hk, by simp [tri]⟩))))) (hS _ (mem_zone.2 (.inr (.inr (.inr ⟨k, hk, by simp [tri]⟩))))) (hS _ (mem_zone.2 (.inr (.inr (.inr ⟨k, hk, by simp [tri]⟩))))),
   h.cred.carry t (hS c (mem_zone.2 (.inr (.inl rfl)))) (hS cb (mem_zone.2 (.inr (.inr (.inl rfl))))), h.apart⟩
theorem new (h : WAt w q c cb s R L C) (t : Touch [] w w') : WAt w' q c cb s R L C := h.carry t (fun b _ => by simp)
theorem cell (h : WAt w q c cb s R L C) {k : Nat} (hk : k < 8) : w.cell? ⟨q, k, none⟩ = some (pt (R k).1) := by
  have := h.box.cell k
  rw [this]
  unfold wcells
  match k, hk with
  | 0, _ => rfl
  | 1, _ => rfl
  | 2, _ => rfl
  | 3, _ => rfl
  | 4, _ => rfl
  | 5, _ => rfl
  | 6, _ => rfl
  | 7, _ => rfl
  | k + 8, h => omega
theorem cell8 (h : WAt w q c cb s R L C) : w.cell? ⟨q, 8, none⟩ = some (pt c) := h.box.cell 8
theorem lt (h : WAt w q c cb s R L C) : ∀ b ∈ zone q c cb R, b < w.heap.size := by
  intro b hb
  rcases mem_zone.1 hb with rfl | rfl | rfl | ⟨k, hk, hm⟩
  · exact h.box.lt
  · exact h.cred.box.lt
  · obtain ⟨es, clock, hb', _⟩ := h.cred.map.twin
    exact (Array.getElem?_eq_some_iff.1 hb').1
  · obtain ⟨l1, l2, l3⟩ := (h.ring k hk).lt
    simp [tri] at hm
    rcases hm with rfl | rfl | rfl <;> assumption
end WAt

section
variable {w : World} {q c cb s : Nat} {R : Tri} {L : Nat → List Int} {C : Int → Option (Int × Int)}
theorem ringW (h : WAt w q c cb s R L C) (k : Nat) (hk : k < 8) :
    Calls Try.prog 46 #[pt q, .int .i64 (k : Int)] w fun e w' => e = .returned (pt (R k).1) ∧ w' = w := by
  have hc := h.cell hk
  have hl := h.box.lt
  have d1 : decide ((k : Int) < 0) = false := by simp
  have d2 : decide ((8 : Int) ≤ (k : Int)) = false := by simp; omega
  have d2' : decide (8 ≤ k) = false := by simp; omega
  have hk' : (k : Int) < 8 := by omega
  unfold pt at *
  clear h
  go_enter Try.func46, Try.ntmps46
  go_wp2
  go_ret
  exact ⟨rfl, rfl⟩
theorem ringW_no (v : Value) (hv : v = .pointer none ∨ v = pt q) (k : Int) (hk : k < 0 ∨ 8 ≤ k) (w : World) :
    Calls Try.prog 46 #[v, .int .i64 k] w fun e w' => e = .returned (.pointer none) ∧ w' = w := by
  unfold pt at hv
  rcases hv with rfl | rfl
  · go_enter Try.func46, Try.ntmps46
    go_wp2
    go_ret
    exact ⟨rfl, rfl⟩
  · rcases hk with hk | hk
    · have d1 : decide (k < 0) = true := by simpa using hk
      clear hk
      go_enter Try.func46, Try.ntmps46
      go_wp2
      go_ret
      exact ⟨rfl, rfl⟩
    · have d1 : decide (k < 0) = false := by simp; omega
      have d2 : decide (8 ≤ k) = true := by simpa using hk
      clear hk
      go_enter Try.func46, Try.ntmps46
      go_wp2
      go_ret
      exact ⟨rfl, rfl⟩
theorem ringW_nil (k : Int) (w : World) : Calls Try.prog 46 #[.pointer none, .int .i64 k] w fun e w' => e = .returned (.pointer none) ∧ w' = w := by
  go_enter Try.func46, Try.ntmps46
  go_wp2
  go_ret
  exact ⟨rfl, rfl⟩
theorem creditsW (h : WAt w q c cb s R L C) : Calls Try.prog 47 #[pt q] w fun e w' => e = .returned (pt c) ∧ w' = w := by
  have hc := h.cell8
  unfold pt at *
  clear h
  go_enter Try.func47, Try.ntmps47
  go_wp2
  go_ret
  exact ⟨rfl, rfl⟩
theorem creditsW_nil (w : World) : Calls Try.prog 47 #[.pointer none] w fun e w' => e = .returned (.pointer none) ∧ w' = w := by
  go_enter Try.func47, Try.ntmps47
  go_wp2
  go_ret
  exact ⟨rfl, rfl⟩

set_option maxHeartbeats 1000000 in
theorem prioW_yes (h : WAt w q c cb s R L C) (id : Int) (hid : i64k id) (k : Nat) (hk : k < 8) (hin : id ∈ L k) (hfar : ∀ j, j < k → id ∉ L j) :
    Calls Try.prog 22 #[pt q, .int .i64 id] w fun e w' => e = .returned (.tuple #[.int .i64 (k : Int), .bool true]) ∧ w' = w := by
  have RW := Lib.hid (fun (j : Nat) (hj : j < 8) => ringW h j hj)
  have HA := Lib.hid (fun (j : Nat) (hj : j < 8) => (h.ring j hj).hasC id hid)
  have HF := Lib.hid hfar
  have HI := Lib.hid hin
  unfold pt at *
  clear h hfar hin
  go_enter Try.func22, Try.ntmps22
  go_wp2_with fail
  go_loop [7] (fun x => ∃ j : Nat, j ≤ k ∧ x = .int .i64 (j : Int)) (fun x => k - (intOf x).toNat)
  case atStart => exact ⟨0, Nat.zero_le _, rfl⟩
  case round =>
    obtain ⟨j, hj, rfl⟩ := hrel
    have hj8 : j < 8 := by omega
    have hj8' : (j : Int) < 8 := by omega
    have H1 := Lib.hid (HA.out j hj8)
    have R1 := Lib.hid (RW.out j hj8)
    by_cases hlt : j < k
    · rw [show decide (id ∈ L j) = false by simpa using HF.out j hlt] at H1
      go_wp2_with fail
      refine (R1.out).mono ?_
      rintro e w1 ⟨rfl, hw⟩
      subst hw
      go_wp2_with fail
      refine (H1.out).mono ?_
      rintro e w1 ⟨rfl, hw⟩
      subst hw
      go_wp2_with fail
      go_round
      case rel => exact ⟨j + 1, by omega, by go_num⟩
      case measure => simp [intOf]; omega
    · obtain rfl : j = k := by omega
      rw [show decide (id ∈ L j) = true by simpa using HI.out] at H1
      go_wp2_with fail
      refine (R1.out).mono ?_
      rintro e w1 ⟨rfl, hw⟩
      subst hw
      go_wp2_with fail
      refine (H1.out).mono ?_
      rintro e w1 ⟨rfl, hw⟩
      subst hw
      go_wp2_with fail
      refine bodyPost_ret (v := .tuple #[.int .i64 (j : Int), .bool true]) (by simp [results, Try.results22, go_sem]) rfl ⟨rfl, rfl⟩
set_option maxHeartbeats 1000000 in
theorem prioW_no (id : Int) (v : Value) {w : World} (HR : Hid (∀ j : Nat, j < 8 → ∃ u, (Calls Try.prog 46 #[v, .int .i64 (j : Int)] w fun e w' => e = .returned u ∧ w' = w) ∧ Calls Try.prog 39 #[u, .int .i64 id] w fun e w' => e = .returned (.bool false) ∧ w' = w)) :
    Calls Try.prog 22 #[v, .int .i64 id] w fun e w' => e = .returned (.tuple #[.int .i64 0, .bool false]) ∧ w' = w := by
  go_enter Try.func22, Try.ntmps22
  go_wp2_with fail
  go_loop [7] (fun x => ∃ j : Nat, j ≤ 8 ∧ x = .int .i64 (j : Int)) (fun x => 8 - (intOf x).toNat)
  case atStart => exact ⟨0, Nat.zero_le _, rfl⟩
  case round =>
    obtain ⟨j, hj, rfl⟩ := hrel
    by_cases hlt : j < 8
    · have hj8' : (j : Int) < 8 := by omega
      obtain ⟨u, r1, h1⟩ := HR.out j hlt
      have R1 := Lib.hid r1
      have H1 := Lib.hid h1
      clear r1 h1
      go_wp2_with fail
      refine (R1.out).mono ?_
      rintro e w1 ⟨rfl, hw⟩
      subst hw
      go_wp2_with fail
      refine (H1.out).mono ?_
      rintro e w1 ⟨rfl, hw⟩
      subst hw
      go_wp2_with fail
      go_round
      case rel => exact ⟨j + 1, by omega, by go_num⟩
      case measure => simp [intOf]; omega
    · obtain rfl : j = 8 := by omega
      go_wp2_with fail
      refine bodyPost_ret (v := .tuple #[.int .i64 0, .bool false]) (by simp [results, Try.results22, go_sem]) rfl ⟨rfl, rfl⟩
theorem prioW_none (h : WAt w q c cb s R L C) (id : Int) (hid : i64k id) (hn : ∀ k, k < 8 → id ∉ L k) :
    Calls Try.prog 22 #[pt q, .int .i64 id] w fun e w' => e = .returned (.tuple #[.int .i64 0, .bool false]) ∧ w' = w :=
  prioW_no id (pt q) (Lib.hid fun j hj => ⟨_, ringW h j hj, by
    have := (h.ring j hj).hasC id hid
    rw [show decide (id ∈ L j) = false by simpa using hn j hj] at this
    exact this⟩)
theorem prioW_nil (id : Int) (w : World) : Calls Try.prog 22 #[.pointer none, .int .i64 id] w fun e w' => e = .returned (.tuple #[.int .i64 0, .bool false]) ∧ w' = w :=
  prioW_no id (.pointer none) (Lib.hid fun j hj => ⟨_, ringW_nil j w, ringHas_nil id w⟩)
theorem orderW (h : WAt w q c cb s R L C) (k : Nat) (hk : k < 8) (hl : (L k).length ≤ 100000) :
    Calls Try.prog 26 #[pt q, .int .i64 (k : Int)] w (IntsPost w (L k)) := by
  have R1 := Lib.hid (ringW h k hk)
  have O1 := Lib.hid ((h.ring k hk).orderC hl)
  unfold pt IntsPost at *
  clear h
  go_enter Try.func26, Try.ntmps26
  go_wp2_with fail
  refine (R1.out).mono ?_
  rintro e w1 ⟨rfl, hw⟩
  subst hw
  go_wp2_with fail
  refine (O1.out).mono ?_
  rintro e w2 ⟨v, rfl, ho, hb⟩
  have HO := Lib.hid ho
  have HB := Lib.hid hb
  clear ho hb
  go_wp2_with fail
  go_ret
  exact ⟨_, rfl, HO.out, HB.out⟩
theorem orderW_nil (v : Value) (k : Int) {w : World} (R1 : Hid (Calls Try.prog 46 #[v, .int .i64 k] w fun e w' => e = .returned (.pointer none) ∧ w' = w)) :
    Calls Try.prog 26 #[v, .int .i64 k] w fun e w' => e = .returned (.slice none 0 0) ∧ w' = w := by
  go_enter Try.func26, Try.ntmps26
  go_wp2_with fail
  refine (R1.out).mono ?_
  rintro e w1 ⟨rfl, hw⟩
  subst hw
  go_wp2_with fail
  refine (order_none _ _ (Lib.hid (ringLen_nil _))).mono ?_
  rintro e w1 ⟨rfl, hw⟩
  subst hw
  go_wp2_with fail
  go_ret
  exact ⟨rfl, rfl⟩
end
end Go.Proofs.Ytcggpgjnjfjfnaa
