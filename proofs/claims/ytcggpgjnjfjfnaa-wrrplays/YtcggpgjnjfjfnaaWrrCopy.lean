/-
  Layer 31 (wrr): Copy of rings and accounts that are there.
-/
import Derived.Test.YtcggpgjnjfjfnaaWrr6
import Derived.Test.YtcggpgjnjfjfnaaCreditCopy
namespace Go.Proofs.Ytcggpgjnjfjfnaa
open Go.ChangeShapes Go.WideShapes Go.ChangeAt Go.RowKit Go.Deep Go.Maps
set_option linter.unusedVariables false
set_option linter.unusedSimpArgs false

/-- The first i rings of the copy. -/
structure HalfC (w0 w : World) (q c cb s i : Nat) (R : Tri) (L : Nat → List Int) (C : Int → Option (Int × Int)) : Prop where
  box : BoxV w q 75 (ncells (fun j => if j < i then pt (R j).1 else .pointer none) c)
  ring : ∀ k, k < i → AsList w (R k).1 (R k).2.1 (R k).2.2 (L k)
  cred : CredAt w c cb s C
  two : ∀ j k, j < i → k < i → j ≠ k → ∀ b ∈ tri R j, b ∉ tri R k
  far : ∀ k, k < i → ∀ b ∈ tri R k, b ≠ q ∧ b ≠ c ∧ b ≠ cb
  qs : q ≠ c ∧ q ≠ cb ∧ c ≠ cb
  low : w0.heap.size ≤ q ∧ w0.heap.size ≤ c ∧ w0.heap.size ≤ cb ∧ ∀ k, k < i → ∀ b ∈ tri R k, w0.heap.size ≤ b
  t : Touch [] w0 w
theorem HalfC.step {w0 w w1 : World} {q c cb s i p b1 b2 : Nat} {R : Tri} {L : Nat → List Int} {C : Int → Option (Int × Int)} (h : HalfC w0 w q c cb s i R L C) (hi : i < 8) (hr : AsList w1 p b1 b2 (L i)) (hlow : w.heap.size ≤ p ∧ w.heap.size ≤ b1 ∧ w.heap.size ≤ b2) (t : Touch [] w w1) :
    HalfC w0 (w1.setCell ⟨q, i, none⟩ (pt p)) q c cb s (i + 1) (upR R i (p, b1, b2)) L C := by
  have hq := h.box.lt
  have t2 : Touch [q] w1 (w1.setCell ⟨q, i, none⟩ (pt p)) := (Touch.refl [q] w1).setCell (a := ⟨q, i, none⟩) (by simp) (pt p)
  have hup : ∀ k, k < i → upR R i (p, b1, b2) k = R k := fun k hk => if_neg (by omega)
  have hup' : upR R i (p, b1, b2) i = (p, b1, b2) := if_pos rfl
  have htri : ∀ k, k < i → tri (upR R i (p, b1, b2)) k = tri R k := fun k hk => by unfold tri; rw [hup k hk]
  have htri' : tri (upR R i (p, b1, b2)) i = [p, b1, b2] := by unfold tri; rw [hup']
  have hc := h.cred.box.lt
  have hcb : cb < w.heap.size := by
    obtain ⟨es, clock, hb', _⟩ := h.cred.map.twin
    exact (Array.getElem?_eq_some_iff.1 hb').1
  have hold : ∀ k, k < i → ∀ b ∈ tri R k, b < w.heap.size := fun k hk b hb => by
    obtain ⟨l1, l2, l3⟩ := (h.ring k hk).lt
    simp [tri] at hb
    rcases hb with rfl | rfl | rfl <;> assumption
  have hnew : ∀ b ∈ [p, b1, b2], w.heap.size ≤ b := fun b hb => by
    simp at hb
    rcases hb with rfl | rfl | rfl <;> omega
  refine ⟨?_, fun k hk => ?_, ?_, fun j k hj hk hne b hb hm => ?_, fun k hk b hb => ?_, h.qs, ⟨h.low.1, h.low.2.1, h.low.2.2.1, fun k hk b hb => ?_⟩, (h.t.trans t (by simp)).trans t2 (fun b hb => by simp at hb; subst hb; exact .inr h.low.1)⟩
  · have := (h.box.carry t (by simp)).set i (pt p)
    rw [ncells_set _ _ _ hi] at this
    have e : (fun j => if j = i then pt p else if j < i then pt (R j).1 else Value.pointer none) = (fun j => if j < i + 1 then pt (upR R i (p, b1, b2) j).1 else Value.pointer none) := by
      funext j
      by_cases h1 : j = i
      · subst h1
        rw [if_pos rfl, if_pos (by omega), hup']
      · rw [if_neg h1]
        by_cases h2 : j < i
        · rw [if_pos h2, if_pos (by omega), hup j h2]
        · rw [if_neg h2, if_neg (by omega)]
    rwa [e] at this
  · by_cases hk' : k < i
    · rw [hup k hk']
      have far := h.far k hk'
      exact ((h.ring k hk').carry t (by simp) (by simp) (by simp)).carry t2 (by simpa using (far _ (by simp [tri])).1) (by simpa using (far _ (by simp [tri])).1) (by simpa using (far _ (by simp [tri])).1)
    · obtain rfl : k = i := by omega
      rw [hup']
      exact hr.carry t2 (by simp; omega) (by simp; omega) (by simp; omega)
  · exact (h.cred.carry t (by simp) (by simp)).carry t2 (by simpa using h.qs.1.symm) (by simpa using h.qs.2.1.symm)
  · by_cases hj' : j < i
    · rw [htri j hj'] at hb
      by_cases hk' : k < i
      · rw [htri k hk'] at hm
        exact h.two j k hj' hk' hne b hb hm
      · obtain rfl : k = i := by omega
        rw [htri'] at hm
        have := hold j hj' b hb
        have := hnew b hm
        omega
    · obtain rfl : j = i := by omega
      rw [htri'] at hb
      have hk' : k < j := by omega
      rw [htri k hk'] at hm
      have := hold k hk' b hm
      have := hnew b hb
      omega
  · by_cases hk' : k < i
    · rw [htri k hk'] at hb
      exact h.far k hk' b hb
    · obtain rfl : k = i := by omega
      rw [htri'] at hb
      have := hnew b hb
      omega
  · by_cases hk' : k < i
    · rw [htri k hk'] at hb
      exact h.low.2.2.2 k hk' b hb
    · obtain rfl : k = i := by omega
      rw [htri'] at hb
      have := hnew b hb
      have := h.t.size
      omega
theorem HalfC.all {w0 w : World} {q c cb s : Nat} {R : Tri} {L : Nat → List Int} {C : Int → Option (Int × Int)} (h : HalfC w0 w q c cb s 8 R L C) : WAt w q c cb s R L C := by
  refine ⟨?_, h.ring, h.cred, ⟨h.far, h.two, h.qs⟩⟩
  have := h.box
  unfold ncells at this
  unfold wcells
  simpa using this
theorem index8 (a0 a1 a2 a3 a4 a5 a6 a7 v : Value) (i : Nat) (hi : i < 8) (hg : #[a0, a1, a2, a3, a4, a5, a6, a7][i]? = some v) (w : World) :
    (Instr.index 73 (.agg #[a0, a1, a2, a3, a4, a5, a6, a7]) (.int .i64 (i : Int))).run Try.prog w = .ok v w := by
  have hb : (0 : Int) ≤ (i : Int) ∧ (i : Int) < 8 := by omega
  obtain ⟨i0, hi0, hs⟩ : ∃ i0, Try.prog.info? 57 = some i0 ∧ i0.size = 1 := by
    have h : (Try.prog.info? 57).map (fun i => i.size) = some 1 := by kernel_rfl
    cases hx : Try.prog.info? 57 with
    | none => rw [hx] at h; cases h
    | some x => rw [hx] at h; exact ⟨x, rfl, by simpa using h⟩
  simp [Instr.index, run_underlying Try.underlying73, asIntOf, sizeOf, typeInfo, hi0, hs, hb, go_sem]
  have hg' : [a0, a1, a2, a3, a4, a5, a6, a7][i]? = some v := by simpa using hg
  rw [if_pos hi, hg']
  rfl
def WCopyPost (s : Nat) (L : Nat → List Int) (C : Int → Option (Int × Int)) (w : World) (e : Ending) (w' : World) : Prop :=
  ∃ q c cb R, e = .returned (pt q) ∧ WAt w' q c cb s R L C ∧ (∀ b ∈ zone q c cb R, w.heap.size ≤ b) ∧ Touch [] w w'
set_option maxHeartbeats 2000000 in
set_option maxRecDepth 100000 in
theorem copyW {w : World} {q c cb s : Nat} {R : Tri} {L : Nat → List Int} {C : Int → Option (Int × Int)} (h : WAt w q c cb s R L C) (hl : ∀ k, k < 8 → (L k).length ≤ 100000) :
    Calls Try.prog 21 #[pt q] w (WCopyPost s L C w) := by
  have C1 := Lib.hid (credCopy_any h.cred)
  have H := Lib.hid h
  have HL := Lib.hid hl
  have c8 := h.cell8
  have hq := h.box.lt
  have HC := Lib.hid (fun (w' : World) (t : Touch [] w w') (k : Nat) (hk : k < 8) => show w'.cell? ⟨q, k, none⟩ = some (pt (R k).1) from (h.new t).cell hk)
  unfold WCopyPost AccCopyPost at *
  unfold pt at *
  clear h hl
  go_enter Try.func21, Try.ntmps21
  go_wp2_with fail
  refine (C1.out).mono ?_
  rintro e w1 ⟨rfl, a1, t1⟩
  have hb1 := a1.box.lt
  have qs : w1.heap.size ≠ w.heap.size + 1 ∧ w1.heap.size ≠ w.heap.size ∧ w.heap.size + 1 ≠ w.heap.size := by omega
  have H0 : HalfC w (w1.alloc (.cells #[.pointer none, .pointer none, .pointer none, .pointer none, .pointer none, .pointer none, .pointer none, .pointer none, .pointer (some ⟨w.heap.size + 1, 0, none⟩)] 75)) w1.heap.size (w.heap.size + 1) w.heap.size s 0 (fun _ => (0, 0, 0)) L C :=
    ⟨BoxV.new w1 _ _, fun k hk => absurd hk (by omega), a1.carry ((Touch.refl [] w1).alloc _) (by simp) (by simp), fun j k hj => absurd hj (by omega), fun k hk => absurd hk (by omega), qs, ⟨by omega, by omega, Nat.le_refl _, fun k hk => absurd hk (by omega)⟩, t1.alloc _⟩
  have HH := Lib.hid H0
  have hc := fun k hk => HC.out _ (t1.alloc (.cells #[.pointer none, .pointer none, .pointer none, .pointer none, .pointer none, .pointer none, .pointer none, .pointer none, .pointer (some ⟨w.heap.size + 1, 0, none⟩)] 75)) k hk
  have k0 := hc 0 (by omega)
  have k1 := hc 1 (by omega)
  have k2 := hc 2 (by omega)
  have k3 := hc 3 (by omega)
  have k4 := hc 4 (by omega)
  have k5 := hc 5 (by omega)
  have k6 := hc 6 (by omega)
  have k7 := hc 7 (by omega)
  clear a1 H0 C1 hc c8 hb1
  go_upto_region 4 with fail
  generalize hw2 : w1.alloc _ = w2 at *
  clear hw2
  go_upto_region 5 with fail
  clear k0 k1 k2 k3 k4 k5 k6 k7
  have HQS := Lib.hid (show w.heap.size ≤ w1.heap.size from t1.size)
  generalize w1.heap.size = q2 at *
  go_loopw [19] (fun x wr => ∃ (i : Nat) (R' : Tri), i ≤ 8 ∧ x = .int .i64 (i : Int) ∧ HalfC w wr q2 (w.heap.size + 1) w.heap.size s i R' L C) (fun x _ => 8 - (intOf x).toNat)
  case atStart => exact ⟨0, _, Nat.zero_le _, rfl, HH.out⟩
  case round =>
    clear HH
    obtain ⟨i, R', hi, rfl, hH⟩ := hrel
    by_cases hlt : i < 8
    · have hi8 : (i : Int) < 8 := by omega
      have H2 := Lib.hid hH
      have ql := hH.box.lt
      have hg : #[Value.pointer (some ⟨(R 0).1, 0, none⟩), Value.pointer (some ⟨(R 1).1, 0, none⟩), Value.pointer (some ⟨(R 2).1, 0, none⟩), Value.pointer (some ⟨(R 3).1, 0, none⟩), Value.pointer (some ⟨(R 4).1, 0, none⟩), Value.pointer (some ⟨(R 5).1, 0, none⟩), Value.pointer (some ⟨(R 6).1, 0, none⟩), Value.pointer (some ⟨(R 7).1, 0, none⟩)][i]? = some (Value.pointer (some ⟨(R i).1, 0, none⟩)) := by
        match i, hlt with
        | 0, _ => rfl
        | 1, _ => rfl
        | 2, _ => rfl
        | 3, _ => rfl
        | 4, _ => rfl
        | 5, _ => rfl
        | 6, _ => rfl
        | 7, _ => rfl
        | i + 8, h => omega
      have N1 := Lib.hid (fun (u : World) (t : Touch [] wr u) => (((H.out.new hH.t).new t).ring i hlt).copyC (HL.out i hlt))
      have RI := fun u => index8 _ _ _ _ _ _ _ _ _ i hlt hg u
      clear hH hg
      go_upto_region 7 with fail
      clear RI
      go_region_with (go_at_call 35; refine (N1.out _ (by first | exact Touch.refl _ _ | exact (Touch.refl _ _).drew)).mono ?_; rintro e w5 ⟨p, b1, b2, rfl, hr, hlow, t5⟩; have HR5 := Lib.hid hr; have HL5 := Lib.hid hlow; have T5 := Lib.hid ((Touch.refl [] _).drew.trans t5 (by simp)); have B5 := H2.out.box.carry T5.out (by simp); have k5 := (B5.cell i).trans (ncells_get _ _ i hlt); have f5 := B5.fr i; have l5 := B5.lt; clear hr hlow t5 B5)
      all_goals
        have HS := Lib.hid (H2.out.step hlt HR5.out HL5.out T5.out)
        clear k5 f5 l5
        unfold pt at HS
        go_wp2_with fail
        go_roundw
        case rel => exact ⟨i + 1, _, by omega, by go_num, HS.out⟩
        case measure => simp [intOf]; omega
    · obtain rfl : i = 8 := by omega
      have H2 := Lib.hid hH
      clear hH
      go_wp2_with fail
      go_ret
      exact ⟨_, _, _, R', rfl, H2.out.all, fun b hb => by
        have hl := H2.out.low
        rcases mem_zone.1 hb with rfl | rfl | rfl | ⟨k, hk, hm⟩
        · exact hl.1
        · exact hl.2.1
        · exact hl.2.2.1
        · exact hl.2.2.2 k hk b hm, H2.out.t⟩
end Go.Proofs.Ytcggpgjnjfjfnaa
