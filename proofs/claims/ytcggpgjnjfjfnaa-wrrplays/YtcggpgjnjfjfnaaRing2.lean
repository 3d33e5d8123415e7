/-
  Contracts of layer 29 (ring): Add, Head, Turn, Order.
-/
import Derived.Test.YtcggpgjnjfjfnaaRing
import Derived.Deep.QuietTactic
import Derived.BigQuiet
namespace Go.Proofs.Ytcggpgjnjfjfnaa
open Go.ChangeShapes Go.WideShapes Go.ChangeAt Go.RowKit Go.Deep Go.Maps
set_option linter.unusedVariables false

/-- The members x 0 .. x (n - 1), round and round: N leads on, Q leads back, hd is the head. -/
structure Cyc (n : Nat) (x : Nat → Int) (hd : Int) (N Q : Int → Option Int) : Prop where
  per : ∀ i, x (i + n) = x i
  inj : ∀ i j, i < n → j < n → x i = x j → i = j
  i64 : 0 < n → ∀ i, i64k (x i)
  next : 0 < n → ∀ i, N (x i) = some (x (i + 1))
  non : ∀ k, (∀ j, j < n → x j ≠ k) → N k = none
  prev : 0 < n → ∀ i, Q (x (i + 1)) = some (x i)
  nonQ : ∀ k, (∀ j, j < n → x j ≠ k) → Q k = none
  head : 0 < n → hd = x 0

def ext (n : Nat) (x : Nat → Int) (id : Int) : Nat → Int := fun i => if i % (n + 1) < n then x (i % (n + 1)) else id
theorem ext_lt (x : Nat → Int) (id : Int) {n i : Nat} (h : i < n) : ext n x id i = x i := by
  unfold ext
  rw [Nat.mod_eq_of_lt (by omega), if_pos h]
theorem ext_at (x : Nat → Int) (id : Int) (n : Nat) : ext n x id n = id := by
  unfold ext
  rw [Nat.mod_eq_of_lt (by omega), if_neg (by omega)]
theorem ext_per (x : Nat → Int) (id : Int) (n i : Nat) : ext n x id (i + (n + 1)) = ext n x id i := by
  unfold ext
  rw [Nat.add_mod_right]
/-- What holds of the first n + 1 pairs of neighbours holds of all. -/
theorem ext_all {n : Nat} {x : Nat → Int} {id : Int} {R : Int → Int → Prop} (h : ∀ i, i < n → R (ext n x id i) (ext n x id (i + 1))) (hl : R id (ext n x id 0)) (i : Nat) : R (ext n x id i) (ext n x id (i + 1)) := by
  have e : ∀ j, ext n x id j = ext n x id (j % (n + 1)) := fun j => by unfold ext; rw [Nat.mod_mod]
  have hr : i % (n + 1) < n + 1 := Nat.mod_lt _ (by omega)
  rw [e i, e (i + 1)]
  by_cases hi : i % (n + 1) < n
  · rw [Nat.add_mod, Nat.mod_eq_of_lt (a := 1) (by omega), Nat.mod_eq_of_lt (a := i % (n + 1) + 1) (by omega)]
    exact h _ hi
  · have hn : i % (n + 1) = n := by omega
    rw [Nat.add_mod, hn, ext_at]
    by_cases h0 : n = 0
    · subst h0
      simpa using hl
    · rw [Nat.mod_eq_of_lt (a := 1) (by omega), Nat.mod_self]
      exact hl

namespace Cyc
variable {n : Nat} {x : Nat → Int} {hd id : Int} {N Q : Int → Option Int}
theorem new : Cyc 0 (fun _ => 0) 0 (fun _ => .none) (fun _ => .none) := ⟨fun _ => rfl, fun _ _ h => by omega, fun h => by omega, fun h => by omega, fun _ _ => rfl, fun h => by omega, fun _ _ => rfl, fun h => by omega⟩
theorem fresh (h : Cyc n x hd N Q) (hn : N id = .none) : ∀ j, j < n → x j ≠ id := fun j hj e => by
  have := h.next (by omega) j
  rw [e, hn] at this
  cases this
theorem some_at (h : Cyc n x hd N Q) {y : Int} (hs : (N y).isSome = true) : ∃ j, j < n ∧ x j = y := by
  refine Classical.byContradiction fun hc => ?_
  rw [h.non y (fun j hj e => hc ⟨j, hj, e⟩)] at hs
  cases hs
theorem i64h (h : Cyc n x hd N Q) (h0 : 0 < n) : i64k hd := by rw [h.head h0]; exact h.i64 h0 0
theorem turn (h : Cyc n x hd N Q) (h0 : 0 < n) : Cyc n (fun i => x (i + 1)) (x 1) N Q := by
  refine ⟨fun i => ?_, fun i j hi hj e => ?_, fun _ i => h.i64 h0 _, fun _ i => h.next h0 _, fun k hk => h.non k fun j hj => ?_, fun _ i => h.prev h0 _, fun k hk => h.nonQ k fun j hj => ?_, fun _ => rfl⟩
  · rw [show i + n + 1 = i + 1 + n by omega]
    exact h.per _
  · have p0 : x n = x 0 := by simpa using h.per 0
    have e : x (i + 1) = x (j + 1) := e
    rcases (show i + 1 < n ∨ i + 1 = n by omega) with hi' | hi' <;> rcases (show j + 1 < n ∨ j + 1 = n by omega) with hj' | hj'
    · have := h.inj _ _ hi' hj' e; omega
    · rw [hj', p0] at e
      have := h.inj _ _ hi' h0 e; omega
    · rw [hi', p0] at e
      have := h.inj _ _ h0 hj' e; omega
    · omega
  all_goals
    rcases Nat.eq_zero_or_pos j with rfl | hj0
    · have p0 : x n = x 0 := by simpa using h.per 0
      have := hk (n - 1) (by omega)
      rwa [show n - 1 + 1 = n by omega, p0] at this
    · have := hk (j - 1) (by omega)
      rwa [show j - 1 + 1 = j by omega] at this
theorem add0 (h : Cyc 0 x hd N Q) (hid : i64k id) : Cyc 1 (ext 0 x id) id (upd2 N id id) (upd2 Q id id) := by
  have e : ∀ i, ext 0 x id i = id := fun i => by unfold ext; rw [if_neg (by omega)]
  refine ⟨fun i => by rw [e, e], fun i j hi hj _ => by omega, fun _ i => by rw [e]; exact hid, fun _ i => by rw [e, e, upd2_same], fun k hk => ?_, fun _ i => by rw [e, e, upd2_same], fun k hk => ?_, fun _ => by rw [e]⟩
  · have := hk 0 (by omega)
    rw [e] at this
    rw [upd2_other _ _ (Ne.symm this)]
    exact h.non k (fun j hj => by omega)
  · have := hk 0 (by omega)
    rw [e] at this
    rw [upd2_other _ _ (Ne.symm this)]
    exact h.nonQ k (fun j hj => by omega)
theorem add (h : Cyc n x hd N Q) (h0 : 0 < n) (hid : i64k id) (hn : N id = .none) : Cyc (n + 1) (ext n x id) hd (upd2 (upd2 N (x (n - 1)) id) id hd) (upd2 (upd2 Q id (x (n - 1))) hd id) := by
  have hf := h.fresh hn
  have hh := h.head h0
  have e0 : ext n x id 0 = hd := by rw [ext_lt x id h0, hh]
  have hlast : ∀ i, i < n → (ext n x id (i + 1) = if i + 1 < n then x (i + 1) else id) := fun i hi => by
    split
    · rename_i hi'
      exact ext_lt x id hi'
    · rw [show i + 1 = n by omega]
      exact ext_at x id n
  refine ⟨ext_per x id n, fun i j hi hj e => ?_, fun _ i => ?_, fun _ i => ?_, fun k hk => ?_, fun _ i => ?_, fun k hk => ?_, fun _ => e0.symm⟩
  · rcases (show i < n ∨ i = n by omega) with hi' | hi' <;> rcases (show j < n ∨ j = n by omega) with hj' | hj'
    · rw [ext_lt x id hi', ext_lt x id hj'] at e
      exact h.inj _ _ hi' hj' e
    · rw [ext_lt x id hi', hj', ext_at] at e
      exact absurd e (hf i hi')
    · rw [ext_lt x id hj', hi', ext_at] at e
      exact absurd e.symm (hf j hj')
    · omega
  · unfold ext
    split
    · exact h.i64 h0 _
    · exact hid
  · refine ext_all (R := fun a b => upd2 (upd2 N (x (n - 1)) id) id hd a = some b) (fun i hi => ?_) ?_ i
    · rw [ext_lt x id hi, upd2_other _ _ (hf i hi), hlast i hi]
      split
      · rw [upd2_other _ _ (fun e => by have := h.inj _ _ hi (by omega) e; omega)]
        exact h.next h0 i
      · rw [show n - 1 = i by omega, upd2_same]
    · rw [e0, upd2_same]
  · have k1 := hk n (by omega)
    rw [ext_at] at k1
    have k2 : ∀ j, j < n → x j ≠ k := fun j hj => by have := hk j (by omega); rwa [ext_lt x id hj] at this
    rw [upd2_other _ _ (Ne.symm k1), upd2_other _ _ (Ne.symm (k2 _ (by omega)))]
    exact h.non k k2
  · refine ext_all (R := fun a b => upd2 (upd2 Q id (x (n - 1))) hd id b = some a) (fun i hi => ?_) ?_ i
    · rw [ext_lt x id hi, hlast i hi]
      split
      · rename_i hi'
        rw [hh, upd2_other _ _ (fun e => by have := h.inj _ _ hi' h0 e; omega), upd2_other _ _ (hf _ hi')]
        exact h.prev h0 i
      · rw [hh, upd2_other _ _ (Ne.symm (hf 0 h0)), upd2_same, show n - 1 = i by omega]
    · rw [e0, upd2_same]
  · have k1 := hk n (by omega)
    rw [ext_at] at k1
    have k2 : ∀ j, j < n → x j ≠ k := fun j hj => by have := hk j (by omega); rwa [ext_lt x id hj] at this
    rw [hh, upd2_other _ _ (Ne.symm (k2 0 h0)), upd2_other _ _ (Ne.symm k1)]
    exact h.nonQ k k2
theorem last (h : Cyc n x hd N Q) (h0 : 0 < n) : Q hd = some (x (n - 1)) := by
  have := h.prev h0 (n - 1)
  rwa [show n - 1 + 1 = 0 + n by omega, h.per, ← h.head h0] at this
end Cyc

/-- A ring of the members x 0 .. x (n - 1) in block p. -/
def Ringed (w : World) (p b1 b2 n : Nat) (x : Nat → Int) : Prop := ∃ hd N Q, RingAt w p b1 b2 n n hd N Q ∧ Cyc n x hd N Q

section
variable {w w' : World} {p b1 b2 n : Nat} {x : Nat → Int}
theorem Ringed.carry {S : List Nat} (h : Ringed w p b1 b2 n x) (t : Touch S w w') (hp : p ∉ S) (h1 : b1 ∉ S) (h2 : b2 ∉ S) : Ringed w' p b1 b2 n x := by
  obtain ⟨hd, N, Q, a, c⟩ := h
  exact ⟨hd, N, Q, a.carry t hp h1 h2, c⟩
theorem Ringed.len (h : Ringed w p b1 b2 n x) :
    Calls Try.prog 38 #[.pointer (some ⟨p, 0, none⟩)] w fun e w' => e = .returned (.int .i64 n) ∧ w' = w := by
  obtain ⟨hd, N, Q, a, c⟩ := h
  exact ringLen_any a
theorem Ringed.has (h : Ringed w p b1 b2 n x) (id : Int) (hid : i64k id) (q : Bool) (hq : q = true ↔ ∃ j, j < n ∧ x j = id) :
    Calls Try.prog 39 #[.pointer (some ⟨p, 0, none⟩), .int .i64 id] w fun e w' => e = .returned (.bool q) ∧ w' = w := by
  obtain ⟨hd, N, Q, a, c⟩ := h
  have : (N id).isSome = q := by
    cases q
    · have hn : ¬ ∃ j, j < n ∧ x j = id := fun e => by simpa using hq.2 e
      rw [c.non id (fun j hj e => hn ⟨j, hj, e⟩)]
      rfl
    · obtain ⟨j, hj, rfl⟩ := hq.1 rfl
      rw [c.next (by omega)]
      rfl
  rw [← this]
  exact ringHas_any a id hid

theorem Ringed.add_no (h : Ringed w p b1 b2 n x) (id : Int) (hid : i64k id) (hq : ∃ j, j < n ∧ x j = id) :
    Calls Try.prog 29 #[.pointer (some ⟨p, 0, none⟩), .int .i64 id] w fun e w' => e = .returned (.bool false) ∧ w' = w := by
  have D := Lib.hid (h.has id hid true (by simpa using hq))
  clear h hq
  go_enter Try.func29, Try.ntmps29
  go_wp2_with fail
  refine (D.out).mono ?_
  rintro e w1 ⟨rfl, rfl⟩
  go_wp2_with fail
  go_ret
  exact ⟨rfl, rfl⟩

def AddPost (p b1 b2 n : Nat) (x : Nat → Int) (id : Int) (w : World) (e : Ending) (w' : World) : Prop := e = .returned (.bool true) ∧ Ringed w' p b1 b2 (n + 1) (ext n x id) ∧ Touch [p, b1, b2] w w'
theorem Ringed.add_yes (h : Ringed w p b1 b2 n x) (id : Int) (hid : i64k id) (hq : ∀ j, j < n → x j ≠ id) (hn : n ≤ 100000) :
    Calls Try.prog 29 #[.pointer (some ⟨p, 0, none⟩), .int .i64 id] w (AddPost p b1 b2 n x id w) := by
  have D := Lib.hid (h.has id hid false (by simpa using hq))
  have L := Lib.hid h.len
  obtain ⟨hd, N, Q, a, c⟩ := h
  have hN : N id = none := c.non id hq
  have hQ : Q id = none := c.nonQ id hq
  have c2 := a.box.c2
  have c1 := a.box.c1
  have lp := a.box.lt
  by_cases h0 : n = 0
  · subst h0
    obtain ⟨a1, t1⟩ := a.head id
    have K := Lib.hid (link_any a1 id id hid hid (by omega) (by omega))
    have C := Lib.hid (c.add0 (id := id) hid)
    have HN := Lib.hid hN
    have HQ := Lib.hid hQ
    have T1 := Lib.hid t1
    have fr : w.frozen? ⟨p, 2, none⟩ = false := frozen_of_row w p 2 _ 89 a.box
    clear a a1 c hN hQ hq t1 hn hid
    go_enter Try.func29, Try.ntmps29
    go_wp2_with fail
    refine (D.out).mono ?_
    rintro e w ⟨rfl, rfl⟩
    go_wp2_with fail
    refine (L.out).mono ?_
    rintro e w ⟨rfl, rfl⟩
    go_wp2_with fail
    refine (K.out).mono ?_
    rintro e w3 ⟨rfl, a3, t3⟩
    rw [HN.out, HQ.out] at a3
    have A3 := Lib.hid a3
    have T3 := Lib.hid t3
    clear a3 t3
    go_wp2_with fail
    go_ret
    exact ⟨rfl, ⟨id, _, _, A3.out, C.out⟩, (T1.out.mono (by simp)).trans T3.out (by simp)⟩
  · have hl := c.last (by omega)
    have hi := c.i64h (by omega)
    have hil := c.i64 (by omega) (n - 1)
    have hs1 : N (x (n - 1)) = some (x (n - 1 + 1)) := c.next (by omega) _
    have ne1 : id ≠ x (n - 1) := (hq _ (by omega)).symm
    have ne2 : hd ≠ id := by rw [c.head (by omega)]; exact hq 0 (by omega)
    have hlook : ∀ y : Cls w, (Instr.lookup 87 (.map (some b2)) (.int .i64 hd) false).run Try.prog y.val = .ok (.int .i64 (x (n - 1))) y.val := fun y => by
      have := (a.carry y.property (by simp) (by simp) (by simp)).m2.look Try.underlying3 Try.underlying87 (intZero _) hi
      rwa [lnk_get, hl] at this
    have k1 : ∀ y : Cls w, y.val.cell? ⟨p, 1, none⟩ = some (.map (some b2)) := fun y => (a.box.carry y.property (by simp)).c1
    have k2 : ∀ y : Cls w, y.val.cell? ⟨p, 2, none⟩ = some (.int .i64 hd) := fun y => (a.box.carry y.property (by simp)).c2
    have HI := Lib.hid hi
    have HD := Lib.hid hid
    have C := Lib.hid (c.add (by omega) hid hN)
    have b0 : ((n : Int) == 0) = false := by simp; omega
    have K1 := Lib.hid (fun (u : World) (t : Touch [] w u) => link_any (a.carry t (by simp) (by simp) (by simp)) (x (n - 1)) id hil hid (by omega) (by omega))
    have R := Lib.hid (show ∀ u, RingAt u p b1 b2 (if (N (x (n - 1))).isSome then n else n + 1) (if (Q id).isSome then n else n + 1) hd (upd2 N (x (n - 1)) id) (upd2 Q id (x (n - 1))) → RingAt u p b1 b2 n (n + 1) hd (upd2 N (x (n - 1)) id) (upd2 Q id (x (n - 1))) from fun u hu => by rw [hs1, hQ] at hu; exact hu)
    have R2 := Lib.hid (show ∀ u, RingAt u p b1 b2 (if (upd2 N (x (n - 1)) id id).isSome then n else n + 1) (if (upd2 Q id (x (n - 1)) hd).isSome then n + 1 else n + 1 + 1) hd (upd2 (upd2 N (x (n - 1)) id) id hd) (upd2 (upd2 Q id (x (n - 1))) hd id) → Ringed u p b1 b2 (n + 1) (ext n x id) from fun u hu => by
      rw [upd2_other _ _ ne1, upd2_other _ _ ne2, hN, hl] at hu
      exact ⟨_, _, _, hu, C.out⟩)
    have HN := Lib.hid hn
    generalize x (n - 1) = l at *
    clear c1 c2
    clear a c hN hQ hq hs1 hl ne1 ne2 C hn hil hi h0
    go_enter Try.func29, Try.ntmps29
    go_wp2_with fail
    refine (D.out).mono ?_
    rintro e w ⟨rfl, rfl⟩
    go_wp2_with fail
    refine (L.out).mono ?_
    rintro e w ⟨rfl, rfl⟩
    go_upto_region 7 with fail
    refine wp_region_tail (wd := w) 11 (by kernel_rfl) (by kernel_rfl) ((Touch.refl _ _).drew) ?_
    simp only [List.take_succ_cons, List.take_zero, List.drop_succ_cons, List.drop_zero]
    repeat (first | go_big_quiet_step (fail) | quiet_step (fail))
    refine wpQuiet_nil ?_
    intro y
    have T0 := Lib.hid y.property
    have K := Lib.hid (K1.out y.val y.property)
    clear hlook k1 k2 K1
    generalize y.val = wy at *
    go_wp2_with fail
    refine (K.out).mono ?_
    rintro e w3 ⟨rfl, a3, t3⟩
    have a3 := R.out _ a3
    have T3 := Lib.hid t3
    have d2 := a3.box.c2
    have K2 := Lib.hid (link_any a3 id hd HD.out HI.out (by have := HN.out; omega) (by have := HN.out; omega))
    clear a3 t3 K
    go_wp2_with fail
    refine (K2.out).mono ?_
    rintro e w4 ⟨rfl, a4, t4⟩
    have A4 := Lib.hid (R2.out _ a4)
    have T4 := Lib.hid t4
    clear a4 t4
    go_wp2_with fail
    go_ret
    exact ⟨rfl, A4.out, ((T0.out.mono (by simp)).trans T3.out (by simp)).trans T4.out (by simp)⟩
end
end Go.Proofs.Ytcggpgjnjfjfnaa
