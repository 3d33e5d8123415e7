/-
  Contracts of layer 29 (ring): Drop.
-/
import Derived.Test.YtcggpgjnjfjfnaaRing3
namespace Go.Proofs.Ytcggpgjnjfjfnaa
open Go.ChangeShapes Go.WideShapes Go.ChangeAt Go.RowKit Go.Deep Go.Maps
set_option linter.unusedVariables false

def dl (N : Int → Option Int) (i : Int) : Int → Option Int := fun j => if j = i then none else N j
theorem dl_same (N : Int → Option Int) (i : Int) : dl N i i = none := if_pos rfl
theorem dl_other (N : Int → Option Int) {i j : Int} (h : j ≠ i) : dl N i j = N j := if_neg h
theorem lnk_dl (N : Int → Option Int) (i : Int) : put (lnk N) i none = lnk (dl N i) := by
  funext j
  unfold put lnk dl
  split <;> rfl

namespace Cyc
variable {n : Nat} {x : Nat → Int} {hd id : Int} {N Q : Int → Option Int}
theorem rot (h : Cyc n x hd N Q) (h0 : 0 < n) : ∀ j, Cyc n (fun i => x (i + j)) (x j) N Q := by
  intro j
  induction j with
  | zero =>
    have := h.head h0
    simpa [← this] using h
  | succ j ih =>
    have := ih.turn h0
    have e : (fun i => x (i + (j + 1))) = (fun i => x (i + 1 + j)) := by
      funext i
      rw [show i + (j + 1) = i + 1 + j by omega]
    rw [e]
    rwa [show x (j + 1) = x (1 + j) by rw [Nat.add_comm]]
theorem congr (h : Cyc n x hd N Q) {y : Nat → Int} {hd' : Int} (e : ∀ i, x i = y i) (eh : 0 < n → hd' = y 0) : Cyc n y hd' N Q := by
  obtain rfl : x = y := funext e
  exact ⟨h.per, h.inj, h.i64, h.next, h.non, h.prev, h.nonQ, eh⟩

/-- Without its first member. -/
theorem cut (h : Cyc (n + 1) x hd N Q) (h0 : 0 < n) : Cyc n (fun i => x (1 + i % n)) (x 1) (dl (upd2 N (x n) (x 1)) (x 0)) (dl (upd2 Q (x 1) (x n)) (x 0)) := by
  have ne : ∀ i j, i < n + 1 → j < n + 1 → i ≠ j → x i ≠ x j := fun i j hi hj hne e => hne (h.inj i j hi hj e)
  have all : ∀ {R : Int → Int → Prop}, (∀ i, i + 1 < n → R (x (1 + i)) (x (1 + (i + 1)))) → R (x n) (x 1) → ∀ i, R (x (1 + i % n)) (x (1 + (i + 1) % n)) := by
    intro R h1 h2 i
    have hr : i % n < n := Nat.mod_lt _ h0
    by_cases hi : i % n + 1 < n
    · rw [Nat.add_mod i 1 n, Nat.mod_eq_of_lt (a := 1) (by omega), Nat.mod_eq_of_lt hi]
      exact h1 _ hi
    · have e : (i + 1) % n = 0 := by
        rw [Nat.add_mod]
        by_cases h1n : n = 1
        · subst h1n; omega
        · rw [Nat.mod_eq_of_lt (a := 1) (by omega), show i % n + 1 = n by omega, Nat.mod_self]
      rw [e, show 1 + i % n = n by omega]
      exact h2
  refine ⟨fun i => by simp, fun i j hi hj e => ?_, fun _ i => h.i64 (by omega) _, fun _ i => ?_, fun k hk => ?_, fun _ i => ?_, fun k hk => ?_, fun _ => by simp⟩
  · have e : x (1 + i % n) = x (1 + j % n) := e
    rw [Nat.mod_eq_of_lt hi, Nat.mod_eq_of_lt hj] at e
    have := h.inj _ _ (by omega) (by omega) e
    omega
  · refine all (R := fun a b => dl (upd2 N (x n) (x 1)) (x 0) a = some b) (fun i hi => ?_) ?_ i
    · rw [dl_other _ (ne _ _ (by omega) (by omega) (by omega)), upd2_other _ _ (ne _ _ (by omega) (by omega) (by omega))]
      exact h.next (by omega) (1 + i)
    · rw [dl_other _ (ne _ _ (by omega) (by omega) (by omega)), upd2_same]
  · by_cases hk0 : k = x 0
    · rw [hk0, dl_same]
    · have hk' : ∀ j, j < n + 1 → x j ≠ k := fun j hj => by
        rcases Nat.eq_zero_or_pos j with rfl | hj0
        · exact Ne.symm hk0
        · have := hk (j - 1) (by omega)
          have e : x (1 + (j - 1) % n) ≠ k := this
          rwa [Nat.mod_eq_of_lt (by omega), show 1 + (j - 1) = j by omega] at e
      rw [dl_other _ hk0, upd2_other _ _ (Ne.symm (hk' n (by omega)))]
      exact h.non k hk'
  · refine all (R := fun a b => dl (upd2 Q (x 1) (x n)) (x 0) b = some a) (fun i hi => ?_) ?_ i
    · rw [dl_other _ (ne _ _ (by omega) (by omega) (by omega)), upd2_other _ _ (ne _ _ (by omega) (by omega) (by omega))]
      exact h.prev (by omega) (1 + i)
    · rw [dl_other _ (ne _ _ (by omega) (by omega) (by omega)), upd2_same]
  · by_cases hk0 : k = x 0
    · rw [hk0, dl_same]
    · have hk' : ∀ j, j < n + 1 → x j ≠ k := fun j hj => by
        rcases Nat.eq_zero_or_pos j with rfl | hj0
        · exact Ne.symm hk0
        · have := hk (j - 1) (by omega)
          have e : x (1 + (j - 1) % n) ≠ k := this
          rwa [Nat.mod_eq_of_lt (by omega), show 1 + (j - 1) = j by omega] at e
      rw [dl_other _ hk0, upd2_other _ _ (Ne.symm (hk' 1 (by omega)))]
      exact h.nonQ k hk'

/-- What is left, from the head on, when the member at j is gone. -/
def sans (n j : Nat) (x : Nat → Int) : Nat → Int := fun i => x (1 + (i + (n - j)) % n + j)
theorem sans_lt (h : Cyc (n + 1) x hd N Q) {i j : Nat} (hi : i < n) (hj : j ≤ n) : sans n j x i = if i < j then x i else x (i + 1) := by
  unfold sans
  split
  · rename_i hij
    rw [Nat.mod_eq_of_lt (by omega), show 1 + (i + (n - j)) + j = i + (n + 1) by omega]
    exact h.per i
  · rename_i hij
    rw [show i + (n - j) = (i - j) + n by omega, Nat.add_mod_right, Nat.mod_eq_of_lt (by omega), show 1 + (i - j) + j = i + 1 by omega]
theorem drop (h : Cyc (n + 1) x hd N Q) {j : Nat} (hj : j ≤ n) (h0 : 0 < n) (hd' : Int) (hh : hd' = if j = 0 then x 1 else hd) :
    Cyc n (sans n j x) hd' (dl (upd2 N (x (j + n)) (x (j + 1))) (x j)) (dl (upd2 Q (x (j + 1)) (x (j + n))) (x j)) := by
  have c := ((h.rot (by omega) j).cut h0)
  have c := c.rot h0 (n - j)
  simp only [Nat.zero_add] at c
  rw [show n + j = j + n by omega, show 1 + j = j + 1 by omega] at c
  refine c.congr (fun i => rfl) (fun _ => ?_)
  rw [sans_lt h h0 hj, hh]
  rcases Nat.eq_zero_or_pos j with rfl | hj0
  · simp
  · rw [if_neg (by omega), if_pos (by omega)]
    exact h.head (by omega)
theorem drop1 (h : Cyc 1 x hd N Q) (hd' : Int) (y : Nat → Int) : Cyc 0 y hd' (dl (upd2 N (x 0) (x 1)) (x 0)) (dl (upd2 Q (x 1) (x 0)) (x 0)) := by
  have e1 : x 1 = x 0 := h.per 0
  rw [e1]
  refine ⟨fun i => rfl, fun i j hi => by omega, fun h => by omega, fun h => by omega, fun k _ => ?_, fun h => by omega, fun k _ => ?_, fun h => by omega⟩
  · by_cases hk : k = x 0
    · rw [hk, dl_same]
    · rw [dl_other _ hk, upd2_other _ _ hk]
      exact h.non k (fun j hj => by obtain rfl : j = 0 := by omega
                                    exact Ne.symm hk)
  · by_cases hk : k = x 0
    · rw [hk, dl_same]
    · rw [dl_other _ hk, upd2_other _ _ hk]
      exact h.nonQ k (fun j hj => by obtain rfl : j = 0 := by omega
                                     exact Ne.symm hk)
end Cyc

namespace RingAt
variable {w w' : World} {p b1 b2 s1 s2 : Nat} {hd : Int} {N Q : Int → Option Int}
theorem drop1 (h : RingAt w p b1 b2 s1 s2 hd N Q) {i : Int} (hi : i64k i) (ty : TypeId) :
    ∃ w', (Builtin.delete_ #[87, 3] ty #[.map (some b1), .int .i64 i]).run Try.prog w = .ok (.tuple #[]) w' ∧ RingAt w' p b1 b2 (if (N i).isSome then s1 - 1 else s1) s2 hd (dl N i) Q ∧ Touch [b1] w w' := by
  obtain ⟨w', hrun, hm, ht⟩ := h.m1.drop Try.underlying3 Try.underlying87 hi ty
  rw [lnk_some, lnk_dl] at hm
  exact ⟨w', hrun, ⟨h.box.carry ht (by simpa using h.ne1), hm, h.m2.carry ht (by simpa using h.ne.symm), h.ne⟩, ht⟩
theorem drop2 (h : RingAt w p b1 b2 s1 s2 hd N Q) {i : Int} (hi : i64k i) (ty : TypeId) :
    ∃ w', (Builtin.delete_ #[87, 3] ty #[.map (some b2), .int .i64 i]).run Try.prog w = .ok (.tuple #[]) w' ∧ RingAt w' p b1 b2 s1 (if (Q i).isSome then s2 - 1 else s2) hd N (dl Q i) ∧ Touch [b2] w w' := by
  obtain ⟨w', hrun, hm, ht⟩ := h.m2.drop Try.underlying3 Try.underlying87 hi ty
  rw [lnk_some, lnk_dl] at hm
  exact ⟨w', hrun, ⟨h.box.carry ht (by simpa using h.ne2), h.m1.carry ht (by simpa using h.ne), hm, h.ne⟩, ht⟩
end RingAt

theorem upd2_isSome {N : Int → Option Int} {a b i : Int} (h : (N i).isSome = true) : (upd2 N a b i).isSome = true := by
  unfold upd2
  split <;> simp_all

section
variable {w w' : World} {p b1 b2 n : Nat} {x : Nat → Int}
def DropPost (p b1 b2 n j : Nat) (x : Nat → Int) (w : World) (e : Ending) (w' : World) : Prop := e = .returned (.bool true) ∧ Ringed w' p b1 b2 n (Cyc.sans n j x) ∧ Touch [p, b1, b2] w w'
theorem Ringed.drop_no (h : Ringed w p b1 b2 n x) (id : Int) (hid : i64k id) (hq : ∀ j, j < n → x j ≠ id) :
    Calls Try.prog 31 #[.pointer (some ⟨p, 0, none⟩), .int .i64 id] w fun e w' => e = .returned (.bool false) ∧ w' = w := by
  have D := Lib.hid (h.has id hid false (by simpa using hq))
  clear h hq
  go_enter Try.func31, Try.ntmps31
  go_wp2_with fail
  refine (D.out).mono ?_
  rintro e w1 ⟨rfl, rfl⟩
  go_wp2_with fail
  go_ret
  exact ⟨rfl, rfl⟩
theorem Ringed.drop_yes (h : Ringed w p b1 b2 (n + 1) x) (j : Nat) (hj : j ≤ n) (hn : n ≤ 100000) :
    Calls Try.prog 31 #[.pointer (some ⟨p, 0, none⟩), .int .i64 (x j)] w (DropPost p b1 b2 n j x w) := by
  have hid : i64k (x j) := by
    obtain ⟨_, _, _, _, c⟩ := h
    exact c.i64 (by omega) j
  have D := Lib.hid (h.has (x j) hid true (by simpa using ⟨j, by omega, rfl⟩))
  obtain ⟨hd, N, Q, a, c⟩ := h
  have q1 : Q (x j) = some (x (j + n)) := by
    have := c.prev (by omega) (j + n)
    rwa [show j + n + 1 = j + (n + 1) by omega, c.per] at this
  have n1 : N (x j) = some (x (j + 1)) := c.next (by omega) j
  have ib : i64k (x (j + n)) := c.i64 (by omega) _
  have ih : i64k (x (j + 1)) := c.i64 (by omega) _
  have n2 : (N (x (j + n))).isSome = true := by rw [c.next (by omega)]; rfl
  have q2 : (Q (x (j + 1))).isSome = true := by rw [c.prev (by omega)]; rfl
  have hq : ∀ y : Cls w, (Instr.lookup 87 (.map (some b2)) (.int .i64 (x j)) false).run Try.prog y.val = .ok (.int .i64 (x (j + n))) y.val := fun y => by
    have := (a.carry y.property (by simp) (by simp) (by simp)).m2.look Try.underlying3 Try.underlying87 (intZero _) hid
    rwa [lnk_get, q1] at this
  have hnx : ∀ y : Cls w, (Instr.lookup 87 (.map (some b1)) (.int .i64 (x j)) false).run Try.prog y.val = .ok (.int .i64 (x (j + 1))) y.val := fun y => by
    have := (a.carry y.property (by simp) (by simp) (by simp)).m1.look Try.underlying3 Try.underlying87 (intZero _) hid
    rwa [lnk_get, n1] at this
  have k0 : ∀ y : Cls w, y.val.cell? ⟨p, 0, none⟩ = some (.map (some b1)) := fun y => (a.box.carry y.property (by simp)).c0
  have k1 : ∀ y : Cls w, y.val.cell? ⟨p, 1, none⟩ = some (.map (some b2)) := fun y => (a.box.carry y.property (by simp)).c1
  have hdj : (hd = x j) ↔ j = 0 := by
    rw [c.head (by omega)]
    exact ⟨fun e => (c.inj 0 j (by omega) (by omega) e).symm, fun e => by rw [e]⟩
  have C := Lib.hid (show ∀ hd', hd' = (if j = 0 then x (j + 1) else hd) → Cyc n (Cyc.sans n j x) hd' (dl (upd2 N (x (j + n)) (x (j + 1))) (x j)) (dl (upd2 Q (x (j + 1)) (x (j + n))) (x j)) from fun hd' e => by
    rcases Nat.eq_zero_or_pos n with rfl | h0
    · obtain rfl : j = 0 := by omega
      exact c.drop1 hd' _
    · refine c.drop hj h0 hd' ?_
      rw [e]
      split
      · rename_i e0
        rw [e0]
      · rfl)
  have K := Lib.hid (fun (u : World) (t : Touch [] w u) => link_any (a.carry t (by simp) (by simp) (by simp)) (x (j + n)) (x (j + 1)) ib ih (by omega) (by omega))
  have I := Lib.hid (show ∀ u, RingAt u p b1 b2 (if (N (x (j + n))).isSome then n + 1 else n + 1 + 1) (if (Q (x (j + 1))).isSome then n + 1 else n + 1 + 1) hd (upd2 N (x (j + n)) (x (j + 1))) (upd2 Q (x (j + 1)) (x (j + n))) → ∃ w1, (Builtin.delete_ #[87, 3] 0 #[.map (some b1), .int .i64 (x j)]).run Try.prog u = .ok (.tuple #[]) w1 ∧ (∃ w2, (Builtin.delete_ #[87, 3] 0 #[.map (some b2), .int .i64 (x j)]).run Try.prog w1 = .ok (.tuple #[]) w2 ∧ w1.cell? ⟨p, 1, none⟩ = some (.map (some b2)) ∧ Touch [b1, b2] u w2 ∧
      RingAt w2 p b1 b2 n n hd (dl (upd2 N (x (j + n)) (x (j + 1))) (x j)) (dl (upd2 Q (x (j + 1)) (x (j + n))) (x j))) from fun u hu => by
    rw [n2, q2] at hu
    obtain ⟨w1, r1, a1, t1⟩ := hu.drop1 hid 0
    rw [upd2_isSome (by rw [n1]; rfl)] at a1
    obtain ⟨w2, r2, a2, t2⟩ := a1.drop2 hid 0
    rw [upd2_isSome (by rw [q1]; rfl)] at a2
    exact ⟨w1, r1, w2, r2, a1.box.c1, (t1.mono (by simp)).trans t2 (by simp), a2⟩)
  unfold DropPost
  generalize x (j + n) = bef at *
  generalize x (j + 1) = beh at *
  generalize hxj : x j = id at *
  have HJ := Lib.hid hdj
  clear a c hid q1 n1 ib ih n2 q2 hxj hdj hn
  go_enter Try.func31, Try.ntmps31
  go_wp2_with fail
  refine (D.out).mono ?_
  rintro e w ⟨rfl, rfl⟩
  go_upto_region 3 with fail
  refine wp_region_cls (wd := w) (by kernel_rfl) (by kernel_rfl) ((Touch.refl _ _).drew) ?_
  repeat (first | go_big_quiet_step (fail) | quiet_step (fail))
  refine wpQuiet_nil ?_
  rintro _ ⟨y, rfl⟩
  have T0 := Lib.hid y.property
  have K := Lib.hid (K.out y.val y.property)
  clear hq hnx k0 k1
  generalize y.val = wy at *
  go_wp2_with fail
  refine (K.out).mono ?_
  rintro e w3 ⟨rfl, a3, t3⟩
  have d0 := a3.box.c0
  obtain ⟨w4, r4, w5, r5, d1, t5, a5⟩ := I.out _ a3
  have e2 := a5.box.c2
  have T5 := Lib.hid ((T0.out.trans (S' := []) (Touch.refl [] wy) (by simp)).mono (S' := [p, b1, b2]) (by simp) |>.trans t3 (by simp) |>.trans t5 (by simp))
  have A5 := Lib.hid a5
  have fr : w5.frozen? ⟨p, 2, none⟩ = false := frozen_of_row w5 p 2 _ 89 a5.box
  clear a3 t3 t5 a5 I K
  by_cases hh : hd = id
  · have b0 : (hd == id) = true := by simpa using hh
    have hj0 := HJ.out.1 hh
    have C1 := Lib.hid (C.out beh (by rw [if_pos hj0]))
    obtain ⟨a6, t6⟩ := A5.out.head beh
    have A6 := Lib.hid a6
    have T6 := Lib.hid (T5.out.trans t6 (by simp))
    clear a6 t6 hh hj0
    go_wp2_with fail
    go_ret
    exact ⟨rfl, ⟨_, _, _, A6.out, C1.out⟩, T6.out⟩
  · have b0 : (hd == id) = false := by simpa using hh
    have C1 := Lib.hid (C.out hd (by rw [if_neg (fun e => hh (HJ.out.2 e))]))
    clear hh
    go_wp2_with fail
    go_ret
    exact ⟨rfl, ⟨_, _, _, A5.out, C1.out⟩, T5.out⟩
end
end Go.Proofs.Ytcggpgjnjfjfnaa
