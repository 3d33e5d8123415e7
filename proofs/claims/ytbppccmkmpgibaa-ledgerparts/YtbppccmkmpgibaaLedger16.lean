/-
  Layer 34 (ledger): ids are told in one way only; SameInts; Reason; the document's example.
-/
import Derived.Test.YtbppccmkmpgibaaLedger15
namespace Go.Proofs.Ytbppccmkmpgibaa
open Go.ChangeShapes Go.WideShapes Go.ChangeAt Go.RowKit Go.Deep Go.Maps
set_option linter.unusedVariables false
set_option linter.unusedSimpArgs false
theorem ids_nodup {β : Type} {M : Int → Option β} {A : List Int} (h : IdsOf M A) : A.Nodup := h.1.imp (fun {a b} h => by omega)
theorem ids_unique {β : Type} {M : Int → Option β} {A B : List Int} (hA : IdsOf M A) (hB : IdsOf M B) : A = B :=
  List.Perm.eq_of_pairwise (le := fun a b : Int => a < b) (fun a b _ _ h1 h2 => by omega) hA.1 hB.1 ((List.perm_ext_iff_of_nodup (ids_nodup hA) (ids_nodup hB)).2 fun i => (hA.2 i).trans (hB.2 i).symm)
theorem row_ints {w : World} {base c : Nat} {A : Option Addr} {L : List Int} (h : w.ownsRow base 3 1 (.slice A L.length c) L.length (zv L)) : IntCells w w.heap.size A L.length (fun i => L.getD i 0) := fun i hi => by
  obtain ⟨g, hA, _, hg, hc⟩ := row_cell h (List.getElem?_eq_getElem hi)
  refine ⟨g, 0, hA, hg, ?_⟩
  rw [Nat.zero_add, hc]
  simp [List.getD, List.getElem?_eq_getElem hi]
theorem IntCells.new {w w' : World} {A : Option Addr} {n : Nat} {X : Nat → Int} (h : IntCells w w.heap.size A n X) (t : Touch [] w w') : IntCells w' w'.heap.size A n X := fun i hi => by
  obtain ⟨b, off, hA, hb, hc⟩ := h i hi
  exact ⟨b, off, hA, Nat.lt_of_lt_of_le hb t.size, (t.cell (a := ⟨b, off + i, none⟩) hb (by simp)).trans hc⟩
theorem same_yes {A A' : Option Addr} {n c c' : Nat} {X : Nat → Int} {w : World} (h : IntCells w w.heap.size A n X) (h' : IntCells w w.heap.size A' n X) (hn : n ≤ 100000) :
    Calls Try.prog 11 #[.slice A n c, .slice A' n c'] w fun e w' => e = .returned (.bool true) ∧ Touch [] w w' := by
  have H := Lib.hid h
  have H' := Lib.hid h'
  clear h h'
  go_enter Try.func11, Try.ntmps11
  go_wp2
  go_loopw [5] (fun i wr => ∃ k : Nat, k ≤ n ∧ i = .int .i64 k ∧ Touch [] w wr) (fun i _ => n - (intOf i).toNat)
  case atStart => exact ⟨0, Nat.zero_le _, rfl, Touch.refl _ _⟩
  case round =>
    obtain ⟨k, hk, rfl, ht⟩ := hrel
    by_cases hlt : k < n
    · obtain ⟨b, off, hA, hb, hc⟩ := H.out.new ht.drew k hlt
      obtain ⟨b', off', hA', hb', hc'⟩ := H'.out.new ht.drew k hlt
      subst hA hA'
      generalize X k = y at *
      have HT := Lib.hid ht
      clear ht
      go_wp2_with fail
      go_region
      all_goals
        go_wp2
        go_roundw
        case rel => exact ⟨k + 1, by omega, by go_num, HT.out.drew⟩
        case measure => simp [intOf]; omega
    · obtain rfl : k = n := by omega
      go_wp2
      go_ret
      exact ⟨rfl, ht⟩
theorem st_eql (a b c d e f : Int) (w : World) : (binOp .eql 27 (.agg #[.int .i64 a, .int .i64 b, .int .i64 c, .int .i64 d, .int .i64 e, .int .i64 f]) (.agg #[.int .i64 a, .int .i64 b, .int .i64 c, .int .i64 d, .int .i64 e, .int .i64 f])).run Try.prog w = .ok (.bool true) w := by
  simp [go_sem]
theorem st_neq (a b c d e f : Int) (w : World) : (binOp .neq 27 (.agg #[.int .i64 a, .int .i64 b, .int .i64 c, .int .i64 d, .int .i64 e, .int .i64 f]) (.agg #[.int .i64 a, .int .i64 b, .int .i64 c, .int .i64 d, .int .i64 e, .int .i64 f])).run Try.prog w = .ok (.bool false) w := by
  simp [go_sem]
section
variable {w w' : World} {p b s : Nat} {M : Int → Option Bk}
theorem reason_any (h : LgAt w p b s M) (id : Int) (hi : i64k id) (r : Int) :
    Calls Try.prog 9 #[.pointer (some ⟨p, 0, none⟩), .int .i64 id, .int .i64 r] w fun e w' => e = .returned (.int .i64 (rsn (bookOf M id) r)) ∧ w' = w := by
  unfold rsn
  by_cases hr : 1 ≤ r ∧ r ≤ 5
  · rw [if_pos hr]
    obtain ⟨k, rfl⟩ : ∃ k : Nat, r = (k : Int) := ⟨r.toNat, by omega⟩
    exact reason_yes h id hi k (by omega) (by omega)
  · rw [if_neg hr]
    exact reason_no _ id r (by omega) w
set_option maxRecDepth 100000 in
set_option maxHeartbeats 3200000 in
theorem lives34 (w : World) : Calls Try.prog 5 #[] w fun e w' => e = .returned (.bool true) ∧ Touch [] w w' := by
  have N := Lib.hid (newL w)
  have F0 : Few (bookOf (fun _ => none) 1) 0 := fun i hi => by simp [bookOf]
  go_enter Try.func5, Try.ntmps5
  go_wp2_with fail
  refine (N.out).mono ?_
  rintro e w1 ⟨p, b, rfl, h1, t1, hp, hb⟩
  have G1 := Lib.hid (got_any h1 (by omega) 1 (i64k_of (by omega)) 100 (few_mono F0 (by omega)))
  have T1 := Lib.hid t1
  clear h1 t1 N
  go_wp2_with fail
  refine (G1.out).mono ?_
  rintro e w2 ⟨rfl, h2, t2⟩
  have F1 := noteB_few F0 (by omega) ⟨0, 1, 100⟩
  have e1 : noteB (bookOf (fun _ => none) 1) ⟨0, 1, 100⟩ = tally (bookOf (fun _ => none) 1) 0 100 := rfl
  rw [e1] at F1
  have b1 := bookOf_put (fun _ => none) 1 (tally (bookOf (fun _ => none) 1) 0 100) 1
  rw [if_pos rfl] at b1
  have s1 := grown_le (fun _ => none) 1 0
  have G2 := Lib.hid (got_any h2 (by omega) 1 (i64k_of (by omega)) 50 (by rw [b1]; exact few_mono F1 (by omega)))
  have T2 := Lib.hid (T1.out.trans t2 (fun x hx => .inr (by simp at hx; omega)))
  clear h2 t2 G1 T1
  go_wp2_with fail
  refine (G2.out).mono ?_
  rintro e w3 ⟨rfl, h3, t3⟩
  rw [b1] at h3
  have F2 := noteB_few F1 (by omega) ⟨0, 1, 50⟩
  have e2 : noteB (tally (bookOf (fun _ => none) 1) 0 100) ⟨0, 1, 50⟩ = tally (tally (bookOf (fun _ => none) 1) 0 100) 0 50 := rfl
  rw [e2] at F2
  have b2 := bookOf_put (putB (fun _ => none) 1 (tally (bookOf (fun _ => none) 1) 0 100)) 1 (tally (tally (bookOf (fun _ => none) 1) 0 100) 0 50) 1
  rw [if_pos rfl] at b2
  have s2 := grown_le (putB (fun _ => none) 1 (tally (bookOf (fun _ => none) 1) 0 100)) 1 (grown (fun _ => none) 1 0)
  have G3 := Lib.hid (sent_any h3 (by omega) 1 (i64k_of (by omega)) 100 (by rw [b2]; exact few_mono F2 (by omega)))
  have T3 := Lib.hid (T2.out.trans t3 (fun x hx => .inr (by simp at hx; omega)))
  clear h3 t3 G2 T2
  go_wp2_with fail
  refine (G3.out).mono ?_
  rintro e w4 ⟨rfl, h4, t4⟩
  rw [b2] at h4
  have F3 := noteB_few F2 (by omega) ⟨1, 1, 100⟩
  have e3 : noteB (tally (tally (bookOf (fun _ => none) 1) 0 100) 0 50) ⟨1, 1, 100⟩ = tally (tally (tally (bookOf (fun _ => none) 1) 0 100) 0 50) 2 100 := rfl
  rw [e3] at F3
  have b3 := bookOf_put (putB (putB (fun _ => none) 1 (tally (bookOf (fun _ => none) 1) 0 100)) 1 (tally (tally (bookOf (fun _ => none) 1) 0 100) 0 50)) 1 (tally (tally (tally (bookOf (fun _ => none) 1) 0 100) 0 50) 2 100) 1
  rw [if_pos rfl] at b3
  have O := of_any h4 1 (i64k_of (by omega)) (by rw [b3]; exact few_mono F3 (by omega))
  rw [b3, show statV (tally (tally (tally (bookOf (fun _ => none) 1) 0 100) 0 50) 2 100) = #[.int .i64 2, .int .i64 150, .int .i64 1, .int .i64 100, .int .i64 0, .int .i64 1] from rfl] at O
  have O4 := Lib.hid O
  have T4 := Lib.hid (T3.out.trans t4 (fun x hx => .inr (by simp at hx; omega)))
  clear h4 t4 G3 T3 O F0 F1 F2 F3 e1 e2 e3 b1 b2 b3 s1 s2
  have E := st_eql 2 150 1 100 0 1
  go_wp2_with fail
  refine (O4.out).mono ?_
  rintro e w5 ⟨rfl, t5⟩
  have T5 := Lib.hid (T4.out.trans t5 (by simp))
  clear t5 O4 T4
  go_wp2_with fail
  go_ret
  exact ⟨rfl, T5.out⟩
end
end Go.Proofs.Ytbppccmkmpgibaa
