/-
  CreditPlays: for every list of calls the law on the accounts returns true. No conditions.
-/
import Derived.Test.YtncipngnpdhbjaaCreditRef3
import Derived.Test.YtncipngnpdhbjaaCreditLaws
import Derived.Deep.CutBlock
namespace Go.Proofs.Ytncipngnpdhbjaa
open Go.ChangeShapes Go.WideShapes Go.ChangeAt Go.RowKit Go.Deep Go.Joins Go.Maps
set_option linter.unusedVariables false

/-- The accounts in block p, the reference's rows in v: the same ones. -/
structure Both (wd : World) (k : Nat) (p b s : Nat) (L : List RowC) (v : Value) (w : World) : Prop where
  cred : CredAt w p b s (cof L)
  rows : RowsAt [b] w v L
  len : L.length ≤ k
  many : s ≤ k
  base : wd.heap.size ≤ b
  below : Below wd.heap.size wd w
theorem Both.carry {wd w w' : World} {k p b s : Nat} {L : List RowC} {v : Value} (h : Both wd k p b s L v w) (t : Touch [] w w') : Both wd k p b s L v w' :=
  ⟨h.cred.carry t (by simp) (by simp), h.rows.carry t (by simp), h.len, h.many, h.base, h.below.trans (t.below (by simp) h.below.size)⟩
theorem Both.more {wd w : World} {k p b s : Nat} {L : List RowC} {v : Value} (h : Both wd k p b s L v w) : Both wd (k + 1) p b s L v w :=
  ⟨h.cred, h.rows, Nat.le_succ_of_le h.len, Nat.le_succ_of_le h.many, h.base, h.below⟩
def AnyBoth (wd : World) (k : Nat) (c x : Value) (w : World) : Prop := ∃ p b s L, c = .pointer (some ⟨p, 0, none⟩) ∧ Both wd k p b s L x w
/-- A write to the accounts, and new rows. -/
theorem Both.step {wd w w1 w2 : World} {k p b s s' : Nat} {L L' : List RowC} {v v' : Value} (h : Both wd k p b s L v w) (hr : w1.ownsRow w.heap.size 70 3 v' L'.length (rv L')) (hb : Below w.heap.size w w1)
    (hc : CredAt w2 p b s' (cof L')) (t : Touch [b] w1 w2) (hl : L'.length ≤ k) (hs : s' ≤ k) : Both wd k p b s' L' v' w2 :=
  ⟨hc, (RowsAt.own hr rfl (by simpa using h.cred.map.lt)).carry t (by simp), hl, hs, h.base, (h.below.trans (hb.mono h.below.size)).trans (t.below (by simpa using h.base) (Nat.le_trans h.below.size hb.size))⟩

theorem updC_none {C : Int → Option (Int × Int)} {i : Int} (h : C i = none) : updC C i none = C := by
  funext j
  unfold updC
  split
  · rename_i e; rw [e, h]
  · rfl
theorem at_put {L : List RowC} {i m : Int} {k : Nat} {r : RowC} (h : AtYes L i k r) : AtYes (L.map (putRow i m)) i k (putRow i m r) := by
  have hid : ∀ x : RowC, (putRow i m x).id = x.id := fun x => by unfold putRow; split <;> rfl
  refine ⟨by rw [List.getElem?_map, h.1]; rfl, by rw [hid]; exact h.2.1, fun j' r' hj hr => ?_⟩
  rw [List.getElem?_map] at hr
  cases hx : L[j']? with
  | none => rw [hx] at hr; simp at hr
  | some y =>
    rw [hx] at hr
    simp at hr
    rw [← hr, hid]
    exact h.2.2 j' y hj hx
theorem putRow_c {i m : Int} {r : RowC} (h : r.id = i) (hq : 1 ≤ r.q) : (putRow i m r).c = clampC r.q m := by
  unfold putRow
  rw [if_pos h]
  exact clampR_is hq
theorem satAdd_small {c q : Int} (hq : 1 ≤ q ∧ q ≤ 65536) (hc : -65536 ≤ c ∧ c ≤ q) : satAdd c q = c + q := by
  unfold satAdd
  rw [hold_in (x := c) (by omega) (by omega), hold_in (x := q) (by omega) (by omega), hold_in (by omega) (by omega)]
theorem satSub_small {c q m : Int} (hq : 1 ≤ q ∧ q ≤ 65536) (hc : -65536 ≤ c ∧ c ≤ q) : satSub c (size2048 m) = c - size2048 m := by
  have := size_cases m
  unfold satSub
  rw [hold_in (x := c) (by omega) (by omega), hold_in (x := size2048 m) (by omega) (by omega), hold_in (by omega) (by omega)]
/-- A call on accounts of which only its own map may have turned. -/
def SomePost (p b s : Nat) (w : World) (e : Ending) (w' : World) : Prop := ∃ v s' C, e = .returned v ∧ CredAt w' p b s' C ∧ s' ≤ s ∧ Touch [b] w w'
theorem visit_some {w : World} {p b s : Nat} {C : Int → Option (Int × Int)} (h : CredAt w p b s C) (i : Int) (hi : i64k i) (hs : s < 1000) :
    Calls Try.prog 32 #[.pointer (some ⟨p, 0, none⟩), .int .i64 i] w (SomePost p b s w) := by
  cases hx : C i with
  | none => exact (visit_no i _ (Lib.hid (find_no h i hi hx))).mono fun e w' ⟨he, t⟩ => ⟨_, s, C, he, h.carry t (by simp) (by simp), Nat.le_refl _, t.mono (by simp)⟩
  | some x => exact (visit_yes h i hi x hx hs).mono fun e w' ⟨he, hc, t⟩ => ⟨_, s, _, he, hc, Nat.le_refl _, t⟩
theorem close_some {w : World} {p b s : Nat} {C : Int → Option (Int × Int)} (h : CredAt w p b s C) (i : Int) (hi : i64k i) :
    Calls Try.prog 30 #[.pointer (some ⟨p, 0, none⟩), .int .i64 i] w (SomePost p b s w) := by
  cases hx : C i with
  | none => exact (close_no i _ (Lib.hid (find_no h i hi hx))).mono fun e w' ⟨he, t⟩ => ⟨_, s, C, he, h.carry t (by simp) (by simp), Nat.le_refl _, t.mono (by simp)⟩
  | some x => exact (close_yes h i hi x hx).mono fun e w' ⟨he, hc, t⟩ => ⟨_, s - 1, _, he, hc, Nat.sub_le _ _, t⟩

/-- At, by one number. -/
theorem refAt_num {Z : List Nat} {w : World} {v : Value} {L : List RowC} (h : RowsAt Z w v L) (i : Int) (hL : L.length ≤ 1000) :
    ∃ (z : Int) (is : Bool), (Calls Try.prog 26 #[v, .int .i64 i] w fun e w' => e = .returned (.int .i64 z) ∧ w = w') ∧ decide (0 ≤ z) = is ∧ ((is = true ∧ ∃ k r, AtYes L i k r) ∨ (is = false ∧ Far L i L.length)) := by
  rcases at_cases L i with ⟨k, r, hat⟩ | hf
  · exact ⟨k, true, refAt_yes h i k r hat hL, by simp, .inl ⟨rfl, k, r, hat⟩⟩
  · exact ⟨-1, false, refAt_no h i hf hL, rfl, .inr ⟨rfl, hf⟩⟩

structure ActC where
  what : Int
  id : Int
  n : Int
def ActCells (w : World) (B : Nat) (A : Option Addr) (n : Nat) (X : Nat → ActC) : Prop :=
  ∀ i, i < n → ∃ b off, A = some ⟨b, off, none⟩ ∧ b < B ∧ w.cell? ⟨b, off + i * 3, none⟩ = some (.int .i64 (X i).what) ∧ w.cell? ⟨b, off + i * 3 + 1, none⟩ = some (.int .i64 (X i).id) ∧ w.cell? ⟨b, off + i * 3 + 2, none⟩ = some (.int .i64 (X i).n) ∧ fit64 (X i).id

set_option maxHeartbeats 8000000 in
set_option maxRecDepth 100000 in
theorem creditPlays_walk (A : Option Addr) (n c : Nat) (X : Nat → ActC) (wd : World) (hc : n ≤ 9223372036854775807) (hX : ActCells wd wd.heap.size A n X) :
    Calls Try.prog 5 #[.slice A n c] wd fun e w' => e = .returned (.bool true) ∧ Below wd.heap.size wd w' := by
  have HX := Lib.hid hX
  clear hX
  by_cases hn : 80 < n
  · go_enter Try.func5, Try.ntmps5
    go_wp2_with fail
    refine (creditLives_any _).mono ?_
    rintro e w8 ⟨rfl, hb⟩
    go_wp2_with fail
    go_ret
    exact ⟨rfl, hb⟩
  · have N := Lib.hid (credNew_any wd)
    have B0 := Lib.hid (show Both wd 0 (wd.heap.size + 1) wd.heap.size 0 [] (.slice none 0 0) _ from
      ⟨credNew_at wd, RowsAt.nil _ _, Nat.le_refl _, Nat.le_refl _, Nat.le_refl _, ((Below.refl _ _).alloc (Nat.le_refl _) _).alloc (by simp) _⟩)
    go_enter Try.func5, Try.ntmps5
    go_wp2_with fail
    refine (N.out).mono ?_
    rintro e w1 ⟨rfl, rfl⟩
    go_wp2_with fail
    go_loopw [3, 4, 26] (fun cc x i wr => ∃ k : Nat, k ≤ n ∧ i = .int .i64 k ∧ AnyBoth wd k cc x wr) (fun _ _ i _ => n - (intOf i).toNat)
    case atStart => exact ⟨0, Nat.zero_le _, rfl, _, _, _, _, rfl, B0.out⟩
    case round =>
      clear N B0
      obtain ⟨k, hk, rfl, p, b, s, L, rfl, hB⟩ := hrel
      by_cases hlt : k < n
      · obtain ⟨bl, off, hA, hbB, d0, d1, d2, fi⟩ := HX.out k hlt
        rw [← hB.below.cell (p := ⟨bl, _, none⟩) hbB] at d0 d1 d2
        subst hA
        have hi : i64k (X k).id := i64k_of fi
        generalize (X k).what = dw at *
        generalize (X k).id = id at *
        generalize (X k).n = m at *
        have hbl : bl < wr.heap.size := Nat.lt_of_lt_of_le hbB hB.below.size
        have T6 := (Touch.refl [] wr).alloc (.cells #[.int .i64 dw, .int .i64 id, .int .i64 m] 48)
        have hB6 := hB.carry T6
        have hL : L.length ≤ 1000 := by have := hB.len; omega
        have hs : s < 1000 := by have := hB.many; omega
        have ha6 : Box3C (wr.alloc (.cells #[.int .i64 dw, .int .i64 id, .int .i64 m] 48)) wr.heap.size 48 (.int .i64 dw) (.int .i64 id) (.int .i64 m) := heap_alloc_new wr _
        obtain ⟨z, is, hAt, hz, hcase⟩ := refAt_num hB6.rows id hL
        have DA := Lib.hid hAt
        have HC := Lib.hid hcase
        have H6 := Lib.hid hB6
        have A6 := Lib.hid ha6
        have HBB := Lib.hid hB.cred.map.lt
        clear hAt hcase hB hB6 T6 ha6
        go_upto_region 8 with fail
        generalize wr.alloc (.cells #[.int .i64 dw, .int .i64 id, .int .i64 m] 48) = w6 at *
        have e0 := A6.out.c0
        have e1 := A6.out.c1
        have e2 := A6.out.c2
        clear d0 d1 d2
        go_wp2_with fail
        refine (DA.out).mono ?_
        rintro e w' ⟨rfl, rfl⟩
        go_upto_block 2 with fail
        have nb : wr.heap.size ≠ b := by have := HBB.out; omega
        generalize wr.heap.size = a6 at *
        go_cut [3, 4] (fun cc x wx => AnyBoth wd (k + 1) cc x wx ∧ Box3C wx a6 48 (.int .i64 dw) (.int .i64 id) (.int .i64 m))
        case first =>
          have hlt6 := A6.out.lt
          rcases (show dw = 0 ∨ dw = 1 ∨ dw = 2 ∨ dw = 3 ∨ dw = 4 ∨ (dw ≠ 0 ∧ dw ≠ 1 ∧ dw ≠ 2 ∧ dw ≠ 3 ∧ dw ≠ 4) by omega) with rfl | rfl | rfl | rfl | rfl | hd
          · by_cases hok : (∃ k0 r, AtYes L id k0 r) ∨ m < 1 ∨ 65536 < m
            · have R1 := Lib.hid (refOpen_bad H6.out.rows id m hok hL)
              have C1 : Hid (Calls Try.prog 28 #[.pointer (some ⟨p, 0, none⟩), .int .i64 id, .int .i64 m] w6 fun e w' => e = .returned (.bool false) ∧ Touch [] w6 w') := by
                by_cases hm : 1 ≤ m ∧ m ≤ 65536
                · rcases hok with ⟨k0, r, hat⟩ | hx
                  · exact Lib.hid (open_twice H6.out.cred id m hi _ hat.cof hm)
                  · omega
                · exact Lib.hid (open_bad id m _ hm (.inr ⟨p, rfl⟩) w6)
              clear hok
              go_wp2_with fail
              refine (R1.out).mono ?_
              rintro e w' ⟨rfl, rfl⟩
              go_wp2_with fail
              refine (C1.out).mono ?_
              rintro e w7 ⟨rfl, t7⟩
              have HB7 := Lib.hid (H6.out.carry t7).more
              have HA7 := Lib.hid (A6.out.carry t7 (by simp))
              clear t7
              go_wp2_with fail
              go_meet
              exact ⟨⟨_, _, _, _, rfl, HB7.out⟩, HA7.out⟩
            · have hm : 1 ≤ m ∧ m ≤ 65536 := by omega
              have hf : Far L id L.length := by
                rcases at_cases L id with h | h
                · exact absurd (.inl h) hok
                · exact h
              have R1 := Lib.hid (refOpen_yes H6.out.rows id m hf hm hL)
              have HF := Lib.hid hf
              clear hok hf
              go_wp2_with fail
              refine (R1.out).mono ?_
              rintro e w7 ⟨v7, rfl, ho7, hb7⟩
              have t7 : Touch [] w6 w7 := Touch.ofBelow hb7
              have hc7 := H6.out.cred.carry t7 (by simp) (by simp)
              have ha7 := A6.out.carry t7 (by simp)
              have C1 := Lib.hid (open_new hc7 id m hi HF.out.cof hm hs)
              have e1 := ha7.c1
              have e2 := ha7.c2
              have la := ha7.lt
              have HA7 := Lib.hid ha7
              have HO7 := Lib.hid ho7
              have HBL := Lib.hid hb7
              clear hc7 ha7 t7 ho7 hb7
              go_wp2_with fail
              refine (C1.out).mono ?_
              rintro e w8 ⟨rfl, hc8, t8⟩
              have hc8' : CredAt w8 p b (s + 1) (cof (L ++ [⟨id, m, 0⟩])) := by rw [cof_open HF.out.cof]; exact hc8
              have HB8 := Lib.hid (H6.out.more.step HO7.out HBL.out hc8' t8 (by simp; exact H6.out.len) (Nat.succ_le_succ H6.out.many))
              have HA8 := Lib.hid (HA7.out.carry t8 (by simpa using nb))
              clear hc8 hc8' t8
              go_wp2_with fail
              go_meet
              exact ⟨⟨_, _, _, _, rfl, HB8.out⟩, HA8.out⟩
          · have R1 := Lib.hid (refWithout_any H6.out.rows id hL)
            rcases HC.out with ⟨rfl, k0, r, hat⟩ | ⟨rfl, hf⟩
            · have HT := Lib.hid hat
              clear hat
              go_wp2_with fail
              refine (R1.out).mono ?_
              rintro e w7 ⟨v7, rfl, ho7, hb7⟩
              have t7 : Touch [] w6 w7 := Touch.ofBelow hb7
              have hc7 := H6.out.cred.carry t7 (by simp) (by simp)
              have ha7 := A6.out.carry t7 (by simp)
              have C1 := Lib.hid (close_yes hc7 id hi _ HT.out.cof)
              have e1 := ha7.c1
              have e2 := ha7.c2
              have la := ha7.lt
              have HA7 := Lib.hid ha7
              have HO7 := Lib.hid ho7
              have HBL := Lib.hid hb7
              clear hc7 ha7 t7 ho7 hb7
              go_wp2_with fail
              refine (C1.out).mono ?_
              rintro e w8 ⟨rfl, hc8, t8⟩
              have HB8 := Lib.hid (H6.out.more.step HO7.out HBL.out (by rw [cof_without]; exact hc8) t8 (Nat.le_succ_of_le (Nat.le_trans (List.length_filter_le _ _) H6.out.len)) (Nat.le_succ_of_le (Nat.le_trans (Nat.sub_le _ _) H6.out.many)))
              have HA8 := Lib.hid (HA7.out.carry t8 (by simpa using nb))
              clear hc8 t8
              go_wp2_with fail
              go_meet
              exact ⟨⟨_, _, _, _, rfl, HB8.out⟩, HA8.out⟩
            · have HT := Lib.hid hf
              clear hf
              go_wp2_with fail
              refine (R1.out).mono ?_
              rintro e w7 ⟨v7, rfl, ho7, hb7⟩
              have t7 : Touch [] w6 w7 := Touch.ofBelow hb7
              have hc7 := H6.out.cred.carry t7 (by simp) (by simp)
              have ha7 := A6.out.carry t7 (by simp)
              have C1 := Lib.hid (close_no id _ (Lib.hid (find_no hc7 id hi HT.out.cof)))
              have HC7 := Lib.hid hc7
              have e1 := ha7.c1
              have e2 := ha7.c2
              have la := ha7.lt
              have HA7 := Lib.hid ha7
              have HO7 := Lib.hid ho7
              have HBL := Lib.hid hb7
              clear hc7 ha7 t7 ho7 hb7
              go_wp2_with fail
              refine (C1.out).mono ?_
              rintro e w8 ⟨rfl, t8'⟩
              have hc8 := HC7.out.carry t8' (by simp) (by simp)
              have t8 := t8'.mono (S' := [b]) (by simp)
              clear t8'
              have HB8 := Lib.hid (H6.out.more.step HO7.out HBL.out (by rw [cof_without, updC_none HT.out.cof]; exact hc8) t8 (Nat.le_succ_of_le (Nat.le_trans (List.length_filter_le _ _) H6.out.len)) (Nat.le_succ_of_le H6.out.many))
              have HA8 := Lib.hid (HA7.out.carry t8 (by simpa using nb))
              clear hc8 t8
              go_wp2_with fail
              go_meet
              exact ⟨⟨_, _, _, _, rfl, HB8.out⟩, HA8.out⟩
          · rcases HC.out with ⟨rfl, k0, r, hat⟩ | ⟨rfl, hf⟩
            · have ho := H6.out.cred.ok id _ hat.cof
              unfold okAcc at ho
              simp only at ho
              have R1 := Lib.hid (refVisit_yes H6.out.rows id k0 r hat hL (by omega) (by omega))
              have HT := Lib.hid hat
              clear hat
              go_wp2_with fail
              refine (R1.out).mono ?_
              rintro e w7 ⟨v7, rfl, ho7, hb7⟩
              have t7 : Touch [] w6 w7 := Touch.ofBelow hb7
              have hc7 := H6.out.cred.carry t7 (by simp) (by simp)
              have ha7 := A6.out.carry t7 (by simp)
              have C1 := visit_yes hc7 id hi _ HT.out.cof hs
              simp only at C1
              rw [satAdd_small (c := r.c) (q := r.q) (by omega) (by omega)] at C1
              have C1 := Lib.hid C1
              have q1 : (clampC r.q (r.c + r.q) != clampC r.q (r.c + r.q)) = false := by simp
              have e1 := ha7.c1
              have e2 := ha7.c2
              have la := ha7.lt
              have HA7 := Lib.hid ha7
              have HO7 := Lib.hid ho7
              have HBL := Lib.hid hb7
              clear hc7 ha7 t7 ho7 hb7
              go_wp2_with fail
              refine (C1.out).mono ?_
              rintro e w8 ⟨rfl, hc8, t8⟩
              have hr8 := (RowsAt.own (Z := [b]) HO7.out rfl (by simpa using H6.out.cred.map.lt)).carry t8 (by simp)
              have D2 := refOf_yes hr8 id k0 _ (at_put HT.out) (by rw [List.length_map]; exact hL)
              rw [putRow_c HT.out.2.1 (by omega)] at D2
              have D2 := Lib.hid D2
              have ha8 := HA7.out.carry t8 (by simpa using nb)
              have e1 := ha8.c1
              have e2 := ha8.c2
              have la := ha8.lt
              have HA8 := Lib.hid ha8
              have HC8 := Lib.hid hc8
              have T8 := Lib.hid t8
              clear hr8 ha8 hc8 t8
              go_wp2_with fail
              refine (D2.out).mono ?_
              rintro e w' ⟨rfl, rfl⟩
              have HB8 := Lib.hid (H6.out.more.step HO7.out HBL.out (by rw [cof_puts HT.out.cof (by simp only; omega)]; exact HC8.out) T8.out (by rw [List.length_map]; exact Nat.le_succ_of_le H6.out.len) (Nat.le_succ_of_le H6.out.many))
              clear HC8 T8
              go_wp2_with fail
              go_meet
              exact ⟨⟨_, _, _, _, rfl, HB8.out⟩, HA8.out⟩
            · have R1 := Lib.hid (refVisit_no H6.out.rows id hf hL)
              have C1 := Lib.hid (visit_no id _ (Lib.hid (find_no H6.out.cred id hi hf.cof)))
              have HT := Lib.hid hf
              clear hf
              go_wp2_with fail
              refine (R1.out).mono ?_
              rintro e w' ⟨rfl, rfl⟩
              go_wp2_with fail
              refine (C1.out).mono ?_
              rintro e w7 ⟨rfl, t7⟩
              have hB7 := H6.out.carry t7
              have ha7 := A6.out.carry t7 (by simp)
              have D2 := Lib.hid (refOf_no hB7.rows id HT.out hL)
              have HB7 := Lib.hid hB7.more
              have e1 := ha7.c1
              have e2 := ha7.c2
              have la := ha7.lt
              have HA7 := Lib.hid ha7
              clear hB7 ha7 t7
              go_wp2_with fail
              refine (D2.out).mono ?_
              rintro e w' ⟨rfl, rfl⟩
              go_wp2_with fail
              go_meet
              exact ⟨⟨_, _, _, _, rfl, HB7.out⟩, HA7.out⟩
          · rcases HC.out with ⟨rfl, k0, r, hat⟩ | ⟨rfl, hf⟩
            · have ho := H6.out.cred.ok id _ hat.cof
              unfold okAcc at ho
              simp only at ho
              have R1 := Lib.hid (refSpend_yes H6.out.rows id m k0 r hat hL (by omega) (by omega))
              have HT := Lib.hid hat
              clear hat
              go_wp2_with fail
              refine (R1.out).mono ?_
              rintro e w7 ⟨v7, rfl, ho7, hb7⟩
              have t7 : Touch [] w6 w7 := Touch.ofBelow hb7
              have hc7 := H6.out.cred.carry t7 (by simp) (by simp)
              have ha7 := A6.out.carry t7 (by simp)
              have C1 := spend_yes hc7 id m hi _ HT.out.cof hs
              simp only at C1
              rw [satSub_small (c := r.c) (q := r.q) (by omega) (by omega)] at C1
              have C1 := Lib.hid C1
              have e1 := ha7.c1
              have e2 := ha7.c2
              have la := ha7.lt
              have HA7 := Lib.hid ha7
              have HO7 := Lib.hid ho7
              have HBL := Lib.hid hb7
              clear hc7 ha7 t7 ho7 hb7
              go_wp2_with fail
              refine (C1.out).mono ?_
              rintro e w8 ⟨rfl, hc8, t8⟩
              have HB8 := Lib.hid (H6.out.more.step HO7.out HBL.out (by rw [cof_puts HT.out.cof (by simp only; omega)]; exact hc8) t8 (by rw [List.length_map]; exact Nat.le_succ_of_le H6.out.len) (Nat.le_succ_of_le H6.out.many))
              have HA8 := Lib.hid (HA7.out.carry t8 (by simpa using nb))
              clear hc8 t8
              go_wp2_with fail
              go_meet
              exact ⟨⟨_, _, _, _, rfl, HB8.out⟩, HA8.out⟩
            · have R1 := Lib.hid (refSpend_no H6.out.rows id m hf hL)
              have C1 := Lib.hid (spend_no id m _ (Lib.hid (find_no H6.out.cred id hi hf.cof)))
              clear hf
              go_wp2_with fail
              refine (R1.out).mono ?_
              rintro e w' ⟨rfl, rfl⟩
              go_wp2_with fail
              refine (C1.out).mono ?_
              rintro e w7 ⟨rfl, t7⟩
              have HB7 := Lib.hid (H6.out.carry t7).more
              have HA7 := Lib.hid (A6.out.carry t7 (by simp))
              clear t7
              go_wp2_with fail
              go_meet
              exact ⟨⟨_, _, _, _, rfl, HB7.out⟩, HA7.out⟩
          · have R1 := Lib.hid (refGive_any H6.out.rows id m hL)
            rcases HC.out with ⟨rfl, k0, r, hat⟩ | ⟨rfl, hf⟩
            · have ho := H6.out.cred.ok id _ hat.cof
              unfold okAcc at ho
              simp only at ho
              have HT := Lib.hid hat
              clear hat
              go_wp2_with fail
              refine (R1.out).mono ?_
              rintro e w7 ⟨v7, rfl, ho7, hb7⟩
              have t7 : Touch [] w6 w7 := Touch.ofBelow hb7
              have hc7 := H6.out.cred.carry t7 (by simp) (by simp)
              have ha7 := A6.out.carry t7 (by simp)
              have C1 := give_yes hc7 id m hi _ HT.out.cof hs
              simp only at C1
              have C1 := Lib.hid C1
              have e1 := ha7.c1
              have e2 := ha7.c2
              have la := ha7.lt
              have HA7 := Lib.hid ha7
              have HO7 := Lib.hid ho7
              have HBL := Lib.hid hb7
              clear hc7 ha7 t7 ho7 hb7
              go_wp2_with fail
              refine (C1.out).mono ?_
              rintro e w8 ⟨rfl, hc8, t8⟩
              have HB8 := Lib.hid (H6.out.more.step HO7.out HBL.out (by rw [cof_puts HT.out.cof (by simp only; omega)]; exact hc8) t8 (by rw [List.length_map]; exact Nat.le_succ_of_le H6.out.len) (Nat.le_succ_of_le H6.out.many))
              have HA8 := Lib.hid (HA7.out.carry t8 (by simpa using nb))
              clear hc8 t8
              go_wp2_with fail
              go_meet
              exact ⟨⟨_, _, _, _, rfl, HB8.out⟩, HA8.out⟩
            · have HT := Lib.hid hf
              clear hf
              go_wp2_with fail
              refine (R1.out).mono ?_
              rintro e w7 ⟨v7, rfl, ho7, hb7⟩
              have t7 : Touch [] w6 w7 := Touch.ofBelow hb7
              have hc7 := H6.out.cred.carry t7 (by simp) (by simp)
              have ha7 := A6.out.carry t7 (by simp)
              have C1 := Lib.hid (give_no id m _ (Lib.hid (find_no hc7 id hi HT.out.cof)))
              have HC7 := Lib.hid hc7
              have e1 := ha7.c1
              have e2 := ha7.c2
              have la := ha7.lt
              have HA7 := Lib.hid ha7
              have HO7 := Lib.hid ho7
              have HBL := Lib.hid hb7
              clear hc7 ha7 t7 ho7 hb7
              go_wp2_with fail
              refine (C1.out).mono ?_
              rintro e w8 ⟨rfl, t8'⟩
              have hc8 := HC7.out.carry t8' (by simp) (by simp)
              have t8 := t8'.mono (S' := [b]) (by simp)
              clear t8'
              have HB8 := Lib.hid (H6.out.more.step HO7.out HBL.out (by rw [cof_putn HT.out.cof]; exact hc8) t8 (by rw [List.length_map]; exact Nat.le_succ_of_le H6.out.len) (Nat.le_succ_of_le H6.out.many))
              have HA8 := Lib.hid (HA7.out.carry t8 (by simpa using nb))
              clear hc8 t8
              go_wp2_with fail
              go_meet
              exact ⟨⟨_, _, _, _, rfl, HB8.out⟩, HA8.out⟩
          · have g0 : (dw == 0) = false := by simpa using hd.1
            have g1 : (dw == 1) = false := by simpa using hd.2.1
            have g2 : (dw == 2) = false := by simpa using hd.2.2.1
            have g3 : (dw == 3) = false := by simpa using hd.2.2.2.1
            have g4 : (dw == 4) = false := by simpa using hd.2.2.2.2
            have C1 := Lib.hid (credCopy_any H6.out.cred)
            clear hd
            go_wp2_with fail
            refine (C1.out).mono ?_
            rintro e w7 ⟨rfl, hc7, t7⟩
            have C2 := Lib.hid (visit_some hc7 id hi hs)
            have ha7 := A6.out.carry t7 (by simp)
            have T7 := Lib.hid t7
            have na : a6 ≠ w6.heap.size := by omega
            have lb := H6.out.cred.map.lt
            have lp := H6.out.cred.box.lt
            have e1 := ha7.c1
            have e2 := ha7.c2
            have la := ha7.lt
            have HA7 := Lib.hid ha7
            clear hc7 t7 ha7
            go_wp2_with fail
            refine (C2.out).mono ?_
            rintro e w8 ⟨v8, s8, C8, rfl, hc8, hs8, t8⟩
            have C3 := Lib.hid (close_some hc8 id hi)
            have ha8 := HA7.out.carry t8 (by simpa using na)
            have T8 := Lib.hid t8
            have e1 := ha8.c1
            have e2 := ha8.c2
            have la := ha8.lt
            have HA8 := Lib.hid ha8
            clear hc8 t8 ha8
            go_wp2_with fail
            refine (C3.out).mono ?_
            rintro e w9 ⟨v9, s9, C9, rfl, hc9, hs9, t9⟩
            have hc69 := ((H6.out.cred.carry T7.out (by simp) (by simp)).carry T8.out (by simp; omega) (by simp; omega)).carry t9 (by simp; omega) (by simp; omega)
            have hr69 := (((H6.out.rows.avoid (Z' := [b, w6.heap.size]) (by simp)).carry T7.out (by simp)).carry T8.out (by simp)).carry t9 (by simp)
            have C4 := Lib.hid (credCopy_any hc69)
            have ha9 := HA8.out.carry t9 (by simpa using na)
            have T9 := Lib.hid (((T7.out.mono (S' := [w6.heap.size]) (by simp)).trans T8.out (by simp)).trans t9 (by simp))
            have HR9 := Lib.hid (hr69.avoid (Z' := [w9.heap.size]) (by simp))
            have HA9 := Lib.hid ha9
            clear hc69 hr69 ha9 hc9 t9
            go_wp2_with fail
            refine (C4.out).mono ?_
            rintro e w10 ⟨rfl, hc10, t10⟩
            have HB10 := Lib.hid (show Both wd (k + 1) (w9.heap.size + 1) w9.heap.size s L u4 w10 from
              ⟨hc10, HR9.out.carry t10 (by simp), Nat.le_succ_of_le H6.out.len, Nat.le_succ_of_le H6.out.many, Nat.le_trans H6.out.below.size T9.out.size, H6.out.below.trans ((T9.out.trans t10 (by simp)).below (by simpa using H6.out.below.size) H6.out.below.size)⟩)
            have HA10 := Lib.hid (HA9.out.carry t10 (by simp))
            clear hc10 t10
            go_wp2_with fail
            go_meet
            exact ⟨⟨_, _, _, _, rfl, HB10.out⟩, HA10.out⟩
        case rest =>
          clear HC H6 A6 DA e0 e1 e2
          obtain ⟨⟨p, b, s, L, rfl, hB⟩, ha⟩ := hcut
          have hL : L.length ≤ 1000 := by have := hB.len; omega
          have e1 := ha.c1
          have la := ha.lt
          rcases at_cases L id with ⟨k0, r, hat⟩ | hf
          · have ho := hB.cred.ok id _ hat.cof
            unfold okAcc at ho
            simp only at ho
            have D1 := Lib.hid (credOf_yes hB.cred id hi _ hat.cof)
            have HB := Lib.hid hB
            have HA := Lib.hid ha
            have HT := Lib.hid hat
            have q1 : (r.c != r.c) = false := by simp
            have q2 : (visitsV r.c r.q != visitsV r.c r.q) = false := by simp
            clear hB ha hat
            go_wp2_with fail
            refine (D1.out).mono ?_
            rintro e w10 ⟨rfl, t10⟩
            have hB10 := HB.out.carry t10
            have ha10 := HA.out.carry t10 (by simp)
            have D2 := Lib.hid (refOf_yes hB10.rows id k0 r HT.out hL)
            have HB10 := Lib.hid hB10
            have HA10 := Lib.hid ha10
            have e1 := ha10.c1
            have la := ha10.lt
            clear hB10 ha10 t10 HB HA
            go_wp2_with fail
            refine (D2.out).mono ?_
            rintro e w' ⟨rfl, rfl⟩
            go_upto_region 39 with fail
            have k1 : ∀ x : Cls w10, x.val.cell? ⟨a6, 1, none⟩ = some (.int .i64 id) := fun x => (HA10.out.carry x.property (by simp)).c1
            have V1 := Lib.hid (fun x : Cls w10 => visits_yes (HB10.out.carry x.property).cred id hi _ HT.out.cof)
            have V2 := Lib.hid (fun x : Cls w10 => refVisits_yes (HB10.out.carry x.property).rows id k0 r HT.out hL (by omega) (by omega))
            simp only at V1
            generalize visitsV r.c r.q = vv at *
            generalize r.c = rc at *
            clear e1 la
            refine wp_region_cls (wd := w10) (by kernel_rfl) (by kernel_rfl) ((Touch.refl _ _).drew) ?_
            repeat (first | go_big_quiet_step ((first | (go_at_call 40; exact Calls.cls_at (V1.out _)) | (go_at_call 41; exact Calls.cls_at (V2.out _)))) | quiet_step ((first | (go_at_call 40; exact Calls.cls_at (V1.out _)) | (go_at_call 41; exact Calls.cls_at (V2.out _)))))
            refine wpQuiet_nil ?_
            rintro _ ⟨y, rfl⟩
            have T := Lib.hid y.property
            clear k1 V1 V2
            generalize y.val = wy at *
            go_wp2_with fail
            go_roundw
            case rel => exact ⟨k + 1, by omega, by go_num, _, _, _, _, rfl, HB10.out.carry T.out⟩
            case measure => simp [intOf]; omega
          · have D1 := Lib.hid (credOf_no id _ (Lib.hid (find_no hB.cred id hi hf.cof)))
            have HB := Lib.hid hB
            have HA := Lib.hid ha
            have HT := Lib.hid hf
            clear hB ha hf
            go_wp2_with fail
            refine (D1.out).mono ?_
            rintro e w10 ⟨rfl, t10⟩
            have hB10 := HB.out.carry t10
            have ha10 := HA.out.carry t10 (by simp)
            have D2 := Lib.hid (refOf_no hB10.rows id HT.out hL)
            have HB10 := Lib.hid hB10
            have HA10 := Lib.hid ha10
            have e1 := ha10.c1
            have la := ha10.lt
            clear hB10 ha10 t10 HB HA
            go_wp2_with fail
            refine (D2.out).mono ?_
            rintro e w' ⟨rfl, rfl⟩
            go_upto_region 39 with fail
            have k1 : ∀ x : Cls w10, x.val.cell? ⟨a6, 1, none⟩ = some (.int .i64 id) := fun x => (HA10.out.carry x.property (by simp)).c1
            have V1 := Lib.hid (fun x : Cls w10 => visits_no id _ (Lib.hid (find_no (HB10.out.carry x.property).cred id hi HT.out.cof)))
            have V2 := Lib.hid (fun x : Cls w10 => refVisits_no (HB10.out.carry x.property).rows id HT.out hL)
            clear e1 la
            refine wp_region_cls (wd := w10) (by kernel_rfl) (by kernel_rfl) ((Touch.refl _ _).drew) ?_
            repeat (first | go_big_quiet_step ((first | (go_at_call 40; exact Calls.cls_at (V1.out _)) | (go_at_call 41; exact Calls.cls_at (V2.out _)))) | quiet_step ((first | (go_at_call 40; exact Calls.cls_at (V1.out _)) | (go_at_call 41; exact Calls.cls_at (V2.out _)))))
            refine wpQuiet_nil ?_
            rintro _ ⟨y, rfl⟩
            have T := Lib.hid y.property
            clear k1 V1 V2
            generalize y.val = wy at *
            go_wp2_with fail
            go_roundw
            case rel => exact ⟨k + 1, by omega, by go_num, _, _, _, _, rfl, HB10.out.carry T.out⟩
            case measure => simp [intOf]; omega
      · obtain rfl : k = n := by omega
        have HB := Lib.hid hB.below
        clear hB
        go_wp2_with fail
        refine (creditLives_any _).mono ?_
        rintro e w8 ⟨rfl, hb⟩
        go_wp2_with fail
        go_ret
        exact ⟨rfl, HB.out.trans (hb.mono HB.out.size)⟩

set_option maxRecDepth 100000 in
theorem actC_cells (W : World) (base : Nat) (H : Type) (enc : TypeId × Value → H) (v : Value) (d : DataW H) (p : List MemPlace) (hv : Value.okWide Try.prog W .any base 43 v)
    (h : DataW.Trod enc Try.prog W 0 (fun _ => true) true 43 v d p) : ∃ A len cap X, v = .slice A len cap ∧ len ≤ maxLen ∧ ActCells W W.heap.size A len X := by
  obtain ⟨A, len, cap, rfl, hl, hm, hi⟩ := slice_structs Try.underlying43 Try.underlying48 (by kernel_rfl) (by kernel_rfl) (Nat.zero_lt_succ _) hv h
  haveI : Inhabited ActC := ⟨⟨0, 0, 0⟩⟩
  obtain ⟨X, hX⟩ := Deep.choose_lt (α := ActC) (n := len) (p := fun i e => ∃ b off, A = some ⟨b, off, none⟩ ∧ b < W.heap.size ∧ W.cell? ⟨b, off + i * 3, none⟩ = some (.int .i64 e.what) ∧ W.cell? ⟨b, off + i * 3 + 1, none⟩ = some (.int .i64 e.id) ∧ W.cell? ⟨b, off + i * 3 + 2, none⟩ = some (.int .i64 e.n) ∧ fit64 e.id) (fun i hlt => by
      obtain ⟨b, off, hA, hb, hf⟩ := hi i hlt
      obtain ⟨u0, _, _, c0, g0⟩ := hf 0 _ rfl
      obtain ⟨u1, _, _, c1, g1⟩ := hf 1 _ rfl
      obtain ⟨u2, _, _, c2, g2⟩ := hf 2 _ rfl
      obtain ⟨y0, rfl, _⟩ := cell_int Try.underlying3 g0
      obtain ⟨y1, rfl, w1⟩ := cell_int Try.underlying3 g1
      obtain ⟨y2, rfl, _⟩ := cell_int Try.underlying3 g2
      exact ⟨⟨y0, y1, y2⟩, b, off, hA, hb, c0, c1, c2, i64_in w1⟩)
  exact ⟨A, len, cap, X, rfl, Nat.le_trans hl hm, hX⟩

set_option maxRecDepth 100000 in
theorem creditPlays_calls : LawCalls Try.prog 5 Try.f5 := by
  intro H enc W base args ds p hval hA hlt
  rw [Try.params5] at hA hval
  obtain ⟨v0, vs0, d0, ds0, p0, q0, hargs, rfl, rfl, h0, r0⟩ := trodAll_cons hA
  obtain ⟨rfl, rfl, rfl⟩ := trodAll_nil r0
  obtain rfl : args = #[v0] := by cases args; simp_all
  obtain ⟨A, len, cap, X, rfl, hm, hX⟩ := actC_cells W base H enc v0 d0 p0 (hval 0 43 v0 rfl rfl) h0
  exact creditPlays_walk A len cap X W (by simpa [maxLen] using hm) hX

set_option maxRecDepth 100000 in
theorem creditPlays_lifted (os : Os) (started : os.Started) (H : Type) (enc : TypeId × Value → H) :
    ReturnsInHanded {} Try.checked os 5 .any (Rows.creditPlaysSpec.pre6 enc Try.prog Try.f5 Rows.creditPlaysRow.domain false) (Rows.creditPlaysSpec.post enc Try.prog Try.f5 false true false false) := by
  refine returnsInHanded_of_change (C := Try.checked) own started (by kernel_rfl) Try.func5
    (ChangeSpec.witness6 (enc := enc) (C := Try.checked) false ⟨#[], #[.slice none 0 0], []⟩ 8 (by kernel_rfl) (by kernel_rfl) (by kernel_rfl) (by kernel_rfl)) ?_
  intro W base args ds gs before hval hW _ _
  exact law_contract laidOut (by kernel_rfl) rfl rfl boolType (fun ds h => by match ds, h with | [_], _ => rfl) creditPlays_calls W base args ds gs before hval hW

theorem creditPlays_holds : Rows.CreditPlaysSaid :=
  OpenClaim.holds_of_wide 5 Try.f5 rfl rfl rfl rfl rfl rfl rfl ⟨rfl, rfl, rfl, rfl, rfl⟩ rfl rfl rfl rfl rfl (by kernel_rfl) Try.func5 (by kernel_rfl)
    (of_decide_eq_true (by kernel_rfl)) (by unfold Func.isWrapper; first | (rw [if_pos (by decide +kernel)]; kernel_rfl) | (rw [if_neg (by decide +kernel)]; exact ⟨rfl, rfl⟩))
    (fun os started H enc _ => creditPlays_lifted os started H enc)
#print axioms creditPlays_holds
end Go.Proofs.Ytncipngnpdhbjaa
