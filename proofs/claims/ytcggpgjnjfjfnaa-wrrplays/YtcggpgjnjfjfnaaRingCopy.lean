/-
  Copy of layer 29 (ring): a range over the function that All returns.
-/
import Derived.Test.YtcggpgjnjfjfnaaRingLaws
import Derived.Test.YtcggpgjnjfjfnaaRanges
import Derived.RangeFuncNested
import Derived.RangeFuncWrites
import Derived.RangeFuncBound
import Derived.RangeFuncCalls
import Derived.RangeFuncLeaves
import Derived.Shelf.Abstract
import Derived.Shelf.RegionOpen
import Derived.WalkKit
import Derived.OwnWalkIn
import Derived.TacticsInMore
import Derived.LoopNIn
import Derived.LoopIn
namespace Go.Proofs.Ytcggpgjnjfjfnaa
open Go.ChangeShapes Go.WideShapes Go.ChangeAt Go.RowKit Go.Deep Go.Maps Go.Shelf
set_option linter.unusedVariables false
attribute [local go_sem] Oper.semAt_some

/-- An integer within its range. -/
abbrev I64 := { x : Int // i64k x }
/-- All's closure hands the members on in their order. -/
theorem all1_stops {w : World} {p b1 b2 n Bs : Nat} {x : Nat → Int} (S : List Nat) (f : Nat → I64) (hf : ∀ i, i < n → (f i).1 = x i) (h : Ringed w p b1 b2 n x) (hn : n ≤ 100000) (hS : ∀ b ∈ S, b < w.heap.size)
    (hBs : Bs < w.heap.size) (hc : w.cell? ⟨Bs, 0, none⟩ = some (.pointer (some ⟨p, 0, none⟩))) (m : Nat) :
    SeqStopsK Fence.wide m Try.prog 62 #[.pointer (some ⟨Bs, 0, none⟩)] (fun y : I64 => #[Value.int .i64 y.1]) (KpR S w.heap.size) (fun ys => ys = upto f n) (fun _ => True) n w := fun l J Jx W hW hJ hJx hY h0 => by
  have hc' := (hW.cell (p := ⟨Bs, 0, none⟩) hBs).trans hc
  have hR := h.carry (Touch.ofBelow (S := []) hW) (by simp) (by simp) (by simp)
  have O := Lib.hid (hR.order hn)
  have HW := Lib.hid hW
  clear h hR hW hc
  refine callsIn_of_wp Try.func62 rfl trivial ?_ rfl
  simp only [Try.ntmps62, List.size_toArray, List.length_cons, List.length_nil, Nat.reduceAdd, Nat.reduceSub, Array.replicate_succ, Array.replicate_zero, List.push_toArray, List.append_toArray, List.nil_append, List.cons_append]
  gi_wp2
  refine ⟨trivial, fun h => (by cases h), ?_⟩
  refine (callsIn_wide.2 O.out).mono ?_
  rintro e w2 ⟨v, rfl, ho, hb⟩
  obtain ⟨A, cap, rfl, hcap, hmax, hfar⟩ := own_far ho
  have hJ0 : J [] w2 := hJ [] W w2 none h0 ⟨hb.os, hb.tape, hb.output, hb.size, fun i hi _ => hb.block i hi⟩ (by simp)
  have hSW : ∀ b ∈ S, b < W.heap.size := fun b hb => Nat.lt_of_lt_of_le (hS b hb) HW.out.size
  clear hfar hb hcap hmax O hc'
  gi_wp2
  gi_loopw [8] (fun i wr => ∃ k : Nat, k ≤ n ∧ i = .int .i64 k ∧ J (upto f k) wr ∧ wr.ownsRow W.heap.size 3 1 (.slice A n cap) n (iv x n)) (fun i _ => n - (intOf i).toNat)
  case atStart => exact ⟨0, Nat.zero_le _, rfl, hJ0, ho⟩
  case round =>
    obtain ⟨k, hk, rfl, hJk, hown⟩ := hrel
    by_cases hlt : k < n
    · obtain ⟨fn, tmps, assign, body, hy, hR⟩ := hY _ (f k) wr hJk (by rw [upto_length]; exact hlt)
      obtain ⟨A', cap', e, _, _, hfar⟩ := own_far hown
      cases e
      obtain ⟨b, off, rfl, _, hbl, hcell⟩ := hfar k hlt
      rw [hf k hlt] at hy
      have HO := Lib.hid hown
      clear hfar hown
      gi_wp2
      refine ⟨fun h => (by cases h), hR.mono ?_⟩
      rintro e W3 (⟨rfl, hJ3, hk3⟩ | ⟨rfl, hJx3⟩)
      · gi_wp2
        go_roundw
        case rel => exact ⟨k + 1, by omega, by simp, by rw [upto_succ]; exact hJ3, hk3.own hSW HO.out⟩
        case measure => simp [intOf]; omega
      · gi_wp2
        refine bodyPost_ret (results_none rfl _ _ _) rfl ?_
        exact ⟨⟨_, rfl⟩, .inr ⟨_, trivial, hJx3⟩⟩
    · obtain rfl : k = n := by omega
      gi_wp2
      go_end0
      exact ⟨⟨_, rfl⟩, .inl ⟨_, rfl, hJk⟩⟩

theorem all_any (a : Option Addr) (w : World) :
    Calls Try.prog 41 #[.pointer a] w fun e w' => e = .returned (.func (.func 62) #[] #[.pointer (some ⟨w.heap.size, 0, none⟩)]) ∧ w' = w.alloc (.cells #[.pointer a] 57) := by
  go_enter Try.func41, Try.ntmps41
  go_wp2
  go_ret
  exact ⟨rfl, rfl⟩

/-! ### What has been added when a part has come -/
def ddS (L : List Int) (x : Int) : List Int := if x ∈ L then L else L ++ [x]
def dd (pre : List I64) : List Int := pre.foldl (fun L y => ddS L y.1) []
theorem dd_snoc (pre : List I64) (x : I64) : dd (pre ++ [x]) = ddS (dd pre) x.1 := by simp [dd]
theorem dd_upto {f : Nat → I64} {x : Nat → Int} {n : Nat} (hf : ∀ i, i < n → (f i).1 = x i) (hi : ∀ i j, i < n → j < n → x i = x j → i = j) : ∀ k, k ≤ n → dd (upto f k) = upto x k := by
  intro k
  induction k with
  | zero => intro _; rfl
  | succ k ih =>
    intro hk
    rw [upto_succ, dd_snoc, ih (by omega), upto_succ, hf k (by omega)]
    unfold ddS
    rw [if_neg]
    intro hm
    obtain ⟨j, hj, e⟩ := mem_upto.1 hm
    have := hi j k (by omega) (by omega) e
    omega

def CopyPost (n : Nat) (x : Nat → Int) (w : World) (e : Ending) (w' : World) : Prop :=
  ∃ q c1 c2 y, e = .returned (.pointer (some ⟨q, 0, none⟩)) ∧ Ringed w' q c1 c2 n y ∧ (∀ i, i < n → y i = x i) ∧ (w.heap.size ≤ q ∧ w.heap.size ≤ c1 ∧ w.heap.size ≤ c2) ∧ Touch [] w w'

def CopyI (w : World) (q c1 c2 cb : Nat) (pre : List I64) (W : World) : Prop :=
  ∃ y m, m ≤ pre.length ∧ Ringed W q c1 c2 m y ∧ upto y m = dd pre ∧ W.cell? ⟨cb, 0, none⟩ = some (.pointer (some ⟨q, 0, none⟩)) ∧ Touch [] w W
theorem copyI_own {w : World} {q c1 c2 cb B : Nat} (hq : q < B) (h1 : c1 < B) (h2 : c2 < B) (hb : cb < B) (hw : w.heap.size ≤ B) : OwnFrom B (CopyI w q c1 c2 cb) := by
  rintro pre W W' row ⟨y, m, hm, hr, hd, hc, ht⟩ hg hrow
  have t := grown_touch hg
  have hn : ∀ b, b < B → b ∉ row.toList := fun b hb hm => by
    have := (hrow b (by simpa using hm)).1
    omega
  have hcb : cb < W.heap.size := by
    rcases Nat.lt_or_ge cb W.heap.size with h | h
    · exact h
    · simp [World.cell?, Array.getElem?_eq_none h] at hc
  exact ⟨y, m, hm, hr.carry t (hn _ hq) (hn _ h1) (hn _ h2), hd, (t.cell (a := ⟨cb, 0, none⟩) hcb (hn _ hb)).trans hc, ht.trans t (fun b hb => by have := (hrow b (by simpa using hb)).1; right; omega)⟩

set_option maxRecDepth 100000 in
set_option maxHeartbeats 2000000 in
theorem Ringed.copy {w : World} {p b1 b2 n : Nat} {x : Nat → Int} (h : Ringed w p b1 b2 n x) (hn : n ≤ 100000) :
    Calls Try.prog 35 #[.pointer (some ⟨p, 0, none⟩)] w (CopyPost n x w) := by
  refine (callsIn_wide (n := 6)).1 ?_
  refine callsIn_of_wp_marks Try.func35 rfl trivial ?_ rfl
  simp only [Try.ntmps35, List.size_toArray, List.length_cons, List.length_nil, Nat.reduceAdd, Nat.reduceSub, Array.replicate_succ, Array.replicate_zero, List.push_toArray, List.append_toArray, List.nil_append, List.cons_append]
  gi_wp2
  refine ⟨trivial, ?_⟩
  refine (callsIn_wide.2 (ringNew_any w)).mono ?_
  rintro e w1 ⟨rfl, a1, t1⟩
  have R1 := Lib.hid (show Ringed w1 (w.heap.size + 2) w.heap.size (w.heap.size + 1) 0 (fun _ => 0) from ⟨_, _, _, a1, Cyc.new⟩)
  have T1 := Lib.hid t1
  clear a1 t1
  gi_wp2
  refine ⟨trivial, ?_⟩
  refine (callsIn_wide.2 (all_any _ _)).mono ?_
  rintro e w2 ⟨rfl, rfl⟩
  gi_wp2
  have lq := R1.out.lt
  have R3 := (R1.out.carry ((Touch.refl [] w1).alloc (.cells #[.pointer (some ⟨w.heap.size + 2, 0, none⟩)] 57)) (by simp) (by simp) (by simp)).carry ((Touch.refl [] _).alloc (.cells #[.pointer (some ⟨p, 0, none⟩)] 57)) (by simp) (by simp) (by simp)
  have T3 := (T1.out.alloc (.cells #[.pointer (some ⟨w.heap.size + 2, 0, none⟩)] 57)).alloc (.cells #[.pointer (some ⟨p, 0, none⟩)] 57)
  have hp := h.carry T3 (by simp) (by simp) (by simp)
  have cc : ((w1.alloc (.cells #[.pointer (some ⟨w.heap.size + 2, 0, none⟩)] 57)).alloc (.cells #[.pointer (some ⟨p, 0, none⟩)] 57)).cell? ⟨w1.heap.size, 0, none⟩ = some (.pointer (some ⟨w.heap.size + 2, 0, none⟩)) :=
    (((Touch.refl [] (w1.alloc (.cells #[.pointer (some ⟨w.heap.size + 2, 0, none⟩)] 57))).alloc _).cell (a := ⟨w1.heap.size, 0, none⟩) (by simp) (by simp)).trans (cell_of_row _ _ 0 _ 57 (0, 0) (heap_alloc_new w1 _))
  have cB : ((w1.alloc (.cells #[.pointer (some ⟨w.heap.size + 2, 0, none⟩)] 57)).alloc (.cells #[.pointer (some ⟨p, 0, none⟩)] 57)).cell? ⟨w1.heap.size + 1, 0, none⟩ = some (.pointer (some ⟨p, 0, none⟩)) := by
    have := heap_alloc_new (w1.alloc (.cells #[.pointer (some ⟨w.heap.size + 2, 0, none⟩)] 57)) (.cells #[.pointer (some ⟨p, 0, none⟩)] 57)
    rw [show (w1.alloc (.cells #[.pointer (some ⟨w.heap.size + 2, 0, none⟩)] 57)).heap.size = w1.heap.size + 1 by simp] at this
    exact cell_of_row _ _ 0 _ 57 (0, 0) this
  have s3 : ((w1.alloc (.cells #[.pointer (some ⟨w.heap.size + 2, 0, none⟩)] 57)).alloc (.cells #[.pointer (some ⟨p, 0, none⟩)] 57)).heap.size = w1.heap.size + 2 := by simp
  have hwq := T1.out.size
  generalize (w1.alloc (.cells #[.pointer (some ⟨w.heap.size + 2, 0, none⟩)] 57)).alloc (.cells #[.pointer (some ⟨p, 0, none⟩)] 57) = w3 at *
  obtain ⟨f, hf⟩ : ∃ f : Nat → I64, ∀ i, i < n → (f i).1 = x i := by
    obtain ⟨_, _, _, _, c⟩ := h
    by_cases h0 : n = 0
    · exact ⟨fun _ => ⟨0, rfl⟩, fun i hi => by omega⟩
    · exact ⟨fun i => ⟨x i, c.i64 (by omega) i⟩, fun i _ => rfl⟩
  have hinj : ∀ i j, i < n → j < n → x i = x j → i = j := by
    obtain ⟨_, _, _, _, c⟩ := h
    exact c.inj
  have DD := Lib.hid (dd_upto hf hinj n (Nat.le_refl _))
  have HS : ∀ b ∈ [w.heap.size + 2, w.heap.size, w.heap.size + 1], b < w3.heap.size := by
    intro b hb
    simp at hb
    omega
  generalize hq : w.heap.size + 2 = q at *
  generalize hc2 : w.heap.size + 1 = c2 at R1 R3 lq HS
  generalize hc1 : w.heap.size = c1 at R1 R3 lq HS
  have LO := Lib.hid (show w.heap.size ≤ q ∧ w.heap.size ≤ c1 ∧ w.heap.size ≤ c2 by omega)
  have HT3 := Lib.hid T3
  clear R1 T1 h hinj hq hc1 hc2 T3
  refine wpIn_rangeFunc_ownG rfl (by omega) (gf := 62) (lb := #[.pointer (some ⟨w1.heap.size + 1, 0, none⟩)]) rfl trivial (enters_of Try.func62 (by kernel_rfl) rfl)
    (all1_stops [q, c1, c2] f hf hp hn HS (by omega) cB _) KpR.trans (fun W l o o' hl ho hc _ => KpR.put W l o o' hl ho hc) (Below.refl _ _) (fun _ => rfl)
    (CopyI w q c1 c2 w1.heap.size) (fun _ _ _ => False)
    (copyI_own (by omega) (by omega) (by omega) (by omega) (by omega)) (fun _ _ _ _ _ hs _ _ => hs)
    ⟨_, 0, by simp, R3, rfl, cc, HT3.out⟩
    (fun y => { tmps := #[.pointer (some ⟨p, 0, none⟩), undef, .pointer none, .pointer (some ⟨w1.heap.size, 0, none⟩), .int .i64 y.1, .pointer (some ⟨p, 0, none⟩), .bool false, .pointer (some ⟨q, 0, none⟩), .pointer (some ⟨p, 0, none⟩), .func (.func 62) #[] #[.pointer (some ⟨w1.heap.size + 1, 0, none⟩)], .int .i64 y.1, undef, undef, undef, undef], defers := [] }) ?assign ?body ?done ?stop
  case assign =>
    intro l y W K hK
    gi_wp2
    exact hK
  case body =>
    rintro l pre y W ⟨z, m, hm, hr, hd, hcb, ht⟩ hlt
    have hid : i64k y.1 := y.2
    have hdd := dd_snoc pre y
    rw [← hd] at hdd
    generalize y.1 = v at *
    have hSB : ∀ b ∈ [q, c1, c2], b < w3.heap.size := HS
    by_cases hin : ∃ j, j < m ∧ z j = v
    · have Y := Lib.hid (hr.add_no v hid hin)
      have hdd' : upto z m = dd (pre ++ [y]) := by rw [hdd]; unfold ddS; rw [if_pos (mem_upto.2 hin)]
      have HI := Lib.hid (show CopyI w q c1 c2 w1.heap.size (pre ++ [y]) W from ⟨z, m, by simp; omega, hr, hdd', hcb, ht⟩)
      clear hr hdd hdd' hin ht hd
      gi_wp2
      refine ⟨trivial, ?_⟩
      refine (CallsIn.inRound l (callsIn_wide.2 Y.out)).mono ?_
      rintro e W2 ⟨rfl, rfl⟩
      gi_wp2
      exact ⟨KeepsFrom.refl _ _, KpR.of_touch (Touch.refl _ _), HI.out⟩
    · have Y := Lib.hid (hr.add_yes v hid (fun j hj e => hin ⟨j, hj, e⟩) (by omega))
      have hdd' : upto (ext m z v) (m + 1) = dd (pre ++ [y]) := by
        rw [hdd]
        unfold ddS
        rw [if_neg (fun hh => hin (mem_upto.1 hh)), upto_succ, ext_at, upto_congr (fun i hi => ext_lt z v hi)]
      have HD := Lib.hid hdd'
      have HT := Lib.hid ht
      clear hr hdd hdd' hin ht hd
      gi_wp2
      refine ⟨trivial, ?_⟩
      refine (CallsIn.inRound l (callsIn_wide.2 Y.out)).mono ?_
      rintro e W2 ⟨rfl, r2, t2⟩
      have HB2 := Lib.hid (show KeepsFrom w3.heap.size W W2 from ⟨t2.size, fun k o hk ho _ => (t2.block k (Array.getElem?_eq_some_iff.1 ho).1 (fun hmm => by have := hSB k hmm; omega)).trans ho⟩)
      have HK2 := Lib.hid (show KpR [q, c1, c2] w3.heap.size W W2 from KpR.of_touch t2)
      have hlb : w1.heap.size < W.heap.size := by
        rcases Nat.lt_or_ge w1.heap.size W.heap.size with h | h
        · exact h
        · simp [World.cell?, Array.getElem?_eq_none h] at hcb
      have HI2 := Lib.hid (show CopyI w q c1 c2 w1.heap.size (pre ++ [y]) W2 from ⟨ext m z v, m + 1, by simp; omega, r2, HD.out, (t2.cell (a := ⟨w1.heap.size, 0, none⟩) hlb (by simp; omega)).trans hcb, HT.out.trans t2 (fun b hb => by have := LO.out; simp at hb; right; omega)⟩)
      clear r2 t2
      gi_wp2
      exact ⟨HB2.out, HK2.out, HI2.out⟩
  case done =>
    rintro D ys W hD rfl ⟨z, m, hm, hr, hd, hcb, ht⟩ hK
    rw [DD.out] at hd
    obtain ⟨rfl, hz⟩ := upto_get hd
    have tp := grown_touch (grownBy_putObj' W D (.deferred none))
    have hlo := LO.out
    have hR' := Lib.hid (show Ringed (W.putObj D (.deferred none)) q c1 c2 m z from hr.carry tp (by simp; omega) (by simp; omega) (by simp; omega))
    have hT' := Lib.hid (show Touch [] w (W.putObj D (.deferred none)) from ht.trans tp (fun b hb => by simp at hb; right; omega))
    clear hr ht tp hd
    gi_wp2
    refine ⟨by simp, .inl ⟨_, _, rfl, run_takeDeferred hK, ?_⟩⟩
    exact ⟨_, results_tmp rfl _ _ _, q, c1, c2, z, rfl, hR'.out, hz, hlo, hT'.out⟩
  case stop =>
    rintro D c pre W _ _ h _
    exact h.elim
end Go.Proofs.Ytcggpgjnjfjfnaa
