/-
  OctetsReads: the closure that reads.
-/
import Derived.Test.YtpmnnaghadpnnaaOctRead1
import Derived.Deep.LoopGhost
import Derived.Deep.RegionLaw
import Derived.OwnWalk
import Derived.IntWalk
import Derived.Deep.CutBlock
namespace Go.Proofs.Ytpmnnaghadpnnaa
open Go.ChangeShapes Go.WideShapes Go.ChangeAt Go.RowKit Go.Deep
set_option linter.unusedVariables false
set_option linter.unusedSimpArgs false
/-- The calls that are read: pairs of integers in memory that isn't S. -/
def PairCells (w : World) (S : List Nat) (A : Option Addr) (n : Nat) (X : Nat → Int × Int) : Prop :=
  ∀ i, i < n → ∃ b off, A = some ⟨b, off, none⟩ ∧ b < w.heap.size ∧ b ∉ S ∧ w.cell? ⟨b, off + i * 2, none⟩ = some (.int .i64 (X i).1) ∧ w.cell? ⟨b, off + i * 2 + 1, none⟩ = some (.int .i64 (X i).2)
def ReadQ (B p bg bl : Nat) (X : Nat → Int × Int) (l : List UInt8) (n : Nat) (er : Int) (w' : World) : Prop :=
  ∃ j m vg vl, j ≤ n ∧ restQ X l j = some m ∧ (er = 0 ∧ j = n ∨ j < n ∧ stepQ (X j).1 (X j).2 m = .error er) ∧ Kp B p bg bl (toldQ X l) (leftQ X l) j j vg vl w'
set_option maxHeartbeats 6400000 in
set_option maxRecDepth 100000 in
theorem read_any {p bg bl bL n c : Nat} {A : Option Addr} {X : Nat → Int × Int} {l : List UInt8} {w : World} (hL : Box1 w bL 22 (.slice A n c)) (hX : PairCells w [bg, bl, p] A n X) (hA : At w p l) (hK : Kp w.heap.size p bg bl (toldQ X l) (leftQ X l) 0 0 (.slice none 0 0) (.slice none 0 0) w) (hn : n ≤ 30) (hl : l.length ≤ 200) :
    Calls Try.prog 6 #[.pointer (some ⟨p, 0, none⟩), .pointer (some ⟨bL, 0, none⟩), .pointer (some ⟨bg, 0, none⟩), .pointer (some ⟨bl, 0, none⟩)] w fun e w' =>
      Touch [bg, bl, p] w w' ∧ (e = .returned (.tuple #[]) ∧ ReadQ w.heap.size p bg bl X l n 0 w' ∨ ∃ er, e = .panicked [{ v := failV p er, recovered := false }] ∧ ReadQ w.heap.size p bg bl X l n er w') := by
  have cL := hL.c0
  have HX := Lib.hid hX
  have HA := Lib.hid hA
  have HK := Lib.hid hK
  clear hL hX hA hK
  go_enter Try.func6, Try.ntmps6
  go_wp2_with fail
  go_loopw [9] (fun i wr => ∃ (j : Nat) (m : List UInt8) (vg vl : Value), j ≤ n ∧ i = .int .i64 (j : Int) ∧ restQ X l j = some m ∧ At wr p m ∧ Kp w.heap.size p bg bl (toldQ X l) (leftQ X l) j j vg vl wr ∧ Touch [bg, bl, p] w wr) (fun i _ => n - (intOf i).toNat)
  case atStart => exact ⟨0, l, _, _, Nat.zero_le _, rfl, rfl, HA.out, HK.out, Touch.refl _ _⟩
  case round =>
    clear HA HK
    obtain ⟨j, m, vg, vl, hj, rfl, hr, ha, hk, ht⟩ := hrel
    by_cases hlt : j < n
    · obtain ⟨b, off, rfl, hb, hbS, hc0, hc1⟩ := HX.out j hlt
      have hc0 := (ht.cell (a := ⟨b, _, none⟩) hb hbS).trans hc0
      have hc1 := (ht.cell (a := ⟨b, _, none⟩) hb hbS).trans hc1
      have hbl := Nat.lt_of_lt_of_le hb ht.size
      have hml := restQ_len hr
      have t6 : Touch [] wr (wr.alloc (.cells #[.int .i64 (X j).1, .int .i64 (X j).2] 29)) := (Touch.refl [] wr).alloc _
      have HX6 := Lib.hid (BoxV.new wr 29 #[.int .i64 (X j).1, .int .i64 (X j).2])
      have A6 := Lib.hid (ha.carry t6 (by simp))
      have K6 := Lib.hid (hk.new t6)
      have T6 := Lib.hid (ht.trans t6 (by simp))
      have HR := Lib.hid hr
      have LO := Lib.hid hk.lo
      have SZ := Lib.hid hk.sz
      generalize hx0 : (X j).1 = x0 at *
      generalize hx1 : (X j).2 = x1 at *
      have HXJ := Lib.hid (And.intro hx0 hx1)
      obtain ⟨i0, hi0, hz0, hz1, hz2⟩ := info_parts told_info
      clear ha hk ht hr t6 hbS hb hx0 hx1
      go_upto_region 3 with fail
      generalize wr.alloc (.cells #[.int .i64 x0, .int .i64 x1] 29) = w6 at *
      generalize wr.heap.size = a6 at *
      clear hc0 hc1 hbl
      have U := Lib.hid (fun (w' : World) (t : Touch [] w6 w') => one_any (A6.out.carry t (by simp)) (by omega) x0 x1)
      have g0 := K6.out.xg.c0
      have lg := K6.out.xg.lt
      have x60 := HX6.out.cell 0
      have x61 := HX6.out.cell 1
      have lx := HX6.out.lt
      simp only [List.getElem?_toArray, List.getElem?_cons_zero, List.getElem?_cons_succ] at x60 x61
      go_cut [] from 13 to 21 (fun wx => ∃ (m' : List UInt8) (vg' : Value), restQ X l (j + 1) = some m' ∧ leftQ X l j = (m'.length : Int) ∧ At wx p m' ∧ Kp w.heap.size p bg bl (toldQ X l) (leftQ X l) (j + 1) j vg' vl wx ∧ Touch [bg, bl, p] w wx)
      case first =>
        go_region_law (first | (refine step_enter _ (by rfl) (f := 7) (args := #[.pointer (some ⟨p, 0, none⟩), .int .i64 x0, .int .i64 x1]) (by rw [run_go3 7 _ _ rfl, ent_one]; first | rfl | simp [go_sem] | kernel_rfl) (U.out _ (by first | exact Touch.refl _ _ | exact (Touch.refl _ _).drew)) ?_; intro e w7 hd; rcases did_cases hd with ⟨er, hq, rfl, t7⟩ | ⟨t, m', hq, rfl, a7, t7⟩; (have t67 : Touch [p] w6 w7 := (Touch.refl _ w6).drew.trans t7 (fun b hb => .inl hb); exact ⟨rfl, T6.out.trans t67 (fun b hb => .inl (by simp at hb; simp [hb])), Or.inr ⟨er, rfl, j, m, vg, vl, hj, HR.out, Or.inr ⟨hlt, by rw [HXJ.out.1, HXJ.out.2]; exact hq⟩, K6.out.reader t67⟩⟩); dsimp only [Tld.val, Tld.cells]; have t67 : Touch [p] w6 w7 := (Touch.refl _ w6).drew.trans t7 (fun b hb => .inl hb); have A7 := Lib.hid a7; have HQ := Lib.hid (restQ_next HR.out (by rw [HXJ.out.1, HXJ.out.2]; exact hq)); have K7 := Lib.hid (K6.out.reader t67); have T7 := Lib.hid (T6.out.trans t67 (fun b hb => .inl (by simp at hb; simp [hb]))); have g7 := K7.out.xg.c0; have l7 := K7.out.xg.lt; clear hd hq a7 t7 t67) | (refine step_append_own _ (by rfl) (.tmp 13) (.tmp 20) 24 (by rfl) w.heap.size 33 i0 _ 4 40 Try.underlying24 hi0 hz0 hz1 hz2 rfl (by omega) vg j (tvs (toldQ X l) j) (by rfl) (K7.out.rg.alloc _) ⟨w7.heap.size, 0, none⟩ 1 1 t.cells.toList (by rfl) rfl (World.news_of_block (cs := #[.int .u64 (t.n : Int), .float .f64 t.x, .string (S t.s), .bool t.b]) (t := 33) (fr := (0, 0)) (heap_alloc_new w7 _)) t.ones (by unfold maxLen; omega) (by omega) (by have := K7.out.sz; simp; omega) ?_; intro v9 w9 hown hgrow hat; obtain ⟨A9, c9, rfl⟩ := row_is hown; obtain ⟨k1, k2, k3, k4⟩ := K7.out.told hgrow (by rw [HQ.out.2.1]; exact hown) (by simpa using hat); have K9 := Lib.hid k4; have T9 := Lib.hid (And.intro k2 k3); have d9 := k1.c0; have f9 := k1.fr 0; have l9 := k1.lt; clear hown hgrow hat k1 k2 k3 k4))
        all_goals
          have lo := LO.out
          have A10 := Lib.hid (A7.out.carry T9.out.1 (fun hm => by rcases List.mem_cons.1 hm with h | h; (· omega); have := T9.out.2 p h; omega))
          have T10 := Lib.hid (T7.out.trans T9.out.1 (fun b hb => by rcases List.mem_cons.1 hb with rfl | h; (· left; simp); exact .inr (T9.out.2 b h)))
          clear d9 f9 l9 T9 g0 lg x60 x61 lx g7 l7 A7 T7 K7 U K6 A6 HX6 T6
          go_wp2_with fail
          go_meet
          exact ⟨m', _, HQ.out.1, HQ.out.2.2, A10.out, K9.out, T10.out⟩
      case rest =>
        clear g0 lg x60 x61 lx U K6 A6 HX6 T6
        obtain ⟨m', vg', hq1, hq2, ha10, hk9, ht10⟩ := hcut
        have A10 := Lib.hid ha10
        have K9 := Lib.hid hk9
        have T10 := Lib.hid ht10
        have HQ := Lib.hid (And.intro hq1 hq2)
        have hml2 := restQ_len hq1
        have h0 := hk9.xl.c0
        have lh := hk9.xl.lt
        obtain ⟨j0, hj0, hy0, hy1, hy2⟩ := info_parts oint_info
        clear ha10 hk9 ht10 hq1 hq2
        go_upto_region 4 with fail
        have lo := LO.out
        have L := Lib.hid (fun (w' : World) (t : Touch [] wc w') => left_any (A10.out.carry t (by simp)))
        go_region_law (first | (refine step_enter _ (by rfl) (f := 8) (args := #[.pointer (some ⟨p, 0, none⟩)]) (by rw [run_go3 8 _ _ rfl, ent_left]; first | rfl | simp [go_sem] | kernel_rfl) (L.out _ (by first | exact Touch.refl _ _ | exact (Touch.refl _ _).drew)) ?_; rintro e w11 ⟨rfl, rfl⟩; dsimp only) | (refine step_append_own _ (by rfl) (.tmp 22) (.tmp 25) 25 (by rfl) w.heap.size 3 j0 _ 1 8 Try.underlying25 hj0 hy0 hy1 hy2 rfl (by omega) vl j (iv (leftQ X l) j) (by rfl) (K9.out.rl.drew.alloc _) ⟨wc.heap.size, 0, none⟩ 1 1 [.int .i64 (m'.length : Int)] (by rfl) rfl (World.news_of_block (cs := #[.int .i64 (m'.length : Int)]) (t := 3) (fr := (0, 0)) (heap_alloc_new wc.drew _)) (by intro u hu; simp at hu; subst hu; rfl) (by unfold maxLen; omega) (by omega) (by have h := K9.out.sz; have h2 := ((Touch.refl [] wc).drew.alloc (.cells #[.int .i64 (m'.length : Int)] 3)).size; exact Nat.le_trans h h2) ?_; intro v11 w11 hown hgrow hat; obtain ⟨A11, c11, rfl⟩ := row_is hown; obtain ⟨k1, k2, k3, k4⟩ := (K9.out.new ((Touch.refl [] wc).drew)).left hgrow (by rw [HQ.out.2]; exact hown) (by simpa using hat); have K11 := Lib.hid k4; have T11 := Lib.hid (And.intro k2 k3); have d11 := k1.c0; have f11 := k1.fr 0; have l11 := k1.lt; clear hown hgrow hat k1 k2 k3 k4))
        all_goals
          have t11 : Touch (bl :: vl.ownBlock.toList) wc (w11.setCell ⟨bl, 0, none⟩ (.slice A11 (j + 1) c11)) := (Touch.refl _ wc).drew.trans T11.out.1 (fun b hb => .inl hb)
          have A12 := Lib.hid (A10.out.carry t11 (fun hm => by rcases List.mem_cons.1 hm with h | h; (· omega); have := T11.out.2 p h; omega))
          have T12 := Lib.hid (T10.out.trans t11 (fun b hb => by rcases List.mem_cons.1 hb with rfl | h; (· left; simp); exact .inr (T11.out.2 b h)))
          clear t11 T11 T10 A10 L h0 lh d11 f11 l11
          go_wp2_with fail
          go_roundw
          case rel => exact ⟨j + 1, m', _, _, by omega, by go_num, HQ.out.1, A12.out, K11.out, T12.out⟩
          case measure => simp [intOf]; omega
    · obtain rfl : j = n := by omega
      have HQ := Lib.hid (show ReadQ w.heap.size p bg bl X l j 0 wr from ⟨j, m, vg, vl, Nat.le_refl _, hr, .inl ⟨rfl, rfl⟩, hk⟩)
      have HT := Lib.hid ht
      clear ha hk ht hr
      go_wp2_with fail
      go_end0
      exact ⟨HT.out, Or.inl ⟨rfl, HQ.out⟩⟩
end Go.Proofs.Ytpmnnaghadpnnaa
