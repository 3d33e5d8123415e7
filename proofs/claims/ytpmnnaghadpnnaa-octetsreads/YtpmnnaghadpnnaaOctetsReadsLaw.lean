/-
  OctetsReads: for all bytes and every list of calls, what is read one behind the other is the document's, up to where it gives up; and so is the error. No conditions.
-/
import Derived.Test.YtpmnnaghadpnnaaOctRead3
import Derived.BigQuiet
namespace Go.Proofs.Ytpmnnaghadpnnaa
open Go.ChangeShapes Go.WideShapes Go.ChangeAt Go.RowKit Go.Deep
set_option linter.unusedVariables false
set_option linter.unusedSimpArgs false
theorem entR (args : Array Value) (w : World) : (callFunc 6 args).run Try.prog w = .ok (.enter 6 args) w := by
  simp [callFunc, Try.func6]
  rfl
theorem dids_cases {w w' : World} {r : Made} {e : Ending} (h : DidS w r e w') :
    (∃ k m t, r = .error k ∧ e = .returned (.tuple #[rv m k, Tld.val t]) ∧ Touch [] w w') ∨ ∃ t m, r = .ok (t, m) ∧ e = .returned (.tuple #[rv m 0, Tld.val t]) ∧ Touch [] w w' := by
  cases r with
  | error k =>
    obtain ⟨m, t, he, ht⟩ := h
    exact .inl ⟨k, m, t, rfl, he, ht⟩
  | ok q =>
    obtain ⟨t, m⟩ := q
    exact .inr ⟨t, m, rfl, h.1, h.2⟩
theorem restQ_below {X : Nat → Int × Int} {l m : List UInt8} {j : Nat} (h : restQ X l j = some m) : ∀ d i, i + d = j → ∃ q, restQ X l i = some q
  | 0, i, e => ⟨m, by rw [show i = j by omega]; exact h⟩
  | d + 1, i, e => by
    obtain ⟨q, hq⟩ := restQ_below h d (i + 1) (by omega)
    simp only [restQ] at hq
    cases h1 : restQ X l i with
    | none => rw [h1] at hq; cases hq
    | some r => exact ⟨r, rfl⟩
/-- Behind a step that fails there is nothing. -/
theorem restQ_stop {X : Nat → Int × Int} {l mi m : List UInt8} {i j : Nat} {k : Int} (hi : restQ X l i = some mi) (hs : stepQ (X i).1 (X i).2 mi = .error k) (hj : restQ X l j = some m) : j ≤ i := by
  rcases Nat.lt_or_ge i j with h | h
  · obtain ⟨q, hq⟩ := restQ_below hj (j - (i + 1)) (i + 1) (by omega)
    simp only [restQ, hi, hs] at hq
    cases hq
  · exact h
theorem touch_drewN (w : World) : ∀ n, Touch [] w (w.drewN n)
  | 0 => Touch.refl [] w
  | n + 1 => (touch_drewN w n).drew
set_option maxHeartbeats 6400000 in
set_option maxRecDepth 100000 in
theorem octetsReads_walk {n c : Nat} {A : Option Addr} {X : Nat → Int × Int} {l : List UInt8} {W : World} (hl : l.length ≤ 200) (hn : n ≤ 30) (hX : PairCells W [] A n X) :
    Calls Try.prog 3 #[.string (S l), .slice A n c] W fun e w' => e = .returned (.bool true) ∧ Touch [] W w' := by
  have y0 : decide (200 < ((S l).size : Int)) = false := by rw [S_size]; simp; omega
  have y0' : decide (200 < (S l).size) = false := by rw [S_size]; simp; omega
  have y1 : decide (30 < (n : Int)) = false := by simp; omega
  have HX := Lib.hid hX
  have x1 := Box1.new W 22 (.slice A n c)
  have x2 := Box1.new (W.alloc (.cells #[.slice A n c] 22)) 24 (.slice none 0 0)
  have x3 := Box1.new ((W.alloc (.cells #[.slice A n c] 22)).alloc (.cells #[.slice none 0 0] 24)) 25 (.slice none 0 0)
  rw [show (W.alloc (.cells #[.slice A n c] 22)).heap.size = W.heap.size + 1 by simp] at x2
  rw [show ((W.alloc (.cells #[.slice A n c] 22)).alloc (.cells #[.slice none 0 0] 24)).heap.size = W.heap.size + 1 + 1 by simp] at x3
  have X1 := Lib.hid ((x1.carry ((Touch.refl [] _).alloc (.cells #[.slice none 0 0] 24)) (by simp)).carry ((Touch.refl [] _).alloc (.cells #[.slice none 0 0] 25)) (by simp))
  have X2 := Lib.hid (x2.carry ((Touch.refl [] _).alloc (.cells #[.slice none 0 0] 25)) (by simp))
  have X3 := Lib.hid x3
  have T3 := Lib.hid ((((Touch.refl [] W).alloc (.cells #[.slice A n c] 22)).alloc (.cells #[.slice none 0 0] 24)).alloc (.cells #[.slice none 0 0] 25))
  have Z3 := Lib.hid (show (((W.alloc (.cells #[.slice A n c] 22)).alloc (.cells #[.slice none 0 0] 24)).alloc (.cells #[.slice none 0 0] 25)).heap.size = W.heap.size + 3 by simp)
  clear hX x1 x2 x3
  go_enter Try.func3, Try.ntmps3
  go_upto_region 5 with fail
  generalize ((W.alloc (.cells #[.slice A n c] 22)).alloc (.cells #[.slice none 0 0] 24)).alloc (.cells #[.slice none 0 0] 25) = w3 at *
  generalize hb1 : W.heap.size + 1 + 1 = b3 at *
  generalize hb2 : W.heap.size + 1 = b2 at *
  generalize hb0 : W.heap.size = b1 at *
  have tw : Touch [] w3 (tryW w3 (S l)) := (((Touch.refl [] w3).alloc _).alloc _).alloc _
  have sw : (tryW w3 (S l)).heap.size = w3.heap.size + 3 := by unfold tryW; simp
  have K := Lib.hid (try_any (s := S l) (k := 6) (cap := #[.pointer (some ⟨b1, 0, none⟩), .pointer (some ⟨b2, 0, none⟩), .pointer (some ⟨b3, 0, none⟩)]) (w := w3) (S := [b2, b3, w3.heap.size + 1]) (Q := ReadQ (tryW w3 (S l)).heap.size (w3.heap.size + 1) b2 b3 X l n) (fun b hb => by have := Z3.out; simp at hb; omega) entR
    (read_any (X1.out.carry tw (by simp)) (fun i hi => by
      obtain ⟨b, off, hA, hb, _, h0, h1⟩ := HX.out i hi
      have hb' : b < W.heap.size := hb
      have q := T3.out.trans tw (by simp)
      exact ⟨b, off, hA, Nat.lt_of_lt_of_le hb q.size, by have := Z3.out; simp; omega, (q.cell (a := ⟨b, _, none⟩) hb (by simp)).trans h0, (q.cell (a := ⟨b, _, none⟩) hb (by simp)).trans h1⟩) (tryAt w3 l) ⟨X2.out.carry tw (by simp), X3.out.carry tw (by simp), ⟨by simp [tvs], .inl ⟨rfl, rfl⟩⟩, ⟨by simp [iv], .inl ⟨rfl, rfl⟩⟩, fun b h => by simp [Value.ownBlock] at h, by have := Z3.out; omega, Nat.le_refl _⟩ hn hl))
  clear tw
  go_wp2_with fail
  refine (K.out).mono ?_
  rintro e w5 ⟨er, w4, rfl, ⟨j, m, vg, vl, hj, hr, hcase, hk⟩, t4, t5⟩
  have K5 := Lib.hid (hk.aside t5 (fun b hb => by have := Z3.out; simp at hb; omega))
  have T5 := Lib.hid ((T3.out.trans t4 (fun b hb => .inr (by have := Z3.out; simp at hb; omega))).trans t5 (fun b hb => .inr (by have := Z3.out; simp at hb; omega)))
  have X5 := Lib.hid ((X1.out.carry t4 (by have := Z3.out; simp; omega)).carry t5 (by have := Z3.out; simp; omega))
  have HR := Lib.hid hr
  have HC := Lib.hid hcase
  clear hk t4 t5 K X1 X2 X3 T3 hr hcase
  generalize hBB : (tryW w3 (S l)).heap.size = BB at *
  generalize w3.heap.size + 1 = pp at *
  have t6 : Touch [] w5 (w5.alloc (.cells #[.string (S l), .int .i64 0] 38)) := (Touch.refl [] w5).alloc _
  have HX6 := Lib.hid (BoxV.new w5 38 #[.string (S l), .int .i64 0])
  have K6 := Lib.hid (K5.out.new t6)
  have T6 := Lib.hid (T5.out.trans t6 (by simp))
  have X6 := Lib.hid (X5.out.carry t6 (by simp))
  have NB := Lib.hid (show ∀ b ∈ [w5.heap.size], b ≠ b2 ∧ b ≠ b3 ∧ vg.ownBlock ≠ some b ∧ vl.ownBlock ≠ some b from fun b hb => by
    simp at hb
    subst hb
    have h1 := K5.out.xg.lt
    have h2 := K5.out.xl.lt
    exact ⟨by omega, by omega, fun h => by have := (K5.out.rg.lt _ h).2; omega, fun h => by have := (K5.out.rl.lt _ h).2; omega⟩)
  have hbx5 := T5.out.size
  clear t6 K5 T5 X5
  go_upto_region 7 with fail
  generalize w5.alloc (.cells #[.string (S l), .int .i64 0] 38) = w6 at *
  generalize w5.heap.size = bx at *
  have cL := X6.out.c0
  have NX := Lib.hid (show W.heap.size ≤ bx from by have := hbx5; omega)
  have sf : ∀ (w : World) (a : Addr) (b : Nat), (store a (.float .f64 b)).run Try.prog w = stored Try.prog w a (.float .f64 b) .plain := fun w a b => run_store _ w a _ _ rfl
  go_wp2_with fail
  go_loopw [9, 30] (fun dv iv wr => ∃ (i : Nat) (mi : List UInt8), i ≤ j ∧ dv = .int .i64 (i : Int) ∧ iv = .int .i64 (i : Int) ∧ restQ X l i = some mi ∧ BoxV wr bx 38 #[.string (S mi), .int .i64 0] ∧ Kp BB pp b2 b3 (toldQ X l) (leftQ X l) j j vg vl wr ∧ Touch [] W wr) (fun _ iv _ => n - (intOf iv).toNat)
  case atStart => exact ⟨0, l, Nat.zero_le _, rfl, rfl, rfl, HX6.out, K6.out, T6.out⟩
  case round =>
    clear HX6 K6 T6
    obtain ⟨i, mi, hi, rfl, rfl, hri, hbx, hk, ht⟩ := hrel
    have hml := restQ_len hri
    by_cases hlt : i < n
    · obtain ⟨b, off, rfl, hb, hbS, hc0, hc1⟩ := HX.out i hlt
      have hc0 := (ht.cell (a := ⟨b, _, none⟩) hb (by simp)).trans hc0
      have hc1 := (ht.cell (a := ⟨b, _, none⟩) hb (by simp)).trans hc1
      have hbl := Nat.lt_of_lt_of_le hb ht.size
      have t7 : Touch [] wr (wr.alloc (.cells #[.int .i64 (X i).1, .int .i64 (X i).2] 29)) := (Touch.refl [] wr).alloc _
      have HA7 := Lib.hid (BoxV.new wr 29 #[.int .i64 (X i).1, .int .i64 (X i).2])
      have HB7 := Lib.hid (hbx.carry t7 (by simp))
      have K7 := Lib.hid (hk.new t7)
      have T7 := Lib.hid (ht.trans t7 (by simp))
      have HRI := Lib.hid hri
      generalize hx0 : (X i).1 = x0 at *
      generalize hx1 : (X i).2 = x1 at *
      have HXI := Lib.hid (And.intro hx0 hx1)
      clear hbx hk ht hri t7 hbS hb hx0 hx1
      go_upto_region 11 with fail
      generalize wr.alloc (.cells #[.int .i64 x0, .int .i64 x1] 29) = w7 at *
      generalize wr.heap.size = a11 at *
      clear hc0 hc1 hbl
      have SM := Lib.hid (same_any (l := mi) (by omega) x0 x1 w7)
      have a0 := HA7.out.cell 0
      have a1 := HA7.out.cell 1
      have la := HA7.out.lt
      have b0 := HB7.out.cell 0
      have b1 := HB7.out.cell 1
      have lb := HB7.out.lt
      simp only [List.getElem?_toArray, List.getElem?_cons_zero, List.getElem?_cons_succ] at a0 a1 b0 b1
      unfold rv at SM
      go_wp2_with fail
      refine (SM.out).mono ?_
      intro e w8 hd
      rcases dids_cases hd with ⟨k, m', t, hq, rfl, t8⟩ | ⟨t, m', hq, rfl, t8⟩
      · have hji := restQ_stop HRI.out (by rw [HXI.out.1, HXI.out.2]; exact hq) HR.out
        have hk0 : k ≠ 0 := stepQ_err hq
        obtain rfl : i = j := by omega
        have hek : er = k := by
          rcases HC.out with ⟨_, h⟩ | ⟨_, h⟩
          · omega
          · have hm : some mi = some m := HRI.out.symm.trans HR.out
            cases hm
            rw [HXI.out.1, HXI.out.2, hq] at h
            cases h
            rfl
        subst hek
        have ne : (er != 0) = true := by simpa using hk0
        obtain ⟨tn, tx, ts, tb⟩ := t
        have t9 : Touch [] w8 ((w8.alloc (.cells #[.string (S m'), .int .i64 er] 38)).alloc (.cells #[.int .u64 (tn : Int), .float .f64 tx, .string (S ts), .bool tb] 33)) := ((Touch.refl [] w8).alloc _).alloc _
        have hbl8 := (HB7.out.carry t8 (by simp)).lt
        have HB9 := Lib.hid ((HB7.out.carry t8 (by simp)).carry t9 (by simp))
        have K9 := Lib.hid ((K7.out.new t8).new t9)
        have T9 := Lib.hid ((T7.out.trans t8 (by simp)).trans t9 (by simp))
        have HY9 := Lib.hid ((BoxV.new w8 38 #[.string (S m'), .int .i64 er]).carry ((Touch.refl [] _).alloc (.cells #[.int .u64 (tn : Int), .float .f64 tx, .string (S ts), .bool tb] 33)) (by simp))
        have HT9 := BoxV.new (w8.alloc (.cells #[.string (S m'), .int .i64 er] 38)) 33 #[.int .u64 (tn : Int), .float .f64 tx, .string (S ts), .bool tb]
        rw [show (w8.alloc (.cells #[.string (S m'), .int .i64 er] 38)).heap.size = w8.heap.size + 1 by simp] at HT9
        have HT9 := Lib.hid HT9
        clear hd t8 t9 SM HB7 K7 T7 HA7 a0 a1 la b0 b1 lb
        unfold rv Tld.val Tld.cells
        dsimp only
        go_upto_region 12 with fail
        generalize (w8.alloc (.cells #[.string (S m'), .int .i64 er] 38)).alloc (.cells #[.int .u64 (tn : Int), .float .f64 tx, .string (S ts), .bool tb] 33) = w9 at *
        generalize w8.heap.size = b12 at *
        have y0 := HY9.out.cell 0
        have y1 := HY9.out.cell 1
        have ly := HY9.out.lt
        have z0 := HB9.out.cell 0
        have z1 := HB9.out.cell 1
        have lz := HB9.out.lt
        have fz := HB9.out.fr
        simp only [List.getElem?_toArray, List.getElem?_cons_zero, List.getElem?_cons_succ] at y0 y1 z0 z1
        have ts1 : Touch [bx] w9 ((w9.setCell ⟨bx, 0, none⟩ (.string (S m'))).setCell ⟨bx, 1, none⟩ (.int .i64 er)) := ((Touch.refl _ w9).setCell (a := ⟨bx, 0, none⟩) (.inl (by simp)) _).setCell (a := ⟨bx, 1, none⟩) (.inl (by simp)) _
        have HBZ := Lib.hid (show BoxV ((w9.setCell ⟨bx, 0, none⟩ (.string (S m'))).setCell ⟨bx, 1, none⟩ (.int .i64 er)) bx 38 #[.string (S m'), .int .i64 er] from (HB9.out.set 0 (.string (S m'))).set 1 (.int .i64 er))
        have KZ := Lib.hid (K9.out.apart ts1 NB.out)
        have TZ := Lib.hid (T9.out.trans ts1 (fun b hb => .inr (by have := NX.out; simp at hb; omega)))
        have HTZ := Lib.hid (HT9.out.carry ts1 (by simp; omega))
        clear ts1 HB9 K9 T9 HT9 HY9
        go_upto_region 13 with fail
        generalize (w9.setCell ⟨bx, 0, none⟩ (.string (S m'))).setCell ⟨bx, 1, none⟩ (.int .i64 er) = wz at *
        clear y0 y1 ly z0 z1 lz fz
        have z0 := HBZ.out.cell 0
        have z1 := HBZ.out.cell 1
        have lz := HBZ.out.lt
        simp only [List.getElem?_toArray, List.getElem?_cons_zero, List.getElem?_cons_succ] at z0 z1
        obtain ⟨Ag, cg, rfl⟩ := row_is KZ.out.rg
        have q0 := KZ.out.xg.c0
        have lq := KZ.out.xg.lt
        clear HBZ KZ HTZ
        go_wp2_with fail
        refine (try_nil _ _).mono ?_
        rintro e wt ⟨rfl, tt⟩
        have TT := Lib.hid (TZ.out.trans tt (by simp))
        clear tt TZ
        go_wp2_with fail
        refine (lives09 wt).mono ?_
        rintro e wu ⟨rfl, tu⟩
        have TU := Lib.hid (TT.out.trans tu (by simp))
        clear tu TT
        go_wp2_with fail
        go_ret
        exact ⟨rfl, TU.out⟩
      · have hij : i < j := by
          rcases Nat.lt_or_ge i j with h | h
          · exact h
          · obtain rfl : i = j := by omega
            rcases HC.out with ⟨_, h⟩ | ⟨_, h⟩
            · omega
            · have hm : some mi = some m := HRI.out.symm.trans HR.out
              cases hm
              rw [HXI.out.1, HXI.out.2, hq] at h
              cases h
        have hx64 := stepQ_x hq
        obtain ⟨hn1, hn2, hn3⟩ := restQ_next HRI.out (by rw [HXI.out.1, HXI.out.2]; exact hq)
        have HN1 := Lib.hid hn1
        obtain ⟨tn, tx, ts, tb⟩ := t
        have t9 : Touch [] w8 ((w8.alloc (.cells #[.string (S m'), .int .i64 0] 38)).alloc (.cells #[.int .u64 (tn : Int), .float .f64 tx, .string (S ts), .bool tb] 33)) := ((Touch.refl [] w8).alloc _).alloc _
        have hbl8 := (HB7.out.carry t8 (by simp)).lt
        have HB9 := Lib.hid ((HB7.out.carry t8 (by simp)).carry t9 (by simp))
        have K9 := Lib.hid ((K7.out.new t8).new t9)
        have T9 := Lib.hid ((T7.out.trans t8 (by simp)).trans t9 (by simp))
        have HY9 := Lib.hid ((BoxV.new w8 38 #[.string (S m'), .int .i64 0]).carry ((Touch.refl [] _).alloc (.cells #[.int .u64 (tn : Int), .float .f64 tx, .string (S ts), .bool tb] 33)) (by simp))
        have HT9 := BoxV.new (w8.alloc (.cells #[.string (S m'), .int .i64 0] 38)) 33 #[.int .u64 (tn : Int), .float .f64 tx, .string (S ts), .bool tb]
        rw [show (w8.alloc (.cells #[.string (S m'), .int .i64 0] 38)).heap.size = w8.heap.size + 1 by simp] at HT9
        have HT9 := Lib.hid HT9
        clear hd t8 t9 SM HB7 K7 T7 HA7 a0 a1 la b0 b1 lb
        unfold rv Tld.val Tld.cells
        dsimp only
        go_upto_region 12 with fail
        generalize (w8.alloc (.cells #[.string (S m'), .int .i64 0] 38)).alloc (.cells #[.int .u64 (tn : Int), .float .f64 tx, .string (S ts), .bool tb] 33) = w9 at *
        generalize w8.heap.size = b12 at *
        have y0 := HY9.out.cell 0
        have y1 := HY9.out.cell 1
        have ly := HY9.out.lt
        have z0 := HB9.out.cell 0
        have z1 := HB9.out.cell 1
        have lz := HB9.out.lt
        have fz := HB9.out.fr
        simp only [List.getElem?_toArray, List.getElem?_cons_zero, List.getElem?_cons_succ] at y0 y1 z0 z1
        have ts1 : Touch [bx] w9 ((w9.setCell ⟨bx, 0, none⟩ (.string (S m'))).setCell ⟨bx, 1, none⟩ (.int .i64 0)) := ((Touch.refl _ w9).setCell (a := ⟨bx, 0, none⟩) (.inl (by simp)) _).setCell (a := ⟨bx, 1, none⟩) (.inl (by simp)) _
        have HBZ := Lib.hid (show BoxV ((w9.setCell ⟨bx, 0, none⟩ (.string (S m'))).setCell ⟨bx, 1, none⟩ (.int .i64 0)) bx 38 #[.string (S m'), .int .i64 0] from (HB9.out.set 0 (.string (S m'))).set 1 (.int .i64 0))
        have KZ := Lib.hid (K9.out.apart ts1 NB.out)
        have TZ := Lib.hid (T9.out.trans ts1 (fun b hb => .inr (by have := NX.out; simp at hb; omega)))
        have HTZ := Lib.hid (HT9.out.carry ts1 (by simp; omega))
        clear ts1 HB9 K9 T9 HT9 HY9
        go_upto_region 13 with fail
        generalize (w9.setCell ⟨bx, 0, none⟩ (.string (S m'))).setCell ⟨bx, 1, none⟩ (.int .i64 0) = wz at *
        clear y0 y1 ly z0 z1 lz fz
        have z0 := HBZ.out.cell 0
        have z1 := HBZ.out.cell 1
        have lz := HBZ.out.lt
        simp only [List.getElem?_toArray, List.getElem?_cons_zero, List.getElem?_cons_succ] at z0 z1
        obtain ⟨gg, cg, hAg, _, _⟩ := KZ.out.rg.form (by omega)
        obtain ⟨gl, cl, hAl, _, _⟩ := KZ.out.rl.form (by omega)
        subst hAg hAl
        have q0 := KZ.out.xg.c0
        have lq := KZ.out.xg.lt
        have p0 := KZ.out.xl.c0
        have lp := KZ.out.xl.lt
        have e0 := KZ.out.rg.cellAt (i * 4 + 0) (by omega)
        have e1 := KZ.out.rg.cellAt (i * 4 + 1) (by omega)
        have e2 := KZ.out.rg.cellAt (i * 4 + 2) (by omega)
        have e3 := KZ.out.rg.cellAt (i * 4 + 3) (by omega)
        rw [tvs_get _ hij (by omega), hn2] at e0 e1 e2 e3
        simp only [Tld.cells, List.getElem?_cons_zero, List.getElem?_cons_succ, Nat.add_zero] at e0 e1 e2 e3
        have f0 := KZ.out.rl.cellAt i (by omega)
        rw [iv_get _ hij, hn3] at f0
        have lgg := (KZ.out.rg.lt gg rfl).2
        have lgl := (KZ.out.rl.lt gl rfl).2
        have u0 := HTZ.out.cell 0
        have u1 := HTZ.out.cell 1
        have u2 := HTZ.out.cell 2
        have u3 := HTZ.out.cell 3
        have lu := HTZ.out.lt
        simp only [List.getElem?_toArray, List.getElem?_cons_zero, List.getElem?_cons_succ] at u0 u1 u2 u3
        have SA := Lib.hid (fun w => refSame_any tx tx hx64 hx64 w)
        rw [sameOf_self] at SA
        have g0 : decide ((j : Int) ≤ (i : Int)) = false := by simp; omega
        have g1 : ((tn : Int) != (tn : Int)) = false := by simp
        have g2 : (S ts != S ts) = false := by rw [bne, show (S ts == S ts) = true from (by show ((S ts).data == (S ts).data) = true; simp)]; rfl
        have g3 : (tb != tb) = false := by simp
        have hsz : (S m').size = m'.length := S_size m'
        have g4 : ((m'.length : Int) != ((S m').size : Int)) = false := by rw [hsz]; simp
        have hij' : (i : Int) < (j : Int) := by omega
        clear hn2 hn3 hq hsz
        go_upto_region 14 with fail
        go_quiet ((go_at_call 10; exact Calls.quiet_of_same (SA.out _)))
        have HB10 := Lib.hid (HBZ.out.carry (touch_drewN wz nq) (by simp))
        have K10 := Lib.hid (KZ.out.new (touch_drewN wz nq))
        have T10 := Lib.hid (TZ.out.trans (touch_drewN wz nq) (by simp))
        clear q0 lq p0 lp e0 e1 e2 e3 f0 lgg lgl u0 u1 u2 u3 lu SA HBZ KZ TZ HTZ z0 z1 lz
        go_wp2_with fail
        go_roundw
        case rel => exact ⟨i + 1, m', by omega, by go_num, by go_num, HN1.out, HB10.out, K10.out, T10.out⟩
        case measure => simp [intOf]; omega
    · obtain rfl : i = n := by omega
      obtain rfl : j = i := by omega
      have hek : er = 0 := by
        rcases HC.out with ⟨h, _⟩ | ⟨h, _⟩
        · exact h
        · omega
      subst hek
      have HBZ := Lib.hid hbx
      have KZ := Lib.hid hk
      have TZ := Lib.hid ht
      clear hbx hk ht
      have z0 := HBZ.out.cell 0
      have z1 := HBZ.out.cell 1
      have lz := HBZ.out.lt
      simp only [List.getElem?_toArray, List.getElem?_cons_zero, List.getElem?_cons_succ] at z0 z1
      obtain ⟨Ag, cg, rfl⟩ := row_is KZ.out.rg
      have q0 := KZ.out.xg.c0
      have lq := KZ.out.xg.lt
      go_wp2_with fail
      refine (try_nil _ _).mono ?_
      rintro e wt ⟨rfl, tt⟩
      have TT := Lib.hid (TZ.out.trans tt (by simp))
      clear tt TZ
      go_wp2_with fail
      refine (lives09 wt).mono ?_
      rintro e wu ⟨rfl, tu⟩
      have TU := Lib.hid (TT.out.trans tu (by simp))
      clear tu TT
      go_wp2_with fail
      go_ret
      exact ⟨rfl, TU.out⟩
set_option maxRecDepth 100000 in
/-- A slice of pairs of integers that came in. -/
theorem pair_cells {W : World} {base : Nat} {H : Type} {enc : TypeId × Value → H} {v : Value} {d : DataW H} {p : List MemPlace} (hv : Value.okWide Try.prog W .any base 22 v)
    (h : DataW.Trod enc Try.prog W 0 (fun _ => true) true 22 v d p) : ∃ A len cap X, v = .slice A len cap ∧ PairCells W [] A len X := by
  have k2 : Try.prog.cellsOf 29 = 2 := by kernel_rfl
  have k1 : Try.prog.cellsOf 3 = 1 := by kernel_rfl
  obtain ⟨A, len, cap, rfl, hl, hm, hi⟩ := slice_elems Try.underlying22 (by rw [k2]; omega) hv h
  obtain ⟨X, hX⟩ := Deep.choose_lt (α := Int × Int) (n := len) (p := fun i x => ∃ b off, A = some ⟨b, off, none⟩ ∧ b < W.heap.size ∧ b ∉ ([] : List Nat) ∧ W.cell? ⟨b, off + i * 2, none⟩ = some (.int .i64 x.1) ∧ W.cell? ⟨b, off + i * 2 + 1, none⟩ = some (.int .i64 x.2)) (fun i hlt => by
    obtain ⟨b, off, n, cs, x, hA, hb, hlen, hat, hx⟩ := hi i hlt
    rw [k2] at hlen hat
    obtain ⟨c0, c1, rfl⟩ : ∃ c0 c1, cs = [c0, c1] := by
      match cs, hlen with
      | [c0, c1], _ => exact ⟨c0, c1, rfl⟩
    obtain ⟨xs, m, _, _, hxl, hn, hxi⟩ := DataW.trod_array Try.underlying29 hx
    have g0 := hxi 0 (by omega)
    have g1 := hxi 1 (by omega)
    rw [List.getElem?_eq_getElem (by omega), k1] at g0 g1
    simp at g0 g1
    obtain ⟨y0, rfl, _⟩ := cell_int Try.underlying3 g0
    obtain ⟨y1, rfl, _⟩ := cell_int Try.underlying3 g1
    have h0 := hat 0 (by omega)
    have h1 := hat 1 (by omega)
    exact ⟨(y0, y1), b, off, hA, hb, by simp, by simpa using h0, by simpa using h1⟩)
  exact ⟨A, len, cap, X, rfl, hX⟩
set_option maxRecDepth 100000 in
theorem reads_long {n c : Nat} {A : Option Addr} {l : List UInt8} {W : World} (h : 200 < l.length ∨ 30 < n) :
    Calls Try.prog 3 #[.string (S l), .slice A n c] W fun e w' => e = .returned (.bool true) ∧ Touch [] W w' := by
  have x1 := Box1.new W 22 (.slice A n c)
  have T1 := Lib.hid ((Touch.refl [] W).alloc (.cells #[.slice A n c] 22))
  have c0 := x1.c0
  have lx := x1.lt
  clear x1
  by_cases h1 : 200 < l.length
  · have y0 : decide (200 < ((S l).size : Int)) = true := by rw [S_size]; simp; omega
    have y0' : decide (200 < (S l).size) = true := by rw [S_size]; simp; omega
    clear h h1
    go_enter Try.func3, Try.ntmps3
    go_wp2_with fail
    refine (lives09 _).mono ?_
    rintro e wu ⟨rfl, tu⟩
    have TU := Lib.hid (T1.out.trans tu (by simp))
    clear tu
    go_wp2_with fail
    go_ret
    exact ⟨rfl, TU.out⟩
  · have y0 : decide (200 < ((S l).size : Int)) = false := by rw [S_size]; simp; omega
    have y0' : decide (200 < (S l).size) = false := by rw [S_size]; simp; omega
    have y1 : decide (30 < (n : Int)) = true := by simp; omega
    clear h h1
    go_enter Try.func3, Try.ntmps3
    go_wp2_with fail
    refine (lives09 _).mono ?_
    rintro e wu ⟨rfl, tu⟩
    have TU := Lib.hid (T1.out.trans tu (by simp))
    clear tu
    go_wp2_with fail
    go_ret
    exact ⟨rfl, TU.out⟩
set_option maxRecDepth 100000 in
theorem octetsReads_calls : LawCalls Try.prog 3 Try.f3 := by
  intro H enc W base args ds p hval hA hlt
  rw [Try.params3] at hA hval
  obtain ⟨v0, vs0, d0, ds0, p0, q0, hargs, rfl, rfl, h0, r0⟩ := trodAll_cons hA
  obtain ⟨v1, vs1, d1, ds1, p1, q1, rfl, rfl, rfl, h1, r1⟩ := trodAll_cons r0
  obtain ⟨rfl, rfl, rfl⟩ := trodAll_nil r1
  obtain rfl : args = #[v0, v1] := by cases args; simp_all
  obtain ⟨s, rfl, rfl, rfl, hs⟩ := Go.ChangeMaps.open_string Try.underlying9 (hval 0 9 v0 rfl rfl) h0
  obtain ⟨l, rfl⟩ : ∃ l, s = S l := ⟨s.data.toList, by unfold S; simp⟩
  obtain ⟨A, len, cap, X, rfl, hX⟩ := pair_cells (hval 1 22 v1 rfl rfl) h1
  by_cases hn : 200 < l.length ∨ 30 < len
  · refine (reads_long hn).mono ?_
    rintro e w' ⟨he, t⟩
    exact ⟨he, t.below (by simp) (Nat.le_refl _)⟩
  · refine (octetsReads_walk (by omega) (by omega) hX).mono ?_
    rintro e w' ⟨he, t⟩
    exact ⟨he, t.below (by simp) (Nat.le_refl _)⟩

set_option maxRecDepth 100000 in
theorem octetsReads_lifted (os : Os) (started : os.Started) (H : Type) (enc : TypeId × Value → H) :
    ReturnsInHanded {} Try.checked os 3 .any (Rows.octetsReadsSpec.pre6 enc Try.prog Try.f3 Rows.octetsReadsRow.domain false) (Rows.octetsReadsSpec.post enc Try.prog Try.f3 false true false false) := by
  refine returnsInHanded_of_change (C := Try.checked) own started (by kernel_rfl) Try.func3
    (ChangeSpec.witness6 (enc := enc) (C := Try.checked) false ⟨#[], #[.string ⟨#[]⟩, .slice none 0 0], []⟩ 8 (by kernel_rfl) (by kernel_rfl) (by kernel_rfl) (by kernel_rfl)) ?_
  intro W base args ds gs before hval hW _ _
  exact law_contract laidOut (by kernel_rfl) rfl rfl boolType (fun ds h => by match ds, h with | [_, _], _ => rfl) octetsReads_calls W base args ds gs before hval hW

theorem octetsReads_holds : Rows.OctetsReadsSaid :=
  OpenClaim.holds_of_wide 3 Try.f3 rfl rfl rfl rfl rfl rfl rfl ⟨rfl, rfl, rfl, rfl, rfl⟩ rfl rfl rfl rfl rfl (by kernel_rfl) Try.func3 (by kernel_rfl)
    (of_decide_eq_true (by kernel_rfl)) (by unfold Func.isWrapper; first | (rw [if_pos (by decide +kernel)]; kernel_rfl) | (rw [if_neg (by decide +kernel)]; exact ⟨rfl, rfl⟩))
    (fun os started H enc _ => octetsReads_lifted os started H enc)
#print axioms octetsReads_holds
end Go.Proofs.Ytpmnnaghadpnnaa
