/-
  The reference's Get (layer 39).
-/
import Derived.Test.YtfeeaokeomcafaaRefGet39
namespace Go.Proofs.Ytfeeaokeomcafaa
open Go.ChangeShapes Go.WideShapes Go.ChangeAt Go.RowKit Go.Deep
set_option linter.unusedVariables false
set_option linter.unusedSimpArgs false

theorem int_inf : (Try.prog.info? 3).map (fun i => (i.zero, i.size, i.bytes)) = some (some (.int .i64 0), 1, 8) := by kernel_rfl
def cnt (V : Nat → Int) (i j : Nat) : Value := if j < i then .int .i64 (V (j + 1)) else .int .i64 0
set_option maxHeartbeats 4000000 in
set_option maxRecDepth 100000 in
theorem refGet39_walk (l : List UInt8) (hl : l.length ≤ 1000000000) (w : World) :
    Calls Try.prog 54 #[.string (S l)] w fun e w' => e = .returned (.tuple #[.agg (getR l).cells, .int .i64 (getE l)]) ∧ Touch [] w w' := by
  have hlen := s5_len l
  have N1 := Lib.hid (fun w => refNumS 1 (by omega) l hl 0 w)
  have N2 := Lib.hid (fun w => refNumS 1 (by omega) (s1 l).m (by omega) (s1 l).k w)
  have N3 := Lib.hid (fun w => refVarS (s2 l).m (by omega) (s2 l).k w)
  have N4 := Lib.hid (fun w => refVarS (s3 l).m (by omega) (s3 l).k w)
  have N5 := Lib.hid (fun w => refNumS 4 (by omega) (s4 l).m (by omega) (s4 l).k w)
  have NV := Lib.hid (fun i w => refVarS (sc l i).m (Nat.le_trans (sc_len l i) hl) (sc l i).k w)
  have NV' : Hid (∀ (i : Nat) (w : World), Calls Try.prog 73 #[rv (sc l i).m (sc l i).k] w fun e w' => e = .returned (.tuple #[rv (sc l (i + 1)).m (sc l (i + 1)).k, .int .i64 (sc l (i + 1)).v]) ∧ Touch [] w w') := NV
  rw [show numS 1 l 0 = s1 l from rfl, show ((1 : Nat) : Int) = 1 from rfl] at N1
  rw [show numS 1 (s1 l).m (s1 l).k = s2 l from rfl, show ((1 : Nat) : Int) = 1 from rfl] at N2
  rw [show varS (s2 l).m (s2 l).k = s3 l from rfl] at N3
  rw [show varS (s3 l).m (s3 l).k = s4 l from rfl] at N4
  rw [show numS 4 (s4 l).m (s4 l).k = s5 l from rfl, show ((4 : Nat) : Int) = 4 from rfl] at N5
  have hfin := refE_is l
  have h50 : sc l 0 = s5 l := rfl
  have hmk : ∀ w, (Instr.makeSlice 25 (.int .i64 6) (.int .i64 6)).run Try.prog w = .ok (.slice (some ⟨w.heap.size, 0, none⟩) 6 6) (w.alloc (.cells (madeCells #[.int .i64 0] 6) 3)) := fun w => run_make_row' (P := Try.prog) (w := w) 25 3 (.int .i64 0) 8 Try.underlying25 int_inf rfl .i64 .i64 6 (by omega) (by omega)
  have HFIN := Lib.hid hfin
  have HN0 := Lib.hid h50
  clear NV hfin h50 hlen
  generalize hS : sc l = Sc at *
  generalize hs5 : s5 l = q5 at *
  generalize hs4 : s4 l = q4 at *
  generalize hs3 : s3 l = q3 at *
  generalize hs2 : s2 l = q2 at *
  generalize hs1 : s1 l = q1 at *
  have HS := Lib.hid hS
  clear hs5 hs4 hs3 hs2 hs1 hS
  obtain ⟨m1, k1, v1⟩ := q1
  obtain ⟨m2, k2, v2⟩ := q2
  obtain ⟨m3, k3, v3⟩ := q3
  obtain ⟨m4, k4, v4⟩ := q4
  obtain ⟨m5, k5, v5⟩ := q5
  unfold rv at *
  simp only at N1 N2 N3 N4 N5
  have B0 := BoxV.new w 78 #[.int .i64 0, .int .i64 0, .int .i64 0, .int .i64 0, .int .u32 0, .int .i64 0, .int .i64 0, .int .i64 0, .int .i64 0, .int .i64 0, .int .i64 0]
  have HB0 := Lib.hid B0
  have HT0 := Lib.hid ((Touch.refl [] w).alloc (.cells #[.int .i64 0, .int .i64 0, .int .i64 0, .int .i64 0, .int .u32 0, .int .i64 0, .int .i64 0, .int .i64 0, .int .i64 0, .int .i64 0, .int .i64 0] 78))
  clear B0
  go_enter Try.func54, Try.ntmps54
  go_wp2_with fail
  refine (N1.out _).mono ?_
  rintro e w1 ⟨rfl, t1⟩
  have HB1 := Lib.hid ((HB0.out.carry t1 (by simp)).carry ((Touch.refl [] _).alloc (.cells #[.string (S m1), .int .i64 k1] 38)) (by simp))
  have HX1 := Lib.hid (BoxV.new w1 38 #[.string (S m1), .int .i64 k1])
  have HT1 := Lib.hid ((HT0.out.trans t1 (by simp)).alloc (.cells #[.string (S m1), .int .i64 k1] 38))
  have hge := (HT0.out.trans t1 (by simp)).size
  have hb1 := HB0.out.lt
  have hb2 := (HB0.out.carry t1 (by simp)).lt
  clear t1 HB0 HT0 N1 hb1
  go_wp2_with fail
  generalize hW1 : w1.alloc (.cells #[.string (S m1), .int .i64 k1] 38) = W1 at *
  generalize hq : w1.heap.size = b4 at *
  clear hW1 hq
  refine (N2.out _).mono ?_
  rintro e w2 ⟨rfl, t2⟩
  have x2 := HX1.out.carry t2 (by simp)
  have c0 := x2.cell 0
  have c1 := x2.cell 1
  have lx := x2.lt
  have fz := x2.fr
  have g0 := show BoxV _ b4 38 #[.string (S m2), .int .i64 k1] from x2.set 0 (.string (S m2))
  have HX2 := Lib.hid (show BoxV _ b4 38 #[.string (S m2), .int .i64 k2] from g0.set 1 (.int .i64 k2))
  have ts := ((Touch.refl [b4] w2).setCell (a := ⟨b4, 0, none⟩) (Or.inl (by simp)) (.string (S m2))).setCell (a := ⟨b4, 1, none⟩) (Or.inl (by simp)) (.int .i64 k2)
  have HB2 := Lib.hid ((HB1.out.carry t2 (by simp)).carry ts (by simp; omega))
  have HT2 := Lib.hid ((HT1.out.trans t2 (by simp)).trans ts (by intro b hb; simp at hb; omega))
  clear g0 ts x2 t2 HX1 HB1 HT1 N2
  go_upto_region 3 with fail
  clear c0 c1 lx fz
  generalize (w2.setCell ⟨b4, 0, none⟩ (.string (S m2))).setCell ⟨b4, 1, none⟩ (.int .i64 k2) = W2 at *
  have c0 := HX2.out.cell 0
  have c1 := HX2.out.cell 1
  have lx := HX2.out.lt
  go_wp2_with fail
  clear c0 c1 lx
  refine (N3.out _).mono ?_
  rintro e w3 ⟨rfl, t3⟩
  have x3 := HX2.out.carry t3 (by simp)
  have c0 := x3.cell 0
  have c1 := x3.cell 1
  have lx := x3.lt
  have fz := x3.fr
  have g0 := show BoxV _ b4 38 #[.string (S m3), .int .i64 k2] from x3.set 0 (.string (S m3))
  have HX3 := Lib.hid (show BoxV _ b4 38 #[.string (S m3), .int .i64 k3] from g0.set 1 (.int .i64 k3))
  have ts := ((Touch.refl [b4] w3).setCell (a := ⟨b4, 0, none⟩) (Or.inl (by simp)) (.string (S m3))).setCell (a := ⟨b4, 1, none⟩) (Or.inl (by simp)) (.int .i64 k3)
  have HB3 := Lib.hid ((HB2.out.carry t3 (by simp)).carry ts (by simp; omega))
  have HT3 := Lib.hid ((HT2.out.trans t3 (by simp)).trans ts (by intro b hb; simp at hb; omega))
  clear g0 ts x3 t3 HX2 HB2 HT2 N3
  go_upto_region 4 with fail
  clear c0 c1 lx fz
  generalize (w3.setCell ⟨b4, 0, none⟩ (.string (S m3))).setCell ⟨b4, 1, none⟩ (.int .i64 k3) = W3 at *
  have c0 := HX3.out.cell 0
  have c1 := HX3.out.cell 1
  have lx := HX3.out.lt
  go_wp2_with fail
  clear c0 c1 lx
  refine (N4.out _).mono ?_
  rintro e w4 ⟨rfl, t4⟩
  have x4 := HX3.out.carry t4 (by simp)
  have c0 := x4.cell 0
  have c1 := x4.cell 1
  have lx := x4.lt
  have fz := x4.fr
  have g0 := show BoxV _ b4 38 #[.string (S m4), .int .i64 k3] from x4.set 0 (.string (S m4))
  have HX4 := Lib.hid (show BoxV _ b4 38 #[.string (S m4), .int .i64 k4] from g0.set 1 (.int .i64 k4))
  have ts := ((Touch.refl [b4] w4).setCell (a := ⟨b4, 0, none⟩) (Or.inl (by simp)) (.string (S m4))).setCell (a := ⟨b4, 1, none⟩) (Or.inl (by simp)) (.int .i64 k4)
  have HB4 := Lib.hid ((HB3.out.carry t4 (by simp)).carry ts (by simp; omega))
  have HT4 := Lib.hid ((HT3.out.trans t4 (by simp)).trans ts (by intro b hb; simp at hb; omega))
  clear g0 ts x4 t4 HX3 HB3 HT3 N4
  go_upto_region 5 with fail
  clear c0 c1 lx fz
  generalize (w4.setCell ⟨b4, 0, none⟩ (.string (S m4))).setCell ⟨b4, 1, none⟩ (.int .i64 k4) = W4 at *
  have c0 := HX4.out.cell 0
  have c1 := HX4.out.cell 1
  have lx := HX4.out.lt
  go_wp2_with fail
  clear c0 c1 lx
  refine (N5.out _).mono ?_
  rintro e w5 ⟨rfl, t5⟩
  have x5 := HX4.out.carry t5 (by simp)
  have c0 := x5.cell 0
  have c1 := x5.cell 1
  have lx := x5.lt
  have fz := x5.fr
  have g0 := show BoxV _ b4 38 #[.string (S m5), .int .i64 k4] from x5.set 0 (.string (S m5))
  have HX5 := Lib.hid (show BoxV _ b4 38 #[.string (S m5), .int .i64 k5] from g0.set 1 (.int .i64 k5))
  have ts := ((Touch.refl [b4] w5).setCell (a := ⟨b4, 0, none⟩) (Or.inl (by simp)) (.string (S m5))).setCell (a := ⟨b4, 1, none⟩) (Or.inl (by simp)) (.int .i64 k5)
  have HB5 := Lib.hid ((HB4.out.carry t5 (by simp)).carry ts (by simp; omega))
  have HT5 := Lib.hid ((HT4.out.trans t5 (by simp)).trans ts (by intro b hb; simp at hb; omega))
  clear g0 ts x5 t5 HX4 HB4 HT4 N5
  go_upto_region 6 with fail
  clear c0 c1 lx fz
  generalize (w5.setCell ⟨b4, 0, none⟩ (.string (S m5))).setCell ⟨b4, 1, none⟩ (.int .i64 k5) = W5 at *
  go_wp2_with fail
  have hb10 := HX5.out.lt
  have HR := Lib.hid ((World.rowIs_made W5 (.int .i64 0) 6 3).congr (g := cnt (fun j => (Sc j).v) 0) (fun i hi => by unfold cnt; rw [if_neg (by omega)]))
  have HX6 := Lib.hid (HX5.out.carry ((Touch.refl [] _).alloc (.cells (madeCells #[.int .i64 0] 6) 3)) (by simp))
  have HB6 := Lib.hid (HB5.out.carry ((Touch.refl [] _).alloc (.cells (madeCells #[.int .i64 0] 6) 3)) (by simp))
  have HT6 := Lib.hid (HT5.out.alloc (.cells (madeCells #[.int .i64 0] 6) 3))
  have hsz : W5.heap.size < (W5.alloc (.cells (madeCells #[.int .i64 0] 6) 3)).heap.size := by simp
  generalize W5.alloc (.cells (madeCells #[.int .i64 0] 6) 3) = W6 at *
  generalize W5.heap.size = b10 at *
  have h0 := HN0.out
  rw [show (m5 : List UInt8) = (Sc 0).m by rw [h0], show (k5 : Int) = (Sc 0).k by rw [h0]] at HX6
  clear HX5 HB5 HT5 hmk h0
  go_loopw [11] (fun y wr => ∃ i : Nat, i ≤ 6 ∧ y = .int .i64 i ∧ BoxV wr b4 38 #[.string (S (Sc i).m), .int .i64 (Sc i).k] ∧ wr.rowIs b10 3 6 (cnt (fun j => (Sc j).v) i) ∧ BoxV wr w.heap.size 78 #[.int .i64 0, .int .i64 0, .int .i64 0, .int .i64 0, .int .u32 0, .int .i64 0, .int .i64 0, .int .i64 0, .int .i64 0, .int .i64 0, .int .i64 0] ∧ Touch [] w wr) (fun y _ => 6 - (intOf y).toNat)
  case atStart => exact ⟨0, by omega, rfl, HX6.out, HR.out, HB6.out, HT6.out⟩
  case round =>
    obtain ⟨i, hi, rfl, hX, hr, hB, hT⟩ := hrel
    by_cases hlt : i < 6
    · have c0 := hX.cell 0
      have c1 := hX.cell 1
      have lx := hX.lt
      have NN := Lib.hid (NV'.out i)
      have HX := Lib.hid hX
      have HRr := Lib.hid hr
      have HB := Lib.hid hB
      have HT := Lib.hid hT
      have g6 : decide ((i : Int) < 6) = true := by simp; omega
      clear hX hr hB hT HX6 HR HB6 HT6
      generalize hm : (Sc (i + 1)).m = mm at *
      generalize hk : (Sc (i + 1)).k = kk2 at *
      generalize hv : (Sc (i + 1)).v = vv at *
      have HM := Lib.hid (And.intro hm (And.intro hk hv))
      clear hm hk hv
      go_wp2_with fail
      refine (NN.out _).mono ?_
      rintro e v1 ⟨rfl, t1⟩
      have xv := HX.out.carry t1 (by simp)
      have rv1 := World.rowIs.of_block HRr.out (t1.block b10 HRr.out.lt (by simp))
      have bv := HB.out.carry t1 (by simp)
      have f0 := xv.fr
      have y0 := xv.cell 0
      have y1 := xv.cell 1
      have l1 := xv.lt
      have l2 := rv1.lt
      have ne1 : ¬ (b4 = v1.heap.size) := by omega
      have ne2 : ¬ (v1.heap.size = b4) := by omega
      have ne3 : (b4 == v1.heap.size) = false := by simp; omega
      have g0 := show BoxV _ b4 38 #[.string (S mm), .int .i64 (Sc i).k] from xv.set 0 (.string (S mm))
      have g1 := show BoxV _ b4 38 #[.string (S mm), .int .i64 kk2] from g0.set 1 (.int .i64 kk2)
      have ts := ((Touch.refl [b4] v1).setCell (a := ⟨b4, 0, none⟩) (Or.inl (by simp)) (.string (S mm))).setCell (a := ⟨b4, 1, none⟩) (Or.inl (by simp)) (.int .i64 kk2)
      have ta := (Touch.refl [] ((v1.setCell ⟨b4, 0, none⟩ (.string (S mm))).setCell ⟨b4, 1, none⟩ (.int .i64 kk2))).alloc (.cells #[.string (S mm), .int .i64 kk2] 38)
      have rb := World.rowIs.of_block rv1 (ts.block b10 rv1.lt (by simp; omega))
      have rc := World.rowIs.of_block rb (ta.block b10 rb.lt (by simp))
      have GX := Lib.hid (g1.carry ta (by simp))
      have GR := Lib.hid rc
      have GB := Lib.hid ((bv.carry ts (by simp; omega)).carry ta (by simp))
      have GT := Lib.hid (((HT.out.trans t1 (by simp)).trans ts (by intro b hb; simp at hb; omega)).trans ta (by simp))
      clear g0 g1 ts rb rc xv rv1 bv ta t1 HX HRr HB HT
      go_upto_region 12 with fail
      clear f0 y0 y1 l1 l2 ne1 ne2 ne3
      generalize ((v1.setCell ⟨b4, 0, none⟩ (.string (S mm))).setCell ⟨b4, 1, none⟩ (.int .i64 kk2)).alloc (.cells #[.string (S mm), .int .i64 kk2] 38) = Wq at *
      have z0 := GR.out.cell (i := i) hlt
      have fr := GR.out.frozen i
      have lr := GR.out.lt
      have tz := (Touch.refl [b10] Wq).setCell (a := ⟨b10, i, none⟩) (Or.inl (by simp)) (.int .i64 vv)
      have FX := Lib.hid (GX.out.carry tz (by simp; omega))
      have FB := Lib.hid (GB.out.carry tz (by simp; omega))
      have FT := Lib.hid (GT.out.trans tz (by intro b hb; simp at hb; omega))
      have FR := Lib.hid ((GR.out.set i (.int .i64 vv)).congr (g := cnt (fun j => (Sc j).v) (i + 1)) (fun j hj => by
        unfold cnt
        by_cases e : j = i
        · subst e
          rw [if_pos rfl, if_pos (by omega)]
          show _ = Value.int .i64 (Sc (j + 1)).v
          rw [HM.out.2.2]
        · rw [if_neg e]
          by_cases hji : j < i
          · rw [if_pos hji, if_pos (by omega)]
          · rw [if_neg hji, if_neg (by omega)]))
      clear tz GX GB GT GR
      go_wp2_with fail
      obtain ⟨h1, h2, h3⟩ := HM.out
      refine ⟨⟨i + 1, by omega, by go_num, by rw [h1, h2]; exact FX.out, FR.out, FB.out, FT.out⟩, by simp [intOf]; omega⟩
    · obtain rfl : i = 6 := by omega
      have c0 := hX.cell 0
      have c1 := hX.cell 1
      have lx := hX.lt
      have fz := hB.fr
      have lb := hB.lt
      have HX := Lib.hid hX
      have HRr := Lib.hid hr
      have HT := Lib.hid hT
      have u0 := hB.cell 0
      have u1 := hB.cell 1
      have u2 := hB.cell 2
      have u3 := hB.cell 3
      have u4 := hB.cell 4
      have u5 := hB.cell 5
      have u6 := hB.cell 6
      have u7 := hB.cell 7
      have u8 := hB.cell 8
      have u9 := hB.cell 9
      have u10 := hB.cell 10
      have g0 := show BoxV _ w.heap.size 78 #[.int .i64 0, .int .i64 0, .int .i64 0, .int .i64 0, .int .u32 0, .int .i64 0, .int .i64 0, .int .i64 0, .int .i64 0, .int .i64 0, .int .i64 0] from hB.set 0 (.int .i64 0)
      have g1 := show BoxV _ w.heap.size 78 #[.int .i64 0, .int .i64 0, .int .i64 0, .int .i64 0, .int .u32 0, .int .i64 0, .int .i64 0, .int .i64 0, .int .i64 0, .int .i64 0, .int .i64 0] from g0.set 1 (.int .i64 0)
      have g2 := show BoxV _ w.heap.size 78 #[.int .i64 0, .int .i64 0, .int .i64 0, .int .i64 0, .int .u32 0, .int .i64 0, .int .i64 0, .int .i64 0, .int .i64 0, .int .i64 0, .int .i64 0] from g1.set 2 (.int .i64 0)
      have g3 := show BoxV _ w.heap.size 78 #[.int .i64 0, .int .i64 0, .int .i64 0, .int .i64 0, .int .u32 0, .int .i64 0, .int .i64 0, .int .i64 0, .int .i64 0, .int .i64 0, .int .i64 0] from g2.set 3 (.int .i64 0)
      have g4 := show BoxV _ w.heap.size 78 #[.int .i64 0, .int .i64 0, .int .i64 0, .int .i64 0, .int .u32 0, .int .i64 0, .int .i64 0, .int .i64 0, .int .i64 0, .int .i64 0, .int .i64 0] from g3.set 4 (.int .u32 0)
      have g5 := show BoxV _ w.heap.size 78 #[.int .i64 0, .int .i64 0, .int .i64 0, .int .i64 0, .int .u32 0, .int .i64 0, .int .i64 0, .int .i64 0, .int .i64 0, .int .i64 0, .int .i64 0] from g4.set 5 (.int .i64 0)
      have g6 := show BoxV _ w.heap.size 78 #[.int .i64 0, .int .i64 0, .int .i64 0, .int .i64 0, .int .u32 0, .int .i64 0, .int .i64 0, .int .i64 0, .int .i64 0, .int .i64 0, .int .i64 0] from g5.set 6 (.int .i64 0)
      have g7 := show BoxV _ w.heap.size 78 #[.int .i64 0, .int .i64 0, .int .i64 0, .int .i64 0, .int .u32 0, .int .i64 0, .int .i64 0, .int .i64 0, .int .i64 0, .int .i64 0, .int .i64 0] from g6.set 7 (.int .i64 0)
      have g8 := show BoxV _ w.heap.size 78 #[.int .i64 0, .int .i64 0, .int .i64 0, .int .i64 0, .int .u32 0, .int .i64 0, .int .i64 0, .int .i64 0, .int .i64 0, .int .i64 0, .int .i64 0] from g7.set 8 (.int .i64 0)
      have g9 := show BoxV _ w.heap.size 78 #[.int .i64 0, .int .i64 0, .int .i64 0, .int .i64 0, .int .u32 0, .int .i64 0, .int .i64 0, .int .i64 0, .int .i64 0, .int .i64 0, .int .i64 0] from g8.set 9 (.int .i64 0)
      have g10 := show BoxV _ w.heap.size 78 #[.int .i64 0, .int .i64 0, .int .i64 0, .int .i64 0, .int .u32 0, .int .i64 0, .int .i64 0, .int .i64 0, .int .i64 0, .int .i64 0, .int .i64 0] from g9.set 10 (.int .i64 0)
      have HZ := Lib.hid g10
      have ts := ((((((((((((Touch.refl [w.heap.size] wr).setCell (a := ⟨w.heap.size, 0, none⟩) (Or.inl (by simp)) (.int .i64 0)).setCell (a := ⟨w.heap.size, 1, none⟩) (Or.inl (by simp)) (.int .i64 0)).setCell (a := ⟨w.heap.size, 2, none⟩) (Or.inl (by simp)) (.int .i64 0)).setCell (a := ⟨w.heap.size, 3, none⟩) (Or.inl (by simp)) (.int .i64 0)).setCell (a := ⟨w.heap.size, 4, none⟩) (Or.inl (by simp)) (.int .u32 0)).setCell (a := ⟨w.heap.size, 5, none⟩) (Or.inl (by simp)) (.int .i64 0)).setCell (a := ⟨w.heap.size, 6, none⟩) (Or.inl (by simp)) (.int .i64 0)).setCell (a := ⟨w.heap.size, 7, none⟩) (Or.inl (by simp)) (.int .i64 0)).setCell (a := ⟨w.heap.size, 8, none⟩) (Or.inl (by simp)) (.int .i64 0)).setCell (a := ⟨w.heap.size, 9, none⟩) (Or.inl (by simp)) (.int .i64 0)).setCell (a := ⟨w.heap.size, 10, none⟩) (Or.inl (by simp)) (.int .i64 0))
      have TZ := Lib.hid (hT.trans ts (by intro b hb; simp at hb; omega))
      have HB := Lib.hid hB
      have HE := Lib.hid (And.intro (g0.cell 0) (And.intro (g1.cell 1) (And.intro (g2.cell 2) (And.intro (g3.cell 3) (And.intro (g4.cell 4) (And.intro (g5.cell 5) (And.intro (g6.cell 6) (And.intro (g7.cell 7) (And.intro (g8.cell 8) (g9.cell 9))))))))))
      clear g0 g1 g2 g3 g4 g5 g6 g7 g8 g9 g10 ts hX hr hB hT HX6 HR HB6 HT6
      have hz := S_size (Sc 6).m
      have hS6 := HS.out
      cases hp : getP l with
      | error k =>
        obtain ⟨hre, hk0⟩ := HFIN.out.1 k hp
        have eE : getE l = k := by unfold getE; rw [hp]
        have eR : (getR l).cells = #[.int .i64 0, .int .i64 0, .int .i64 0, .int .i64 0, .int .u32 0, .int .i64 0, .int .i64 0, .int .i64 0, .int .i64 0, .int .i64 0, .int .i64 0] := by unfold getR; rw [hp]; rfl
        by_cases h4 : (Sc 6).k = 0 ∧ 0 < (Sc 6).m.length
        · have hk4 : k = 4 := by rw [← hre]; unfold refE; rw [hS6, if_pos h4]
          rw [hk4] at eE
          have HQ := Lib.hid (And.intro eE eR)
          have q0 : ((Sc 6).k == 0) = true := by simpa using h4.1
          have q1 : decide (0 < (Sc 6).m.length) = true := by simpa using h4.2
          have q2 : decide ((0 : Int) < ((Sc 6).m.length : Int)) = true := by simp; omega
          clear h4 hre hk0 hS6 HFIN eE eR hp hk4
          generalize (Sc 6).k = K6 at *
          generalize (Sc 6).m = M6 at *
          go_wp2_with fail
          have d0 := HZ.out.cell 0
          have d1 := HZ.out.cell 1
          have d2 := HZ.out.cell 2
          have d3 := HZ.out.cell 3
          have d4 := HZ.out.cell 4
          have d5 := HZ.out.cell 5
          have d6 := HZ.out.cell 6
          have d7 := HZ.out.cell 7
          have d8 := HZ.out.cell 8
          have d9 := HZ.out.cell 9
          have d10 := HZ.out.cell 10
          refine bodyPost_ret (v := .tuple #[.agg #[.int .i64 0, .int .i64 0, .int .i64 0, .int .i64 0, .int .u32 0, .int .i64 0, .int .i64 0, .int .i64 0, .int .i64 0, .int .i64 0, .int .i64 0], .int .i64 4]) (by simp [results, Try.results54, go_sem, d0, d1, d2, d3, d4, d5, d6, d7, d8, d9, d10]) rfl ?_
          exact ⟨by rw [HQ.out.1, HQ.out.2], TZ.out⟩
        · have hkk : (Sc 6).k = k := by rw [← hre]; unfold refE; rw [hS6, if_neg h4]
          have q0 : ((Sc 6).k == 0) = false := by rw [hkk]; simpa using hk0
          have q1 : ((Sc 6).k != 0) = true := by rw [hkk]; simpa using hk0
          rw [← hkk] at eE
          have HQ := Lib.hid (And.intro eE eR)
          clear h4 hre hk0 hS6 HFIN eE eR hp hkk
          generalize (Sc 6).k = K6 at *
          generalize (Sc 6).m = M6 at *
          go_upto_region 16 with fail
          go_region
          all_goals go_wp2_with fail
          all_goals
            obtain ⟨e0, e1, e2, e3, e4, e5, e6, e7, e8, e9⟩ := HE.out
            have d0 := HZ.out.cell 0
            have d1 := HZ.out.cell 1
            have d2 := HZ.out.cell 2
            have d3 := HZ.out.cell 3
            have d4 := HZ.out.cell 4
            have d5 := HZ.out.cell 5
            have d6 := HZ.out.cell 6
            have d7 := HZ.out.cell 7
            have d8 := HZ.out.cell 8
            have d9 := HZ.out.cell 9
            have d10 := HZ.out.cell 10
            refine bodyPost_ret (v := .tuple #[.agg #[.int .i64 0, .int .i64 0, .int .i64 0, .int .i64 0, .int .u32 0, .int .i64 0, .int .i64 0, .int .i64 0, .int .i64 0, .int .i64 0, .int .i64 0], .int .i64 K6]) (by simp [results, Try.results54, go_sem, d0, d1, d2, d3, d4, d5, d6, d7, d8, d9, d10, e0, e1, e2, e3, e4, e5, e6, e7, e8, e9]) rfl ?_
            exact ⟨by rw [HQ.out.1, HQ.out.2], TZ.out.drew⟩
      | ok r =>
        obtain ⟨hre, hk6, hm6, o1, o2, o3, o4, o5, o6⟩ := HFIN.out.2 r hp
        have hok := getP_ok hp
        have f1 : IntKind.i64.wrap v1 = v1 := by rw [IntKind.wrap_i64, ← o1]; have := hok.op; unfold fitI at this; omega
        have f2 : IntKind.i64.wrap v2 = v2 := by rw [IntKind.wrap_i64, ← o2]; have := hok.err; unfold fitI at this; omega
        have f1' : wrap64 v1 = v1 := by unfold wrap64; rw [← o1]; have := hok.op; unfold fitI at this; omega
        have f2' : wrap64 v2 = v2 := by unfold wrap64; rw [← o2]; have := hok.err; unfold fitI at this; omega
        have f5 : IntKind.u32.wrap v5 = v5 := by rw [IntKind.wrap_u32', ← o5]; have := hok.sum; omega
        have q0 : ((Sc 6).k == 0) = true := by simpa using hk6
        have q1 : decide (0 < (Sc 6).m.length) = false := by rw [hm6]; rfl
        have q2 : decide ((0 : Int) < ((Sc 6).m.length : Int)) = false := by rw [hm6]; rfl
        have q3 : ((Sc 6).k != 0) = false := by rw [hk6]; rfl
        have r0 : wr.cell? ⟨b10, 0, none⟩ = some (.int .i64 (Sc 1).v) := HRr.out.cell (i := 0) (by omega)
        have r1 : wr.cell? ⟨b10, 1, none⟩ = some (.int .i64 (Sc 2).v) := HRr.out.cell (i := 1) (by omega)
        have r2 : wr.cell? ⟨b10, 2, none⟩ = some (.int .i64 (Sc 3).v) := HRr.out.cell (i := 2) (by omega)
        have r3 : wr.cell? ⟨b10, 3, none⟩ = some (.int .i64 (Sc 4).v) := HRr.out.cell (i := 3) (by omega)
        have r4 : wr.cell? ⟨b10, 4, none⟩ = some (.int .i64 (Sc 5).v) := HRr.out.cell (i := 4) (by omega)
        have r5 : wr.cell? ⟨b10, 5, none⟩ = some (.int .i64 (Sc 6).v) := HRr.out.cell (i := 5) (by omega)
        have eQ : (getR l).cells = #[.int .i64 v1, .int .i64 v2, .int .i64 v3, .int .i64 v4, .int .u32 v5, .int .i64 (Sc 1).v, .int .i64 (Sc 2).v, .int .i64 (Sc 3).v, .int .i64 (Sc 4).v, .int .i64 (Sc 5).v, .int .i64 (Sc 6).v] ∧ getE l = 0 := by
          unfold getR getE
          rw [hp]
          unfold Rep.cells
          simp only
          rw [o1, o2, o3, o4, o5, o6 0 (by omega), o6 1 (by omega), o6 2 (by omega), o6 3 (by omega), o6 4 (by omega), o6 5 (by omega)]
          exact ⟨rfl, trivial⟩
        have HQ := Lib.hid eQ
        clear hre hk6 hm6 o1 o2 o3 o4 o5 o6 hok HFIN hp eQ hS6 HN0
        generalize (Sc 1).v = x0 at *
        generalize (Sc 2).v = x1 at *
        generalize (Sc 3).v = x2 at *
        generalize (Sc 4).v = x3 at *
        generalize (Sc 5).v = x4 at *
        generalize (Sc 6).v = x5 at *
        generalize (Sc 6).k = K6 at *
        generalize (Sc 6).m = M6 at *
        go_upto_region 17 with fail
        have k0 : ∀ y : Cls wr, y.val.cell? ⟨b10, 0, none⟩ = some (.int .i64 x0) := fun y => (y.property.cell (a := ⟨b10, 0, none⟩) HRr.out.lt (by simp)).trans r0
        have k1 : ∀ y : Cls wr, y.val.cell? ⟨b10, 1, none⟩ = some (.int .i64 x1) := fun y => (y.property.cell (a := ⟨b10, 1, none⟩) HRr.out.lt (by simp)).trans r1
        have k2 : ∀ y : Cls wr, y.val.cell? ⟨b10, 2, none⟩ = some (.int .i64 x2) := fun y => (y.property.cell (a := ⟨b10, 2, none⟩) HRr.out.lt (by simp)).trans r2
        have k3 : ∀ y : Cls wr, y.val.cell? ⟨b10, 3, none⟩ = some (.int .i64 x3) := fun y => (y.property.cell (a := ⟨b10, 3, none⟩) HRr.out.lt (by simp)).trans r3
        have k4 : ∀ y : Cls wr, y.val.cell? ⟨b10, 4, none⟩ = some (.int .i64 x4) := fun y => (y.property.cell (a := ⟨b10, 4, none⟩) HRr.out.lt (by simp)).trans r4
        have k5 : ∀ y : Cls wr, y.val.cell? ⟨b10, 5, none⟩ = some (.int .i64 x5) := fun y => (y.property.cell (a := ⟨b10, 5, none⟩) HRr.out.lt (by simp)).trans r5
        clear r0 r1 r2 r3 r4 r5 c0 c1 lx fz lb u0 u1 u2 u3 u4 u5 u6 u7 u8 u9 u10
        refine wp_region_tail (wd := wr) 28 (by kernel_rfl) (by kernel_rfl) ((Touch.refl _ _).drew) ?_
        simp only [List.take_succ_cons, List.take_zero, List.drop_succ_cons, List.drop_zero]
        repeat (first | go_big_quiet_step (fail) | quiet_step (fail))
        refine wpQuiet_nil ?_
        intro y
        have TY := Lib.hid y.property
        have BY := Lib.hid (HB.out.carry y.property (by simp))
        generalize y.val = wy at *
        clear k0 k1 k2 k3 k4 k5
        have hb := BY.out
        have fz := hb.fr
        have lb := hb.lt
        have u0 := hb.cell 0
        have u1 := hb.cell 1
        have u2 := hb.cell 2
        have u3 := hb.cell 3
        have u4 := hb.cell 4
        have u5 := hb.cell 5
        have u6 := hb.cell 6
        have u7 := hb.cell 7
        have u8 := hb.cell 8
        have u9 := hb.cell 9
        have u10 := hb.cell 10
        have g0 := show BoxV _ w.heap.size 78 #[.int .i64 v1, .int .i64 0, .int .i64 0, .int .i64 0, .int .u32 0, .int .i64 0, .int .i64 0, .int .i64 0, .int .i64 0, .int .i64 0, .int .i64 0] from hb.set 0 (.int .i64 v1)
        have g1 := show BoxV _ w.heap.size 78 #[.int .i64 v1, .int .i64 v2, .int .i64 0, .int .i64 0, .int .u32 0, .int .i64 0, .int .i64 0, .int .i64 0, .int .i64 0, .int .i64 0, .int .i64 0] from g0.set 1 (.int .i64 v2)
        have g2 := show BoxV _ w.heap.size 78 #[.int .i64 v1, .int .i64 v2, .int .i64 v3, .int .i64 0, .int .u32 0, .int .i64 0, .int .i64 0, .int .i64 0, .int .i64 0, .int .i64 0, .int .i64 0] from g1.set 2 (.int .i64 v3)
        have g3 := show BoxV _ w.heap.size 78 #[.int .i64 v1, .int .i64 v2, .int .i64 v3, .int .i64 v4, .int .u32 0, .int .i64 0, .int .i64 0, .int .i64 0, .int .i64 0, .int .i64 0, .int .i64 0] from g2.set 3 (.int .i64 v4)
        have g4 := show BoxV _ w.heap.size 78 #[.int .i64 v1, .int .i64 v2, .int .i64 v3, .int .i64 v4, .int .u32 v5, .int .i64 0, .int .i64 0, .int .i64 0, .int .i64 0, .int .i64 0, .int .i64 0] from g3.set 4 (.int .u32 v5)
        have g5 := show BoxV _ w.heap.size 78 #[.int .i64 v1, .int .i64 v2, .int .i64 v3, .int .i64 v4, .int .u32 v5, .int .i64 x0, .int .i64 0, .int .i64 0, .int .i64 0, .int .i64 0, .int .i64 0] from g4.set 5 (.int .i64 x0)
        have g6 := show BoxV _ w.heap.size 78 #[.int .i64 v1, .int .i64 v2, .int .i64 v3, .int .i64 v4, .int .u32 v5, .int .i64 x0, .int .i64 x1, .int .i64 0, .int .i64 0, .int .i64 0, .int .i64 0] from g5.set 6 (.int .i64 x1)
        have g7 := show BoxV _ w.heap.size 78 #[.int .i64 v1, .int .i64 v2, .int .i64 v3, .int .i64 v4, .int .u32 v5, .int .i64 x0, .int .i64 x1, .int .i64 x2, .int .i64 0, .int .i64 0, .int .i64 0] from g6.set 7 (.int .i64 x2)
        have g8 := show BoxV _ w.heap.size 78 #[.int .i64 v1, .int .i64 v2, .int .i64 v3, .int .i64 v4, .int .u32 v5, .int .i64 x0, .int .i64 x1, .int .i64 x2, .int .i64 x3, .int .i64 0, .int .i64 0] from g7.set 8 (.int .i64 x3)
        have g9 := show BoxV _ w.heap.size 78 #[.int .i64 v1, .int .i64 v2, .int .i64 v3, .int .i64 v4, .int .u32 v5, .int .i64 x0, .int .i64 x1, .int .i64 x2, .int .i64 x3, .int .i64 x4, .int .i64 0] from g8.set 9 (.int .i64 x4)
        have g10 := show BoxV _ w.heap.size 78 #[.int .i64 v1, .int .i64 v2, .int .i64 v3, .int .i64 v4, .int .u32 v5, .int .i64 x0, .int .i64 x1, .int .i64 x2, .int .i64 x3, .int .i64 x4, .int .i64 x5] from g9.set 10 (.int .i64 x5)
        have TZ2 := Lib.hid ((HT.out.trans TY.out (by simp)).trans (S' := [w.heap.size]) ((((((((((((Touch.refl [w.heap.size] wy).setCell (a := ⟨w.heap.size, 0, none⟩) (Or.inl (by simp)) (.int .i64 v1)).setCell (a := ⟨w.heap.size, 1, none⟩) (Or.inl (by simp)) (.int .i64 v2)).setCell (a := ⟨w.heap.size, 2, none⟩) (Or.inl (by simp)) (.int .i64 v3)).setCell (a := ⟨w.heap.size, 3, none⟩) (Or.inl (by simp)) (.int .i64 v4)).setCell (a := ⟨w.heap.size, 4, none⟩) (Or.inl (by simp)) (.int .u32 v5)).setCell (a := ⟨w.heap.size, 5, none⟩) (Or.inl (by simp)) (.int .i64 x0)).setCell (a := ⟨w.heap.size, 6, none⟩) (Or.inl (by simp)) (.int .i64 x1)).setCell (a := ⟨w.heap.size, 7, none⟩) (Or.inl (by simp)) (.int .i64 x2)).setCell (a := ⟨w.heap.size, 8, none⟩) (Or.inl (by simp)) (.int .i64 x3)).setCell (a := ⟨w.heap.size, 9, none⟩) (Or.inl (by simp)) (.int .i64 x4)).setCell (a := ⟨w.heap.size, 10, none⟩) (Or.inl (by simp)) (.int .i64 x5)) (by intro b hb; simp at hb; omega))
        have GZ := Lib.hid g10
        clear g0 g1 g2 g3 g4 g5 g6 g7 g8 g9 g10 hb
        go_wp2_with fail
        have d0 := GZ.out.cell 0
        have d1 := GZ.out.cell 1
        have d2 := GZ.out.cell 2
        have d3 := GZ.out.cell 3
        have d4 := GZ.out.cell 4
        have d5 := GZ.out.cell 5
        have d6 := GZ.out.cell 6
        have d7 := GZ.out.cell 7
        have d8 := GZ.out.cell 8
        have d9 := GZ.out.cell 9
        have d10 := GZ.out.cell 10
        refine bodyPost_ret (v := .tuple #[.agg #[.int .i64 v1, .int .i64 v2, .int .i64 v3, .int .i64 v4, .int .u32 v5, .int .i64 x0, .int .i64 x1, .int .i64 x2, .int .i64 x3, .int .i64 x4, .int .i64 x5], .int .i64 0]) (by simp [results, Try.results54, go_sem, d0, d1, d2, d3, d4, d5, d6, d7, d8, d9, d10]) rfl ?_
        exact ⟨by rw [HQ.out.1, HQ.out.2], TZ2.out⟩
end Go.Proofs.Ytfeeaokeomcafaa
