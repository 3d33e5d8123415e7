/-
  reply's Get (layer 39): its function literal.
-/
import Derived.Test.YtfeeaokeomcafaaReplyGet
namespace Go.Proofs.Ytfeeaokeomcafaa
open Go.ChangeShapes Go.WideShapes Go.ChangeAt Go.RowKit Go.Deep
set_option linter.unusedVariables false
set_option linter.unusedSimpArgs false

set_option maxHeartbeats 4000000 in
set_option maxRecDepth 100000 in
theorem get1_any {w : World} {p g : Nat} {l : List UInt8} {c0 : Array Value} (h : At w p l) (hl : l.length ≤ 1000000000) (hg : BoxV w g 78 c0) (hc : c0.size = 11) (hne : p ≠ g) :
    Calls Try.prog 96 #[.pointer (some ⟨p, 0, none⟩), .pointer (some ⟨g, 0, none⟩)] w (GetPost p g w (getP l)) := by
  have hp := h.lt
  have hgl := hg.lt
  have T0 := Lib.hid ((Touch.refl [p] w).alloc (.cells #[.int .i64 0, .int .i64 0, .int .i64 0, .int .i64 0, .int .u32 0, .int .i64 0, .int .i64 0, .int .i64 0, .int .i64 0, .int .i64 0, .int .i64 0] 78))
  have X0 := Lib.hid (BoxV.new w 78 #[.int .i64 0, .int .i64 0, .int .i64 0, .int .i64 0, .int .u32 0, .int .i64 0, .int .i64 0, .int .i64 0, .int .i64 0, .int .i64 0, .int .i64 0])
  have A0 := Lib.hid (h.carry ((Touch.refl [] w).alloc (.cells #[.int .i64 0, .int .i64 0, .int .i64 0, .int .i64 0, .int .u32 0, .int .i64 0, .int .i64 0, .int .i64 0, .int .i64 0, .int .i64 0, .int .i64 0] 78)) (by simp))
  have HG := Lib.hid hg
  clear h hg
  generalize hS : getP l = R at *
  have HS := Lib.hid hS
  clear hS
  cases h1 : u8P l with
  | error k =>
    have V := Lib.hid (u8_Er A0.out h1)
    have HK := Lib.hid (show R = .error k from by rw [← HS.out]; unfold getP; simp only [h1])
    go_enter Try.func96, Try.ntmps96
    go_wp2_with fail
    refine (V.out).mono ?_
    rintro e w1 ⟨rfl, t1⟩
    go_wp2_with fail
    exact ⟨rfl, GetPost.er HK.out ⟨rfl, T0.out.trans t1 (by simp)⟩⟩
  | ok r1 =>
    obtain ⟨v1, l1⟩ := r1
    have V := Lib.hid (u8_Ok A0.out (by omega) h1)
    obtain ⟨hl1, hv1⟩ := u8P_len h1
    go_enter Try.func96, Try.ntmps96
    go_wp2_with fail
    refine (V.out).mono ?_
    rintro e w1 ⟨rfl, a1, t1⟩
    have x1 := X0.out.carry t1 (by simp; omega)
    have fz := x1.fr
    have y0 := x1.cell 0
    have lt1 := x1.lt
    have ts := (Touch.refl [w.heap.size] w1).setCell (a := ⟨w.heap.size, 0, none⟩) (Or.inl (by simp)) (.int .i64 (v1 : Int))
    have A1 := Lib.hid (a1.carry ts (by simp; omega))
    have T1 := Lib.hid ((T0.out.trans t1 (by simp)).trans ts (by simp))
    have X1 := Lib.hid (show BoxV _ w.heap.size 78 #[.int .i64 (v1 : Int), .int .i64 0, .int .i64 0, .int .i64 0, .int .u32 0, .int .i64 0, .int .i64 0, .int .i64 0, .int .i64 0, .int .i64 0, .int .i64 0] from x1.set 0 (.int .i64 (v1 : Int)))
    clear x1 a1 t1 V A0 T0 X0 ts
    go_wp2_with fail
    clear fz y0 lt1
    generalize w1.setCell ⟨w.heap.size, 0, none⟩ (.int .i64 (v1 : Int)) = W1 at *
    cases h2 : u8P l1 with
    | error k =>
      have V := Lib.hid (u8_Er A1.out h2)
      have HK := Lib.hid (show R = .error k from by rw [← HS.out]; unfold getP; simp only [h1, h2])
      refine (V.out).mono ?_
      rintro e w2 ⟨rfl, t2⟩
      go_wp2_with fail
      exact ⟨rfl, GetPost.er HK.out ⟨rfl, T1.out.trans t2 (by simp)⟩⟩
    | ok r2 =>
      obtain ⟨v2, l2⟩ := r2
      have V := Lib.hid (u8_Ok A1.out (by omega) h2)
      obtain ⟨hl2, hv2⟩ := u8P_len h2
      refine (V.out).mono ?_
      rintro e w2 ⟨rfl, a2, t2⟩
      have x2 := X1.out.carry t2 (by simp; omega)
      have fz := x2.fr
      have y1 := x2.cell 1
      have lt2 := x2.lt
      have ts := (Touch.refl [w.heap.size] w2).setCell (a := ⟨w.heap.size, 1, none⟩) (Or.inl (by simp)) (.int .i64 (v2 : Int))
      have A2 := Lib.hid (a2.carry ts (by simp; omega))
      have T2 := Lib.hid ((T1.out.trans t2 (by simp)).trans ts (by simp))
      have X2 := Lib.hid (show BoxV _ w.heap.size 78 #[.int .i64 (v1 : Int), .int .i64 (v2 : Int), .int .i64 0, .int .i64 0, .int .u32 0, .int .i64 0, .int .i64 0, .int .i64 0, .int .i64 0, .int .i64 0, .int .i64 0] from x2.set 1 (.int .i64 (v2 : Int)))
      clear x2 a2 t2 V A1 T1 X1 ts
      go_wp2_with fail
      clear fz y1 lt2
      generalize w2.setCell ⟨w.heap.size, 1, none⟩ (.int .i64 (v2 : Int)) = W2 at *
      cases h3 : varP l2 with
      | error k =>
        have V := Lib.hid (var_er A2.out (by omega) h3)
        have HK := Lib.hid (show R = .error k from by rw [← HS.out]; unfold getP; simp only [h1, h2, h3])
        refine (V.out).mono ?_
        rintro e w3 ⟨rfl, t3⟩
        go_wp2_with fail
        exact ⟨rfl, GetPost.er HK.out ⟨rfl, T2.out.trans t3 (by simp)⟩⟩
      | ok r3 =>
        obtain ⟨v3, l3⟩ := r3
        have V := Lib.hid (var_ok A2.out (by omega) h3)
        have hl3 := varP_len h3
        refine (V.out).mono ?_
        rintro e w3 ⟨rfl, a3, t3⟩
        have x3 := X2.out.carry t3 (by simp; omega)
        have fz := x3.fr
        have y2 := x3.cell 2
        have lt3 := x3.lt
        have ts := (Touch.refl [w.heap.size] w3).setCell (a := ⟨w.heap.size, 2, none⟩) (Or.inl (by simp)) (.int .i64 v3)
        have A3 := Lib.hid (a3.carry ts (by simp; omega))
        have T3 := Lib.hid ((T2.out.trans t3 (by simp)).trans ts (by simp))
        have X3 := Lib.hid (show BoxV _ w.heap.size 78 #[.int .i64 (v1 : Int), .int .i64 (v2 : Int), .int .i64 v3, .int .i64 0, .int .u32 0, .int .i64 0, .int .i64 0, .int .i64 0, .int .i64 0, .int .i64 0, .int .i64 0] from x3.set 2 (.int .i64 v3))
        clear x3 a3 t3 V A2 T2 X2 ts
        go_wp2_with fail
        clear fz y2 lt3
        generalize w3.setCell ⟨w.heap.size, 2, none⟩ (.int .i64 v3) = W3 at *
        cases h4 : varP l3 with
        | error k =>
          have V := Lib.hid (var_er A3.out (by omega) h4)
          have HK := Lib.hid (show R = .error k from by rw [← HS.out]; unfold getP; simp only [h1, h2, h3, h4])
          refine (V.out).mono ?_
          rintro e w4 ⟨rfl, t4⟩
          go_wp2_with fail
          exact ⟨rfl, GetPost.er HK.out ⟨rfl, T3.out.trans t4 (by simp)⟩⟩
        | ok r4 =>
          obtain ⟨v4, l4⟩ := r4
          have V := Lib.hid (var_ok A3.out (by omega) h4)
          have hl4 := varP_len h4
          refine (V.out).mono ?_
          rintro e w4 ⟨rfl, a4, t4⟩
          have x4 := X3.out.carry t4 (by simp; omega)
          have fz := x4.fr
          have y3 := x4.cell 3
          have lt4 := x4.lt
          have ts := (Touch.refl [w.heap.size] w4).setCell (a := ⟨w.heap.size, 3, none⟩) (Or.inl (by simp)) (.int .i64 v4)
          have A4 := Lib.hid (a4.carry ts (by simp; omega))
          have T4 := Lib.hid ((T3.out.trans t4 (by simp)).trans ts (by simp))
          have X4 := Lib.hid (show BoxV _ w.heap.size 78 #[.int .i64 (v1 : Int), .int .i64 (v2 : Int), .int .i64 v3, .int .i64 v4, .int .u32 0, .int .i64 0, .int .i64 0, .int .i64 0, .int .i64 0, .int .i64 0, .int .i64 0] from x4.set 3 (.int .i64 v4))
          clear x4 a4 t4 V A3 T3 X3 ts
          go_wp2_with fail
          clear fz y3 lt4
          generalize w4.setCell ⟨w.heap.size, 3, none⟩ (.int .i64 v4) = W4 at *
          cases h5 : u32P l4 with
          | error k =>
            have V := Lib.hid (u32_Er A4.out (by omega) h5)
            have HK := Lib.hid (show R = .error k from by rw [← HS.out]; unfold getP; simp only [h1, h2, h3, h4, h5])
            refine (V.out).mono ?_
            rintro e w5 ⟨rfl, t5⟩
            go_wp2_with fail
            exact ⟨rfl, GetPost.er HK.out ⟨rfl, T4.out.trans t5 (by simp)⟩⟩
          | ok r5 =>
            obtain ⟨v5, l5⟩ := r5
            have V := Lib.hid (u32_Ok A4.out (by omega) h5)
            obtain ⟨hl5, hv5⟩ := u32P_len h5
            have cw : IntKind.u32.wrap (v5 : Int) = (v5 : Int) := by rw [IntKind.wrap_u32']; omega
            refine (V.out).mono ?_
            rintro e w5 ⟨rfl, a5, t5⟩
            have x5 := X4.out.carry t5 (by simp; omega)
            have fz := x5.fr
            have y4 := x5.cell 4
            have lt5 := x5.lt
            have ts := (Touch.refl [w.heap.size] w5).setCell (a := ⟨w.heap.size, 4, none⟩) (Or.inl (by simp)) (.int .u32 (v5 : Int))
            have A5 := Lib.hid (a5.carry ts (by simp; omega))
            have T5 := Lib.hid ((T4.out.trans t5 (by simp)).trans ts (by simp))
            have X5 := Lib.hid (show BoxV _ w.heap.size 78 #[.int .i64 (v1 : Int), .int .i64 (v2 : Int), .int .i64 v3, .int .i64 v4, .int .u32 (v5 : Int), .int .i64 0, .int .i64 0, .int .i64 0, .int .i64 0, .int .i64 0, .int .i64 0] from x5.set 4 (.int .u32 (v5 : Int)))
            clear x5 a5 t5 V A4 T4 X4 ts
            go_wp2_with fail
            clear fz y4 lt5
            generalize w5.setCell ⟨w.heap.size, 4, none⟩ (.int .u32 (v5 : Int)) = W5 at *
            cases h6 : statP l5 with
            | error k =>
              have V := Lib.hid ((stat_any A5.out (by omega)).mono (R' := Fails p _ k) (fun e w' q => by rw [h6] at q; exact q))
              have HK := Lib.hid (show R = .error k from by rw [← HS.out]; unfold getP; simp only [h1, h2, h3, h4, h5, h6])
              refine (V.out).mono ?_
              rintro e w6 ⟨rfl, t6⟩
              go_wp2_with fail
              exact ⟨rfl, GetPost.er HK.out ⟨rfl, T5.out.trans t6 (by simp)⟩⟩
            | ok r6 =>
              obtain ⟨v6, l6⟩ := r6
              have V := Lib.hid ((stat_any A5.out (by omega)).mono (R' := Reads p _ (.agg (statC v6)) l6) (fun e w' q => by rw [h6] at q; exact q))
              unfold statC at V
              have hl6 := (statP_len h6).1
              refine (V.out).mono ?_
              rintro e w6 ⟨rfl, a6, t6⟩
              have x6 := X5.out.carry t6 (by simp; omega)
              have fz := x6.fr
              have y5 := x6.cell 5
              have y6 := x6.cell 6
              have y7 := x6.cell 7
              have y8 := x6.cell 8
              have y9 := x6.cell 9
              have y10 := x6.cell 10
              have lt6 := x6.lt
              have ts := (((((((Touch.refl [w.heap.size] w6).setCell (a := ⟨w.heap.size, 5, none⟩) (Or.inl (by simp)) (.int .i64 (v6 0))).setCell (a := ⟨w.heap.size, 6, none⟩) (Or.inl (by simp)) (.int .i64 (v6 1))).setCell (a := ⟨w.heap.size, 7, none⟩) (Or.inl (by simp)) (.int .i64 (v6 2))).setCell (a := ⟨w.heap.size, 8, none⟩) (Or.inl (by simp)) (.int .i64 (v6 3))).setCell (a := ⟨w.heap.size, 9, none⟩) (Or.inl (by simp)) (.int .i64 (v6 4))).setCell (a := ⟨w.heap.size, 10, none⟩) (Or.inl (by simp)) (.int .i64 (v6 5)))
              have A6 := Lib.hid (a6.carry ts (by simp; omega))
              have T6 := Lib.hid ((T5.out.trans t6 (by simp)).trans ts (by simp))
              have X6 := Lib.hid (show BoxV _ w.heap.size 78 #[.int .i64 (v1 : Int), .int .i64 (v2 : Int), .int .i64 v3, .int .i64 v4, .int .u32 (v5 : Int), .int .i64 (v6 0), .int .i64 (v6 1), .int .i64 (v6 2), .int .i64 (v6 3), .int .i64 (v6 4), .int .i64 (v6 5)] from ((((((x6.set 5 (.int .i64 (v6 0))).set 6 (.int .i64 (v6 1))).set 7 (.int .i64 (v6 2))).set 8 (.int .i64 (v6 3))).set 9 (.int .i64 (v6 4))).set 10 (.int .i64 (v6 5))))
              clear x6 a6 t6 V A5 T5 X5 ts
              go_wp2_with fail
              clear fz  y5 y6 y7 y8 y9 y10 lt6
              generalize ((((((w6.setCell ⟨w.heap.size, 5, none⟩ (.int .i64 (v6 0))).setCell ⟨w.heap.size, 6, none⟩ (.int .i64 (v6 1))).setCell ⟨w.heap.size, 7, none⟩ (.int .i64 (v6 2))).setCell ⟨w.heap.size, 8, none⟩ (.int .i64 (v6 3))).setCell ⟨w.heap.size, 9, none⟩ (.int .i64 (v6 4))).setCell ⟨w.heap.size, 10, none⟩ (.int .i64 (v6 5))) = W6 at *
              by_cases h7 : l6 = []
              · subst h7
                have E := Lib.hid (end_yes A6.out)
                have HK := Lib.hid (show R = .ok ⟨(v1 : Int), (v2 : Int), v3, v4, v5, v6⟩ from by rw [← HS.out]; unfold getP; simp only [h1, h2, h3, h4, h5, h6, if_true])
                refine (E.out).mono ?_
                rintro e w7 ⟨rfl, rfl⟩
                have G6 := HG.out.carry T6.out (by simp; omega)
                have fg := G6.fr
                have y0 := X6.out.cell 0
                have y1 := X6.out.cell 1
                have y2 := X6.out.cell 2
                have y3 := X6.out.cell 3
                have y4 := X6.out.cell 4
                have y5 := X6.out.cell 5
                have y6 := X6.out.cell 6
                have y7 := X6.out.cell 7
                have y8 := X6.out.cell 8
                have y9 := X6.out.cell 9
                have y10 := X6.out.cell 10
                have lt6 := X6.out.lt
                have ltg := G6.lt
                obtain ⟨o0, o1, o2, o3, o4, o5, o6, o7, o8, o9, o10, rfl⟩ := arr11 hc
                have z0 := G6.cell 0
                have z1 := G6.cell 1
                have z2 := G6.cell 2
                have z3 := G6.cell 3
                have z4 := G6.cell 4
                have z5 := G6.cell 5
                have z6 := G6.cell 6
                have z7 := G6.cell 7
                have z8 := G6.cell 8
                have z9 := G6.cell 9
                have z10 := G6.cell 10
                have ts := Lib.hid ((((((((((((Touch.refl [g] w7).setCell (a := ⟨g, 0, none⟩) (Or.inl (by simp)) (.int .i64 (v1 : Int))).setCell (a := ⟨g, 1, none⟩) (Or.inl (by simp)) (.int .i64 (v2 : Int))).setCell (a := ⟨g, 2, none⟩) (Or.inl (by simp)) (.int .i64 v3)).setCell (a := ⟨g, 3, none⟩) (Or.inl (by simp)) (.int .i64 v4)).setCell (a := ⟨g, 4, none⟩) (Or.inl (by simp)) (.int .u32 (v5 : Int))).setCell (a := ⟨g, 5, none⟩) (Or.inl (by simp)) (.int .i64 (v6 0))).setCell (a := ⟨g, 6, none⟩) (Or.inl (by simp)) (.int .i64 (v6 1))).setCell (a := ⟨g, 7, none⟩) (Or.inl (by simp)) (.int .i64 (v6 2))).setCell (a := ⟨g, 8, none⟩) (Or.inl (by simp)) (.int .i64 (v6 3))).setCell (a := ⟨g, 9, none⟩) (Or.inl (by simp)) (.int .i64 (v6 4))).setCell (a := ⟨g, 10, none⟩) (Or.inl (by simp)) (.int .i64 (v6 5)))
                have g0 := show BoxV _ g 78 #[.int .i64 (v1 : Int), o1, o2, o3, o4, o5, o6, o7, o8, o9, o10] from G6.set 0 (.int .i64 (v1 : Int))
                have g1 := show BoxV _ g 78 #[.int .i64 (v1 : Int), .int .i64 (v2 : Int), o2, o3, o4, o5, o6, o7, o8, o9, o10] from g0.set 1 (.int .i64 (v2 : Int))
                have g2 := show BoxV _ g 78 #[.int .i64 (v1 : Int), .int .i64 (v2 : Int), .int .i64 v3, o3, o4, o5, o6, o7, o8, o9, o10] from g1.set 2 (.int .i64 v3)
                have g3 := show BoxV _ g 78 #[.int .i64 (v1 : Int), .int .i64 (v2 : Int), .int .i64 v3, .int .i64 v4, o4, o5, o6, o7, o8, o9, o10] from g2.set 3 (.int .i64 v4)
                have g4 := show BoxV _ g 78 #[.int .i64 (v1 : Int), .int .i64 (v2 : Int), .int .i64 v3, .int .i64 v4, .int .u32 (v5 : Int), o5, o6, o7, o8, o9, o10] from g3.set 4 (.int .u32 (v5 : Int))
                have g5 := show BoxV _ g 78 #[.int .i64 (v1 : Int), .int .i64 (v2 : Int), .int .i64 v3, .int .i64 v4, .int .u32 (v5 : Int), .int .i64 (v6 0), o6, o7, o8, o9, o10] from g4.set 5 (.int .i64 (v6 0))
                have g6 := show BoxV _ g 78 #[.int .i64 (v1 : Int), .int .i64 (v2 : Int), .int .i64 v3, .int .i64 v4, .int .u32 (v5 : Int), .int .i64 (v6 0), .int .i64 (v6 1), o7, o8, o9, o10] from g5.set 6 (.int .i64 (v6 1))
                have g7 := show BoxV _ g 78 #[.int .i64 (v1 : Int), .int .i64 (v2 : Int), .int .i64 v3, .int .i64 v4, .int .u32 (v5 : Int), .int .i64 (v6 0), .int .i64 (v6 1), .int .i64 (v6 2), o8, o9, o10] from g6.set 7 (.int .i64 (v6 2))
                have g8 := show BoxV _ g 78 #[.int .i64 (v1 : Int), .int .i64 (v2 : Int), .int .i64 v3, .int .i64 v4, .int .u32 (v5 : Int), .int .i64 (v6 0), .int .i64 (v6 1), .int .i64 (v6 2), .int .i64 (v6 3), o9, o10] from g7.set 8 (.int .i64 (v6 3))
                have g9 := show BoxV _ g 78 #[.int .i64 (v1 : Int), .int .i64 (v2 : Int), .int .i64 v3, .int .i64 v4, .int .u32 (v5 : Int), .int .i64 (v6 0), .int .i64 (v6 1), .int .i64 (v6 2), .int .i64 (v6 3), .int .i64 (v6 4), o10] from g8.set 9 (.int .i64 (v6 4))
                have g10 := show BoxV _ g 78 #[.int .i64 (v1 : Int), .int .i64 (v2 : Int), .int .i64 v3, .int .i64 v4, .int .u32 (v5 : Int), .int .i64 (v6 0), .int .i64 (v6 1), .int .i64 (v6 2), .int .i64 (v6 3), .int .i64 (v6 4), .int .i64 (v6 5)] from g9.set 10 (.int .i64 (v6 5))
                have G7 := Lib.hid g10
                clear g0 g1 g2 g3 g4 g5 g6 g7 g8 g9 g10
                clear G6
                go_wp2_with fail
                first | go_end0 | refine bodyPost_ret (results_none rfl _ _ _) rfl ?_
                exact GetPost.ok HK.out ⟨rfl, G7.out, (T6.out.mono (S' := [p, g]) (by simp)).trans ts.out (by simp)⟩
              · have E := Lib.hid (end_no A6.out h7)
                have HK := Lib.hid (show R = .error 4 from by rw [← HS.out]; unfold getP; simp only [h1, h2, h3, h4, h5, h6]; rw [if_neg h7])
                refine (E.out).mono ?_
                rintro e w7 ⟨rfl, t7⟩
                go_wp2_with fail
                exact ⟨rfl, GetPost.er HK.out ⟨rfl, T6.out.trans t7 (by simp)⟩⟩
end Go.Proofs.Ytfeeaokeomcafaa
