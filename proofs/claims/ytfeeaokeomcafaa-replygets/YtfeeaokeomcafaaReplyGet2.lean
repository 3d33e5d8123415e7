/-
  reply's Get, shift and Shift (layer 39).
-/
import Derived.Test.YtfeeaokeomcafaaReplyGet1
import Derived.Test.YtfeeaokeomcafaaReplyRef
import Derived.Deep.Cut
namespace Go.Proofs.Ytfeeaokeomcafaa
open Go.ChangeShapes Go.WideShapes Go.ChangeAt Go.RowKit Go.Deep
set_option linter.unusedVariables false
set_option linter.unusedSimpArgs false

def getR (l : List UInt8) : Rep := match getP l with | .ok r => r | .error _ => badRep 0
def getE (l : List UInt8) : Int := match getP l with | .ok _ => 0 | .error k => k
theorem getP_ok {l : List UInt8} {r : Rep} (h : getP l = .ok r) : r.Ok := by
  unfold getP at h
  cases h1 : u8P l with
  | error k => simp [h1] at h
  | ok r1 =>
    obtain ⟨v1, l1⟩ := r1
    cases h2 : u8P l1 with
    | error k => simp [h1, h2] at h
    | ok r2 =>
      obtain ⟨v2, l2⟩ := r2
      cases h3 : varP l2 with
      | error k => simp [h1, h2, h3] at h
      | ok r3 =>
        obtain ⟨v3, l3⟩ := r3
        cases h4 : varP l3 with
        | error k => simp [h1, h2, h3, h4] at h
        | ok r4 =>
          obtain ⟨v4, l4⟩ := r4
          cases h5 : u32P l4 with
          | error k => simp [h1, h2, h3, h4, h5] at h
          | ok r5 =>
            obtain ⟨v5, l5⟩ := r5
            cases h6 : statP l5 with
            | error k => simp [h1, h2, h3, h4, h5, h6] at h
            | ok r6 =>
              obtain ⟨v6, l6⟩ := r6
              simp only [h1, h2, h3, h4, h5, h6] at h
              split at h
              · simp only [Except.ok.injEq] at h
                subst h
                have := (u8P_len h1).2
                have := (u8P_len h2).2
                exact ⟨by unfold fitI; simp only; omega, by unfold fitI; simp only; omega, varP_fit h3, varP_fit h4, (u32P_len h5).2, (statP_len h6).2⟩
              · cases h
theorem getR_ok (l : List UInt8) : (getR l).Ok := by
  unfold getR
  split
  · rename_i h; exact getP_ok h
  · exact badRep_ok 0 (by unfold fitI; omega)
theorem entG1 (args : Array Value) (w : World) : (callFunc 96 args).run Try.prog w = .ok (.enter 96 args) w := by
  simp [callFunc, Try.func96]
  rfl

def getW (w : World) : World := (w.alloc (.cells #[.int .i64 0, .int .i64 0, .int .i64 0, .int .i64 0, .int .u32 0, .int .i64 0, .int .i64 0, .int .i64 0, .int .i64 0, .int .i64 0, .int .i64 0] 78)).alloc (.cells #[.int .i64 0, .int .i64 0, .int .i64 0, .int .i64 0, .int .u32 0, .int .i64 0, .int .i64 0, .int .i64 0, .int .i64 0, .int .i64 0, .int .i64 0] 78)
set_option maxRecDepth 100000 in
theorem getTry (w : World) (l : List UInt8) (hl : l.length ≤ 1000000000) :
    Calls Try.prog 15 #[.string (S l), .func (.func 96) #[] #[.pointer (some ⟨w.heap.size + 1, 0, none⟩)]] (getW w) fun e w' =>
      e = .returned (.int .i64 (getE l)) ∧ BoxV w' w.heap.size 78 #[.int .i64 0, .int .i64 0, .int .i64 0, .int .i64 0, .int .u32 0, .int .i64 0, .int .i64 0, .int .i64 0, .int .i64 0, .int .i64 0, .int .i64 0] ∧ BoxV w' (w.heap.size + 1) 78 (getR l).cells ∧ Touch [] w w' := by
  have hsz : (getW w).heap.size = w.heap.size + 2 := by simp [getW]
  have TW : Touch [] w (getW w) := ((Touch.refl [] w).alloc _).alloc _
  have B0 : BoxV (getW w) w.heap.size 78 #[.int .i64 0, .int .i64 0, .int .i64 0, .int .i64 0, .int .u32 0, .int .i64 0, .int .i64 0, .int .i64 0, .int .i64 0, .int .i64 0, .int .i64 0] := (BoxV.new w _ _).carry ((Touch.refl [] _).alloc _) (by simp)
  have B1 : BoxV (getW w) (w.heap.size + 1) 78 #[.int .i64 0, .int .i64 0, .int .i64 0, .int .i64 0, .int .u32 0, .int .i64 0, .int .i64 0, .int .i64 0, .int .i64 0, .int .i64 0, .int .i64 0] := by
    have := BoxV.new (w.alloc (.cells #[.int .i64 0, .int .i64 0, .int .i64 0, .int .i64 0, .int .u32 0, .int .i64 0, .int .i64 0, .int .i64 0, .int .i64 0, .int .i64 0, .int .i64 0] 78)) 78 #[.int .i64 0, .int .i64 0, .int .i64 0, .int .i64 0, .int .u32 0, .int .i64 0, .int .i64 0, .int .i64 0, .int .i64 0, .int .i64 0, .int .i64 0]
    rwa [show (w.alloc (.cells #[.int .i64 0, .int .i64 0, .int .i64 0, .int .i64 0, .int .u32 0, .int .i64 0, .int .i64 0, .int .i64 0, .int .i64 0, .int .i64 0, .int .i64 0] 78)).heap.size = w.heap.size + 1 by simp] at this
  have tt : Touch [] (getW w) (tryW (getW w) (S l)) := (((Touch.refl [] _).alloc _).alloc _).alloc _
  have hat := tryAt (getW w) l
  rw [hsz] at hat
  have key := try_any (s := S l) (k := 96) (cap := #[.pointer (some ⟨w.heap.size + 1, 0, none⟩)]) (w := getW w) (S := [w.heap.size + 2 + 1, w.heap.size + 1]) (Q := fun er w' => er = getE l ∧ BoxV w' (w.heap.size + 1) 78 (getR l).cells)
    (by rw [hsz]; intro b hb; simp at hb; omega) entG1 (by
      rw [hsz]
      refine (get1_any hat hl (B1.carry tt (by simp)) rfl (by omega)).mono ?_
      intro e w' q
      unfold GetPost at q
      unfold getE getR
      cases hp : getP l with
      | ok r =>
        rw [hp] at q
        obtain ⟨q1, q2, q3⟩ := q
        exact ⟨q3, Or.inl ⟨q1, rfl, q2⟩⟩
      | error k =>
        rw [hp] at q
        obtain ⟨q1, q2⟩ := q
        exact ⟨q2.mono (by simp), Or.inr ⟨k, q1, rfl, (B1.carry tt (by simp)).carry q2 (by simp)⟩⟩)
  rw [hsz] at key
  refine key.mono ?_
  rintro e w2 ⟨er, w1, rfl, ⟨rfl, q⟩, t1, t2⟩
  refine ⟨rfl, (B0.carry t1 (by simp; omega)).carry t2 (by simp), q.carry t2 (by simp), ?_⟩
  exact (TW.trans t1 (by intro b hb; simp at hb; omega)).trans t2 (by intro b hb; simp at hb; omega)

set_option maxHeartbeats 2000000 in
set_option maxRecDepth 100000 in
theorem replyGet (l : List UInt8) (hl : l.length ≤ 1000000000) (w : World) :
    Calls Try.prog 53 #[.string (S l)] w fun e w' => e = .returned (.tuple #[.agg (getR l).cells, .int .i64 (getE l)]) ∧ Touch [] w w' := by
  have hmf : ∀ (fn : Fn) (first cap : Array Value) (w : World), (Instr.makeFunc fn first cap).run Try.prog w = .ok (.func fn first cap) w := fun _ _ _ _ => rfl
  have K := Lib.hid (getTry w l hl)
  unfold getW at K
  generalize getR l = R at *
  generalize getE l = E at *
  unfold Rep.cells at *
  go_enter Try.func53, Try.ntmps53
  go_wp2_with fail
  refine (K.out).mono ?_
  rintro e w1 ⟨rfl, x0, x1, t1⟩
  have T1 := Lib.hid t1
  have fz := x0.fr
  have lt0 := x0.lt
  have lt1 := x1.lt
  have y0 := x0.cell 0
  have z0 := x1.cell 0
  have y1 := x0.cell 1
  have z1 := x1.cell 1
  have y2 := x0.cell 2
  have z2 := x1.cell 2
  have y3 := x0.cell 3
  have z3 := x1.cell 3
  have y4 := x0.cell 4
  have z4 := x1.cell 4
  have y5 := x0.cell 5
  have z5 := x1.cell 5
  have y6 := x0.cell 6
  have z6 := x1.cell 6
  have y7 := x0.cell 7
  have z7 := x1.cell 7
  have y8 := x0.cell 8
  have z8 := x1.cell 8
  have y9 := x0.cell 9
  have z9 := x1.cell 9
  have y10 := x0.cell 10
  have z10 := x1.cell 10
  have g0 := show BoxV _ w.heap.size 78 #[.int .i64 R.op, .int .i64 0, .int .i64 0, .int .i64 0, .int .u32 0, .int .i64 0, .int .i64 0, .int .i64 0, .int .i64 0, .int .i64 0, .int .i64 0] from x0.set 0 (.int .i64 R.op)
  have g1 := show BoxV _ w.heap.size 78 #[.int .i64 R.op, .int .i64 R.err, .int .i64 0, .int .i64 0, .int .u32 0, .int .i64 0, .int .i64 0, .int .i64 0, .int .i64 0, .int .i64 0, .int .i64 0] from g0.set 1 (.int .i64 R.err)
  have g2 := show BoxV _ w.heap.size 78 #[.int .i64 R.op, .int .i64 R.err, .int .i64 R.ver, .int .i64 0, .int .u32 0, .int .i64 0, .int .i64 0, .int .i64 0, .int .i64 0, .int .i64 0, .int .i64 0] from g1.set 2 (.int .i64 R.ver)
  have g3 := show BoxV _ w.heap.size 78 #[.int .i64 R.op, .int .i64 R.err, .int .i64 R.ver, .int .i64 R.cnt, .int .u32 0, .int .i64 0, .int .i64 0, .int .i64 0, .int .i64 0, .int .i64 0, .int .i64 0] from g2.set 3 (.int .i64 R.cnt)
  have g4 := show BoxV _ w.heap.size 78 #[.int .i64 R.op, .int .i64 R.err, .int .i64 R.ver, .int .i64 R.cnt, .int .u32 (R.sum : Int), .int .i64 0, .int .i64 0, .int .i64 0, .int .i64 0, .int .i64 0, .int .i64 0] from g3.set 4 (.int .u32 (R.sum : Int))
  have g5 := show BoxV _ w.heap.size 78 #[.int .i64 R.op, .int .i64 R.err, .int .i64 R.ver, .int .i64 R.cnt, .int .u32 (R.sum : Int), .int .i64 (R.st 0), .int .i64 0, .int .i64 0, .int .i64 0, .int .i64 0, .int .i64 0] from g4.set 5 (.int .i64 (R.st 0))
  have g6 := show BoxV _ w.heap.size 78 #[.int .i64 R.op, .int .i64 R.err, .int .i64 R.ver, .int .i64 R.cnt, .int .u32 (R.sum : Int), .int .i64 (R.st 0), .int .i64 (R.st 1), .int .i64 0, .int .i64 0, .int .i64 0, .int .i64 0] from g5.set 6 (.int .i64 (R.st 1))
  have g7 := show BoxV _ w.heap.size 78 #[.int .i64 R.op, .int .i64 R.err, .int .i64 R.ver, .int .i64 R.cnt, .int .u32 (R.sum : Int), .int .i64 (R.st 0), .int .i64 (R.st 1), .int .i64 (R.st 2), .int .i64 0, .int .i64 0, .int .i64 0] from g6.set 7 (.int .i64 (R.st 2))
  have g8 := show BoxV _ w.heap.size 78 #[.int .i64 R.op, .int .i64 R.err, .int .i64 R.ver, .int .i64 R.cnt, .int .u32 (R.sum : Int), .int .i64 (R.st 0), .int .i64 (R.st 1), .int .i64 (R.st 2), .int .i64 (R.st 3), .int .i64 0, .int .i64 0] from g7.set 8 (.int .i64 (R.st 3))
  have g9 := show BoxV _ w.heap.size 78 #[.int .i64 R.op, .int .i64 R.err, .int .i64 R.ver, .int .i64 R.cnt, .int .u32 (R.sum : Int), .int .i64 (R.st 0), .int .i64 (R.st 1), .int .i64 (R.st 2), .int .i64 (R.st 3), .int .i64 (R.st 4), .int .i64 0] from g8.set 9 (.int .i64 (R.st 4))
  have g10 := show BoxV _ w.heap.size 78 #[.int .i64 R.op, .int .i64 R.err, .int .i64 R.ver, .int .i64 R.cnt, .int .u32 (R.sum : Int), .int .i64 (R.st 0), .int .i64 (R.st 1), .int .i64 (R.st 2), .int .i64 (R.st 3), .int .i64 (R.st 4), .int .i64 (R.st 5)] from g9.set 10 (.int .i64 (R.st 5))
  have ts := Lib.hid ((((((((((((Touch.refl [w.heap.size] w1).setCell (a := ⟨w.heap.size, 0, none⟩) (Or.inl (by simp)) (.int .i64 R.op)).setCell (a := ⟨w.heap.size, 1, none⟩) (Or.inl (by simp)) (.int .i64 R.err)).setCell (a := ⟨w.heap.size, 2, none⟩) (Or.inl (by simp)) (.int .i64 R.ver)).setCell (a := ⟨w.heap.size, 3, none⟩) (Or.inl (by simp)) (.int .i64 R.cnt)).setCell (a := ⟨w.heap.size, 4, none⟩) (Or.inl (by simp)) (.int .u32 (R.sum : Int))).setCell (a := ⟨w.heap.size, 5, none⟩) (Or.inl (by simp)) (.int .i64 (R.st 0))).setCell (a := ⟨w.heap.size, 6, none⟩) (Or.inl (by simp)) (.int .i64 (R.st 1))).setCell (a := ⟨w.heap.size, 7, none⟩) (Or.inl (by simp)) (.int .i64 (R.st 2))).setCell (a := ⟨w.heap.size, 8, none⟩) (Or.inl (by simp)) (.int .i64 (R.st 3))).setCell (a := ⟨w.heap.size, 9, none⟩) (Or.inl (by simp)) (.int .i64 (R.st 4))).setCell (a := ⟨w.heap.size, 10, none⟩) (Or.inl (by simp)) (.int .i64 (R.st 5)))
  have G := Lib.hid g10
  clear x0 x1 t1 K g0 g1 g2 g3 g4 g5 g6 g7 g8 g9 g10
  go_wp2_with fail
  have d0 := G.out.cell 0
  have d1 := G.out.cell 1
  have d2 := G.out.cell 2
  have d3 := G.out.cell 3
  have d4 := G.out.cell 4
  have d5 := G.out.cell 5
  have d6 := G.out.cell 6
  have d7 := G.out.cell 7
  have d8 := G.out.cell 8
  have d9 := G.out.cell 9
  have d10 := G.out.cell 10
  refine bodyPost_ret (v := .tuple #[.agg #[.int .i64 R.op, .int .i64 R.err, .int .i64 R.ver, .int .i64 R.cnt, .int .u32 (R.sum : Int), .int .i64 (R.st 0), .int .i64 (R.st 1), .int .i64 (R.st 2), .int .i64 (R.st 3), .int .i64 (R.st 4), .int .i64 (R.st 5)], .int .i64 E]) (by simp [results, Try.results53, go_sem, d0, d1, d2, d3, d4, d5, d6, d7, d8, d9, d10]) rfl ?_
  exact ⟨rfl, T1.out.trans ts.out (by intro b hb; simp at hb; omega)⟩
end Go.Proofs.Ytfeeaokeomcafaa
