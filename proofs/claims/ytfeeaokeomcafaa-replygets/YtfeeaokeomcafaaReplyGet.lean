/-
  reply's stat and Get (layer 39), by readers of bytes that may fail.
-/
import Derived.Test.YtfeeaokeomcafaaVarBack
import Derived.Test.YtfeeaokeomcafaaReply
import Derived.Deep.Cut
namespace Go.Proofs.Ytfeeaokeomcafaa
open Go.ChangeShapes Go.WideShapes Go.ChangeAt Go.RowKit Go.Deep
set_option linter.unusedVariables false
set_option linter.unusedSimpArgs false

/-- A block of its own with those cells. -/
def BoxV (w : World) (b : Nat) (t : TypeId) (cs : Array Value) : Prop := w.heap[b]? = some (.cells cs t (0, 0))
section
variable {w w' : World} {b : Nat} {t : TypeId} {cs : Array Value}
theorem BoxV.lt (h : BoxV w b t cs) : b < w.heap.size := (Array.getElem?_eq_some_iff.1 h).1
theorem BoxV.cell (h : BoxV w b t cs) (i : Nat) : w.cell? ⟨b, i, none⟩ = cs[i]? := cell_of_row w b i _ t (0, 0) h
theorem BoxV.fr (h : BoxV w b t cs) (i : Nat) : w.frozen? ⟨b, i, none⟩ = false := frozen_of_row w b i _ t h
theorem BoxV.carry {S : List Nat} (h : BoxV w b t cs) (k : Touch S w w') (hb : b ∉ S) : BoxV w' b t cs := (k.block b h.lt hb).trans h
theorem BoxV.set (h : BoxV w b t cs) (i : Nat) (v : Value) : BoxV (w.setCell ⟨b, i, none⟩ v) b t (cs.setIfInBounds i v) := heap_setCell_same w b i _ t v h
theorem BoxV.new (w : World) (t : TypeId) (cs : Array Value) : BoxV (w.alloc (.cells cs t)) w.heap.size t cs := heap_alloc_new w _
end

/-- What a reader makes of bytes: an error, or a value and the bytes behind it. -/
def u8P : List UInt8 → Except Int (Nat × List UInt8)
  | [] => .error 5
  | b :: m => .ok (b.toNat, m)
def varP (l : List UInt8) : Except Int (Int × List UInt8) := if varE l = 0 then .ok (varV l, l.drop (lead l + 1)) else .error (varE l)
def u32P (l : List UInt8) : Except Int (Nat × List UInt8) := if 4 ≤ l.length then .ok (num (l.take 4), l.drop 4) else .error 5
theorem varP_len {l m : List UInt8} {v : Int} (h : varP l = .ok (v, m)) : m.length ≤ l.length := by
  unfold varP at h
  split at h
  · simp only [Except.ok.injEq, Prod.mk.injEq] at h
    rw [← h.2, List.length_drop]
    omega
  · cases h
theorem varP_fit {l m : List UInt8} {v : Int} (h : varP l = .ok (v, m)) : fitI v := by
  unfold varP at h
  split at h
  · rename_i h0
    simp only [Except.ok.injEq, Prod.mk.injEq] at h
    rw [← h.1]
    exact varV_fit l h0
  · cases h
section
variable {w : World} {p : Nat} {l : List UInt8}
theorem var_ok {v : Int} {m : List UInt8} (h : At w p l) (hl : l.length ≤ 1000000000) (hv : varP l = .ok (v, m)) : Calls Try.prog 34 #[.pointer (some ⟨p, 0, none⟩)] w (Reads p w (.int .i64 v) m) := by
  unfold varP at hv
  split at hv
  · rename_i h0
    simp only [Except.ok.injEq, Prod.mk.injEq] at hv
    obtain ⟨rfl, rfl⟩ := hv
    exact (var_any h hl).mono fun e w' q => q.1 h0
  · cases hv
theorem var_er {k : Int} (h : At w p l) (hl : l.length ≤ 1000000000) (hv : varP l = .error k) : Calls Try.prog 34 #[.pointer (some ⟨p, 0, none⟩)] w (Fails p w k) := by
  unfold varP at hv
  split at hv
  · cases hv
  · rename_i h0
    simp only [Except.error.injEq] at hv
    subst hv
    exact (var_any h hl).mono fun e w' q => q.2 h0
end
def statP (l : List UInt8) : Except Int ((Nat → Int) × List UInt8) :=
  match varP l with
  | .error k => .error k
  | .ok (a0, l1) => match varP l1 with
    | .error k => .error k
    | .ok (a1, l2) => match varP l2 with
      | .error k => .error k
      | .ok (a2, l3) => match varP l3 with
        | .error k => .error k
        | .ok (a3, l4) => match varP l4 with
          | .error k => .error k
          | .ok (a4, l5) => match varP l5 with
            | .error k => .error k
            | .ok (a5, l6) => .ok ((fun k => if k = 0 then a0 else if k = 1 then a1 else if k = 2 then a2 else if k = 3 then a3 else if k = 4 then a4 else a5), l6)
def statC (s : Nat → Int) : Array Value := #[.int .i64 (s 0), .int .i64 (s 1), .int .i64 (s 2), .int .i64 (s 3), .int .i64 (s 4), .int .i64 (s 5)]
/-- What a reader of bytes does. -/
def Post {α : Type} (p : Nat) (w : World) (r : Except Int (α × List UInt8)) (f : α → Value) (e : Ending) (w' : World) : Prop :=
  match r with
  | .ok (a, m) => Reads p w (f a) m e w'
  | .error k => Fails p w k e w'
theorem Post.ok {α : Type} {p : Nat} {w w' : World} {r : Except Int (α × List UInt8)} {f : α → Value} {e : Ending} {a : α} {m : List UInt8} (h : r = .ok (a, m)) (q : Reads p w (f a) m e w') : Post p w r f e w' := by subst h; exact q
theorem Post.er {α : Type} {p : Nat} {w w' : World} {r : Except Int (α × List UInt8)} {f : α → Value} {e : Ending} {k : Int} (h : r = .error k) (q : Fails p w k e w') : Post p w r f e w' := by subst h; exact q

set_option maxHeartbeats 2000000 in
set_option maxRecDepth 100000 in
theorem stat_any {w : World} {p : Nat} {l : List UInt8} (h : At w p l) (hl : l.length ≤ 1000000000) :
    Calls Try.prog 97 #[.pointer (some ⟨p, 0, none⟩)] w (Post p w (statP l) (fun s => .agg (statC s))) := by
  have hp := h.lt
  have t0 := (Touch.refl [p] w).alloc (.cells #[.int .i64 0, .int .i64 0, .int .i64 0, .int .i64 0, .int .i64 0, .int .i64 0] 76)
  have x0 := BoxV.new w 76 #[.int .i64 0, .int .i64 0, .int .i64 0, .int .i64 0, .int .i64 0, .int .i64 0]
  have a0 := h.carry ((Touch.refl [] w).alloc (.cells #[.int .i64 0, .int .i64 0, .int .i64 0, .int .i64 0, .int .i64 0, .int .i64 0] 76)) (by simp)
  have T0 := Lib.hid t0
  have X0 := Lib.hid x0
  have A0 := Lib.hid a0
  clear h t0 x0 a0
  generalize hS : statP l = R at *
  have HS := Lib.hid hS
  clear hS
  cases h1 : varP l with
  | error k =>
    have V := Lib.hid (var_er A0.out (by omega) h1)
    have HK := Lib.hid (show R = .error k from by rw [← HS.out]; unfold statP; simp only [h1])
    go_enter Try.func97, Try.ntmps97
    go_wp2_with fail
    refine (V.out).mono ?_
    rintro e w1 ⟨rfl, t1⟩
    go_wp2_with fail
    exact ⟨rfl, Post.er HK.out ⟨rfl, T0.out.trans t1 (by simp)⟩⟩
  | ok r1 =>
    obtain ⟨v1, l1⟩ := r1
    have V := Lib.hid (var_ok A0.out (by omega) h1)
    have hl1 := varP_len h1
    go_enter Try.func97, Try.ntmps97
    go_wp2_with fail
    refine (V.out).mono ?_
    rintro e w1 ⟨rfl, a1, t1⟩
    have A1 := Lib.hid a1
    have T1 := Lib.hid (T0.out.trans t1 (by simp))
    have X1 := Lib.hid (X0.out.carry t1 (by simp; omega))
    clear a1 t1 V A0 T0 X0
    cases h2 : varP l1 with
    | error k =>
      have V := Lib.hid (var_er A1.out (by omega) h2)
      have HK := Lib.hid (show R = .error k from by rw [← HS.out]; unfold statP; simp only [h1, h2])
      go_wp2_with fail
      refine (V.out).mono ?_
      rintro e w2 ⟨rfl, t2⟩
      go_wp2_with fail
      exact ⟨rfl, Post.er HK.out ⟨rfl, T1.out.trans t2 (by simp)⟩⟩
    | ok r2 =>
      obtain ⟨v2, l2⟩ := r2
      have V := Lib.hid (var_ok A1.out (by omega) h2)
      have hl2 := varP_len h2
      go_wp2_with fail
      refine (V.out).mono ?_
      rintro e w2 ⟨rfl, a2, t2⟩
      have x2 := X1.out.carry t2 (by simp; omega)
      have fz := x2.fr
      have y0 := x2.cell 0
      have y1 := x2.cell 1
      have lt2 := x2.lt
      have ts := ((Touch.refl [w.heap.size] w2).setCell (a := ⟨w.heap.size, 0, none⟩) (Or.inl (by simp)) (.int .i64 v1)).setCell (a := ⟨w.heap.size, 1, none⟩) (Or.inl (by simp)) (.int .i64 v2)
      have A2 := Lib.hid (a2.carry ts (by simp; omega))
      have T2 := Lib.hid ((T1.out.trans t2 (by simp)).trans ts (by simp))
      have X2 := Lib.hid (show BoxV _ w.heap.size 76 #[.int .i64 v1, .int .i64 v2, .int .i64 0, .int .i64 0, .int .i64 0, .int .i64 0] from (x2.set 0 (.int .i64 v1)).set 1 (.int .i64 v2))
      clear x2 a2 t2 V A1 T1 X1 ts
      go_wp2_with fail
      clear fz y0 y1 lt2
      generalize (w2.setCell ⟨w.heap.size, 0, none⟩ (.int .i64 v1)).setCell ⟨w.heap.size, 1, none⟩ (.int .i64 v2) = W2 at *
      cases h3 : varP l2 with
      | error k =>
        have V := Lib.hid (var_er A2.out (by omega) h3)
        have HK := Lib.hid (show R = .error k from by rw [← HS.out]; unfold statP; simp only [h1, h2, h3])
        refine (V.out).mono ?_
        rintro e w3 ⟨rfl, t3⟩
        go_wp2_with fail
        exact ⟨rfl, Post.er HK.out ⟨rfl, T2.out.trans t3 (by simp)⟩⟩
      | ok r3 =>
        obtain ⟨v3, l3⟩ := r3
        have V := Lib.hid (var_ok A2.out (by omega) h3)
        have hl3 := varP_len h3
        refine (V.out).mono ?_
        rintro e w3 ⟨rfl, a3, t3⟩
        have A3 := Lib.hid a3
        have T3 := Lib.hid (T2.out.trans t3 (by simp))
        have X3 := Lib.hid (X2.out.carry t3 (by simp; omega))
        clear a3 t3 V A2 T2 X2
        cases h4 : varP l3 with
        | error k =>
          have V := Lib.hid (var_er A3.out (by omega) h4)
          have HK := Lib.hid (show R = .error k from by rw [← HS.out]; unfold statP; simp only [h1, h2, h3, h4])
          go_wp2_with fail
          refine (V.out).mono ?_
          rintro e w4 ⟨rfl, t4⟩
          go_wp2_with fail
          exact ⟨rfl, Post.er HK.out ⟨rfl, T3.out.trans t4 (by simp)⟩⟩
        | ok r4 =>
          obtain ⟨v4, l4⟩ := r4
          have V := Lib.hid (var_ok A3.out (by omega) h4)
          have hl4 := varP_len h4
          go_wp2_with fail
          refine (V.out).mono ?_
          rintro e w4 ⟨rfl, a4, t4⟩
          have x4 := X3.out.carry t4 (by simp; omega)
          have fz := x4.fr
          have y2 := x4.cell 2
          have y3 := x4.cell 3
          have lt4 := x4.lt
          have ts := ((Touch.refl [w.heap.size] w4).setCell (a := ⟨w.heap.size, 2, none⟩) (Or.inl (by simp)) (.int .i64 v3)).setCell (a := ⟨w.heap.size, 3, none⟩) (Or.inl (by simp)) (.int .i64 v4)
          have A4 := Lib.hid (a4.carry ts (by simp; omega))
          have T4 := Lib.hid ((T3.out.trans t4 (by simp)).trans ts (by simp))
          have X4 := Lib.hid (show BoxV _ w.heap.size 76 #[.int .i64 v1, .int .i64 v2, .int .i64 v3, .int .i64 v4, .int .i64 0, .int .i64 0] from (x4.set 2 (.int .i64 v3)).set 3 (.int .i64 v4))
          clear x4 a4 t4 V A3 T3 X3 ts
          go_wp2_with fail
          clear fz y2 y3 lt4
          generalize (w4.setCell ⟨w.heap.size, 2, none⟩ (.int .i64 v3)).setCell ⟨w.heap.size, 3, none⟩ (.int .i64 v4) = W4 at *
          cases h5 : varP l4 with
          | error k =>
            have V := Lib.hid (var_er A4.out (by omega) h5)
            have HK := Lib.hid (show R = .error k from by rw [← HS.out]; unfold statP; simp only [h1, h2, h3, h4, h5])
            refine (V.out).mono ?_
            rintro e w5 ⟨rfl, t5⟩
            go_wp2_with fail
            exact ⟨rfl, Post.er HK.out ⟨rfl, T4.out.trans t5 (by simp)⟩⟩
          | ok r5 =>
            obtain ⟨v5, l5⟩ := r5
            have V := Lib.hid (var_ok A4.out (by omega) h5)
            have hl5 := varP_len h5
            refine (V.out).mono ?_
            rintro e w5 ⟨rfl, a5, t5⟩
            have A5 := Lib.hid a5
            have T5 := Lib.hid (T4.out.trans t5 (by simp))
            have X5 := Lib.hid (X4.out.carry t5 (by simp; omega))
            clear a5 t5 V A4 T4 X4
            cases h6 : varP l5 with
            | error k =>
              have V := Lib.hid (var_er A5.out (by omega) h6)
              have HK := Lib.hid (show R = .error k from by rw [← HS.out]; unfold statP; simp only [h1, h2, h3, h4, h5, h6])
              go_wp2_with fail
              refine (V.out).mono ?_
              rintro e w6 ⟨rfl, t6⟩
              go_wp2_with fail
              exact ⟨rfl, Post.er HK.out ⟨rfl, T5.out.trans t6 (by simp)⟩⟩
            | ok r6 =>
              obtain ⟨v6, l6⟩ := r6
              have V := Lib.hid (var_ok A5.out (by omega) h6)
              have hl6 := varP_len h6
              go_wp2_with fail
              refine (V.out).mono ?_
              rintro e w6 ⟨rfl, a6, t6⟩
              have x6 := X5.out.carry t6 (by simp; omega)
              have fz := x6.fr
              have y4 := x6.cell 4
              have y5 := x6.cell 5
              have lt6 := x6.lt
              have ts := ((Touch.refl [w.heap.size] w6).setCell (a := ⟨w.heap.size, 4, none⟩) (Or.inl (by simp)) (.int .i64 v5)).setCell (a := ⟨w.heap.size, 5, none⟩) (Or.inl (by simp)) (.int .i64 v6)
              have A6 := Lib.hid (a6.carry ts (by simp; omega))
              have T6 := Lib.hid ((T5.out.trans t6 (by simp)).trans ts (by simp))
              have X6 := Lib.hid (show BoxV _ w.heap.size 76 #[.int .i64 v1, .int .i64 v2, .int .i64 v3, .int .i64 v4, .int .i64 v5, .int .i64 v6] from (x6.set 4 (.int .i64 v5)).set 5 (.int .i64 v6))
              clear x6 a6 t6 V A5 T5 X5 ts
              go_upto_region 4 with fail
              clear fz y4 y5 lt6
              generalize (w6.setCell ⟨w.heap.size, 4, none⟩ (.int .i64 v5)).setCell ⟨w.heap.size, 5, none⟩ (.int .i64 v6) = W6 at *
              have fz := X6.out.fr
              have y0 := X6.out.cell 0
              have y1 := X6.out.cell 1
              have y2 := X6.out.cell 2
              have y3 := X6.out.cell 3
              have y4 := X6.out.cell 4
              have y5 := X6.out.cell 5
              have lt6 := X6.out.lt
              go_wp2_with fail
              have ts := (((((((Touch.refl [w.heap.size] W6).setCell (a := ⟨w.heap.size, 0, none⟩) (Or.inl (by simp)) (.int .i64 v1)).setCell (a := ⟨w.heap.size, 1, none⟩) (Or.inl (by simp)) (.int .i64 v2)).setCell (a := ⟨w.heap.size, 2, none⟩) (Or.inl (by simp)) (.int .i64 v3)).setCell (a := ⟨w.heap.size, 3, none⟩) (Or.inl (by simp)) (.int .i64 v4)).setCell (a := ⟨w.heap.size, 4, none⟩) (Or.inl (by simp)) (.int .i64 v5)).setCell (a := ⟨w.heap.size, 5, none⟩) (Or.inl (by simp)) (.int .i64 v6))
              have X7 := show BoxV _ w.heap.size 76 #[.int .i64 v1, .int .i64 v2, .int .i64 v3, .int .i64 v4, .int .i64 v5, .int .i64 v6] from ((((((X6.out.set 0 (.int .i64 v1)).set 1 (.int .i64 v2)).set 2 (.int .i64 v3)).set 3 (.int .i64 v4)).set 4 (.int .i64 v5)).set 5 (.int .i64 v6))
              have d0 := X7.cell 0
              have d1 := X7.cell 1
              have d2 := X7.cell 2
              have d3 := X7.cell 3
              have d4 := X7.cell 4
              have d5 := X7.cell 5
              have A7 := A6.out.carry ts (by simp; omega)
              have T7 := T6.out.trans ts (by simp)
              refine bodyPost_ret (v := .agg #[.int .i64 v1, .int .i64 v2, .int .i64 v3, .int .i64 v4, .int .i64 v5, .int .i64 v6]) (by simp [results, Try.results97, go_sem, d0, d1, d2, d3, d4, d5]) rfl ?_
              exact Post.ok (a := fun k => if k = 0 then v1 else if k = 1 then v2 else if k = 2 then v3 else if k = 3 then v4 else if k = 4 then v5 else v6) (m := l6) (by rw [← HS.out]; unfold statP; simp only [h1, h2, h3, h4, h5, h6]) ⟨rfl, A7, T7⟩

theorem u8_Ok {w : World} {p : Nat} {l m : List UInt8} {v : Nat} (h : At w p l) (hl : l.length ≤ 1000000000) (hv : u8P l = .ok (v, m)) : Calls Try.prog 68 #[.pointer (some ⟨p, 0, none⟩)] w (Reads p w (.int .i64 (v : Int)) m) := by
  cases l with
  | nil => simp [u8P] at hv
  | cons b l =>
    simp only [u8P, Except.ok.injEq, Prod.mk.injEq] at hv
    obtain ⟨rfl, rfl⟩ := hv
    exact u8_ok h (by simp at hl; omega)
theorem u8_Er {w : World} {p : Nat} {l : List UInt8} {k : Int} (h : At w p l) (hv : u8P l = .error k) : Calls Try.prog 68 #[.pointer (some ⟨p, 0, none⟩)] w (Fails p w k) := by
  cases l with
  | nil =>
    simp only [u8P, Except.error.injEq] at hv
    subst hv
    exact u8_short h
  | cons b l => simp [u8P] at hv
theorem u32_Ok {w : World} {p : Nat} {l m : List UInt8} {v : Nat} (h : At w p l) (hl : l.length ≤ 1000000000) (hv : u32P l = .ok (v, m)) : Calls Try.prog 69 #[.pointer (some ⟨p, 0, none⟩)] w (Reads p w (.int .i64 (v : Int)) m) := by
  unfold u32P at hv
  split at hv
  · rename_i h4
    simp only [Except.ok.injEq, Prod.mk.injEq] at hv
    obtain ⟨rfl, rfl⟩ := hv
    exact (u32_any h hl).mono fun e w' q => q.1 h4
  · cases hv
theorem u32_Er {w : World} {p : Nat} {l : List UInt8} {k : Int} (h : At w p l) (hl : l.length ≤ 1000000000) (hv : u32P l = .error k) : Calls Try.prog 69 #[.pointer (some ⟨p, 0, none⟩)] w (Fails p w k) := by
  unfold u32P at hv
  split at hv
  · cases hv
  · rename_i h4
    simp only [Except.error.injEq] at hv
    subst hv
    exact (u32_any h hl).mono fun e w' q => q.2 (by omega)
theorem u8P_len {l m : List UInt8} {v : Nat} (h : u8P l = .ok (v, m)) : m.length ≤ l.length ∧ v < 256 := by
  cases l with
  | nil => simp [u8P] at h
  | cons b l =>
    simp only [u8P, Except.ok.injEq, Prod.mk.injEq] at h
    obtain ⟨rfl, rfl⟩ := h
    exact ⟨by simp, b.toNat_lt⟩
theorem u32P_len {l m : List UInt8} {v : Nat} (h : u32P l = .ok (v, m)) : m.length ≤ l.length ∧ v < 4294967296 := by
  unfold u32P at h
  split at h
  · simp only [Except.ok.injEq, Prod.mk.injEq] at h
    obtain ⟨rfl, rfl⟩ := h
    exact ⟨by rw [List.length_drop]; omega, Nat.lt_of_lt_of_le (num_lt _) (Nat.le_trans (Nat.pow_le_pow_right (by omega) (List.length_take_le 4 l)) (by decide))⟩
  · cases h
theorem statP_len {l m : List UInt8} {s : Nat → Int} (h : statP l = .ok (s, m)) : m.length ≤ l.length ∧ ∀ k, fitI (s k) := by
  unfold statP at h
  cases h1 : varP l with
  | error k => simp [h1] at h
  | ok r1 =>
    obtain ⟨v1, l1⟩ := r1
    cases h2 : varP l1 with
    | error k => simp [h1, h2] at h
    | ok r2 =>
      obtain ⟨v2, l2⟩ := r2
      cases h3 : varP l2 with
      | error k => simp [h1, h2, h3] at h
      | ok r3 =>
        obtain ⟨v3, l3⟩ := r3
        cases h4 : varP l3 with
        | error k => simp [h1, h2, h3, h4] at h
        | ok r4 =>
          obtain ⟨v4, l4⟩ := r4
          cases h5 : varP l4 with
          | error k => simp [h1, h2, h3, h4, h5] at h
          | ok r5 =>
            obtain ⟨v5, l5⟩ := r5
            cases h6 : varP l5 with
            | error k => simp [h1, h2, h3, h4, h5, h6] at h
            | ok r6 =>
              obtain ⟨v6, l6⟩ := r6
              simp only [h1, h2, h3, h4, h5, h6, Except.ok.injEq, Prod.mk.injEq] at h
              obtain ⟨rfl, rfl⟩ := h
              have := varP_len h1
              have := varP_len h2
              have := varP_len h3
              have := varP_len h4
              have := varP_len h5
              have := varP_len h6
              refine ⟨by omega, fun k => ?_⟩
              simp only
              split
              · exact varP_fit h1
              · split
                · exact varP_fit h2
                · split
                  · exact varP_fit h3
                  · split
                    · exact varP_fit h4
                    · split
                      · exact varP_fit h5
                      · exact varP_fit h6

def getP (l : List UInt8) : Except Int Rep :=
  match u8P l with
  | .error k => .error k
  | .ok (a1, l1) => match u8P l1 with
    | .error k => .error k
    | .ok (a2, l2) => match varP l2 with
      | .error k => .error k
      | .ok (a3, l3) => match varP l3 with
        | .error k => .error k
        | .ok (a4, l4) => match u32P l4 with
          | .error k => .error k
          | .ok (a5, l5) => match statP l5 with
            | .error k => .error k
            | .ok (a6, l6) => if l6 = [] then .ok ⟨(a1 : Int), (a2 : Int), a3, a4, a5, a6⟩ else .error 4
def GetPost (p g : Nat) (w : World) (r : Except Int Rep) (e : Ending) (w' : World) : Prop :=
  match r with
  | .ok a => e = .returned (.tuple #[]) ∧ BoxV w' g 78 a.cells ∧ Touch [p, g] w w'
  | .error k => e = .panicked [{ v := failV p k, recovered := false }] ∧ Touch [p] w w'
theorem GetPost.er {p g : Nat} {w w' : World} {r : Except Int Rep} {e : Ending} {k : Int} (h : r = .error k) (q : Fails p w k e w') : GetPost p g w r e w' := by subst h; exact q
theorem GetPost.ok {p g : Nat} {w w' : World} {r : Except Int Rep} {e : Ending} {a : Rep} (h : r = .ok a) (q : e = .returned (.tuple #[]) ∧ BoxV w' g 78 a.cells ∧ Touch [p, g] w w') : GetPost p g w r e w' := by subst h; exact q

theorem arr11 {cs : Array Value} (h : cs.size = 11) : ∃ a0 a1 a2 a3 a4 a5 a6 a7 a8 a9 a10, cs = #[a0, a1, a2, a3, a4, a5, a6, a7, a8, a9, a10] := by
  obtain ⟨l⟩ := cs
  match l, h with
  | [a0, a1, a2, a3, a4, a5, a6, a7, a8, a9, a10], _ => exact ⟨a0, a1, a2, a3, a4, a5, a6, a7, a8, a9, a10, rfl⟩
end Go.Proofs.Ytfeeaokeomcafaa
