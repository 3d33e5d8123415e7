/-
  ReplyGets: for all bytes and every shift the law on reply's Get and Shift returns true. No conditions.
-/
import Derived.Test.YtfeeaokeomcafaaRefGetW
import Derived.Test.YtfeeaokeomcafaaReplyShift
import Derived.ChangeMaps5
namespace Go.Proofs.Ytfeeaokeomcafaa
open Go.ChangeShapes Go.WideShapes Go.ChangeAt Go.RowKit Go.Deep
set_option linter.unusedVariables false
set_option linter.unusedSimpArgs false

theorem lead_take : ∀ l : List UInt8, lead (l.take (lead l + 1)) = lead l
  | [] => rfl
  | b :: l => by
    by_cases hb : 128 ≤ b.toNat
    · have e : lead (b :: l) = lead l + 1 := by show (if 128 ≤ b.toNat then _ else _) = _; rw [if_pos hb]
      rw [e, List.take_succ_cons]
      show (if 128 ≤ b.toNat then lead (l.take (lead l + 1)) + 1 else 0) = _
      rw [if_pos hb, lead_take l]
    · have e : lead (b :: l) = 0 := by show (if 128 ≤ b.toNat then _ else _) = _; rw [if_neg hb]
      rw [e]
      show (if 128 ≤ b.toNat then lead (l.take 0) + 1 else 0) = 0
      rw [if_neg hb]
theorem varP_back {l m : List UInt8} {v : Int} (h : varP l = .ok (v, m)) : l = varB (zz v) ++ m := by
  unfold varP at h
  split at h
  · rename_i hE
    simp only [Except.ok.injEq, Prod.mk.injEq] at h
    obtain ⟨rfl, rfl⟩ := h
    have hf : lead l < l.length ∧ lead l < 10 := by
      by_cases hf : lead l < l.length ∧ lead l < 10
      · exact hf
      · unfold varE at hE
        rw [dif_neg hf] at hE
        split at hE <;> omega
    have hlen : (l.take (lead l + 1)).length = lead l + 1 := by rw [List.length_take]; omega
    have hne : l.take (lead l + 1) ≠ [] := by intro e; rw [e] at hlen; simp at hlen
    have key : varB (zz (varV l)) = l.take (lead l + 1) := by
      unfold varV
      rw [zz_unzz]
      refine varB_varU _ hne (by rw [lead_take, hlen]) (fun h1 => ?_)
      unfold varE at hE
      rw [dif_pos hf] at hE
      by_cases hc : (lead l = 9 ∧ 1 < (l[lead l]'hf.1).toNat) ∨ (0 < lead l ∧ (l[lead l]'hf.1).toNat = 0)
      · rw [if_pos hc] at hE; omega
      · intro e0
        apply hc
        right
        refine ⟨by omega, ?_⟩
        rw [List.getLast_eq_getElem] at e0
        have e : (l.take (lead l + 1)).length - 1 = lead l := by omega
        simp only [e, List.getElem_take] at e0
        exact e0
    rw [key, List.take_append_drop]
  · cases h
theorem u8P_back {l m : List UInt8} {v : Nat} (h : u8P l = .ok (v, m)) : l = be (u64n (v : Int)) 1 ++ m := by
  cases l with
  | nil => simp [u8P] at h
  | cons b l =>
    simp only [u8P, Except.ok.injEq, Prod.mk.injEq] at h
    obtain ⟨rfl, rfl⟩ := h
    have hb := b.toNat_lt
    have e : be (u64n (b.toNat : Int)) 1 = [UInt8.ofNat (u64n (b.toNat : Int) / 256 ^ 0)] := rfl
    rw [e]
    have e2 : u64n (b.toNat : Int) / 256 ^ 0 = b.toNat := by unfold u64n; simp; omega
    rw [e2]
    simp
theorem be_num (n : Nat) : ∀ t : List UInt8, t.length = n → be (num t) n = t := by
  induction n with
  | zero =>
    intro t ht
    have : t = [] := List.eq_nil_of_length_eq_zero ht
    subst this
    rfl
  | succ n ih =>
    intro t ht
    have hs : t = t.take n ++ [t[n]'(by omega)] := by rw [← take_snoc t n (by omega), List.take_of_length_le (by omega)]
    have hb := (t[n]'(by omega)).toNat_lt
    generalize hx : t[n]'(by omega) = x at *
    generalize hy : t.take n = s at *
    have hsl : s.length = n := by rw [← hy, List.length_take]; omega
    rw [hs, num_snoc, be_next, show (num s * 256 + x.toNat) / 256 = num s by omega, ih s hsl]
    congr 2
    apply UInt8.toNat.inj
    simp
theorem u32P_back {l m : List UInt8} {v : Nat} (h : u32P l = .ok (v, m)) : l = be v 4 ++ m := by
  unfold u32P at h
  split at h
  · rename_i h4
    simp only [Except.ok.injEq, Prod.mk.injEq] at h
    obtain ⟨rfl, rfl⟩ := h
    rw [be_num 4 (l.take 4) (by rw [List.length_take]; omega), List.take_append_drop]
  · cases h
theorem statP_back {l m : List UInt8} {s : Nat → Int} (h : statP l = .ok (s, m)) : l = statB s 6 ++ m := by
  unfold statP at h
  cases h1 : varP l with
  | error k => simp [h1] at h
  | ok r1 =>
    obtain ⟨v1, l1⟩ := r1
    cases h2 : varP l1 with
    | error k => simp [h1, h2] at h
    | ok r2 =>
      obtain ⟨v2, l2⟩ := r2
      cases h3 : varP l2 with
      | error k => simp [h1, h2, h3] at h
      | ok r3 =>
        obtain ⟨v3, l3⟩ := r3
        cases h4 : varP l3 with
        | error k => simp [h1, h2, h3, h4] at h
        | ok r4 =>
          obtain ⟨v4, l4⟩ := r4
          cases h5 : varP l4 with
          | error k => simp [h1, h2, h3, h4, h5] at h
          | ok r5 =>
            obtain ⟨v5, l5⟩ := r5
            cases h6 : varP l5 with
            | error k => simp [h1, h2, h3, h4, h5, h6] at h
            | ok r6 =>
              obtain ⟨v6, l6⟩ := r6
              simp only [h1, h2, h3, h4, h5, h6, Except.ok.injEq, Prod.mk.injEq] at h
              obtain ⟨rfl, rfl⟩ := h
              rw [varP_back h1, varP_back h2, varP_back h3, varP_back h4, varP_back h5, varP_back h6]
              simp [statB, List.append_assoc]
theorem get_put {l : List UInt8} {r : Rep} (h : getP l = .ok r) : r.bytes = l := by
  unfold getP at h
  cases h1 : u8P l with
  | error k => simp [h1] at h
  | ok r1 =>
    obtain ⟨v1, l1⟩ := r1
    cases h2 : u8P l1 with
    | error k => simp [h1, h2] at h
    | ok r2 =>
      obtain ⟨v2, l2⟩ := r2
      cases h3 : varP l2 with
      | error k => simp [h1, h2, h3] at h
      | ok r3 =>
        obtain ⟨v3, l3⟩ := r3
        cases h4 : varP l3 with
        | error k => simp [h1, h2, h3, h4] at h
        | ok r4 =>
          obtain ⟨v4, l4⟩ := r4
          cases h5 : u32P l4 with
          | error k => simp [h1, h2, h3, h4, h5] at h
          | ok r5 =>
            obtain ⟨v5, l5⟩ := r5
            cases h6 : statP l5 with
            | error k => simp [h1, h2, h3, h4, h5, h6] at h
            | ok r6 =>
              obtain ⟨v6, l6⟩ := r6
              simp only [h1, h2, h3, h4, h5, h6] at h
              split at h
              · rename_i h7
                subst h7
                simp only [Except.ok.injEq] at h
                subst h
                rw [u8P_back h1, u8P_back h2, varP_back h3, varP_back h4, u32P_back h5, statP_back h6]
                unfold Rep.bytes Rep.headB
                simp [List.append_assoc]
              · cases h
theorem gotten (l : List UInt8) : (getE l = 0 → (getR l).bytes = l) ∧ (getE l ≠ 0 → ¬ canShift (getR l).ver 0 ∧ ∀ y, ¬ canShift (getR l).ver y) := by
  unfold getE getR
  cases hp : getP l with
  | ok r => exact ⟨fun _ => get_put hp, fun h => absurd rfl h⟩
  | error k =>
    have : (badRep 0).ver = 0 := rfl
    exact ⟨fun h => absurd h ((refE_is l).1 k hp).2, fun _ => ⟨fun h => by unfold canShift at h; simp only [this] at h; omega, fun y h => by unfold canShift at h; simp only [this] at h; omega⟩⟩
theorem wants (l : List UInt8) (y : Int) : (getE l = 0 ∧ canShift (getR l).ver y → shiftB l y = ((getR l).by y).bytes) ∧ (¬ (getE l = 0 ∧ canShift (getR l).ver y) → shiftB l y = l) := by
  have hg := gotten l
  unfold shiftB
  by_cases hc : canShift (getR l).ver y
  · by_cases he : getE l = 0
    · refine ⟨fun _ => ?_, fun h => absurd ⟨he, hc⟩ h⟩
      by_cases hy : y = 0
      · rw [if_neg (fun h => h.2 hy), hy]
        have : ((getR l).by 0).bytes = (getR l).bytes := by
          unfold Rep.by Rep.bytes Rep.headB
          simp only [Int.add_zero]
        rw [this]
        exact (hg.1 he).symm
      · rw [if_pos ⟨hc, hy⟩]
    · exact absurd hc ((hg.2 he).2 y)
  · rw [if_neg (fun h => hc h.1)]
    exact ⟨fun h => absurd h.2 hc, fun _ => rfl⟩

set_option maxHeartbeats 8000000 in
set_option maxRecDepth 100000 in
theorem replyGets_walk (l : List UInt8) (y : Int) (w : World) :
    Calls Try.prog 9 #[.string (S l), .int .i64 y] w fun e w' => e = .returned (.bool true) ∧ Below w.heap.size w w' := by
  have hz := S_size l
  have LV := Lib.hid (fun w => lives39 w)
  by_cases h : 200 < l.length
  · have g : (200 : Int) < (l.length : Int) := by omega
    go_enter Try.func9, Try.ntmps9
    go_wp2_with fail
    refine (LV.out _).mono ?_
    rintro e w1 ⟨rfl, t1⟩
    go_wp2_with fail
    go_ret
    exact ⟨rfl, t1.below (by simp) (Nat.le_refl _)⟩
  · have g : ¬ ((200 : Int) < (l.length : Int)) := by omega
    have G1 := Lib.hid (fun w => replyGet l (by omega) w)
    have G2 := Lib.hid (fun w => refGet39_walk l (by omega) w)
    have H1 := Lib.hid (fun w => replyShift l (by omega) y w)
    have hok := getR_ok l
    have P1 := Lib.hid (fun w => replyPut (getR l) hok w)
    have hw := wants l y
    have hgt := gotten l
    have es : ((S l).toList == (S l).toList) = true := by simp
    by_cases he : getE l = 0
    · rw [hgt.1 he] at P1
      by_cases hc : canShift (getR l).ver y
      · rw [hw.1 ⟨he, hc⟩] at H1
        have P2 := Lib.hid (fun w => refPut39 ((getR l).by y) (by_ok _ hok y hc) w)
        have es2 : ((S ((getR l).by y).bytes).toList == (S ((getR l).by y).bytes).toList) = true := by simp
        rw [he] at G1 G2
        clear hw hgt he hok
        generalize ((getR l).by y).bytes = B2' at *
        generalize getR l = r at *
        unfold canShift at hc
        unfold Rep.by Rep.cells at *
        simp only at P2
        have fw : IntKind.i64.wrap (r.ver + y) = r.ver + y := by rw [IntKind.wrap_i64]; omega
        have d1 : decide (0 < r.ver) = true := by simp; omega
        have d2 : decide (r.ver ≤ 2147483648) = true := by simp; omega
        have d3 : decide (-2147483648 ≤ y) = true := by simp; omega
        have d4 : decide (y ≤ 2147483648) = true := by simp; omega
        clear hc
        go_enter Try.func9, Try.ntmps9
        go_wp2_with fail
        refine (G1.out _).mono ?_
        rintro e w1 ⟨rfl, t1⟩
        have A1 := Lib.hid (BoxV.new w1 78 #[.int .i64 r.op, .int .i64 r.err, .int .i64 r.ver, .int .i64 r.cnt, .int .u32 (r.sum : Int), .int .i64 (r.st 0), .int .i64 (r.st 1), .int .i64 (r.st 2), .int .i64 (r.st 3), .int .i64 (r.st 4), .int .i64 (r.st 5)])
        have T1 := Lib.hid (t1.alloc (.cells #[.int .i64 r.op, .int .i64 r.err, .int .i64 r.ver, .int .i64 r.cnt, .int .u32 (r.sum : Int), .int .i64 (r.st 0), .int .i64 (r.st 1), .int .i64 (r.st 2), .int .i64 (r.st 3), .int .i64 (r.st 4), .int .i64 (r.st 5)] 78))
        clear t1
        go_wp2_with fail
        refine (G2.out _).mono ?_
        rintro e w2 ⟨rfl, t2⟩
        have A2 := Lib.hid ((A1.out.carry t2 (by simp)).carry ((Touch.refl [] _).alloc (.cells #[.int .i64 r.op, .int .i64 r.err, .int .i64 r.ver, .int .i64 r.cnt, .int .u32 (r.sum : Int), .int .i64 (r.st 0), .int .i64 (r.st 1), .int .i64 (r.st 2), .int .i64 (r.st 3), .int .i64 (r.st 4), .int .i64 (r.st 5)] 78)) (by simp))
        have B2 := Lib.hid (BoxV.new w2 78 #[.int .i64 r.op, .int .i64 r.err, .int .i64 r.ver, .int .i64 r.cnt, .int .u32 (r.sum : Int), .int .i64 (r.st 0), .int .i64 (r.st 1), .int .i64 (r.st 2), .int .i64 (r.st 3), .int .i64 (r.st 4), .int .i64 (r.st 5)])
        have T2 := Lib.hid ((T1.out.trans t2 (by simp)).alloc (.cells #[.int .i64 r.op, .int .i64 r.err, .int .i64 r.ver, .int .i64 r.cnt, .int .u32 (r.sum : Int), .int .i64 (r.st 0), .int .i64 (r.st 1), .int .i64 (r.st 2), .int .i64 (r.st 3), .int .i64 (r.st 4), .int .i64 (r.st 5)] 78))
        have la := A2.out.lt
        have lb := B2.out.lt
        clear t2 A1 T1
        go_wp2_with fail
        refine (P2.out _).mono ?_
        rintro e w3 ⟨rfl, t3⟩
        have tq := (Touch.refl [] (w2.alloc (.cells #[.int .i64 r.op, .int .i64 r.err, .int .i64 r.ver, .int .i64 r.cnt, .int .u32 (r.sum : Int), .int .i64 (r.st 0), .int .i64 (r.st 1), .int .i64 (r.st 2), .int .i64 (r.st 3), .int .i64 (r.st 4), .int .i64 (r.st 5)] 78))).alloc (.cells #[.int .i64 r.op, .int .i64 r.err, .int .i64 (r.ver + y), .int .i64 r.cnt, .int .u32 (r.sum : Int), .int .i64 (r.st 0), .int .i64 (r.st 1), .int .i64 (r.st 2), .int .i64 (r.st 3), .int .i64 (r.st 4), .int .i64 (r.st 5)] 78)
        have A3 := (A2.out.carry tq (by simp)).carry t3 (by simp)
        have B3 := (B2.out.carry tq (by simp)).carry t3 (by simp)
        have T3 := Lib.hid ((T2.out.trans tq (by simp)).trans t3 (by simp))
        have lc := A3.lt
        have ld := B3.lt
        have a0 := A3.cell 0
        have a1 := A3.cell 1
        have a2 := A3.cell 2
        have a3 := A3.cell 3
        have a4 := A3.cell 4
        have a5 := A3.cell 5
        have a6 := A3.cell 6
        have a7 := A3.cell 7
        have a8 := A3.cell 8
        have a9 := A3.cell 9
        have a10 := A3.cell 10
        have b0 := B3.cell 0
        have b1 := B3.cell 1
        have b2 := B3.cell 2
        have b3 := B3.cell 3
        have b4 := B3.cell 4
        have b5 := B3.cell 5
        have b6 := B3.cell 6
        have b7 := B3.cell 7
        have b8 := B3.cell 8
        have b9 := B3.cell 9
        have b10 := B3.cell 10
        have HA3 := Lib.hid A3
        clear A3 B3 t3 tq A2 B2 T2
        go_wp2_with fail
        refine (H1.out _).mono ?_
        rintro e w4 ⟨rfl, t4⟩
        have A4 := HA3.out.carry t4 (by simp)
        have T4 := Lib.hid (T3.out.trans t4 (by simp))
        have l4 := A4.lt
        clear a0 a1 a2 a3 a4 a5 a6 a7 a8 a9 a10 b0 b1 b2 b3 b4 b5 b6 b7 b8 b9 b10
        have c0 := A4.cell 0
        have c1 := A4.cell 1
        have c2 := A4.cell 2
        have c3 := A4.cell 3
        have c4 := A4.cell 4
        have c5 := A4.cell 5
        have c6 := A4.cell 6
        have c7 := A4.cell 7
        have c8 := A4.cell 8
        have c9 := A4.cell 9
        have c10 := A4.cell 10
        clear A4 t4 HA3 T3
        go_wp2_with fail
        refine (P1.out _).mono ?_
        rintro e w5 ⟨rfl, t5⟩
        replace T4 := Lib.hid (T4.out.trans t5 (by simp))
        clear t5
        go_wp2_with fail
        refine (LV.out _).mono ?_
        rintro e w6 ⟨rfl, t6⟩
        go_wp2_with fail
        go_ret
        exact ⟨rfl, (T4.out.trans t6 (by simp)).below (by simp) (Nat.le_refl _)⟩
      · rw [hw.2 (fun h => hc h.2)] at H1
        rw [he] at G1 G2
        have ways : decide (0 < (getR l).ver) = false ∨ (decide (0 < (getR l).ver) = true ∧ decide ((getR l).ver ≤ 2147483648) = false) ∨ (decide (0 < (getR l).ver) = true ∧ decide ((getR l).ver ≤ 2147483648) = true ∧ decide (-2147483648 ≤ y) = false) ∨
            (decide (0 < (getR l).ver) = true ∧ decide ((getR l).ver ≤ 2147483648) = true ∧ decide (-2147483648 ≤ y) = true ∧ decide (y ≤ 2147483648) = false) := by
          unfold canShift at hc
          simp only [decide_eq_true_eq, decide_eq_false_iff_not]
          omega
        clear hw hgt he hok hc
        generalize getR l = r at *
        unfold Rep.cells at *
        rcases ways with d1 | ⟨d1, d2⟩ | ⟨d1, d2, d3⟩ | ⟨d1, d2, d3, d4⟩
        all_goals
          go_enter Try.func9, Try.ntmps9
          go_wp2_with fail
          refine (G1.out _).mono ?_
          rintro e w1 ⟨rfl, t1⟩
          have A1 := Lib.hid (BoxV.new w1 78 #[.int .i64 r.op, .int .i64 r.err, .int .i64 r.ver, .int .i64 r.cnt, .int .u32 (r.sum : Int), .int .i64 (r.st 0), .int .i64 (r.st 1), .int .i64 (r.st 2), .int .i64 (r.st 3), .int .i64 (r.st 4), .int .i64 (r.st 5)])
          have T1 := Lib.hid (t1.alloc (.cells #[.int .i64 r.op, .int .i64 r.err, .int .i64 r.ver, .int .i64 r.cnt, .int .u32 (r.sum : Int), .int .i64 (r.st 0), .int .i64 (r.st 1), .int .i64 (r.st 2), .int .i64 (r.st 3), .int .i64 (r.st 4), .int .i64 (r.st 5)] 78))
          clear t1
          go_wp2_with fail
          refine (G2.out _).mono ?_
          rintro e w2 ⟨rfl, t2⟩
          have A2 := Lib.hid ((A1.out.carry t2 (by simp)).carry ((Touch.refl [] _).alloc (.cells #[.int .i64 r.op, .int .i64 r.err, .int .i64 r.ver, .int .i64 r.cnt, .int .u32 (r.sum : Int), .int .i64 (r.st 0), .int .i64 (r.st 1), .int .i64 (r.st 2), .int .i64 (r.st 3), .int .i64 (r.st 4), .int .i64 (r.st 5)] 78)) (by simp))
          have B2 := Lib.hid (BoxV.new w2 78 #[.int .i64 r.op, .int .i64 r.err, .int .i64 r.ver, .int .i64 r.cnt, .int .u32 (r.sum : Int), .int .i64 (r.st 0), .int .i64 (r.st 1), .int .i64 (r.st 2), .int .i64 (r.st 3), .int .i64 (r.st 4), .int .i64 (r.st 5)])
          have T2 := Lib.hid ((T1.out.trans t2 (by simp)).alloc (.cells #[.int .i64 r.op, .int .i64 r.err, .int .i64 r.ver, .int .i64 r.cnt, .int .u32 (r.sum : Int), .int .i64 (r.st 0), .int .i64 (r.st 1), .int .i64 (r.st 2), .int .i64 (r.st 3), .int .i64 (r.st 4), .int .i64 (r.st 5)] 78))
          have la := A2.out.lt
          have lb := B2.out.lt
          have A2v := A1.out.carry t2 (by simp)
          have lv := A2v.lt
          have a0 := A2v.cell 0
          have a1 := A2v.cell 1
          have a2 := A2v.cell 2
          have a3 := A2v.cell 3
          have a4 := A2v.cell 4
          have a5 := A2v.cell 5
          have a6 := A2v.cell 6
          have a7 := A2v.cell 7
          have a8 := A2v.cell 8
          have a9 := A2v.cell 9
          have a10 := A2v.cell 10
          clear t2 A1 T1 A2v
          go_wp2_with fail
          refine (H1.out _).mono ?_
          rintro e w4 ⟨rfl, t4⟩
          have A4 := A2.out.carry t4 (by simp)
          have T4 := Lib.hid (T2.out.trans t4 (by simp))
          have l4 := A4.lt
          clear a0 a1 a2 a3 a4 a5 a6 a7 a8 a9 a10
          have c0 := A4.cell 0
          have c1 := A4.cell 1
          have c2 := A4.cell 2
          have c3 := A4.cell 3
          have c4 := A4.cell 4
          have c5 := A4.cell 5
          have c6 := A4.cell 6
          have c7 := A4.cell 7
          have c8 := A4.cell 8
          have c9 := A4.cell 9
          have c10 := A4.cell 10
          clear A4 t4
          go_wp2_with fail
          refine (P1.out _).mono ?_
          rintro e w5 ⟨rfl, t5⟩
          replace T4 := Lib.hid (T4.out.trans t5 (by simp))
          clear t5
          go_wp2_with fail
          refine (LV.out _).mono ?_
          rintro e w6 ⟨rfl, t6⟩
          go_wp2_with fail
          go_ret
          exact ⟨rfl, (T4.out.trans t6 (by simp)).below (by simp) (Nat.le_refl _)⟩
    · rw [hw.2 (fun h => he h.1)] at H1
      have b1 : (getE l == 0) = false := by simpa using he
      have b2 : (getE l != 0) = true := by simpa using he
      clear hw hgt he hok
      generalize getE l = E at *
      generalize getR l = r at *
      unfold Rep.cells at *
      go_enter Try.func9, Try.ntmps9
      go_wp2_with fail
      refine (G1.out _).mono ?_
      rintro e w1 ⟨rfl, t1⟩
      have A1 := Lib.hid (BoxV.new w1 78 #[.int .i64 r.op, .int .i64 r.err, .int .i64 r.ver, .int .i64 r.cnt, .int .u32 (r.sum : Int), .int .i64 (r.st 0), .int .i64 (r.st 1), .int .i64 (r.st 2), .int .i64 (r.st 3), .int .i64 (r.st 4), .int .i64 (r.st 5)])
      have T1 := Lib.hid (t1.alloc (.cells #[.int .i64 r.op, .int .i64 r.err, .int .i64 r.ver, .int .i64 r.cnt, .int .u32 (r.sum : Int), .int .i64 (r.st 0), .int .i64 (r.st 1), .int .i64 (r.st 2), .int .i64 (r.st 3), .int .i64 (r.st 4), .int .i64 (r.st 5)] 78))
      clear t1
      go_wp2_with fail
      refine (G2.out _).mono ?_
      rintro e w2 ⟨rfl, t2⟩
      have A2 := Lib.hid ((A1.out.carry t2 (by simp)).carry ((Touch.refl [] _).alloc (.cells #[.int .i64 r.op, .int .i64 r.err, .int .i64 r.ver, .int .i64 r.cnt, .int .u32 (r.sum : Int), .int .i64 (r.st 0), .int .i64 (r.st 1), .int .i64 (r.st 2), .int .i64 (r.st 3), .int .i64 (r.st 4), .int .i64 (r.st 5)] 78)) (by simp))
      have B2 := Lib.hid (BoxV.new w2 78 #[.int .i64 r.op, .int .i64 r.err, .int .i64 r.ver, .int .i64 r.cnt, .int .u32 (r.sum : Int), .int .i64 (r.st 0), .int .i64 (r.st 1), .int .i64 (r.st 2), .int .i64 (r.st 3), .int .i64 (r.st 4), .int .i64 (r.st 5)])
      have T2 := Lib.hid ((T1.out.trans t2 (by simp)).alloc (.cells #[.int .i64 r.op, .int .i64 r.err, .int .i64 r.ver, .int .i64 r.cnt, .int .u32 (r.sum : Int), .int .i64 (r.st 0), .int .i64 (r.st 1), .int .i64 (r.st 2), .int .i64 (r.st 3), .int .i64 (r.st 4), .int .i64 (r.st 5)] 78))
      have la := A2.out.lt
      have lb := B2.out.lt
      have A2v := A1.out.carry t2 (by simp)
      have lv := A2v.lt
      have a0 := A2v.cell 0
      have a1 := A2v.cell 1
      have a2 := A2v.cell 2
      have a3 := A2v.cell 3
      have a4 := A2v.cell 4
      have a5 := A2v.cell 5
      have a6 := A2v.cell 6
      have a7 := A2v.cell 7
      have a8 := A2v.cell 8
      have a9 := A2v.cell 9
      have a10 := A2v.cell 10
      clear t2 A1 T1 A2v
      go_wp2_with fail
      refine (H1.out _).mono ?_
      rintro e w4 ⟨rfl, t4⟩
      have A4 := A2.out.carry t4 (by simp)
      have T4 := Lib.hid (T2.out.trans t4 (by simp))
      have l4 := A4.lt
      clear a0 a1 a2 a3 a4 a5 a6 a7 a8 a9 a10
      have c0 := A4.cell 0
      have c1 := A4.cell 1
      have c2 := A4.cell 2
      have c3 := A4.cell 3
      have c4 := A4.cell 4
      have c5 := A4.cell 5
      have c6 := A4.cell 6
      have c7 := A4.cell 7
      have c8 := A4.cell 8
      have c9 := A4.cell 9
      have c10 := A4.cell 10
      clear A4 t4
      go_wp2_with fail
      refine (LV.out _).mono ?_
      rintro e w6 ⟨rfl, t6⟩
      go_wp2_with fail
      go_ret
      exact ⟨rfl, (T4.out.trans t6 (by simp)).below (by simp) (Nat.le_refl _)⟩

set_option maxRecDepth 100000 in
theorem replyGets_calls : LawCalls Try.prog 9 Try.f9 := by
  intro H enc W base args ds p hval hA hlt
  rw [Try.params9] at hA hval
  obtain ⟨v0, vs0, d0, ds0, p0, q0, hargs, rfl, rfl, h0, r0⟩ := trodAll_cons hA
  obtain ⟨v1, vs1, d1, ds1, p1, q1, rfl, rfl, rfl, h1, r1⟩ := trodAll_cons r0
  obtain ⟨rfl, rfl, rfl⟩ := trodAll_nil r1
  obtain rfl : args = #[v0, v1] := by cases args; simp_all
  obtain ⟨s, rfl, rfl, rfl, hs⟩ := Go.ChangeMaps.open_string Try.underlying9 (hval 0 9 v0 rfl rfl) h0
  obtain ⟨y, rfl, rfl, rfl, wy⟩ := open_int Try.underlying3 (hval 1 3 v1 rfl rfl) h1
  obtain ⟨l, rfl⟩ : ∃ l, s = S l := ⟨s.data.toList, by unfold S; simp⟩
  exact replyGets_walk l y W
set_option maxRecDepth 100000 in
theorem replyGets_lifted (os : Os) (started : os.Started) (H : Type) (enc : TypeId × Value → H) :
    ReturnsInHanded {} Try.checked os 9 .any (Rows.replyGetsSpec.pre6 enc Try.prog Try.f9 Rows.replyGetsRow.domain false) (Rows.replyGetsSpec.post enc Try.prog Try.f9 false true false false) := by
  refine returnsInHanded_of_change (C := Try.checked) own started (by kernel_rfl) Try.func9
    (ChangeSpec.witness6 (enc := enc) (C := Try.checked) false ⟨#[], #[.string ⟨#[]⟩, .int .i64 0], []⟩ 8 (by kernel_rfl) (by kernel_rfl) (by kernel_rfl) (by kernel_rfl)) ?_
  intro W base args ds gs before hval hW _ _
  exact law_contract laidOut (by kernel_rfl) rfl rfl boolType (fun ds h => by match ds, h with | [_, _], _ => rfl) replyGets_calls W base args ds gs before hval hW

theorem replyGets_holds : Rows.ReplyGetsSaid :=
  OpenClaim.holds_of_wide 9 Try.f9 rfl rfl rfl rfl rfl rfl rfl ⟨rfl, rfl, rfl, rfl, rfl⟩ rfl rfl rfl rfl rfl (by kernel_rfl) Try.func9 (by kernel_rfl)
    (of_decide_eq_true (by kernel_rfl)) (by unfold Func.isWrapper; first | (rw [if_pos (by decide +kernel)]; kernel_rfl) | (rw [if_neg (by decide +kernel)]; exact ⟨rfl, rfl⟩))
    (fun os started H enc _ => replyGets_lifted os started H enc)
#print axioms replyGets_holds
end Go.Proofs.Ytfeeaokeomcafaa
