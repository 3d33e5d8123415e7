/-
  The reference of layer 31 (wrr): Pick, New.
-/
import Derived.Test.YtcggpgjnjfjfnaaRefWrr4
import Derived.Test.YtcggpgjnjfjfnaaRingTurn
import Derived.Deep.LoopGhost
namespace Go.Proofs.Ytcggpgjnjfjfnaa
open Go.ChangeShapes Go.WideShapes Go.ChangeAt Go.RowKit Go.Deep Go.Maps
set_option linter.unusedVariables false
set_option linter.unusedSimpArgs false

/-- A result in a block of its own, and two in slots. -/
theorem ret_box_two {P : Program} {fn : Func} {s s2 s3 : Tmp} {t : TypeId} {tmps : Array Value} {w : World} {b : Nat} {T : TypeId} {cs : Array Value} {d : TypeDesc} {v2 v3 : Value} (h : fn.results = #[.cell s t, .tmp s2, .tmp s3]) (hx : tmps.getD s undef = .pointer (some ⟨b, 0, none⟩)) (hB : BoxV w b T cs)
    (hu : P.underlying t = some d) (hd : d.isRow = true) (hi : (P.info? t).map (·.size) = some cs.size) (h2 : tmps.getD s2 undef = v2) (h3 : tmps.getD s3 undef = v3) : (results fn tmps).run P w = .ok (.tuple #[.agg cs, v2, v3]) w := by
  have L := run_loadVar_mid (P := P) w b 0 t cs.toList d hB.range hu hd (by simpa using hi)
  rw [Array.toArray_toList] at L
  have hx' : tmps[s]?.getD undef = .pointer (some ⟨b, 0, none⟩) := by simpa using hx
  have h2' : tmps[s2]?.getD undef = v2 := by simpa using h2
  have h3' : tmps[s3]?.getD undef = v3 := by simpa using h3
  simp [results, h, hx', h2', h3', asAddr, L]
theorem LInts.turn {Z : List Nat} {w : World} {v : Value} {l : List Int} (h : LInts Z w v l) (hne : l ≠ []) (hl : l.length ≤ 1000) (hZ : ∀ b ∈ Z, b < w.heap.size) :
    Calls Try.prog 34 #[v] w (Leaves (fun v w => LInts Z w v (turn1 l)) w) := by
  cases l with
  | nil => exact absurd rfl hne
  | cons y l =>
    obtain ⟨A, c, rfl, h1, h2, h3⟩ := h.cells
    refine (refTurn_cons (c := c) h3 (by simpa using h1) h2 (by simp at hl; omega)).mono ?_
    rintro e w' ⟨v', he, ho, hb⟩
    exact ⟨v', he, LInts.own ho hZ, Touch.ofBelow hb⟩
def inM (M : List Int) (i : Int) : Bool := decide (i ∈ M)
theorem ableB_inM (M : List Int) : ableB (at0 M) M.length = inM M := by
  funext i
  unfold ableB inM
  rw [Bool.eq_iff_iff, List.any_eq_true, decide_eq_true_eq]
  constructor
  · rintro ⟨j, hj, he⟩
    have hj := List.mem_range.1 hj
    simp only [beq_iff_eq] at he
    rw [← he, at0, List.getElem?_eq_getElem hj]
    exact List.getElem_mem hj
  · intro hm
    obtain ⟨j, hj, rfl⟩ := List.getElem_of_mem hm
    exact ⟨j, List.mem_range.2 hj, by simp [at0, hj]⟩
def PickR (Z : List Nat) (m : Nat) (L : Nat → List Int) (C : Acc) (M : List Int) (w : World) (e : Ending) (w' : World) : Prop :=
  ∃ u, ((e = .returned (.tuple #[u, .int .i64 0, .bool false]) ∧ (∀ k, k < 8 → anyIn (inM M) (L k) = false) ∧ StateV Z m L C u w') ∨
    ∃ k i, k < 8 ∧ anyIn (inM M) (L k) = true ∧ (∀ j, j < k → anyIn (inM M) (L j) = false) ∧ stops (inM M) (L k) C i ∧ (∀ j, j < i → ¬ stops (inM M) (L k) C j) ∧ e = .returned (.tuple #[u, .int .i64 (hdx (L k) i), .bool true]) ∧ StateV Z m (updL L k (rotL (i + 1) (L k))) (crs (inM M) (L k) C (i + 1)) u w') ∧ Touch [] w w'
theorem anyIn_first {able : Int → Bool} (L : Nat → List Int) : ∃ kk, kk ≤ 8 ∧ (∀ j, j < kk → anyIn able (L j) = false) ∧ (kk < 8 → anyIn able (L kk) = true) := by
  have key : ∀ m, m ≤ 8 → (∀ j, j < m → anyIn able (L j) = false) ∨ ∃ kk, kk < m ∧ (∀ j, j < kk → anyIn able (L j) = false) ∧ anyIn able (L kk) = true := by
    intro m
    induction m with
    | zero => intro _; exact .inl fun j hj => absurd hj (Nat.not_lt_zero _)
    | succ m ih =>
      intro hm
      rcases ih (by omega) with h | ⟨kk, h1, h2, h3⟩
      · cases hb : anyIn able (L m) with
        | true => exact .inr ⟨m, by omega, h, hb⟩
        | false =>
          left
          intro j hj
          rcases Nat.lt_or_ge j m with h' | h'
          · exact h j h'
          · rw [show j = m by omega]; exact hb
      · exact .inr ⟨kk, by omega, h2, h3⟩
  rcases key 8 (Nat.le_refl _) with h | ⟨kk, h1, h2, h3⟩
  · exact ⟨8, Nat.le_refl _, h, fun h => absurd h (by omega)⟩
  · exact ⟨kk, by omega, h2, fun _ => h3⟩

set_option maxHeartbeats 8000000 in
set_option maxRecDepth 100000 in
theorem refPickW {Z Z' : List Nat} {m : Nat} {L : Nat → List Int} {C : Acc} {v u : Value} {M : List Int} {w : World} (h : StateV Z m L C v w) (hu : LInts Z' w u M) (hM : M.length ≤ 1000) (hl : ∀ k, k < 8 → (L k).length ≤ 1000) (hok : ∀ i x, C i = some x → okAcc x) (hm : m ≤ 1000) (hZ : ∀ b ∈ Z, b < w.heap.size)
    (hmem : ∀ k, k < 8 → ∀ i ∈ L k, (C i).isSome = true) :
    Calls Try.prog 15 #[v, u] w (PickR Z m L C M w) := by
  obtain ⟨kk, hkk, hfirst, hat⟩ := anyIn_first (able := inM M) L
  obtain ⟨rv, lv, rfl, h1, h2⟩ := h
  obtain ⟨Al, nl, cl, rfl⟩ := h2.slice
  obtain ⟨Ar, nr, cr, rfl⟩ := h1.slice
  have HB := Lib.hid (BoxV.of2 (w := w) (T := 29) (cs := #[.slice Ar nr cr, .slice Al nl cl]) (o := .cells #[.slice none 0 0, .slice none 0 0] 29))
  have HB2 := Lib.hid (BoxV.at1 (w := w) (T := 29) (cs := #[.slice none 0 0, .slice none 0 0]) (o := .cells #[.slice Ar nr cr, .slice Al nl cl] 29))
  have t0 : Touch [] w ((w.alloc (.cells #[.slice Ar nr cr, .slice Al nl cl] 29)).alloc (.cells #[.slice none 0 0, .slice none 0 0] 29)) := ((Touch.refl [] w).alloc _).alloc _
  have hsz : ((w.alloc (.cells #[.slice Ar nr cr, .slice Al nl cl] 29)).alloc (.cells #[.slice none 0 0, .slice none 0 0] 29)).heap.size = w.heap.size + 2 := by simp
  obtain ⟨Z2, hZ2⟩ : ∃ Z2, Z2 = w.heap.size :: (w.heap.size + 1) :: Z := ⟨_, rfl⟩
  have hav : ∀ b ∈ Z2, b ∈ Z ∨ w.heap.size ≤ b := fun b hb => by
    rw [hZ2, List.mem_cons, List.mem_cons] at hb
    rcases hb with rfl | rfl | hb
    · right; omega
    · right; omega
    · exact .inl hb
  have HQ := Lib.hid ((h1.avoid hav).carry t0 (by simp))
  have HR := Lib.hid ((h2.avoid hav).carry t0 (by simp))
  have HZ2 := Lib.hid (show ∀ b ∈ Z2, b < w.heap.size + 2 from fun b hb => by
    rw [hZ2, List.mem_cons, List.mem_cons] at hb
    rcases hb with rfl | rfl | hb
    · omega
    · omega
    · have := hZ b hb; omega)
  have HS2 := Lib.hid (show w.heap.size ∈ Z2 ∧ (w.heap.size + 1) ∈ Z2 ∧ ∀ b ∈ Z, b ∈ Z2 by rw [hZ2]; exact ⟨by simp, by simp, fun b hb => by simp [hb]⟩)
  have HU := Lib.hid ((hu.avoid (Z' := [w.heap.size, w.heap.size + 1]) (fun b hb => by simp at hb; omega)).carry t0 (by simp))
  obtain ⟨A2, c2, rfl, _⟩ := hu
  have T0 := Lib.hid t0
  have HL := Lib.hid hl
  have HM := Lib.hid hmem
  have HF := Lib.hid hfirst
  have HA := Lib.hid hat
  have HOK := Lib.hid hok
  clear h1 h2 t0 hav hZ2 hl hmem hfirst hat hok
  go_enter Try.func15, Try.ntmps15
  go_wp2_with fail
  generalize (w.alloc (.cells #[.slice Ar nr cr, .slice Al nl cl] 29)).alloc (.cells #[.slice none 0 0, .slice none 0 0] 29) = w1 at *
  rw [← hsz] at HZ2
  generalize hbr : w.heap.size + 1 = br at *
  generalize hbs : w.heap.size = bs at *
  have HBR := Lib.hid (show w.heap.size ≤ br ∧ w.heap.size ≤ bs ∧ bs ≠ br by omega)
  clear hbr hbs hsz hZ
  go_loopw [7] (fun x wr => ∃ j : Nat, j ≤ kk ∧ x = .int .i64 (j : Int) ∧ Touch [] w1 wr) (fun x _ => kk - (intOf x).toNat)
  case atStart => exact ⟨0, Nat.zero_le _, rfl, Touch.refl _ _⟩
  case round =>
    obtain ⟨j, hj, rfl, ht⟩ := hrel
    have c0 := (HB.out.carry ht (by simp)).cell 0
    have c1 := (HB.out.carry ht (by simp)).cell 1
    simp only [List.getElem?_toArray, List.getElem?_cons_zero, List.getElem?_cons_succ] at c0 c1
    by_cases hlt : j < 8
    · obtain ⟨g, cg, hcg, hc8, hcm, hg, hgz, hcell⟩ := HQ.out
      cases hcg
      obtain ⟨x, hx, hlx⟩ := hcell j hlt
      have HX0 := Lib.hid hx
      have hx := (ht.cell (a := ⟨g, j, none⟩) hg (by simp)).trans hx
      have D := Lib.hid (refSome (hlx.carry ht (by simp)) (HU.out.carry ht (by simp)) (HL.out j hlt) hM)
      have hgl := Nat.lt_of_lt_of_le hg ht.size
      have HX := Lib.hid hlx
      obtain ⟨Ax, cx, rfl, _⟩ := hlx
      have j8 : (j : Int) < 8 := by omega
      have HT := Lib.hid ht
      clear ht hcell
      go_wp2_with fail
      refine (D.out).mono ?_
      rintro e w2 ⟨rfl, t2⟩
      have T2 := Lib.hid (HT.out.trans t2 (by simp))
      clear t2 HT D
      by_cases hjk : j < kk
      · rw [show someIn (L j) M = false from HF.out j hjk]
        go_wp2_with fail
        go_roundw
        case rel => exact ⟨j + 1, by omega, by go_num, T2.out⟩
        case measure => simp [intOf]; omega
      · obtain rfl : kk = j := by omega
        have hanyj := HA.out hlt
        rw [show someIn (L kk) M = true from hanyj]
        have hne : L kk ≠ [] := by
          intro h0
          rw [h0] at hanyj
          exact Bool.noConfusion hanyj
        obtain ⟨idm, hin, hab⟩ := List.any_eq_true.1 hanyj
        obtain ⟨i0, hst0, hfst0⟩ := stop_first (stop_ex HOK.out hin hab (HM.out kk hlt idm hin))
        have hb8 : ((kk : Int) == 8) = false := by simp; omega
        have V0 := Lib.hid (HX.out.carry T2.out (by simp))
        have HST := Lib.hid hst0
        have HFS := Lib.hid hfst0
        have HNE := Lib.hid hne
        have B0 := Lib.hid (HB.out.carry T2.out (by simp))
        have c0 := (HB.out.carry T2.out (by simp)).cell 0
        simp only [List.getElem?_toArray, List.getElem?_cons_zero] at c0
        have cgj := (T2.out.cell (a := ⟨g, kk, none⟩) hg (by simp)).trans HX0.out
        have hgl2 := Nat.lt_of_lt_of_le hg T2.out.size
        have R0 := Lib.hid (HR.out.carry T2.out (by simp))
        clear hin hab hst0 hfst0 hne hanyj
        go_wp2_with fail
        clear c0 cgj
        go_loopg [8] (i0 + 1) (fun n v wr => ∃ (i : Nat) (lv : Value), i ≤ i0 ∧ n = i0 + 1 - i ∧ LInts Z2 wr v (rotL i (L kk)) ∧ BoxV wr bs 29 #[.slice (some ⟨g, 0, none⟩) 8 cr, lv] ∧ RowsNew Z2 m (crs (inM M) (L kk) C i) lv wr ∧ Touch [bs] w2 wr)
        case atStart => exact ⟨0, _, Nat.zero_le _, rfl, V0.out, B0.out, R0.out, Touch.refl _ _⟩
        case round =>
          clear V0 B0 R0
          obtain ⟨i, lv, hi, hgk, hv, hbx, hrw, ht⟩ := hrel
          have hz : ∀ b ∈ Z2, b < wr.heap.size := fun b hb => Nat.lt_of_lt_of_le (HZ2.out b hb) (Nat.le_trans T2.out.size ht.size)
          have hli : (rotL i (L kk)).length ≤ 1000 := by rw [rotL_length]; exact HL.out kk hlt
          have hnei : rotL i (L kk) ≠ [] := by
            obtain ⟨Mi, hMi⟩ := rotL_cons HNE.out i
            rw [hMi]
            exact List.cons_ne_nil _ _
          have D1 := Lib.hid (hv.turn hnei hli hz)
          obtain ⟨Ai, ci, rfl, k1, k2, k3⟩ := id hv
          have hlen0 : 0 < (rotL i (L kk)).length := List.length_pos_iff.2 hnei
          obtain ⟨b0, off0, hA0, hb0, _, hc0⟩ := k3 0 hlen0
          subst hA0
          rw [show at0 (rotL i (L kk)) 0 = hdx (L kk) i from rfl] at hc0
          have HBX := Lib.hid hbx
          have HRW := Lib.hid hrw
          have HT := Lib.hid ht
          have HZW := Lib.hid hz
          have hlenI : ((0 : Int) < ((rotL i (L kk)).length : Int)) := by omega
          obtain ⟨Alv, nlv, clv, rfl⟩ := hrw.slice
          have hx0 : hdx (L kk) i = hdx (L kk) i := rfl
          generalize hgd : hdx (L kk) i = id at *
          clear k3 hv hbx hrw ht hz hx0
          rw [Nat.add_zero] at hc0
          go_wp2_with fail
          refine (D1.out).mono ?_
          rintro e w3 ⟨v3, rfl, hv3, t3⟩
          have HV3 := Lib.hid hv3
          obtain ⟨A3, c3, rfl, _⟩ := hv3
          have T3 := Lib.hid t3
          have D2 := Lib.hid ((((HU.out.carry T2.out (by simp)).carry HT.out (by simp)).carry t3 (by simp)).has id hM)
          clear t3 D1
          go_wp2_with fail
          refine (D2.out).mono ?_
          rintro e w4 ⟨rfl, t4⟩
          have T4 := Lib.hid (T3.out.trans t4 (by simp))
          have V4 := Lib.hid (HV3.out.carry t4 (by simp))
          clear t4 T3 HV3 D2
          have hbx4 := HBX.out.carry T4.out (by simp)
          have e1 := hbx4.cell 1
          simp only [List.getElem?_toArray, List.getElem?_cons_zero, List.getElem?_cons_succ] at e1
          have hltb := hbx4.lt
          have fz := hbx4.fr 1
          have HST2 := Lib.hid (fun (h : i = i0) => show stops (inM M) (L kk) C i by rw [h]; exact HST.out)
          by_cases hab : id ∈ M
          · rw [decide_eq_true hab]
            have hcr : crs (inM M) (L kk) C (i + 1) = visC (crs (inM M) (L kk) C i) id := by
              rw [crs, hgd, if_pos (show inM M id = true from decide_eq_true hab)]
            have D3 := Lib.hid (refVisitA (HRW.out.carry T4.out (by simp)) (crs_ok HOK.out i) hm (fun b hb => Nat.lt_of_lt_of_le (HZW.out b hb) T4.out.size) id)
            rw [← hcr] at D3
            have HSI := Lib.hid (show stops (inM M) (L kk) C i ↔ 0 < crd (crs (inM M) (L kk) C (i + 1)) id by
              unfold stops
              rw [hgd, show inM M id = true from decide_eq_true hab]
              simp)
            have HGD := Lib.hid hgd
            clear hcr hgd hbx4
            go_wp2_with fail
            refine (D3.out).mono ?_
            rintro e w5 ⟨v5, rfl, hr5, t5⟩
            obtain ⟨A5, k5, c5, rfl⟩ := hr5.slice
            have hbx5 := (HBX.out.carry T4.out (by simp)).carry t5 (by simp)
            have hlt5 := hbx5.lt
            have e1 := hbx5.cell 1
            have fz := hbx5.fr 1
            have hbx6 := hbx5.set 1 (.slice A5 k5 c5)
            have e2 := hbx6.cell 1
            simp only [List.getElem?_toArray, List.getElem?_cons_zero, List.getElem?_cons_succ] at e1
            simp only [List.setIfInBounds_toArray, List.set_cons_succ, List.set_cons_zero, List.getElem?_toArray, List.getElem?_cons_zero, List.getElem?_cons_succ] at e2
            have T6 := Lib.hid (show Touch [bs] w5 (w5.setCell ⟨bs, 1, none⟩ (.slice A5 k5 c5)) from (Touch.refl [bs] w5).setCell (a := ⟨bs, 1, none⟩) (.inl (by simp)) _)
            have R6 := Lib.hid (hr5.carry T6.out (by simp [HS2.out.1]))
            have V6 := Lib.hid ((V4.out.carry t5 (by simp)).carry T6.out (by simp [HS2.out.1]))
            have B6 := Lib.hid (show BoxV _ bs 29 #[.slice (some ⟨g, 0, none⟩) 8 cr, .slice A5 k5 c5] from hbx6)
            have HT6 := Lib.hid (((HT.out.trans T4.out (by simp)).trans t5 (by simp)).trans T6.out (by simp))
            have D4 := Lib.hid (refOfA R6.out hm id)
            clear hbx5 hbx6 t5 hr5 D3 T6 HBX HRW V4 HT
            go_wp2_with fail
            refine (D4.out).mono ?_
            rintro e w7 ⟨rfl, t7⟩
            have R7 := Lib.hid (R6.out.carry t7 (by simp))
            have V7 := Lib.hid (V6.out.carry t7 (by simp))
            have B7 := Lib.hid (B6.out.carry t7 (by simp))
            have HT7 := Lib.hid (HT6.out.trans t7 (by simp))
            clear t7 D4 R6 V6 B6 HT6 e1 e2 fz
            by_cases hpos : 0 < crd (crs (inM M) (L kk) C (i + 1)) id
            · have hst := HSI.out.2 hpos
              obtain rfl : i = i0 := by
                rcases Nat.lt_or_ge i i0 with h | h
                · exact absurd hst (HFS.out i h)
                · omega
              have hdec : decide (0 < crd (crs (inM M) (L kk) C (i + 1)) id) = true := by simpa using hpos
              have c0 := B7.out.cell 0
              have c1 := B7.out.cell 1
              simp only [List.getElem?_toArray, List.getElem?_cons_zero, List.getElem?_cons_succ] at c0 c1
              have hb7 := B7.out.lt
              have HT1 := Lib.hid ((T2.out.mono (S' := [bs]) (by simp)).trans HT7.out (by simp))
              have D5 := Lib.hid (refWithV (lv := .slice A5 k5 c5) (HQ.out.carry HT1.out (by simp [HS2.out.1])) kk hlt V7.out (fun b hb => Nat.lt_of_lt_of_le (HZ2.out b hb) HT1.out.size) ⟨_, _, _, rfl⟩)
              generalize crd (crs (inM M) (L kk) C (i + 1)) id = cn at *
              clear hpos
              go_wp2_with fail
              refine (D5.out).mono ?_
              rintro e w8 ⟨v8, rfl, ⟨A8, k8, c8, rfl, hr8⟩, t8⟩
              have hb2 := (HB2.out.carry HT1.out (by have := HBR.out.2.2; simp; omega)).carry t8 (by simp)
              have hlt2 := hb2.lt
              have d0 := hb2.cell 0
              have f0 := hb2.fr 0
              have hb3 := hb2.set 0 (.slice A8 k8 c8)
              have d1 := hb3.cell 1
              have f1 := hb3.fr 1
              have hb4 := hb3.set 1 (.slice A5 k5 c5)
              have HBB := Lib.hid hb4
              simp only [List.setIfInBounds_toArray, List.set_cons_succ, List.set_cons_zero, List.getElem?_toArray, List.getElem?_cons_zero, List.getElem?_cons_succ] at d0 d1
              have T9 := Lib.hid (show Touch [br] w8 ((w8.setCell ⟨br, 0, none⟩ (.slice A8 k8 c8)).setCell ⟨br, 1, none⟩ (.slice A5 k5 c5)) from ((Touch.refl [br] w8).setCell (a := ⟨br, 0, none⟩) (.inl (by simp)) _).setCell (a := ⟨br, 1, none⟩) (.inl (by simp)) _)
              have R9 := Lib.hid ((hr8.carry T9.out (by simp [HS2.out.2.1])).avoid (Z' := Z) (fun b hb => .inl (HS2.out.2.2 b hb)))
              have A9 := Lib.hid (((R7.out.carry t8 (by simp)).carry T9.out (by simp [HS2.out.2.1])).avoid (Z' := Z) (fun b hb => .inl (HS2.out.2.2 b hb)))
              have HT9 := Lib.hid ((((T0.out.mono (S' := []) (by simp)).trans HT1.out (fun b hb => by simp at hb; subst hb; exact .inr HBR.out.2.1)).trans t8 (by simp)).trans T9.out (fun b hb => by simp at hb; subst hb; exact .inr HBR.out.1))
              clear hb2 hb3 hb4 hr8 t8 D5 c0 c1
              go_wp2_with fail
              exact bodyPost_ret (ret_box_two (t := 29) Try.results15 rfl HBB.out Try.underlying29 rfl (by kernel_rfl) rfl rfl) rfl ⟨_, .inr ⟨kk, i, hlt, HA.out hlt, HF.out, hst, HFS.out, by rw [HGD.out]; rfl, ⟨_, _, rfl, R9.out, A9.out⟩⟩, HT9.out⟩
            · have hlti : i < i0 := by
                rcases Nat.lt_or_ge i i0 with h | h
                · exact h
                · exact absurd (HSI.out.1 (HST2.out (by omega))) hpos
              have hdec : decide (0 < crd (crs (inM M) (L kk) C (i + 1)) id) = false := by simpa using hpos
              generalize crd (crs (inM M) (L kk) C (i + 1)) id = cn at *
              clear hpos
              go_wp2_with fail
              go_roundg (i0 + 1 - (i + 1))
              case measure => omega
              case rel => exact ⟨i + 1, _, by omega, rfl, V7.out, B7.out, R7.out, HT7.out⟩
          · rw [decide_eq_false hab]
            have hns : ¬ stops (inM M) (L kk) C i := fun h => by
              have := h.1
              rw [hgd] at this
              exact hab (of_decide_eq_true this)
            have hlti : i < i0 := by
              rcases Nat.lt_or_ge i i0 with h | h
              · exact h
              · exact absurd (HST2.out (by omega)) hns
            have hcr : crs (inM M) (L kk) C (i + 1) = crs (inM M) (L kk) C i := by
              rw [crs, hgd, if_neg (show ¬ inM M id = true from fun h => hab (of_decide_eq_true h))]
            have R4 := Lib.hid (HRW.out.carry T4.out (by simp))
            rw [← hcr] at R4
            have HT4 := Lib.hid (HT.out.trans T4.out (by simp))
            have B4 := Lib.hid hbx4
            clear hbx4 hcr hns hab hgd
            go_wp2_with fail
            go_roundg (i0 + 1 - (i + 1))
            case measure => omega
            case rel => exact ⟨i + 1, _, by omega, rfl, V4.out, B4.out, R4.out, HT4.out⟩
    · obtain rfl : kk = 8 := by omega
      obtain rfl : j = 8 := by omega
      have hb2 := HB2.out.carry ht (by simp)
      have hlt2 := hb2.lt
      have d0 := hb2.cell 0
      have f0 := hb2.fr 0
      have hb3 := hb2.set 0 (.slice Ar nr cr)
      have d1 := hb3.cell 1
      have f1 := hb3.fr 1
      have hb4 := hb3.set 1 (.slice Al nl cl)
      have HBB := Lib.hid hb4
      simp only [List.getElem?_toArray, List.getElem?_cons_zero, List.getElem?_cons_succ] at d0 d1
      have T3 := Lib.hid (show Touch [br] wr ((wr.setCell ⟨br, 0, none⟩ (.slice Ar nr cr)).setCell ⟨br, 1, none⟩ (.slice Al nl cl)) from ((Touch.refl [br] wr).setCell (a := ⟨br, 0, none⟩) (.inl (by simp)) _).setCell (a := ⟨br, 1, none⟩) (.inl (by simp)) _)
      have HT := Lib.hid ht
      clear hb2 hb3 hb4 ht
      go_wp2_with fail
      exact bodyPost_ret (ret_box_two (t := 29) Try.results15 rfl HBB.out Try.underlying29 rfl (by kernel_rfl) rfl rfl) rfl ⟨_, .inl ⟨rfl, HF.out, ⟨_, _, rfl, ((HQ.out.carry HT.out (by simp)).carry T3.out (by simp [HS2.out.2.1])).avoid (fun b hb => .inl (HS2.out.2.2 b hb)), ((HR.out.carry HT.out (by simp)).carry T3.out (by simp [HS2.out.2.1])).avoid (fun b hb => .inl (HS2.out.2.2 b hb))⟩⟩, (T0.out.trans HT.out (by simp)).trans T3.out (fun b hb => by simp at hb; subst hb; exact .inr HBR.out.1)⟩

set_option maxRecDepth 100000 in
theorem refNewW (w : World) (m : Nat) (Z : List Nat) (hZ : ∀ b ∈ Z, b < w.heap.size) : Calls Try.prog 9 #[] w (Leaves (StateV Z m (fun _ => []) (fun _ => none)) w) := by
  obtain ⟨i0, hi0, hz0, hz1, hz2⟩ := info_parts lists_info
  obtain ⟨w2, hmk, hown, hgrow⟩ := run_makeSlice_full (P := Try.prog) (w.alloc (.cells #[.slice none 0 0, .slice none 0 0] 29)) (w.heap.size + 1) 26 31 i0 (.slice none 0 0) 1 Try.underlying26 hi0 hz0 hz1 .i64 .i64 8 (by decide) (by rw [hz2]; decide) (by unfold maxLen; omega) (by simp)
  have hsz : (w.alloc (.cells #[.slice none 0 0, .slice none 0 0] 29)).heap.size = w.heap.size + 1 := by simp
  rw [hsz] at hmk hown
  have t1 : Touch [] (w.alloc (.cells #[.slice none 0 0, .slice none 0 0] 29)) w2 := (Touch.refl [] _).grown hgrow (by simp)
  have hb := (BoxV.new w 29 #[.slice none 0 0, .slice none 0 0]).carry t1 (by simp)
  have hlt2 := hb.lt
  have d0 := hb.cell 0
  have f0 := hb.fr 0
  have hb3 := hb.set 0 (.slice (some ⟨w.heap.size + 1, 0, none⟩) 8 8)
  have d1 := hb3.cell 1
  have f1 := hb3.fr 1
  have hb4 := hb3.set 1 (.slice none 0 0)
  have HBB := Lib.hid hb4
  simp only [List.setIfInBounds_toArray, List.set_cons_succ, List.set_cons_zero, List.getElem?_toArray, List.getElem?_cons_zero, List.getElem?_cons_succ] at d0 d1
  have T9 := Lib.hid (show Touch [w.heap.size] w2 ((w2.setCell ⟨w.heap.size, 0, none⟩ (.slice (some ⟨w.heap.size + 1, 0, none⟩) 8 8)).setCell ⟨w.heap.size, 1, none⟩ (.slice none 0 0)) from ((Touch.refl [w.heap.size] w2).setCell (a := ⟨w.heap.size, 0, none⟩) (.inl (by simp)) _).setCell (a := ⟨w.heap.size, 1, none⟩) (.inl (by simp)) _)
  have hmc : (madeCells (Value.slice none 0 0).cells (8 * 1)).toList = [.slice none 0 0, .slice none 0 0, .slice none 0 0, .slice none 0 0, .slice none 0 0, .slice none 0 0, .slice none 0 0, .slice none 0 0] := by kernel_rfl
  have HRA := Lib.hid (show RingsAt (w.heap.size :: Z) w2 (.slice (some ⟨w.heap.size + 1, 0, none⟩) 8 8) (fun _ => []) from by
    have hlt := (hown.lt (w.heap.size + 1) rfl).2
    refine ⟨w.heap.size + 1, 8, rfl, Nat.le_refl _, by unfold maxLen; omega, hlt, fun hm => ?_, fun k hk => ⟨.slice none 0 0, ?_, LInts.nil _ _⟩⟩
    · rw [List.mem_cons] at hm
      rcases hm with h | h
      · omega
      · have := hZ _ h; omega
    · rw [hown.cellAt k (by omega), hmc]
      match k, hk with
      | 0, _ => rfl
      | 1, _ => rfl
      | 2, _ => rfl
      | 3, _ => rfl
      | 4, _ => rfl
      | 5, _ => rfl
      | 6, _ => rfl
      | 7, _ => rfl
      | k + 8, h => omega)
  have HT := Lib.hid ((((Touch.refl [] w).alloc (.cells #[.slice none 0 0, .slice none 0 0] 29)).trans t1 (by simp)).trans T9.out (fun b hb => by simp at hb; subst hb; exact .inr (Nat.le_refl _)))
  have hmk' : (Instr.makeSlice 26 (.int .i64 8) (.int .i64 8)).run Try.prog (w.alloc (.cells #[.slice none 0 0, .slice none 0 0] 29)) = .ok (.slice (some ⟨w.heap.size + 1, 0, none⟩) 8 8) w2 := hmk
  clear hmk hown hgrow t1 hb hb3 hb4
  go_enter Try.func9, Try.ntmps9
  go_wp2_with fail
  exact bodyPost_ret (ret_box (t := 29) Try.results9 rfl HBB.out Try.underlying29 rfl (by kernel_rfl)) rfl ⟨_, rfl, ⟨_, _, rfl, (HRA.out.carry T9.out (by simp)).avoid (fun b hb => .inl (by simp [hb])), ⟨[], RowsAt.nil _ _, rfl, Nat.zero_le _⟩⟩, HT.out⟩
end Go.Proofs.Ytcggpgjnjfjfnaa
