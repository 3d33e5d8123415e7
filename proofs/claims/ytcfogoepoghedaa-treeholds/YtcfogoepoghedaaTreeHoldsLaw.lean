/-
  Layer 18 (tree): TreeHolds is true for every input: each class but the root is a child of one, its parent, whose level is above its own; a leaf's level is 1; there is a leaf; a tree that isn't there has nothing.
  No condition.
-/
import Derived.Test.YtcfogoepoghedaaTree12
import Derived.Test.YtcfogoepoghedaaClassOpen
namespace Go.Proofs.Ytcfogoepoghedaa
open Go.ChangeShapes Go.WideShapes Go.ChangeAt Go.RowKit Go.Deep Go.Maps
set_option linter.unusedVariables false
set_option linter.unusedSimpArgs false
set_option maxRecDepth 100000 in
set_option maxHeartbeats 32000000 in
theorem treeHolds_walk (A : Option Addr) (n c : Nat) (X : Nat → Cl) (w : World) (hX : ClsCells w A n X) (hf : ∀ i, i < n → (X i).Fit) :
    Calls Try.prog 4 #[.slice A n c] w fun e w' => e = .returned (.bool true) ∧ Touch [] w w' := by
  have N1 := Lib.hid (fun i w => nil_class i w)
  have N2 := Lib.hid (fun w => nil_len w)
  have N3 := Lib.hid (fun w => nil_root w)
  have N4 := Lib.hid (fun i w => nil_level i w)
  have N5 := Lib.hid (fun w => nil_ids w)
  have N6 := Lib.hid (fun w => nil_leaves w)
  have N7 := Lib.hid (fun i w => nil_children i w)
  have N8 := Lib.hid (fun i w => nil_leaf i w)
  have HX := Lib.hid hX
  have HF := Lib.hid hf
  have sf := store_flt
  clear hX hf
  go_enter Try.func4, Try.ntmps4
  go_wp2_with fail
  refine (N1.out _ _).mono ?_
  rintro e w1 ⟨rfl, t1⟩
  have T1 := Lib.hid (t1.alloc (.cells #[.int .i64 0, .int .i64 0, .float .f64 0, .int .i64 0, .int .i64 0, .int .i64 0, .int .i64 0, .int .i64 0, .int .i64 0, .bool false, .bool false] 36))
  clear t1
  go_upto_region 3 with fail
  generalize w1.alloc (.cells #[.int .i64 0, .int .i64 0, .float .f64 0, .int .i64 0, .int .i64 0, .int .i64 0, .int .i64 0, .int .i64 0, .int .i64 0, .bool false, .bool false] 36) = w2 at *
  generalize w1.heap.size = bz at *
  go_wp2_with fail
  refine (N2.out _).mono ?_
  rintro e w3 ⟨rfl, hw⟩
  rw [hw]
  clear hw w3
  go_wp2_with fail
  refine (N3.out _).mono ?_
  rintro e w3 ⟨rfl, hw⟩
  rw [hw]
  clear hw w3
  go_wp2_with fail
  refine (N4.out _ _).mono ?_
  rintro e w3 ⟨rfl, hw⟩
  rw [hw]
  clear hw w3
  go_wp2_with fail
  refine (N5.out _).mono ?_
  rintro e w3 ⟨rfl, hw⟩
  rw [hw]
  clear hw w3
  go_wp2_with fail
  refine (N6.out _).mono ?_
  rintro e w3 ⟨rfl, hw⟩
  rw [hw]
  clear hw w3
  go_wp2_with fail
  refine (N7.out _ _).mono ?_
  rintro e w3 ⟨rfl, hw⟩
  rw [hw]
  clear hw w3
  go_wp2_with fail
  refine (N8.out _ _).mono ?_
  rintro e w3 ⟨rfl, t3⟩
  have T3 := Lib.hid (T1.out.trans t3 (by simp))
  clear t3 T1 N1 N2 N3 N4 N5 N6 N7 N8
  by_cases h64 : 64 < n
  · have h64' : (64 : Int) < (n : Int) := by omega
    have LV := Lib.hid (lives18 w3)
    clear HX HF sf
    go_wp2_with fail
    refine (LV.out).mono ?_
    rintro e w4 ⟨rfl, t4⟩
    have T4 := Lib.hid (T3.out.trans t4 (by simp))
    clear t4
    go_wp2_with fail
    go_ret
    exact ⟨rfl, T4.out⟩
  · have h64' : ¬ (64 : Int) < (n : Int) := by omega
    have CO := Lib.hid (compile_any (c := c) (HX.out.new T3.out) HF.out)
    clear HX HF
    go_wp2_with fail
    refine (CO.out).mono ?_
    rintro e w4 ⟨hc, t4⟩
    have T4 := Lib.hid (T3.out.trans t4 (by simp))
    have hcase : (∃ k : Int, k ≠ 0 ∧ e = .returned (.tuple #[.pointer none, .int .i64 k])) ∨ ∃ L rt Lm b V sK sL, IdsOf (gC X n) L ∧ L.length = n ∧ rootedP (gC X n) L ∧ Forest (upC (gC X n)) L ∧ rt ∈ L ∧ upC (gC X n) rt = 0 ∧ LvOK (upC (gC X n)) (onWay (upC (gC X n)) (leavesOf (gC X n) L)) (lvF Lm) ∧ lvF Lm rt ≤ 8 ∧ e = .returned (.tuple #[.pointer (some ⟨(b : TB).p, 0, none⟩), .int .i64 0]) ∧ TreeAt w4 b (treeD (gC X n) L rt V Lm) n sK sL := by
      rcases hc with ⟨hg, rfl⟩ | ⟨_, L, hL, hLn, ⟨_, rfl⟩ | ⟨_, _, rfl⟩ | ⟨hr, hF, rt, Lm, h1, h2, h3, ⟨_, rfl⟩ | ⟨h4, b, V, sK, sL, rfl, ht⟩⟩⟩
      · exact .inl ⟨_, hg, rfl⟩
      · exact .inl ⟨10, by decide, rfl⟩
      · exact .inl ⟨11, by decide, rfl⟩
      · exact .inl ⟨12, by decide, rfl⟩
      · exact .inr ⟨L, rt, Lm, b, V, sK, sL, hL, hLn, hr, hF, h1, h2, h3, h4, rfl, ht⟩
    clear hc t4 CO
    rcases hcase with ⟨k, hk, rfl⟩ | ⟨L, rt, Lm, b, V, sK, sL, hL, hLn, hR, hF, hrt, hrt0, hlv, h8, rfl, ht⟩
    · have hb : (k != 0) = true := by simpa using hk
      have LV := Lib.hid (lives18 w4)
      clear hk sf
      go_wp2_with fail
      refine (LV.out).mono ?_
      rintro e w5 ⟨rfl, t5⟩
      have T5 := Lib.hid (T4.out.trans t5 (by simp))
      clear t5
      go_wp2_with fail
      go_ret
      exact ⟨rfl, T5.out⟩
    · have H4 := Lib.hid ht
      have HL := Lib.hid hL
      have FO := Lib.hid hF
      have LM := Lib.hid (leaves_mem hL hF)
      have LB := Lib.hid (fun id hi => leafB_iff (rt := rt) (V := V) (Lm := Lm) hL hF (id := id) hi)
      have LVP := Lib.hid hlv
      have MA := Lib.hid (metK_all hF hR.1)
      have RT := Lib.hid (show rt ∈ L ∧ upC (gC X n) rt = 0 from ⟨hrt, hrt0⟩)
      have R8 := Lib.hid h8
      have ID := Lib.hid (tree_ids ht (by omega))
      have hLn64 : L.length ≤ 64 := by omega
      have ML := Lib.hid (metK_le (C := gC X n) hLn64)
      clear ht hL hF hlv hR hrt hrt0 h8
      generalize gC X n = C at *
      go_wp2_with fail
      refine (ID.out).mono ?_
      rintro e w5 ⟨A5, c5, L5, rfl, hrow, hI, hl5, t5⟩
      obtain rfl : L = L5 := ids_unique HL.out hI
      have RW := Lib.hid hrow
      have H5 := Lib.hid (H4.out.new t5)
      have T5 := Lib.hid (T4.out.trans t5 (by simp))
      clear hrow hI t5 ID H4
      go_wp2_with fail
      go_loopw [8, 9, 75] (fun m l v wr => ∃ k : Nat, k ≤ L.length ∧ v = .int .i64 (k : Int) ∧ m = .int .i64 (metK C L (L.take k) : Int) ∧ l = .int .i64 (((L.take k).filter (leafB (treeD C L rt V Lm))).length : Int) ∧ Touch [] w5 wr) (fun _ _ v _ => L.length - (intOf v).toNat)
      case atStart => exact ⟨0, by omega, rfl, rfl, rfl, Touch.refl _ _⟩
      case round =>
        obtain ⟨k, hk, rfl, rfl, rfl, ht⟩ := hrel
        have TR := Lib.hid ht
        clear ht
        by_cases hlt : k < L.length
        · obtain ⟨x, hx⟩ : ∃ x, L[k]? = some x := ⟨_, List.getElem?_eq_getElem hlt⟩
          have hxL := List.mem_of_getElem? hx
          have HXL := Lib.hid hxL
          have HI := Lib.hid (show i64k x from ((HL.out.2 x).1 hxL).1)
          have etk : L.take (k + 1) = L.take k ++ [x] := by rw [List.take_add_one, hx]; rfl
          have ETK := Lib.hid etk
          obtain ⟨gA, rfl, hbA, hlA, cA⟩ := row_cell (TR.out.row RW.out (by simp)) hx
          have hlt' : (k : Int) < (L.length : Int) := by omega
          have hxp := FO.out.pos x hxL
          have hkl := kidsK_le C L x
          have CH := Lib.hid (tree_children (H5.out.new TR.out) x HI.out (show (kidsK C L x).length ≤ 1000 by omega))
          have mle := ML.out (L.take k)
          have htl := List.length_take_le k L
          have fle := List.length_filter_le (leafB (treeD C L rt V Lm)) (L.take k)
          have KM := Lib.hid (fun c => kid_mem (C := C) (L := L) (id := x) (c := c) (by omega))
          have EM := Lib.hid (metK_snoc (C := C) (L := L) (L.take k) x)
          clear hx hxL etk
          change Hid (Calls Try.prog 19 #[.pointer (some ⟨b.p, 0, none⟩), .int .i64 x] wr fun e w' => ∃ A c, e = .returned (.slice A (kidsK C L x).length c) ∧ IntCells w' w'.heap.size A (kidsK C L x).length (fun i => (kidsK C L x).getD i 0) ∧ Touch [] wr w') at CH
          obtain ⟨Kv, eK⟩ : ∃ Kv, kidsK C L x = Kv := ⟨_, rfl⟩
          rw [eK] at CH KM hkl EM
          have EK := Lib.hid eK
          clear eK
          go_wp2_with fail
          refine (CH.out).mono ?_
          rintro e w6 ⟨A6, c6, rfl, hI6, t6⟩
          have I6 := Lib.hid hI6
          have T6 := Lib.hid (TR.out.trans t6 (by simp))
          clear hI6 t6 CH cA
          obtain ⟨m0, em0⟩ : ∃ m0, metK C L (L.take k) = m0 := ⟨_, rfl⟩
          rw [em0] at mle EM ⊢
          obtain ⟨l0, el0⟩ : ∃ l0, ((L.take k).filter (leafB (treeD C L rt V Lm))).length = l0 := ⟨_, rfl⟩
          rw [el0] at fle ⊢
          have EL0 := Lib.hid el0
          clear em0 el0
          go_wp2_with fail
          go_loopw [8, 83] (fun m v wi => ∃ j : Nat, j ≤ Kv.length ∧ v = .int .i64 (j : Int) ∧ m = .int .i64 ((m0 + j : Nat) : Int) ∧ Touch [] w6 wi) (fun _ v _ => Kv.length - (intOf v).toNat)
          case atStart => exact ⟨0, by omega, rfl, rfl, Touch.refl _ _⟩
          case round =>
            obtain ⟨j, hj, rfl, rfl, hti⟩ := hrel
            have TI := Lib.hid hti
            clear hti
            by_cases hjn : j < Kv.length
            · obtain ⟨bY, off, rfl, hbY, cY⟩ := I6.out.new TI.out j hjn
              have hjn' : (j : Int) < (Kv.length : Int) := by omega
              obtain ⟨y, ey⟩ : ∃ y, Kv.getD j 0 = y := ⟨_, rfl⟩
              change wr.cell? _ = some (.int .i64 (Kv.getD j 0)) at cY
              rw [ey] at cY
              have hyK : y ∈ Kv := by rw [← ey, List.getD, List.getElem?_eq_getElem hjn]; exact List.getElem_mem hjn
              obtain ⟨hyL, hyu⟩ := (KM.out y).1 hyK
              have hyi := ((HL.out.2 y).1 hyL)
              have HY := Lib.hid (H5.out.new (T6.out.trans TI.out (by simp)))
              have CL := Lib.hid (tree_class HY.out y hyi.1)
              change Hid (Calls Try.prog 16 #[.pointer (some ⟨b.p, 0, none⟩), .int .i64 y] wr fun e w' => e = .returned (.tuple #[.agg (clsOf C y).cells, .bool (C y).isSome]) ∧ Touch [] wr w') at CL
              rw [hyi.2] at CL
              have hup : (clsOf C y).parent = x := hyu
              have lup := FO.out.lv_up LM.out LVP.out hyL (by rw [hyu]; omega)
              rw [hyu] at lup
              have hyr : y ≠ rt := fun e => by
                rw [e, RT.out.2] at hyu
                omega
              have HYI := Lib.hid hyi.1
              obtain ⟨cf, ecf⟩ : ∃ cf, clsOf C y = cf := ⟨_, rfl⟩
              rw [ecf] at CL hup
              obtain ⟨y0, y1, y2, y3, y4, y5, y6, y7, y8, y9, y10⟩ := cf
              unfold Cl.cells at CL
              simp only at CL hup
              subst hup
              obtain ⟨ly, ely⟩ : ∃ ly, lvF Lm y = ly := ⟨_, rfl⟩
              obtain ⟨lx, elx⟩ : ∃ lx, lvF Lm y1 = lx := ⟨_, rfl⟩
              rw [ely, elx] at lup
              have ELY := Lib.hid ely
              have ELX := Lib.hid elx
              have hge : decide (ly ≥ lx) = false := by simp; omega
              have hge' : decide (lx ≤ ly) = false := by simp; omega
              have hne : (y == rt) = false := by simpa using hyr
              clear ey hyK hyu hyi ecf ely elx
              go_wp2_with fail
              refine (CL.out).mono ?_
              rintro e w7 ⟨rfl, t7⟩
              have T7 := Lib.hid ((TI.out.trans t7 (by simp)).alloc (.cells #[.int .i64 y0, .int .i64 y1, .float .f64 y2, .int .i64 y3, .int .i64 y4, .int .i64 y5, .int .i64 y6, .int .i64 y7, .int .i64 y8, .bool y9, .bool y10] 36))
              have H7 := Lib.hid ((HY.out.new t7).new ((Touch.refl [] w7).alloc (.cells #[.int .i64 y0, .int .i64 y1, .float .f64 y2, .int .i64 y3, .int .i64 y4, .int .i64 y5, .int .i64 y6, .int .i64 y7, .int .i64 y8, .bool y9, .bool y10] 36)))
              have Q7 := Lib.hid (BoxV.new w7 36 #[.int .i64 y0, .int .i64 y1, .float .f64 y2, .int .i64 y3, .int .i64 y4, .int .i64 y5, .int .i64 y6, .int .i64 y7, .int .i64 y8, .bool y9, .bool y10])
              clear t7 CL cY HY
              go_upto_region 16 with fail
              generalize w7.alloc (.cells #[.int .i64 y0, .int .i64 y1, .float .f64 y2, .int .i64 y3, .int .i64 y4, .int .i64 y5, .int .i64 y6, .int .i64 y7, .int .i64 y8, .bool y9, .bool y10] 36) = w8 at *
              generalize w7.heap.size = q7 at *
              have q1 := Q7.out.cell 1
              have lq := Q7.out.lt
              simp only [List.getElem?_toArray, List.getElem?_cons_zero, List.getElem?_cons_succ] at q1
              have LY := Lib.hid (show Calls Try.prog 22 #[.pointer (some ⟨b.p, 0, none⟩), .int .i64 y] w8 fun e w' => e = .returned (.int .i64 ly) ∧ w' = w8 from by
                have := tree_level H7.out y HYI.out
                rwa [show ((treeD C L rt V Lm).Lm y).getD 0 = ly from ELY.out] at this)
              have LX := Lib.hid (show Calls Try.prog 22 #[.pointer (some ⟨b.p, 0, none⟩), .int .i64 y1] w8 fun e w' => e = .returned (.int .i64 lx) ∧ w' = w8 from by
                have := tree_level H7.out y1 HI.out
                rwa [show ((treeD C L rt V Lm).Lm y1).getD 0 = lx from ELX.out] at this)
              have RO := Lib.hid (show Calls Try.prog 9 #[.pointer (some ⟨b.p, 0, none⟩)] w8 fun e w' => e = .returned (.int .i64 rt) ∧ w' = w8 from tree_root H7.out)
              clear Q7
              go_wp2_with fail
              refine (LY.out).mono ?_
              rintro e w9 ⟨rfl, hw⟩
              rw [hw]
              clear hw w9 q1 lq
              go_wp2_with fail
              refine (LX.out).mono ?_
              rintro e w9 ⟨rfl, hw⟩
              rw [hw]
              clear hw w9
              go_wp2_with fail
              refine (RO.out).mono ?_
              rintro e w9 ⟨rfl, hw⟩
              rw [hw]
              clear hw w9
              go_wp2_with fail
              go_roundw
              case rel => exact ⟨j + 1, by omega, by go_num, by go_num, T7.out⟩
              case measure => simp [intOf]; omega
            · obtain rfl : j = Kv.length := by omega
              have hjn' : ¬ (Kv.length : Int) < (Kv.length : Int) := by omega
              have T7 := Lib.hid (T6.out.trans TI.out (by simp))
              have H7 := Lib.hid (H5.out.new T7.out)
              have LF := Lib.hid (fun w' (t : Touch [] wr w') => tree_leaf (H7.out.new t) x HI.out)
              have LX := Lib.hid (show ∀ w', Touch [] wr w' → Calls Try.prog 22 #[.pointer (some ⟨b.p, 0, none⟩), .int .i64 x] w' fun e w'' => e = .returned (.int .i64 (lvF Lm x)) ∧ w'' = w' from fun w' t => tree_level (H7.out.new t) x HI.out)
              have l1 := (FO.out.lv_leaf LM.out LVP.out HXL.out).trans (LB.out x HXL.out).symm
              obtain ⟨lx, elx⟩ : ∃ lx, lvF Lm x = lx := ⟨_, rfl⟩
              rw [elx] at LX l1
              have EF := Lib.hid (show ((L.take (k + 1)).filter (leafB (treeD C L rt V Lm))).length = l0 + (if leafB (treeD C L rt V Lm) x = true then 1 else 0) by
                rw [ETK.out, List.filter_append, List.length_append, EL0.out]
                cases hh : leafB (treeD C L rt V Lm) x <;> simp [hh])
              have EMT := Lib.hid (show metK C L (L.take (k + 1)) = m0 + Kv.length by rw [ETK.out]; exact EM.out)
              clear elx
              cases hlf : leafB (treeD C L rt V Lm) x with
              | true =>
                rw [hlf] at LF EF l1
                rw [if_pos rfl] at EF
                have h1 : lx = 1 := l1.2 rfl
                subst h1
                clear hlf l1
                go_wp2_with fail
                refine (LF.out _ (Touch.refl _ _)).mono ?_
                rintro e w7 ⟨rfl, t7⟩
                have T8 := Lib.hid (t7)
                clear t7
                go_wp2_with fail
                refine (LX.out _ T8.out).mono ?_
                rintro e w8 ⟨rfl, hw⟩
                rw [hw]
                clear hw w8
                go_wp2_with fail
                refine (LF.out _ T8.out).mono ?_
                rintro e w8 ⟨rfl, t8⟩
                have T9 := Lib.hid ((T7.out.trans T8.out (by simp)).trans t8 (by simp))
                clear t8 LF LX
                go_wp2_with fail
                go_roundw
                case rel => exact ⟨k + 1, by omega, by go_num, by rw [EMT.out]; simp, by rw [EF.out]; go_num, T9.out⟩
                case measure => simp [intOf]; omega
              | false =>
                rw [hlf] at LF EF l1
                rw [if_neg (by decide)] at EF
                have h1 : ¬ lx = 1 := fun h => by have := l1.1 h; cases this
                have hb1 : (lx == 1) = false := by simpa using h1
                clear hlf l1
                go_wp2_with fail
                refine (LF.out _ (Touch.refl _ _)).mono ?_
                rintro e w7 ⟨rfl, t7⟩
                have T8 := Lib.hid (t7)
                clear t7
                go_wp2_with fail
                refine (LX.out _ T8.out).mono ?_
                rintro e w8 ⟨rfl, hw⟩
                rw [hw]
                clear hw w8
                go_wp2_with fail
                refine (LF.out _ T8.out).mono ?_
                rintro e w8 ⟨rfl, t8⟩
                have T9 := Lib.hid ((T7.out.trans T8.out (by simp)).trans t8 (by simp))
                clear t8 LF LX
                go_wp2_with fail
                go_roundw
                case rel => exact ⟨k + 1, by omega, by go_num, by rw [EMT.out]; simp, by rw [EF.out]; go_num, T9.out⟩
                case measure => simp [intOf]; omega
        · obtain rfl : k = L.length := by omega
          have hlt' : ¬ (L.length : Int) < (L.length : Int) := by omega
          rw [List.take_length]
          have H7 := Lib.hid (H5.out.new TR.out)
          have T7 := Lib.hid (T5.out.trans TR.out (by simp))
          have LE := Lib.hid (tree_len H7.out)
          have LS := Lib.hid (tree_leaves H7.out (by omega) HL.out)
          have hls : 1 ≤ (L.filter (leafB (treeD C L rt V Lm))).length := by
            obtain ⟨l, _, hlf, _⟩ := FO.out.leafBelow RT.out.1
            exact List.length_pos_of_mem (List.mem_filter.2 ⟨hlf.1, (LB.out l hlf.1).2 hlf⟩)
          have hlle := List.length_filter_le (leafB (treeD C L rt V Lm)) L
          have RO := Lib.hid (show ∀ w', Touch [] wr w' → Calls Try.prog 9 #[.pointer (some ⟨b.p, 0, none⟩)] w' fun e w'' => e = .returned (.int .i64 rt) ∧ w'' = w' from fun w' t => tree_root (H7.out.new t))
          have hri := ((HL.out.2 rt).1 RT.out.1).1
          have LX := Lib.hid (show ∀ w', Touch [] wr w' → Calls Try.prog 22 #[.pointer (some ⟨b.p, 0, none⟩), .int .i64 rt] w' fun e w'' => e = .returned (.int .i64 (lvF Lm rt)) ∧ w'' = w' from fun w' t => tree_level (H7.out.new t) rt hri)
          have hm := MA.out
          have h8 := R8.out
          change Hid (Calls Try.prog 14 #[.pointer (some ⟨b.p, 0, none⟩)] wr fun e w' => ∃ A c, e = .returned (.slice A (L.filter (leafB (treeD C L rt V Lm))).length c) ∧ w'.ownsRow wr.heap.size 3 1 (.slice A (L.filter (leafB (treeD C L rt V Lm))).length c) (L.filter (leafB (treeD C L rt V Lm))).length (zv (L.filter (leafB (treeD C L rt V Lm)))) ∧ Touch [] wr w') at LS
          obtain ⟨lv, elv⟩ : ∃ lv, lvF Lm rt = lv := ⟨_, rfl⟩
          obtain ⟨m0, em0⟩ : ∃ m0, metK C L L = m0 := ⟨_, rfl⟩
          rw [elv] at LX h8
          rw [em0] at hm ⊢
          generalize (L.filter (leafB (treeD C L rt V Lm))) = F at *
          obtain ⟨l0, el0⟩ : ∃ l0, F.length = l0 := ⟨_, rfl⟩
          rw [el0] at LS hls hlle ⊢
          have h8' : decide (lv ≤ 8) = true := by simpa using h8
          have hl1 : decide ((l0 : Int) ≥ 1) = true := by simp; omega
          have hl1' : decide (1 ≤ (l0 : Int)) = true := by simp; omega
          have hmn : ((m0 : Int) == (n : Int) - 1) = true := by simp; omega
          clear elv em0 el0 hlt hk hri
          go_wp2_with fail
          refine (LE.out).mono ?_
          rintro e w8 ⟨rfl, hw⟩
          rw [hw]
          clear hw w8 LE
          go_wp2_with fail
          refine (LS.out).mono ?_
          rintro e w8 ⟨A8, c8, rfl, _, t8⟩
          have T8 := Lib.hid t8
          clear t8 LS
          go_wp2_with fail
          refine (RO.out _ T8.out).mono ?_
          rintro e w9 ⟨rfl, hw⟩
          rw [hw]
          clear hw w9
          go_wp2_with fail
          refine (LX.out _ T8.out).mono ?_
          rintro e w9 ⟨rfl, hw⟩
          rw [hw]
          clear hw w9
          have LV := Lib.hid (lives18 w8)
          go_wp2_with fail
          refine (LV.out).mono ?_
          rintro e w9 ⟨rfl, t9⟩
          have T9 := Lib.hid ((T7.out.trans T8.out (by simp)).trans t9 (by simp))
          clear t9
          go_wp2_with fail
          go_ret
          exact ⟨rfl, T9.out⟩
set_option maxRecDepth 100000 in
theorem cls_cells (W : World) (base : Nat) (H : Type) (enc : TypeId × Value → H) (v : Value) (d : DataW H) (p : List MemPlace) (hv : Value.okWide Try.prog W .any base 22 v)
    (h : DataW.Trod enc Try.prog W 0 (fun _ => true) true 22 v d p) : ∃ A len cap X, v = .slice A len cap ∧ ClsCells W A len X ∧ ∀ i, i < len → (X i).Fit := by
  obtain ⟨A, len, cap, rfl, hl, hm, hi⟩ := slice_structs Try.underlying22 Try.underlying36 (by kernel_rfl) (by kernel_rfl) (Nat.zero_lt_succ _) hv h
  haveI : Inhabited Cl := ⟨zeroC⟩
  obtain ⟨X, hX⟩ := Deep.choose_lt (α := Cl) (n := len) (p := fun i e => (∃ b off, A = some ⟨b, off, none⟩ ∧ b < W.heap.size ∧ W.rangeAt b (off + i * 11) e.cells.toList) ∧ e.Fit) (fun i hlt => by
      obtain ⟨b, off, hA, hb, hf⟩ := hi i hlt
      obtain ⟨u0, _, _, c0, g0⟩ := hf 0 _ rfl
      obtain ⟨u1, _, _, c1, g1⟩ := hf 1 _ rfl
      obtain ⟨u2, _, _, c2, g2⟩ := hf 2 _ rfl
      obtain ⟨u3, _, _, c3, g3⟩ := hf 3 _ rfl
      obtain ⟨u4, _, _, c4, g4⟩ := hf 4 _ rfl
      obtain ⟨u5, _, _, c5, g5⟩ := hf 5 _ rfl
      obtain ⟨u6, _, _, c6, g6⟩ := hf 6 _ rfl
      obtain ⟨u7, _, _, c7, g7⟩ := hf 7 _ rfl
      obtain ⟨u8, _, _, c8, g8⟩ := hf 8 _ rfl
      obtain ⟨u9, _, _, c9, g9⟩ := hf 9 _ rfl
      obtain ⟨u10, _, _, c10, g10⟩ := hf 10 _ rfl
      obtain ⟨x0, rfl, w0⟩ := cell_int Try.underlying3 g0
      obtain ⟨x1, rfl, w1⟩ := cell_int Try.underlying3 g1
      obtain ⟨x2, rfl, w2⟩ := cell_float Try.underlying34 g2
      obtain ⟨x3, rfl, w3⟩ := cell_int Try.underlying3 g3
      obtain ⟨x4, rfl, w4⟩ := cell_int Try.underlying3 g4
      obtain ⟨x5, rfl, w5⟩ := cell_int Try.underlying3 g5
      obtain ⟨x6, rfl, w6⟩ := cell_int Try.underlying3 g6
      obtain ⟨x7, rfl, w7⟩ := cell_int Try.underlying3 g7
      obtain ⟨x8, rfl, w8⟩ := cell_int Try.underlying3 g8
      obtain ⟨x9, rfl⟩ := cell_bool Try.underlying4 g9
      obtain ⟨x10, rfl⟩ := cell_bool Try.underlying4 g10
      refine ⟨⟨x0, x1, x2, x3, x4, x5, x6, x7, x8, x9, x10⟩, ⟨b, off, hA, hb, fun j u hj => ?_⟩, i64_in w0, i64_in w1, w2⟩
      have hj11 : j < 11 := by
        have := (List.getElem?_eq_some_iff.1 hj).1
        simpa [Cl.cells] using this
      rcases (show j = 0 ∨ j = 1 ∨ j = 2 ∨ j = 3 ∨ j = 4 ∨ j = 5 ∨ j = 6 ∨ j = 7 ∨ j = 8 ∨ j = 9 ∨ j = 10 by omega) with rfl | rfl | rfl | rfl | rfl | rfl | rfl | rfl | rfl | rfl | rfl <;> cases hj <;> assumption)
  exact ⟨A, len, cap, X, rfl, fun i hi => (hX i hi).1, fun i hi => (hX i hi).2⟩
set_option maxRecDepth 100000 in
theorem treeHolds_calls : LawCalls Try.prog 4 Try.f4 := by
  intro H enc W base args ds p hval hA hlt
  rw [Try.params4] at hA hval
  obtain ⟨v0, vs0, d0, ds0, p0, q0, hargs, rfl, rfl, h0, r0⟩ := trodAll_cons hA
  obtain ⟨rfl, rfl, rfl⟩ := trodAll_nil r0
  obtain rfl : args = #[v0] := by cases args; simp_all
  obtain ⟨A, len, cap, X, rfl, hX, hf⟩ := cls_cells W base H enc v0 d0 p0 (hval 0 22 v0 rfl rfl) h0
  refine (treeHolds_walk A len cap X W hX hf).mono ?_
  rintro e w' ⟨he, t⟩
  exact ⟨he, t.below (by simp) (Nat.le_refl _)⟩

set_option maxRecDepth 100000 in
theorem treeHolds_lifted (os : Os) (started : os.Started) (H : Type) (enc : TypeId × Value → H) :
    ReturnsInHanded {} Try.checked os 4 .any (Rows.treeHoldsSpec.pre6 enc Try.prog Try.f4 Rows.treeHoldsRow.domain false) (Rows.treeHoldsSpec.post enc Try.prog Try.f4 false true false false) := by
  refine returnsInHanded_of_change (C := Try.checked) own started (by kernel_rfl) Try.func4
    (ChangeSpec.witness6 (enc := enc) (C := Try.checked) false ⟨#[], #[.slice none 0 0], []⟩ 8 (by kernel_rfl) (by kernel_rfl) (by kernel_rfl) (by kernel_rfl)) ?_
  intro W base args ds gs before hval hW _ _
  exact law_contract laidOut (by kernel_rfl) rfl rfl boolType (fun ds h => by match ds, h with | [_], _ => rfl) treeHolds_calls W base args ds gs before hval hW

theorem treeHolds_holds : Rows.TreeHoldsSaid :=
  OpenClaim.holds_of_wide 4 Try.f4 rfl rfl rfl rfl rfl rfl rfl ⟨rfl, rfl, rfl, rfl, rfl⟩ rfl rfl rfl rfl rfl (by kernel_rfl) Try.func4 (by kernel_rfl)
    (of_decide_eq_true (by kernel_rfl)) (by unfold Func.isWrapper; first | (rw [if_pos (by decide +kernel)]; kernel_rfl) | (rw [if_neg (by decide +kernel)]; exact ⟨rfl, rfl⟩))
    (fun os started H enc _ => treeHolds_lifted os started H enc)
#print axioms treeHolds_holds
end Go.Proofs.Ytcfogoepoghedaa
