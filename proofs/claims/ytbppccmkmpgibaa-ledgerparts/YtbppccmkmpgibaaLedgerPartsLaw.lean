/-
  Layer 34 (ledger): LedgerParts is true for every input: what is counted of some, and of the others, is the total; what is kept is as it was, and goes by itself; a ledger that isn't there counts nothing.
  No condition.
-/
import Derived.Test.YtbppccmkmpgibaaLedger18
import Derived.Test.YtbppccmkmpgibaaLedgerTellsLaw
namespace Go.Proofs.Ytbppccmkmpgibaa
open Go.ChangeShapes Go.WideShapes Go.ChangeAt Go.RowKit Go.Deep Go.Maps
set_option linter.unusedVariables false
set_option linter.unusedSimpArgs false
theorem ent5 (args : Array Value) (w : World) : (callFunc 5 args).run Try.prog w = .ok (.enter 5 args) w := by
  simp [callFunc, Try.func5]
  rfl
theorem ent14 (args : Array Value) (w : World) : (callFunc 14 args).run Try.prog w = .ok (.enter 14 args) w := by
  simp [callFunc, Try.func14]
  rfl
theorem of_in {w : World} {p b s : Nat} {M : Int → Option Bk} (h : LgAt w p b s M) (id : Int) (hi : i64k id) (hB : Few (bookOf M id) 200000) {B : Bk} (e : bookOf M id = B) :
    Calls Try.prog 7 #[.pointer (some ⟨p, 0, none⟩), .int .i64 id] w fun e w' => e = .returned (.agg #[.int .i64 (B 0), .int .i64 (B 1), .int .i64 (B 2), .int .i64 (B 3), .int .i64 (lostTo B 6), .int .i64 (waitB B)]) ∧ Touch [] w w' := by
  have := of_any h id hi (few_mono hB (by omega))
  rw [e] at this
  exact this
set_option maxRecDepth 100000 in
set_option maxHeartbeats 32000000 in
theorem ledgerParts_walk (A : Option Addr) (m c : Nat) (X : Nat → Nt) (A2 : Option Addr) (n c2 : Nat) (Y : Nat → Int) (w : World) (hX : NtCells w A m X) (hf : ∀ j, j < m → fit64 (X j).i) (hY : IntCells w w.heap.size A2 n Y) (hg : ∀ j, j < n → fit64 (Y j)) :
    Calls Try.prog 4 #[.slice A m c, .slice A2 n c2] w fun e w' => e = .returned (.bool true) ∧ Touch [] w w' := by
  have N1 := Lib.hid (fun i n w => got_nil i n w)
  have N2 := Lib.hid (fun i n w => sent_nil i n w)
  have N3 := Lib.hid (fun i w => lost_nil i w)
  have N4 := Lib.hid (fun i w => of_nil i w)
  have N5 := Lib.hid (fun i r w => reason_nil i r w)
  have N6 := Lib.hid (fun w => ids_nil w)
  have N7 := Lib.hid (fun w => total_nil w)
  have N8 := Lib.hid (fun v w => keep_nil v w)
  have N9 := Lib.hid (fun w => copy_nil w)
  unfold zeroV at N4 N7
  have EZ := st_neq 0 0 0 0 0 0
  have HX := Lib.hid hX
  have HF := Lib.hid hf
  have HY := Lib.hid hY
  have HG := Lib.hid hg
  clear hX hf hY hg
  go_enter Try.func4, Try.ntmps4
  go_wp2_with fail
  refine (N1.out _ _ _).mono ?_
  rintro e w1 ⟨rfl, t1⟩
  have T1 := Lib.hid t1
  clear t1
  go_wp2_with fail
  refine (N2.out _ _ _).mono ?_
  rintro e w2 ⟨rfl, t2⟩
  have T2 := Lib.hid (T1.out.trans t2 (by simp))
  clear t2 T1
  go_wp2_with fail
  refine (N3.out _ _).mono ?_
  rintro e w3 ⟨rfl, t3⟩
  have T3 := Lib.hid (T2.out.trans t3 (by simp))
  clear t3 T2
  go_wp2_with fail
  refine (N4.out _ _).mono ?_
  rintro e w4 ⟨rfl, t4⟩
  have T4 := Lib.hid (T3.out.trans t4 (by simp))
  clear t4 T3
  go_wp2_with fail
  refine (N5.out _ _ _).mono ?_
  rintro e w5 ⟨rfl, h5⟩
  rw [h5]
  clear h5 w5
  go_wp2_with fail
  refine (N6.out _).mono ?_
  rintro e w5 ⟨rfl, h5⟩
  rw [h5]
  clear h5 w5
  go_wp2_with fail
  refine (N7.out _).mono ?_
  rintro e w5 ⟨rfl, t5⟩
  have T5 := Lib.hid (T4.out.trans t5 (by simp))
  clear t5 T4
  go_wp2_with fail
  refine (N8.out _ _).mono ?_
  rintro e w6 ⟨rfl, h6⟩
  rw [h6]
  clear h6 w6
  go_wp2_with fail
  refine (N9.out _).mono ?_
  rintro e w6 ⟨rfl, h6⟩
  rw [h6]
  clear h6 w6 N1 N2 N3 N4 N5 N6 N7 N8 N9
  by_cases hmn : 80 < m ∨ 80 < n
  · have LV := Lib.hid (lives34 w5)
    clear HX HY HF HG
    by_cases hm : 80 < m
    · have hm' : (80 : Int) < (m : Int) := by omega
      go_wp2_with fail
      refine (LV.out).mono ?_
      rintro e w6 ⟨rfl, t6⟩
      have T6 := Lib.hid (T5.out.trans t6 (by simp))
      clear t6
      go_wp2_with fail
      go_ret
      exact ⟨rfl, T6.out⟩
    · have hm' : ¬ (80 : Int) < (m : Int) := by omega
      have hn' : (80 : Int) < (n : Int) := by omega
      go_wp2_with fail
      refine (LV.out).mono ?_
      rintro e w6 ⟨rfl, t6⟩
      have T6 := Lib.hid (T5.out.trans t6 (by simp))
      clear t6
      go_wp2_with fail
      go_ret
      exact ⟨rfl, T6.out⟩
  · have hm8 : m ≤ 80 := by omega
    have hn8 : n ≤ 80 := by omega
    have hm' : ¬ (80 : Int) < (m : Int) := by omega
    have hn' : ¬ (80 : Int) < (n : Int) := by omega
    have PL := Lib.hid (play_any (c := c) (HX.out.new T5.out) hm8 HF.out)
    have F1 := Lib.hid (show ∀ i, Few (bookOf (playM X m) i) 200000 from fun i => few_mono (few_play X m i) (by omega))
    clear hmn EZ
    generalize playM X m = M at *
    go_wp2_with fail
    refine (PL.out).mono ?_
    rintro e w6 ⟨p, rfl, b, s, h6, hs, t6, hp, hb⟩
    have H6 := Lib.hid h6
    have T6 := Lib.hid (T5.out.trans t6 (by simp))
    have CP := Lib.hid (copyL_any h6)
    have hpb : p < w6.heap.size ∧ b < w6.heap.size := ⟨h6.box.lt, h6.map.lt⟩
    clear h6 t6 PL T5 HX HF
    go_wp2_with fail
    refine (CP.out).mono ?_
    rintro e w7 ⟨rfl, h7, t7⟩
    obtain ⟨bc, hbc⟩ : ∃ bc, w6.heap.size = bc := ⟨_, rfl⟩
    rw [hbc] at h7 hpb ⊢
    have HC := Lib.hid h7
    have H7 := Lib.hid (H6.out.new t7)
    have T7 := Lib.hid (T6.out.trans t7 (by simp))
    have hbw : w.heap.size ≤ bc := by have := T6.out.size; omega
    have hbn : bc < w7.heap.size := h7.map.lt
    have KP := Lib.hid (keep_any (c := c2) H7.out (HY.out.new T7.out) (by omega) HG.out)
    clear h7 t7 CP H6 T6 hbc
    go_wp2_with fail
    refine (KP.out).mono ?_
    rintro e w8 ⟨ps, bs, ss, rfl, h8, hss, t8, hps, hbs⟩
    have HS := Lib.hid h8
    have H8 := Lib.hid (H7.out.new t8)
    have HC8 := Lib.hid (HC.out.new t8)
    have T8 := Lib.hid (T7.out.trans t8 (by simp))
    have ID := Lib.hid (ids_any H8.out (by omega))
    have l8 := t8.size
    clear h8 t8 KP H7 T7 HC
    go_wp2_with fail
    refine (ID.out).mono ?_
    rintro e w9 ⟨Ai, ci, L, rfl, hrow, hL, hLs, t9⟩
    have HL := Lib.hid hL
    have RW := Lib.hid hrow
    have HS9 := Lib.hid (HS.out.new t9)
    have H9 := Lib.hid (H8.out.new t9)
    have HC9 := Lib.hid (HC8.out.new t9)
    have T9 := Lib.hid (T8.out.trans t9 (by simp))
    have l9 := t9.size
    obtain ⟨i0, hi0, hz0, hz1, hz2⟩ := info_parts ids_info
    clear hL hrow t9 ID HS H8 HC8 T8
    go_wp2_with fail
    go_loopw [9, 75] (fun o v wr => ∃ k : Nat, k ≤ L.length ∧ v = .int .i64 (k : Int) ∧ wr.ownsRow w9.heap.size 3 1 o ((L.take k).filter fun i => !inX Y n i).length (zv ((L.take k).filter fun i => !inX Y n i)) ∧ Touch [] w9 wr) (fun _ v _ => L.length - (intOf v).toNat)
    case atStart => exact ⟨0, by omega, rfl, ⟨rfl, .inl ⟨rfl, rfl⟩⟩, Touch.refl _ _⟩
    case round =>
      obtain ⟨k, hk, rfl, hown, ht⟩ := hrel
      obtain ⟨Ao, co, rfl⟩ := rowForm hown
      have OW := Lib.hid hown
      have TR := Lib.hid ht
      clear hown ht
      by_cases hlt : k < L.length
      · obtain ⟨x, hx⟩ : ∃ x, L[k]? = some x := ⟨_, List.getElem?_eq_getElem hlt⟩
        have hxi : i64k x := ((HL.out.2 x).1 (List.mem_of_getElem? hx)).1
        obtain ⟨gA, rfl, hbA, hlA, cA⟩ := row_cell (TR.out.row RW.out (by simp)) hx
        have hlt' : (k : Int) < (L.length : Int) := by omega
        have ek : (L.take (k + 1)).filter (fun i => !inX Y n i) = (L.take k).filter (fun i => !inX Y n i) ++ (if inX Y n x = true then [] else [x]) := by
          rw [List.take_add_one, hx, List.filter_append]
          congr 1
          cases hh : inX Y n x <;> simp [hh]
        have EK := Lib.hid ek
        clear ek hx
        go_wp2_with fail
        go_loopw [12, 81] (fun u v wi => ∃ j : Nat, j ≤ n ∧ v = .int .i64 (j : Int) ∧ u = .bool (inX Y j x) ∧ Touch [] w9 wi ∧ Touch [] wr wi) (fun _ v _ => n - (intOf v).toNat)
        case atStart => exact ⟨0, by omega, rfl, rfl, TR.out, Touch.refl _ _⟩
        case round =>
          obtain ⟨j, hj, rfl, rfl, hti, hto⟩ := hrel
          have TI := Lib.hid hti
          have TO := Lib.hid hto
          clear hti hto
          by_cases hjn : j < n
          · obtain ⟨bY, off, rfl, hbY, cY⟩ := HY.out.new (T9.out.trans TI.out (by simp)) j hjn
            have lY : bY < wr.heap.size := hbY
            have hjn' : (j : Int) < (n : Int) := by omega
            have ei : inX Y (j + 1) x = (inX Y j x || (Y j == x)) := rfl
            have EI := Lib.hid ei
            clear ei
            generalize Y j = y at *
            cases hin : inX Y j x with
            | true =>
              have E2 := Lib.hid (EI.out.trans (by rw [hin]; rfl : _ = true))
              clear EI hin
              go_wp2_with fail
              go_roundw
              case rel => exact ⟨j + 1, by omega, by go_num, by rw [E2.out], TI.out, TO.out⟩
              case measure => simp [intOf]; omega
            | false =>
              cases hyx : (y == x) with
              | true =>
                have E2 := Lib.hid (EI.out.trans (by rw [hin, hyx]; rfl : _ = true))
                clear EI hin
                go_wp2_with fail
                go_roundw
                case rel => exact ⟨j + 1, by omega, by go_num, by rw [E2.out], TI.out, TO.out⟩
                case measure => simp [intOf]; omega
              | false =>
                have E2 := Lib.hid (EI.out.trans (by rw [hin, hyx]; rfl : _ = false))
                clear EI hin
                go_wp2_with fail
                go_roundw
                case rel => exact ⟨j + 1, by omega, by go_num, by rw [E2.out], TI.out, TO.out⟩
                case measure => simp [intOf]; omega
          · obtain rfl : j = n := by omega
            have hjn' : ¬ (j : Int) < (j : Int) := by omega
            have OW2 := Lib.hid (TO.out.row OW.out (by simp))
            have F2 := Lib.hid (few_keep F1.out (by omega) Y j)
            clear HY OW
            cases hin : inX Y j x with
            | true =>
              have E2 := Lib.hid (EK.out.trans (by rw [hin]; simp : _ = (L.take k).filter fun i => !inX Y j i))
              have O1 := Lib.hid (fun w' (t : Touch [] w9 w') => of_in (HS9.out.new t) x hxi (F2.out x) (book_in hin))
              have O2 := Lib.hid (fun w' (t : Touch [] w9 w') => of_in (H9.out.new t) x hxi (F1.out x) rfl)
              have O3 := Lib.hid (fun w' (t : Touch [] w9 w') => of_in (HC9.out.new t) x hxi (F1.out x) rfl)
              have EN := st_neq (bookOf M x 0) (bookOf M x 1) (bookOf M x 2) (bookOf M x 3) (lostTo (bookOf M x) 6) (waitB (bookOf M x))
              clear EK hin cA
              generalize bookOf M x = B at *
              go_wp2_with fail
              refine (O1.out _ TI.out).mono ?_
              rintro e v1 ⟨rfl, s1⟩
              have S1 := Lib.hid (TI.out.trans s1 (by simp))
              have U1 := Lib.hid (s1)
              clear s1
              go_wp2_with fail
              refine (O2.out _ S1.out).mono ?_
              rintro e v2 ⟨rfl, s2⟩
              have S2 := Lib.hid (S1.out.trans s2 (by simp))
              have U2 := Lib.hid (U1.out.trans s2 (by simp))
              clear s2
              go_wp2_with fail
              refine (O3.out _ S2.out).mono ?_
              rintro e v3 ⟨rfl, s3⟩
              have S3 := Lib.hid (S2.out.trans s3 (by simp))
              have U3 := Lib.hid (U2.out.trans s3 (by simp))
              clear s3
              go_wp2_with fail
              refine (O2.out _ S3.out).mono ?_
              rintro e v4 ⟨rfl, s4⟩
              have S4 := Lib.hid (S3.out.trans s4 (by simp))
              have U4 := Lib.hid (U3.out.trans s4 (by simp))
              clear s4
              go_wp2_with fail
              go_roundw
              case rel => exact ⟨k + 1, by omega, by go_num, by rw [E2.out]; exact U4.out.row OW2.out (by simp), S4.out⟩
              case measure => simp [intOf]; omega
            | false =>
              have E2 := Lib.hid (EK.out.trans (by rw [hin]; rfl : _ = ((L.take k).filter fun i => !inX Y j i) ++ [x]))
              have O1 := Lib.hid (fun w' (t : Touch [] w9 w') => of_in (HS9.out.new t) x hxi (F2.out x) (book_out hin))
              have O2 := Lib.hid (fun w' (t : Touch [] w9 w') => of_in (H9.out.new t) x hxi (F1.out x) rfl)
              have O3 := Lib.hid (fun w' (t : Touch [] w9 w') => of_in (HC9.out.new t) x hxi (F1.out x) rfl)
              have EN := st_neq (bookOf M x 0) (bookOf M x 1) (bookOf M x 2) (bookOf M x 3) (lostTo (bookOf M x) 6) (waitB (bookOf M x))
              have EZ := st_neq 0 0 0 0 0 0
              rw [show lostTo (fun _ => 0) 6 = 0 from rfl, show waitB (fun _ => 0) = 0 from rfl] at O1
              have hcl : ((L.take k).filter fun i => !inX Y j i).length ≤ 100 := by
                have h1 := List.length_filter_le (fun i => !inX Y j i) (L.take k)
                have h2 := List.length_take_le k L
                omega
              clear EK hin cA
              generalize bookOf M x = B at *
              generalize ((L.take k).filter fun i => !inX Y j i) = Q at *
              have hcv : Q.length ≤ co ∧ co ≤ maxLen := by
                rcases OW2.out.2 with ⟨h', _⟩ | ⟨g', cap', cur, h', h1, hh, h2, h3, h4, h5⟩
                · simp at h'
                  omega
                · simp only [Value.slice.injEq, true_and] at h'
                  omega
              have hsz := T9.out.size
              have hsi := TI.out.size
              go_upto_region 22 with fail
              go_wp2_with (at_builtin; refine wpList_append_own_at _ rfl _ _ 33 rfl w9.heap.size 3 i0 (.int .i64 0) 1 8 Try.underlying33 hi0 hz0 hz1 hz2 rfl (by decide) (.slice Ao Q.length co) Q.length (zv Q) rfl (OW2.out.alloc _) ⟨wr.heap.size, 0, none⟩ 1 1 [.int .i64 x] rfl rfl (World.news_of_block (cs := #[.int .i64 x]) (t := 3) (fr := (0, 0)) (heap_alloc_new wr _)) (by simp [Value.oneCell']) (by unfold maxLen; omega) (by omega) (by simp; omega) ?_; intro v3 w11 hown3 hgrow3 hnil3 hat3)
              have tr : Touch (Value.slice Ao Q.length co).ownBlock.toList wr w11 := ((Touch.refl (Value.slice Ao Q.length co).ownBlock.toList wr).alloc _).grown hgrow3 (by intro b hb; rw [hb]; simp)
              have S0 := Lib.hid (TI.out.trans tr (fun g hg => .inr (by have := rowBase OW2.out (by simpa using hg); omega)))
              have HO3 := Lib.hid (show w11.ownsRow w9.heap.size 3 1 v3 (Q ++ [x]).length (zv (Q ++ [x])) by rw [zv_append, List.length_append]; exact hown3)
              clear tr hown3 hgrow3 hnil3 hat3 OW2
              obtain ⟨A3, c3, rfl⟩ := rowForm HO3.out
              go_wp2_with fail
              refine (O1.out _ S0.out).mono ?_
              rintro e v1 ⟨rfl, s1⟩
              have S1 := Lib.hid (S0.out.trans s1 (by simp))
              have U1 := Lib.hid (s1)
              clear s1
              go_wp2_with fail
              refine (O3.out _ S1.out).mono ?_
              rintro e v3 ⟨rfl, s3⟩
              have S3 := Lib.hid (S1.out.trans s3 (by simp))
              have U3 := Lib.hid (U1.out.trans s3 (by simp))
              clear s3
              go_wp2_with fail
              refine (O2.out _ S3.out).mono ?_
              rintro e v4 ⟨rfl, s4⟩
              have S4 := Lib.hid (S3.out.trans s4 (by simp))
              have U4 := Lib.hid (U3.out.trans s4 (by simp))
              clear s4
              go_wp2_with fail
              go_roundw
              case rel => exact ⟨k + 1, by omega, by go_num, by have := U4.out.row HO3.out (by simp); rw [E2.out]; simpa only [List.length_append, List.length_cons, List.length_nil, Nat.zero_add] using this, S4.out⟩
              case measure => simp [intOf]; omega
      · obtain rfl : k = L.length := by omega
        have hlt' : ¬ (L.length : Int) < (L.length : Int) := by omega
        rw [List.take_length] at OW ⊢
        obtain ⟨Q, hQ⟩ : ∃ Q, L.filter (fun i => !inX Y n i) = Q := ⟨_, rfl⟩
        rw [hQ] at OW ⊢
        have hQL : Q.length ≤ L.length := by rw [← hQ]; exact List.length_filter_le _ _
        have HQI := Lib.hid (show IdsOf (keepM M (fun i => Q.getD i 0) Q.length) Q by rw [← hQ]; exact ids_rest HL.out (List.filter_sublist))
        have HPT := Lib.hid (fun c => tot_parts M Y n L c)
        rw [hQ] at HPT
        have HSI := Lib.hid (ids_keep HL.out Y n)
        have HSF := Lib.hid (few_keep F1.out (by omega) Y n)
        have TA := Lib.hid (total_of (HS9.out.new TR.out) (by omega) HSF.out HSI.out)
        have lLa : (L.filter fun i => inX Y n i).length ≤ 100 := Nat.le_trans (List.length_filter_le _ _) (by omega)
        generalize (L.filter fun i => inX Y n i) = La at *
        clear hQ HY HSI
        go_wp2_with fail
        refine (TA.out).mono ?_
        rintro e v1 ⟨rfl, s1⟩
        have S1 := Lib.hid (TR.out.trans s1 (by simp))
        have HQF := Lib.hid (show ∀ i, i < Q.length → fit64 (Q.getD i 0) from fun i hi => by
          have hm : Q.getD i 0 ∈ Q := by simp only [List.getD, List.getElem?_eq_getElem hi, Option.getD_some]; exact List.getElem_mem hi
          have hk := ((HQI.out.2 _).1 hm).1
          exact Go.Proofs.Ytbppccmkmpgibaa.i64_in hk)
        have KB := Lib.hid (keep_any (c := co) (H9.out.new S1.out) ((row_ints OW.out).new s1) (by omega) HQF.out)
        clear s1 TA
        go_wp2_with fail
        refine (KB.out).mono ?_
        rintro e v2 ⟨pq, bq, sq, rfl, h2, hsq, s2, _, _⟩
        have S2 := Lib.hid (S1.out.trans s2 (by simp))
        have HQ0 := Lib.hid (few_keep F1.out (by omega) (fun i => Q.getD i 0) Q.length)
        have TB := Lib.hid (total_of h2 (by omega) HQ0.out HQI.out)
        clear s2 KB h2
        go_wp2_with fail
        refine (TB.out).mono ?_
        rintro e v3 ⟨rfl, s3⟩
        have S3 := Lib.hid (S2.out.trans s3 (by simp))
        have TC := Lib.hid (total_of (H9.out.new S3.out) (by omega) F1.out HL.out)
        have bA := fun c => totF_few HSF.out c La
        have bB := fun c => totF_few HQ0.out c Q
        have bD := fun c => totF_few F1.out c L
        have BA := Lib.hid bA
        have BB := Lib.hid bB
        have BD := Lib.hid bD
        clear s3 TB bA bB bD
        generalize eD : totF M L = D at *
        generalize totF (keepM M Y n) La = DA at *
        generalize totF (keepM M (fun i => Q.getD i 0) Q.length) Q = DB at *
        go_wp2_with fail
        refine (TC.out).mono ?_
        rintro e v4 ⟨rfl, s4⟩
        have S4 := Lib.hid (S3.out.trans s4 (by simp))
        clear s4
        go_upto_region 27 with fail
        have HA3 := Lib.hid (show BoxV (((v4.alloc (.cells #[.int .i64 (DA 0), .int .i64 (DA 1), .int .i64 (DA 2), .int .i64 (DA 3), .int .i64 (DA 4), .int .i64 (DA 5)] 27)).alloc (.cells #[.int .i64 (DB 0), .int .i64 (DB 1), .int .i64 (DB 2), .int .i64 (DB 3), .int .i64 (DB 4), .int .i64 (DB 5)] 27)).alloc (.cells #[.int .i64 (D 0), .int .i64 (D 1), .int .i64 (D 2), .int .i64 (D 3), .int .i64 (D 4), .int .i64 (D 5)] 27)) v4.heap.size 27 #[.int .i64 (DA 0), .int .i64 (DA 1), .int .i64 (DA 2), .int .i64 (DA 3), .int .i64 (DA 4), .int .i64 (DA 5)] from ((BoxV.new v4 27 #[.int .i64 (DA 0), .int .i64 (DA 1), .int .i64 (DA 2), .int .i64 (DA 3), .int .i64 (DA 4), .int .i64 (DA 5)]).carry ((Touch.refl [] _).alloc _) (by simp)).carry ((Touch.refl [] _).alloc _) (by simp))
        have e1 : (v4.alloc (.cells #[.int .i64 (DA 0), .int .i64 (DA 1), .int .i64 (DA 2), .int .i64 (DA 3), .int .i64 (DA 4), .int .i64 (DA 5)] 27)).heap.size = v4.heap.size + 1 := by simp
        have e2 : ((v4.alloc (.cells #[.int .i64 (DA 0), .int .i64 (DA 1), .int .i64 (DA 2), .int .i64 (DA 3), .int .i64 (DA 4), .int .i64 (DA 5)] 27)).alloc (.cells #[.int .i64 (DB 0), .int .i64 (DB 1), .int .i64 (DB 2), .int .i64 (DB 3), .int .i64 (DB 4), .int .i64 (DB 5)] 27)).heap.size = v4.heap.size + 1 + 1 := by simp
        have HB3 := Lib.hid (show BoxV (((v4.alloc (.cells #[.int .i64 (DA 0), .int .i64 (DA 1), .int .i64 (DA 2), .int .i64 (DA 3), .int .i64 (DA 4), .int .i64 (DA 5)] 27)).alloc (.cells #[.int .i64 (DB 0), .int .i64 (DB 1), .int .i64 (DB 2), .int .i64 (DB 3), .int .i64 (DB 4), .int .i64 (DB 5)] 27)).alloc (.cells #[.int .i64 (D 0), .int .i64 (D 1), .int .i64 (D 2), .int .i64 (D 3), .int .i64 (D 4), .int .i64 (D 5)] 27)) (v4.heap.size + 1) 27 #[.int .i64 (DB 0), .int .i64 (DB 1), .int .i64 (DB 2), .int .i64 (DB 3), .int .i64 (DB 4), .int .i64 (DB 5)] from by
          have := (BoxV.new (v4.alloc (.cells #[.int .i64 (DA 0), .int .i64 (DA 1), .int .i64 (DA 2), .int .i64 (DA 3), .int .i64 (DA 4), .int .i64 (DA 5)] 27)) 27 #[.int .i64 (DB 0), .int .i64 (DB 1), .int .i64 (DB 2), .int .i64 (DB 3), .int .i64 (DB 4), .int .i64 (DB 5)]).carry ((Touch.refl [] _).alloc (.cells #[.int .i64 (D 0), .int .i64 (D 1), .int .i64 (D 2), .int .i64 (D 3), .int .i64 (D 4), .int .i64 (D 5)] 27)) (by simp)
          rwa [e1] at this)
        have HD3 := Lib.hid (show BoxV (((v4.alloc (.cells #[.int .i64 (DA 0), .int .i64 (DA 1), .int .i64 (DA 2), .int .i64 (DA 3), .int .i64 (DA 4), .int .i64 (DA 5)] 27)).alloc (.cells #[.int .i64 (DB 0), .int .i64 (DB 1), .int .i64 (DB 2), .int .i64 (DB 3), .int .i64 (DB 4), .int .i64 (DB 5)] 27)).alloc (.cells #[.int .i64 (D 0), .int .i64 (D 1), .int .i64 (D 2), .int .i64 (D 3), .int .i64 (D 4), .int .i64 (D 5)] 27)) (v4.heap.size + 1 + 1) 27 #[.int .i64 (D 0), .int .i64 (D 1), .int .i64 (D 2), .int .i64 (D 3), .int .i64 (D 4), .int .i64 (D 5)] from by
          have := BoxV.new ((v4.alloc (.cells #[.int .i64 (DA 0), .int .i64 (DA 1), .int .i64 (DA 2), .int .i64 (DA 3), .int .i64 (DA 4), .int .i64 (DA 5)] 27)).alloc (.cells #[.int .i64 (DB 0), .int .i64 (DB 1), .int .i64 (DB 2), .int .i64 (DB 3), .int .i64 (DB 4), .int .i64 (DB 5)] 27)) 27 #[.int .i64 (D 0), .int .i64 (D 1), .int .i64 (D 2), .int .i64 (D 3), .int .i64 (D 4), .int .i64 (D 5)]
          rwa [e2] at this)
        have S5 := Lib.hid (((S4.out.alloc (.cells #[.int .i64 (DA 0), .int .i64 (DA 1), .int .i64 (DA 2), .int .i64 (DA 3), .int .i64 (DA 4), .int .i64 (DA 5)] 27)).alloc (.cells #[.int .i64 (DB 0), .int .i64 (DB 1), .int .i64 (DB 2), .int .i64 (DB 3), .int .i64 (DB 4), .int .i64 (DB 5)] 27)).alloc (.cells #[.int .i64 (D 0), .int .i64 (D 1), .int .i64 (D 2), .int .i64 (D 3), .int .i64 (D 4), .int .i64 (D 5)] 27))
        have hv4 : w9.heap.size ≤ v4.heap.size := S4.out.size
        clear e1 e2 S4
        generalize ((v4.alloc (.cells #[.int .i64 (DA 0), .int .i64 (DA 1), .int .i64 (DA 2), .int .i64 (DA 3), .int .i64 (DA 4), .int .i64 (DA 5)] 27)).alloc (.cells #[.int .i64 (DB 0), .int .i64 (DB 1), .int .i64 (DB 2), .int .i64 (DB 3), .int .i64 (DB 4), .int .i64 (DB 5)] 27)).alloc (.cells #[.int .i64 (D 0), .int .i64 (D 1), .int .i64 (D 2), .int .i64 (D 3), .int .i64 (D 4), .int .i64 (D 5)] 27) = v5 at *
        obtain ⟨b3, hb3⟩ : ∃ b3, v4.heap.size + 1 + 1 = b3 := ⟨_, rfl⟩
        obtain ⟨b2, hb2⟩ : ∃ b2, v4.heap.size + 1 = b2 := ⟨_, rfl⟩
        rw [hb2] at hb3 HB3 HD3 ⊢
        rw [hb3] at HD3 ⊢
        have HBB := Lib.hid (show bc ≠ b3 by omega)
        generalize v4.heap.size = b1 at *
        clear hb2 hb3
        have x0 := HA3.out.cell 0
        have y0 := HB3.out.cell 0
        have z0 := HD3.out.cell 0
        have bx0 := BA.out 0
        have by0 := BB.out 0
        have pt0 := HPT.out 0
        have nn0 : (DA 0 + DB 0 != D 0) = false := by rw [pt0]; simp
        have x1 := HA3.out.cell 1
        have y1 := HB3.out.cell 1
        have z1 := HD3.out.cell 1
        have bx1 := BA.out 1
        have by1 := BB.out 1
        have pt1 := HPT.out 1
        have nn1 : (DA 1 + DB 1 != D 1) = false := by rw [pt1]; simp
        have x2 := HA3.out.cell 2
        have y2 := HB3.out.cell 2
        have z2 := HD3.out.cell 2
        have bx2 := BA.out 2
        have by2 := BB.out 2
        have pt2 := HPT.out 2
        have nn2 : (DA 2 + DB 2 != D 2) = false := by rw [pt2]; simp
        have x4 := HA3.out.cell 4
        have y4 := HB3.out.cell 4
        have z4 := HD3.out.cell 4
        have bx4 := BA.out 4
        have by4 := BB.out 4
        have pt4 := HPT.out 4
        have nn4 : (DA 4 + DB 4 != D 4) = false := by rw [pt4]; simp
        have x5 := HA3.out.cell 5
        have y5 := HB3.out.cell 5
        have z5 := HD3.out.cell 5
        have bx5 := BA.out 5
        have by5 := BB.out 5
        have pt5 := HPT.out 5
        have nn5 : (DA 5 + DB 5 != D 5) = false := by rw [pt5]; simp
        have lx := HA3.out.lt
        have ly := HB3.out.lt
        have lz := HD3.out.lt
        simp only [List.getElem?_toArray, List.getElem?_cons_zero, List.getElem?_cons_succ] at x0 y0 z0 x1 y1 z1 x2 y2 z2 x4 y4 z4 x5 y5 z5
        have GT := Lib.hid (got_any (HC9.out.new S5.out) (by omega) 7 (i64k_of (by omega)) 5 (few_mono (F1.out 7) (by omega)))
        clear TC BA BB BD HPT
        go_wp2_with fail
        refine (GT.out).mono ?_
        rintro e w13 ⟨rfl, h13, t13⟩
        have T13 := Lib.hid ((T9.out.trans S5.out (by simp)).trans t13 (fun x hx => .inr (by simp at hx; omega)))
        have HT3 := Lib.hid (HD3.out.carry t13 (by have := HBB.out; simp; omega))
        have H13 := Lib.hid ((H9.out.new S5.out).carry t13 (by simp; omega) (by simp; omega))
        have TL := Lib.hid (show ∀ w', Touch [] w13 w' → Calls Try.prog 14 #[.pointer (some ⟨p, 0, none⟩)] w' fun e w'' => e = .returned (.agg #[.int .i64 (D 0), .int .i64 (D 1), .int .i64 (D 2), .int .i64 (D 3), .int .i64 (D 4), .int .i64 (D 5)]) ∧ Touch [] w' w'' from fun w' t => by
          have := total_of (H13.out.new t) (by omega) F1.out HL.out
          rw [eD] at this
          exact this)
        clear h13 t13 GT x0 y0 z0 bx0 by0 pt0 nn0 x1 y1 z1 bx1 by1 pt1 nn1 x2 y2 z2 bx2 by2 pt2 nn2 x4 y4 z4 bx4 by4 pt4 nn4 x5 y5 z5 bx5 by5 pt5 nn5 lx ly lz HA3 HB3 HD3 HC9 HS9 H9 S5
        go_upto_region 30 with fail
        refine wp_region_leaves (wd := w13) (Leaf.const (.pointer (some ⟨p, 0, none⟩)) :: Leaf.const (.agg #[.int .i64 (D 0), .int .i64 (D 1), .int .i64 (D 2), .int .i64 (D 3), .int .i64 (D 4), .int .i64 (D 5)]) :: Leaf.const (.agg #[.int .i64 (D 0), .int .i64 (D 1), .int .i64 (D 2), .int .i64 (D 3), .int .i64 (D 4), .int .i64 (D 5)]) :: Leaf.const (.bool true) :: Leaf.const ((.bool true)) :: Leaf.const (.bool true) :: Leaf.const ((.bool true)) :: Leaf.const ((.bool true)) :: []) (by kernel_rfl) (by kernel_rfl) (by kernel_rfl) ((Touch.refl _ _).drew) (trivial) ?_ ?_
        · intro i o ho ac w ht hk hd
          match i, ho with
          | 0, ho =>
            have ho' : some _ = some o := ho
            cases ho'
            clear ho
            have e6 := known_slot hk 6 (by kernel_rfl) (v := .pointer (some ⟨p, 0, none⟩)) rfl
            exact do_value (wanted_none rfl) (by rw [BigFrame.run_move (.tmp 6) rfl, e6]) rfl
          | 1, ho =>
            have ho' : some _ = some o := ho
            cases ho'
            clear ho
            have e187 := has_const (has_dep hd 0 (by kernel_rfl)) rfl rfl rfl (c := (.pointer (some ⟨p, 0, none⟩)))
            refine do_enter (wanted_none rfl) (f := 14) (args := #[(.pointer (some ⟨p, 0, none⟩))]) (by rw [run_go3 14 _ _ rfl, ent14]; simp [eval_c, e187]) ?_
            exact Calls.leaf (TL.out _ ht)
          | 2, ho =>
            have ho' : some _ = some o := ho
            cases ho'
            clear ho
            have e17 := known_slot hk 17 (by kernel_rfl) (v := .pointer (some ⟨b3, 0, none⟩)) rfl
            have hq := HT3.out.carry ht (by simp)
            have q0 := hq.cell 0
            have q1 := hq.cell 1
            have q2 := hq.cell 2
            have q3 := hq.cell 3
            have q4 := hq.cell 4
            have q5 := hq.cell 5
            simp only [List.getElem?_toArray, List.getElem?_cons_zero, List.getElem?_cons_succ] at q0 q1 q2 q3 q4 q5
            have lq := hq.lt
            exact do_value (wanted_none rfl) (v := .agg #[.int .i64 (D 0), .int .i64 (D 1), .int .i64 (D 2), .int .i64 (D 3), .int .i64 (D 4), .int .i64 (D 5)]) (run_value rfl (by rw [e17]; simp [go_sem, q0, q1, q2, q3, q4, q5])) rfl
          | 3, ho =>
            have ho' : some _ = some o := ho
            cases ho'
            clear ho
            have e188 := has_const (has_dep hd 1 (by kernel_rfl)) rfl rfl rfl (c := (.agg #[.int .i64 (D 0), .int .i64 (D 1), .int .i64 (D 2), .int .i64 (D 3), .int .i64 (D 4), .int .i64 (D 5)]))
            have e189 := has_const (has_dep hd 2 (by kernel_rfl)) rfl rfl rfl (c := (.agg #[.int .i64 (D 0), .int .i64 (D 1), .int .i64 (D 2), .int .i64 (D 3), .int .i64 (D 4), .int .i64 (D 5)]))
            exact do_value (wanted_none rfl) (v := .bool true) (run_value rfl (by rw [e188, e189]; simp [go_sem])) rfl
          | 4, ho =>
            have ho' : some _ = some o := ho
            cases ho'
            clear ho
            have e190 := has_const (has_dep hd 3 (by kernel_rfl)) rfl rfl rfl (c := (.bool true))
            exact do_value (wanted_none rfl) (by rw [BigFrame.run_move (.tmp 190) rfl, e190]) rfl
          | 5, ho =>
            have ho' : some _ = some o := ho
            cases ho'
            clear ho
            have e191 := has_const (has_dep hd 4 (by kernel_rfl)) rfl rfl rfl (c := (.bool true))
            refine do_enter (wanted_some (g := 4) rfl rfl rfl e191) (f := 5) (args := #[]) (by rw [run_go3 5 _ _ rfl, ent5]; simp [eval_c]) ?_
            exact Calls.leaf (lives34 _)
          | 6, ho =>
            have ho' : some _ = some o := ho
            cases ho'
            clear ho
            have e191 := has_const (has_dep hd 4 (by kernel_rfl)) rfl rfl rfl (c := (.bool true))
            have e192 := has_const (has_dep hd 5 (by kernel_rfl)) rfl rfl rfl (c := (.bool true))
            exact do_value (wanted_none rfl) (by rw [run_pickT (c := .tmp 191) (x := .tmp 192) (y := .const (.bool false)) rfl e191, e192]) rfl
          | 7, ho =>
            have ho' : some _ = some o := ho
            cases ho'
            clear ho
            have e193 := has_const (has_dep hd 6 (by kernel_rfl)) rfl rfl rfl (c := (.bool true))
            exact do_value (wanted_none rfl) (by rw [BigFrame.run_assign (.tmp 193) rfl, e193]) rfl
          | q + 8, ho => exact absurd ho (by simp)
        · intro x' w14 T14 hkn
          simp only [putL, Act.put, List.setIfInBounds_toArray, List.set_cons_succ, List.set_cons_zero]
          have TE := Lib.hid (T13.out.trans T14 (by simp))
          clear T14 hkn
          go_wp2_with fail
          go_ret
          exact ⟨rfl, TE.out⟩
set_option maxRecDepth 100000 in
theorem ledgerParts_calls : LawCalls Try.prog 4 Try.f4 := by
  intro H enc W base args ds p hval hA hlt
  rw [Try.params4] at hA hval
  obtain ⟨v0, vs0, d0, ds0, p0, q0, hargs, rfl, rfl, h0, r0⟩ := trodAll_cons hA
  obtain ⟨v1, vs1, d1, ds1, p1, q1, rfl, rfl, rfl, h1, r1⟩ := trodAll_cons r0
  obtain ⟨rfl, rfl, rfl⟩ := trodAll_nil r1
  obtain rfl : args = #[v0, v1] := by cases args; simp_all
  obtain ⟨A, len, cap, X, rfl, hX, hf⟩ := nt_cells W base H enc v0 d0 p0 (hval 0 22 v0 rfl rfl) h0
  obtain ⟨A2, n, c2, Y, rfl, _, _, hY, hg⟩ := int_cells (hval 1 33 v1 rfl rfl) h1
  refine (ledgerParts_walk A len cap X A2 n c2 Y W hX hf hY hg).mono ?_
  rintro e w' ⟨he, t⟩
  exact ⟨he, t.below (by simp) (Nat.le_refl _)⟩

set_option maxRecDepth 100000 in
theorem ledgerParts_lifted (os : Os) (started : os.Started) (H : Type) (enc : TypeId × Value → H) :
    ReturnsInHanded {} Try.checked os 4 .any (Rows.ledgerPartsSpec.pre6 enc Try.prog Try.f4 Rows.ledgerPartsRow.domain false) (Rows.ledgerPartsSpec.post enc Try.prog Try.f4 false true false false) := by
  refine returnsInHanded_of_change (C := Try.checked) own started (by kernel_rfl) Try.func4
    (ChangeSpec.witness6 (enc := enc) (C := Try.checked) false ⟨#[], #[.slice none 0 0, .slice none 0 0], []⟩ 8 (by kernel_rfl) (by kernel_rfl) (by kernel_rfl) (by kernel_rfl)) ?_
  intro W base args ds gs before hval hW _ _
  exact law_contract laidOut (by kernel_rfl) rfl rfl boolType (fun ds h => by match ds, h with | [_, _], _ => rfl) ledgerParts_calls W base args ds gs before hval hW

theorem ledgerParts_holds : Rows.LedgerPartsSaid :=
  OpenClaim.holds_of_wide 4 Try.f4 rfl rfl rfl rfl rfl rfl rfl ⟨rfl, rfl, rfl, rfl, rfl⟩ rfl rfl rfl rfl rfl (by kernel_rfl) Try.func4 (by kernel_rfl)
    (of_decide_eq_true (by kernel_rfl)) (by unfold Func.isWrapper; first | (rw [if_pos (by decide +kernel)]; kernel_rfl) | (rw [if_neg (by decide +kernel)]; exact ⟨rfl, rfl⟩))
    (fun os started H enc _ => ledgerParts_lifted os started H enc)
#print axioms ledgerParts_holds
end Go.Proofs.Ytbppccmkmpgibaa
