/-
  PoolHolds: for every number of slots, every room and every list of packets the law returns true. No conditions.
-/
import Derived.Test.YtkbjkijcabmbpaaPoolHoldsA
import Derived.Test.YtkbjkijcabmbpaaPoolHeld
import Derived.Test.YtkbjkijcabmbpaaPool6
import Derived.Test.YtkbjkijcabmbpaaPoolOpen
import Derived.Test.YtkbjkijcabmbpaaSlabLives
import Derived.Deep.LoopGhost
import Derived.OwnWalk
import Derived.IntWalk
namespace Go.Proofs.Ytkbjkijcabmbpaa
open Go.ChangeShapes Go.WideShapes Go.ChangeAt Go.RowKit Go.Deep Go.Maps
set_option linter.unusedVariables false
set_option linter.unusedSimpArgs false

/-- The first n packets of a slice. -/
def PCells (w : World) (B : Nat) (A : Option Addr) (n : Nat) (X : Nat → Pk) : Prop :=
  ∀ i, i < n → ∃ b off, A = some ⟨b, off, none⟩ ∧ b < B ∧ ∀ t v, (X i).cells.toList[t]? = some v → w.cell? ⟨b, off + i * 10 + t, none⟩ = some v
def PRound (W : World) (q p g n mb : Nat) (room : Int) (vk va i : Value) (wr : World) : Prop :=
  ∃ (j k m c s : Nat) (S K : Nat → Int) (M : Pks) (bytes : Int) (E N : List (Nat × Int)) (L : List Pk), i = .int .i64 j ∧ PHeld W wr q p g k n m c S K mb s M bytes room N L vk va ∧ PInv n m S K E N j M L s bytes room

set_option maxRecDepth 100000 in
set_option maxHeartbeats 12800000 in
theorem holds_short (sl rm : Nat) (A : Option Addr) (n c : Nat) (X : Nat → Pk) (W : World) (hrm : rm ≤ 65535) (hsl : sl ≤ 255) (hn : n ≤ 40) (hX : PCells W W.heap.size A n X) :
    Calls Try.prog 6 #[.int .u8 sl, .int .u16 rm, .slice A n c] W fun e w' => e = .returned (.bool true) ∧ Below W.heap.size W w' := by
  have HX := Lib.hid hX
  clear hX
  have g1 : ¬ ((n : Int) > 40) := by omega
  have N1 := Lib.hid (fun w => put_nil ⟨0, 1, 0, 0, 0, 0, 0, 0, 0, 0⟩ w)
  have N2 := Lib.hid (fun w => get_nil 0 0 w)
  have N3 := Lib.hid (fun w => free_nil 0 0 w)
  have N4 := Lib.hid (fun w => fits_nil 1 w)
  have N5 := Lib.hid (fun w => slots_nil w)
  have N6 := Lib.hid (fun w => bytes_nil w)
  have N7 := Lib.hid (fun w => poolCopy_nil w)
  have N8 := Lib.hid (fun w => poolLives_any w)
  unfold GetPost zeroPk zeroH Pk.cells at *
  go_enter Try.func6, Try.ntmps6
  go_wp2_with fail
  refine (N1.out _).mono ?_
  rintro e w1 ⟨rfl, t1⟩
  have T1 := Lib.hid (t1.alloc (.cells #[.int .i64 0, .int .i64 0] 68))
  clear t1 N1
  go_wp2_with fail
  refine (N2.out _).mono ?_
  rintro e w2 ⟨rfl, t2⟩
  have T2 := Lib.hid ((T1.out.trans t2 (by simp)).alloc (.cells #[.int .i64 0, .int .i64 0, .int .i64 0, .int .u64 0, .int .u64 0, .int .u64 0, .int .u64 0, .int .i64 0, .int .i64 0, .int .i64 0] 66))
  clear T1 t2 N2
  go_wp2_with fail
  refine (N3.out _).mono ?_
  rintro e w3 ⟨rfl, t3⟩
  have T3 := Lib.hid ((T2.out.trans t3 (by simp)).alloc (.cells #[.int .i64 0, .int .i64 0, .int .i64 0, .int .u64 0, .int .u64 0, .int .u64 0, .int .u64 0, .int .i64 0, .int .i64 0, .int .i64 0] 66))
  clear T2 t3 N3
  go_wp2_with fail
  refine (N4.out _).mono ?_
  rintro e w4 ⟨rfl, rfl⟩
  go_wp2_with fail
  refine (N5.out _).mono ?_
  rintro e w5 ⟨rfl, rfl⟩
  go_wp2_with fail
  refine (N6.out _).mono ?_
  rintro e w6 ⟨rfl, rfl⟩
  go_wp2_with fail
  refine (N7.out _).mono ?_
  rintro e w7 ⟨rfl, rfl⟩
  generalize w3.alloc (.cells #[.int .i64 0, .int .i64 0, .int .i64 0, .int .u64 0, .int .u64 0, .int .u64 0, .int .u64 0, .int .i64 0, .int .i64 0, .int .i64 0] 66) = w4 at *
  clear N4 N5 N6 N7
  have hT4 := T3
  clear T3
  obtain ⟨nn, hn1, hn2, hnn⟩ : ∃ nn : Nat, 1 ≤ nn ∧ nn ≤ 30 ∧ 1 + (sl : Int) % 30 = nn := ⟨1 + sl % 30, by omega, by omega, by omega⟩
  have HN := Lib.hid hnn
  have Q0 := Lib.hid (poolNew_yes nn rm w4 hn1 (by omega) (by omega) (by omega))
  go_wp2_with fail
  clear hnn
  refine (Q0.out).mono ?_
  rintro e w5 ⟨q, p, g, k, mb, rfl, hp5, t5, lq, lp, lg, lk, lm⟩
  have l4 := hT4.out.size
  have HO := Lib.hid (show PHeld W w5 q p g k nn nn nn (fun _ => 0) (fun i => (nn : Int) - 1 - i) mb 0 (fun _ => none) 0 rm [] [] (.slice none 0 0) (.slice none 0 0) from
    ⟨hp5, World.ownsRow_nil _ _ _ _, World.ownsRow_nil _ _ _ _, by simp [Value.ownBlock], by simp [Value.ownBlock], by simp [Value.ownBlock], by omega, (hT4.out.trans t5 (by simp)).below (by simp) (Nat.le_refl _)⟩)
  have HL := Lib.hid (show W.heap.size ≤ q ∧ W.heap.size ≤ p ∧ W.heap.size ≤ g ∧ W.heap.size ≤ mb by omega)
  have HI := Lib.hid (pinv_new (n := nn) (room := (rm : Int)) hn1 (by omega))
  clear hp5 t5 hT4 lk lq lp lg lm l4 Q0
  go_wp2_with fail
  go_loopw [15, 16, 95] (fun vk va i wr => PRound W q p g nn mb rm vk va i wr ∧ (intOf i).toNat ≤ n) (fun _ _ i _ => n - (intOf i).toNat)
  case atStart => exact ⟨⟨0, k, nn, nn, 0, _, _, _, 0, [], [], [], rfl, HO.out, HI.out⟩, by simp [intOf]⟩
  case round =>
    obtain ⟨⟨j, k, m, c, s, S, K, M, bytes, E, N, L, rfl, ho, hinv⟩, hj⟩ := hrel
    simp [intOf] at hj
    clear HO HI
    have HO := Lib.hid ho
    have HV := Lib.hid hinv
    have hbnd := hinv.bounds
    have hlen := hinv.len
    have hcnt := hinv.count
    have hfew := hinv.inv.few
    obtain rfl : s = L.length := by omega
    have HLN := Lib.hid hlen
    have hNl : N.length ≤ 30 := by omega
    clear hlen hcnt
    by_cases hlt : j < n
    · obtain ⟨b, off, hA, hbB, hc⟩ := HX.out j hlt
      subst hA
      generalize X j = x at *
      obtain ⟨a0, a1, a2, a3, a4, a5, a6, a7, a8, a9⟩ := x
      have c0 := hc 0 _ rfl
      have c1 := hc 1 _ rfl
      have c2 := hc 2 _ rfl
      have c3 := hc 3 _ rfl
      have c4 := hc 4 _ rfl
      have c5 := hc 5 _ rfl
      have c6 := hc 6 _ rfl
      have c7 := hc 7 _ rfl
      have c8 := hc 8 _ rfl
      have c9 := hc 9 _ rfl
      rw [← ho.below.cell (p := ⟨b, _, none⟩) hbB] at c0 c1 c2 c3 c4 c5 c6 c7 c8 c9
      simp only [Nat.add_zero] at c0
      have hbl : b < wr.heap.size := Nat.lt_of_lt_of_le hbB ho.below.size
      have a66 : Touch [] wr (wr.alloc (.cells #[.int .i64 a0, .int .i64 a1, .int .i64 a2, .int .u64 a3, .int .u64 a4, .int .u64 a5, .int .u64 a6, .int .i64 a7, .int .i64 a8, .int .i64 a9] 66)) := (Touch.refl [] wr).alloc _
      have O6 := Lib.hid (ho.carry a66)
      have HB6 := Lib.hid (show BoxV (wr.alloc (.cells #[.int .i64 a0, .int .i64 a1, .int .i64 a2, .int .u64 a3, .int .u64 a4, .int .u64 a5, .int .u64 a6, .int .i64 a7, .int .i64 a8, .int .i64 a9] 66)) wr.heap.size 66 #[.int .i64 a0, .int .i64 a1, .int .i64 a2, .int .u64 a3, .int .u64 a4, .int .u64 a5, .int .u64 a6, .int .i64 a7, .int .i64 a8, .int .i64 a9] from BoxV.new wr 66 #[.int .i64 a0, .int .i64 a1, .int .i64 a2, .int .u64 a3, .int .u64 a4, .int .u64 a5, .int .u64 a6, .int .i64 a7, .int .i64 a8, .int .i64 a9])
      have HR := Lib.hid ho.lt
      have hsz := ho.below.size
      clear hc hinv a66 ho
      go_upto_region 13 with fail
      generalize wr.alloc (.cells #[.int .i64 a0, .int .i64 a1, .int .i64 a2, .int .u64 a3, .int .u64 a4, .int .u64 a5, .int .u64 a6, .int .i64 a7, .int .i64 a8, .int .i64 a9] 66) = w6 at *
      generalize hb6 : wr.heap.size = b6 at *
      have hlt6 := HR.out
      have HOK := Lib.hid HO.out
      have HB6S := Lib.hid hb6
      clear hb6
      have HNE := Lib.hid (show b6 ∉ [q, p, g, k, mb] by simp; omega)
      clear c0 c1 c2 c3 c4 c5 c6 c7 c8 c9 hlt6
      have l6 := HB6.out.lt
      have e0 := HB6.out.cell 0
      have e1 := HB6.out.cell 1
      have e2 := HB6.out.cell 2
      have e3 := HB6.out.cell 3
      have e4 := HB6.out.cell 4
      have e5 := HB6.out.cell 5
      have e6 := HB6.out.cell 6
      have e7 := HB6.out.cell 7
      have e8 := HB6.out.cell 8
      have e9 := HB6.out.cell 9
      simp only [List.getElem?_toArray, List.getElem?_cons_zero, List.getElem?_cons_succ] at e0 e1 e2 e3 e4 e5 e6 e7 e8 e9
      by_cases hf : fitsV m bytes rm a1 = 0
      · obtain ⟨f1, f2, f3, f4⟩ := fits_why hf
        obtain ⟨m, rfl⟩ : ∃ m', m = m' + 1 := ⟨m - 1, by omega⟩
        obtain ⟨a, hKa, han, hSa⟩ := HV.out.inv.free m (by omega)
        obtain ⟨hMa, hv2⟩ := HV.out.put a hKa han hSa ⟨a0, a1, a2, a3, a4, a5, a6, a7, a8, a9⟩ hf
        have Q1 := Lib.hid (put_yes O6.out.pool ⟨a0, a1, a2, a3, a4, a5, a6, a7, a8, a9⟩ a hKa han (by omega) (by omega) (by omega) hf (by omega) hMa)
        have HV2 := Lib.hid hv2
        unfold Pk.cells at Q1
        simp only at Q1
        clear hv2 hKa hSa hMa HV
        generalize S (a * 2 + 1) = t at *
        go_wp2_with fail
        refine (Q1.out).mono ?_
        rintro e w7 ⟨rfl, hp7, t7⟩
        have t7' := t7.mono (S' := [q, p, g, k, mb]) (by simp)
        have o7 := O6.out.turned HL.out hp7 t7' (.inl rfl)
        have a8 : Touch [] w7 (w7.alloc (.cells #[.int .i64 a, .int .i64 t] 68)) := (Touch.refl [] w7).alloc _
        have O8 := Lib.hid (o7.carry a8)
        have HB8 := Lib.hid ((HB6.out.carry t7' HNE.out).carry a8 (by simp))
        have HH8 := Lib.hid (show BoxV (w7.alloc (.cells #[.int .i64 a, .int .i64 t] 68)) w7.heap.size 68 #[.int .i64 a, .int .i64 t] from BoxV.new w7 68 #[.int .i64 a, .int .i64 t])
        have H7L := Lib.hid (show b6 < w7.heap.size from (HB6.out.carry t7' HNE.out).lt)
        have H7K := Lib.hid (show ∀ b', u15.ownBlock = some b' → b' ≠ b6 ∧ b' ≠ w7.heap.size from fun b' h => by have := own_lt HOK.out.ok h; have := HB6.out.lt; have := t7.size; have hbb := HB6S.out; omega)
        have H7A := Lib.hid (show ∀ b', u16.ownBlock = some b' → b' ≠ b6 ∧ b' ≠ w7.heap.size from fun b' h => by have := own_lt HOK.out.oa h; have := HB6.out.lt; have := t7.size; have hbb := HB6S.out; omega)
        clear hp7 t7 t7' o7 a8 Q1 HB6 O6 e0 e1 e2 e3 e4 e5 e6 e7 e8 e9 l6
        go_upto_region 15 with fail
        generalize w7.alloc (.cells #[.int .i64 a, .int .i64 t] 68) = w9 at *
        generalize hb8 : w7.heap.size = b8 at *
        clear hb8
        obtain ⟨Ak, ck, rfl⟩ := row_form HOK.out.ok
        obtain ⟨Aa, ca, rfl⟩ := row_form HOK.out.oa
        obtain ⟨ip, hip, hz0, hz1, hz2⟩ := info_parts pk_info
        obtain ⟨jp, hjp, hy0, hy1, hy2⟩ := info_parts hd_info
        have HBZ := Lib.hid O8.out.below.size
        have l8 := HB8.out.lt
        have e0 := HB8.out.cell 0
        have e1 := HB8.out.cell 1
        have e2 := HB8.out.cell 2
        have e3 := HB8.out.cell 3
        have e4 := HB8.out.cell 4
        have e5 := HB8.out.cell 5
        have e6 := HB8.out.cell 6
        have e7 := HB8.out.cell 7
        have e8 := HB8.out.cell 8
        have e9 := HB8.out.cell 9
        simp only [List.getElem?_toArray, List.getElem?_cons_zero, List.getElem?_cons_succ] at e0 e1 e2 e3 e4 e5 e6 e7 e8 e9
        go_upto_region 16 with (at_builtin; refine wpList_append_own_at _ rfl (.tmp 107) (.tmp 109) 56 rfl W.heap.size 66 ip _ 10 80 Try.underlying56 hip hz0 hz1 hz2 rfl (by decide) (.slice Ak L.length ck) L.length (pv L) rfl (O8.out.ok.alloc _) ⟨w9.heap.size, 0, none⟩ 1 1 (#[.int .i64 a0, .int .i64 a1, .int .i64 a2, .int .u64 a3, .int .u64 a4, .int .u64 a5, .int .u64 a6, .int .i64 a7, .int .i64 a8, .int .i64 a9] : Array Value).toList rfl rfl (World.news_of_block (cs := #[.int .i64 a0, .int .i64 a1, .int .i64 a2, .int .u64 a3, .int .u64 a4, .int .u64 a5, .int .u64 a6, .int .i64 a7, .int .i64 a8, .int .i64 a9]) (t := 66) (fr := (0, 0)) (heap_alloc_new w9 _)) (pv_one ⟨a0, a1, a2, a3, a4, a5, a6, a7, a8, a9⟩) (by unfold maxLen; omega) (by omega) (by have hbz := HBZ.out; rw [alloc_size]; omega) ?_; intro vk2 w11 hown hgrow hnil hat)
        have hb88 := (((Touch.refl (Value.slice Ak L.length ck).ownBlock.toList w9).alloc (.cells #[.int .i64 a0, .int .i64 a1, .int .i64 a2, .int .u64 a3, .int .u64 a4, .int .u64 a5, .int .u64 a6, .int .i64 a7, .int .i64 a8, .int .i64 a9] 66)).grown hgrow (by intro b hb; rw [hb]; simp))
        have hg11 := HH8.out.carry hb88 (fun hm => by simp at hm; exact (H7K.out _ hm).2 rfl)
        have O11 := Lib.hid (O8.out.more (x := ⟨a0, a1, a2, a3, a4, a5, a6, a7, a8, a9⟩) hgrow hown (by rw [alloc_size] at hat; exact hat))
        have HH11 := Lib.hid hg11
        have HBZ2 := Lib.hid O11.out.below.size
        clear hown hgrow hnil hat hb88 hg11 e0 e1 e2 e3 e4 e5 e6 e7 e8 e9 l8 HB8 O8 HH8
        have l11 := HH11.out.lt
        have d0 := HH11.out.cell 0
        have d1 := HH11.out.cell 1
        simp only [List.getElem?_toArray, List.getElem?_cons_zero, List.getElem?_cons_succ] at d0 d1
        go_upto_region 17 with (at_builtin; refine wpList_append_own_at _ rfl (.tmp 111) (.tmp 113) 86 rfl W.heap.size 68 jp _ 2 16 Try.underlying86 hjp hy0 hy1 hy2 rfl (by decide) (.slice Aa N.length ca) N.length (hv N) rfl (O11.out.oa.alloc _) ⟨w11.heap.size, 0, none⟩ 1 1 [.int .i64 a, .int .i64 t] rfl rfl (World.news_of_block (cs := #[.int .i64 a, .int .i64 t]) (t := 68) (fr := (0, 0)) (heap_alloc_new w11 _)) (by simp [Value.oneCell']) (by unfold maxLen; omega) (by omega) (by have hbz := HBZ2.out; rw [alloc_size]; omega) ?_; intro va2 w13 hown2 hgrow2 hnil2 hat2)
        have O13 := Lib.hid (O11.out.out (x := (a, t)) hgrow2 hown2 (by rw [alloc_size] at hat2; exact hat2))
        clear hown2 hgrow2 hnil2 hat2 d0 d1 l11 HH11 O11
        obtain ⟨Ak2, ck2, hvk⟩ := row_form O13.out.ok
        rw [List.length_append, List.length_singleton] at hvk
        subst hvk
        have Q2 := Lib.hid (bytes_any O13.out.pool)
        have Q3 := Lib.hid (slots_any O13.out.pool)
        have hb1 : decide ((rm : Int) < bytes + a1) = false := by simp; omega
        have hb2 : decide (1 + (sl : Int) % 30 < (L.length : Int) + 1) = false := by have := HN.out; simp; omega
        clear hf
        go_wp2_with fail
        refine (Q2.out).mono ?_
        rintro e wq ⟨rfl, rfl⟩
        go_wp2_with fail
        refine (Q3.out).mono ?_
        rintro e wq ⟨rfl, rfl⟩
        go_wp2_with fail
        refine (Q3.out).mono ?_
        rintro e wq ⟨rfl, rfl⟩
        go_wp2_with fail
        go_roundw
        case rel => exact ⟨⟨j + 1, k, m, c, L.length + 1, _, _, _, _, _, _, _, by go_num, O13.out, HV2.out⟩, by simp [intOf]; omega⟩
        case measure => simp [intOf]; omega
      · have Q1 := Lib.hid (put_no O6.out.pool ⟨a0, a1, a2, a3, a4, a5, a6, a7, a8, a9⟩ (by omega) (by omega) hf)
        have HV2 := Lib.hid HV.out.next
        unfold Pk.cells zeroH at Q1
        simp only at Q1
        have hy : (fitsV m bytes rm a1 == 0) = false := by simpa using hf
        clear hf HV
        generalize fitsV m bytes rm a1 = y at *
        obtain ⟨Ak, ck, rfl⟩ := row_form HOK.out.ok
        go_wp2_with fail
        refine (Q1.out).mono ?_
        rintro e w7 ⟨rfl, t7⟩
        have a8 : Touch [] w7 (w7.alloc (.cells #[.int .i64 0, .int .i64 0] 68)) := (Touch.refl [] w7).alloc _
        have O8 := Lib.hid ((O6.out.carry t7).carry a8)
        clear t7 a8 Q1 O6 e0 e1 e2 e3 e4 e5 e6 e7 e8 e9 l6 HB6
        go_upto_region 17 with fail
        generalize w7.alloc (.cells #[.int .i64 0, .int .i64 0] 68) = w9 at *
        have Q2 := Lib.hid (bytes_any O8.out.pool)
        have Q3 := Lib.hid (slots_any O8.out.pool)
        have hb1 : decide ((rm : Int) < bytes) = false := by simp; omega
        have hb2 : decide (1 + (sl : Int) % 30 < (L.length : Int)) = false := by have := HN.out; simp; omega
        go_wp2_with fail
        refine (Q2.out).mono ?_
        rintro e wq ⟨rfl, rfl⟩
        go_wp2_with fail
        refine (Q3.out).mono ?_
        rintro e wq ⟨rfl, rfl⟩
        go_wp2_with fail
        refine (Q3.out).mono ?_
        rintro e wq ⟨rfl, rfl⟩
        go_wp2_with fail
        go_roundw
        case rel => exact ⟨⟨j + 1, k, m, c, L.length, _, _, _, _, _, _, _, by go_num, O8.out, HV2.out⟩, by simp [intOf]; omega⟩
        case measure => simp [intOf]; omega
    · obtain ⟨Ak, ck, rfl⟩ := row_form ho.ok
      obtain ⟨Aa, ca, rfl⟩ := row_form ho.oa
      have hca := row_cap ho.oa
      unfold maxLen at hca
      have hj40 : j ≤ 40 := by omega
      clear ho hinv HX
      go_wp2_with fail
      go_loopw [139] (fun i wl => ∃ (i' k m c s : Nat) (S K : Nat → Int) (M : Pks) (bytes : Int), i' ≤ N.length ∧ i = .int .i64 i' ∧ PHeld W wl q p g k nn m c S K mb s M bytes rm N L (.slice Ak L.length ck) (.slice Aa N.length ca) ∧ PInv nn m S K E (N.drop i') (j + i') M (L.drop i') s bytes rm) (fun i _ => N.length - (intOf i).toNat)
      case atStart => exact ⟨0, k, m, c, L.length, S, K, M, bytes, Nat.zero_le _, rfl, HO.out, HV.out⟩
      case round =>
        clear HO HV hbnd
        obtain ⟨i', k, m, c, s, S, K, M, bytes, hi', rfl, hh, hv'⟩ := hrel
        by_cases hlt2 : i' < N.length
        · obtain ⟨ga, cn', hAn, _, hga⟩ := hh.oa.form (by omega)
          simp only [Value.slice.injEq, true_and] at hAn
          obtain ⟨rfl, rfl⟩ := hAn
          have HIL := Lib.hid (show i' < L.length by have := HLN.out; omega)
          obtain ⟨gk, ck', hAk, _, hgk⟩ := hh.ok.form (by have := HIL.out; omega)
          simp only [Value.slice.injEq, true_and] at hAk
          obtain ⟨rfl, rfl⟩ := hAk
          obtain ⟨x, hx⟩ : ∃ x, N[i']? = some x := ⟨N[i']'hlt2, List.getElem?_eq_getElem _⟩
          obtain ⟨y, hy⟩ : ∃ y, L[i']? = some y := ⟨L[i']'HIL.out, List.getElem?_eq_getElem _⟩
          have hdr : N.drop i' = x :: N.drop (i' + 1) := by
            obtain ⟨h1, h2⟩ := List.getElem?_eq_some_iff.1 hx
            rw [← h2]
            exact List.drop_eq_getElem_cons h1
          have hdl : L.drop i' = y :: L.drop (i' + 1) := by
            obtain ⟨h1, h2⟩ := List.getElem?_eq_some_iff.1 hy
            rw [← h2]
            exact List.drop_eq_getElem_cons h1
          rw [hdr, hdl] at hv'
          obtain ⟨w0, w1'⟩ := hv_get hx
          have z0 := hh.oa.cellAt (i' * 2) (by omega)
          have z1 := hh.oa.cellAt (i' * 2 + 1) (by omega)
          rw [w0] at z0
          rw [w1'] at z1
          obtain ⟨hMx, hal, hs1, hs2, hxn, htu, hs0⟩ := hv'.head
          have htt := hv'.inv.turns x.1 hxn
          rw [htu] at htt
          have hbn := hv'.bounds
          have HF := Lib.hid hv'.freed
          have RK0 := Lib.hid (fun (w' : World) (t : w'.ownsRow W.heap.size 66 10 (.slice (some ⟨gk, 0, none⟩) L.length ck) L.length (pv L)) => row_pk t hy rfl)
          have a1 : Touch [] wr (wr.alloc (.cells #[.int .i64 x.1, .int .i64 x.2] 68)) := (Touch.refl [] wr).alloc _
          have O20 := Lib.hid (hh.carry a1)
          have HH20 := Lib.hid (show BoxV (wr.alloc (.cells #[.int .i64 x.1, .int .i64 x.2] 68)) wr.heap.size 68 #[.int .i64 x.1, .int .i64 x.2] from BoxV.new wr 68 #[.int .i64 x.1, .int .i64 x.2])
          have HNE := Lib.hid (show wr.heap.size ∉ [q, p, g, k, mb] by have := hh.lt; simp; omega)
          obtain ⟨xa, xt⟩ := x
          obtain ⟨y0, y1, y2, y3, y4, y5, y6, y7, y8, y9⟩ := y
          simp only at *
          have hi64 : i64k (xa : Int) := i64k_of (by omega)
          clear hh hv' hx hy hdr hdl w0 w1' a1 htu hxn
          go_upto_region 23 with fail
          generalize wr.alloc (.cells #[.int .i64 xa, .int .i64 xt] 68) = w20 at *
          generalize hb22 : wr.heap.size = b22 at *
          clear hb22 z0 z1
          have l22 := HH20.out.lt
          have d0 := HH20.out.cell 0
          have d1 := HH20.out.cell 1
          simp only [List.getElem?_toArray, List.getElem?_cons_zero, List.getElem?_cons_succ] at d0 d1
          have Q1 := Lib.hid (get_yes O20.out.pool xa xt ⟨y0, y1, y2, y3, y4, y5, y6, y7, y8, y9⟩ hi64 hal hMx)
          unfold GetPost Pk.cells at Q1
          simp only at Q1
          go_wp2_with fail
          refine (Q1.out).mono ?_
          rintro e w21 ⟨rfl, t21⟩
          have a22 : Touch [] w21 (w21.alloc (.cells #[.int .i64 y0, .int .i64 y1, .int .i64 y2, .int .u64 y3, .int .u64 y4, .int .u64 y5, .int .u64 y6, .int .i64 y7, .int .i64 y8, .int .i64 y9] 66)) := (Touch.refl [] w21).alloc _
          have O22 := Lib.hid ((O20.out.carry t21).carry a22)
          have HH22 := Lib.hid ((HH20.out.carry t21 (by simp)).carry a22 (by simp))
          have HB23 := Lib.hid (show BoxV (w21.alloc (.cells #[.int .i64 y0, .int .i64 y1, .int .i64 y2, .int .u64 y3, .int .u64 y4, .int .u64 y5, .int .u64 y6, .int .i64 y7, .int .i64 y8, .int .i64 y9] 66)) w21.heap.size 66 #[.int .i64 y0, .int .i64 y1, .int .i64 y2, .int .u64 y3, .int .u64 y4, .int .u64 y5, .int .u64 y6, .int .i64 y7, .int .i64 y8, .int .i64 y9] from BoxV.new w21 66 #[.int .i64 y0, .int .i64 y1, .int .i64 y2, .int .u64 y3, .int .u64 y4, .int .u64 y5, .int .u64 y6, .int .i64 y7, .int .i64 y8, .int .i64 y9])
          have HN3 := Lib.hid (show w21.heap.size ∉ [q, p, g, k, mb] by have := (O20.out.carry t21).lt; simp; omega)
          clear t21 a22 Q1 O20 HH20 d0 d1 l22
          go_upto_region 24 with fail
          generalize w21.alloc (.cells #[.int .i64 y0, .int .i64 y1, .int .i64 y2, .int .u64 y3, .int .u64 y4, .int .u64 y5, .int .u64 y6, .int .i64 y7, .int .i64 y8, .int .i64 y9] 66) = w22 at *
          generalize hb23 : w21.heap.size = b23 at *
          clear hb23
          have l22 := HH22.out.lt
          have d0 := HH22.out.cell 0
          have d1 := HH22.out.cell 1
          simp only [List.getElem?_toArray, List.getElem?_cons_zero, List.getElem?_cons_succ] at d0 d1
          have Q2 := Lib.hid (free_yes O22.out.pool xa xt ⟨y0, y1, y2, y3, y4, y5, y6, y7, y8, y9⟩ hal hMx (by omega) (by omega) (by omega) hi64 (by omega) (by simp only; omega))
          unfold Freed Pk.cells at Q2
          simp only at Q2
          clear hMx hal
          go_wp2_with fail
          refine (Q2.out).mono ?_
          rintro e w23 ⟨k', c', rfl, hp23, t23, hk23⟩
          have o23 := O22.out.turned HL.out hp23 t23 hk23
          have a24 : Touch [] w23 (w23.alloc (.cells #[.int .i64 y0, .int .i64 y1, .int .i64 y2, .int .u64 y3, .int .u64 y4, .int .u64 y5, .int .u64 y6, .int .i64 y7, .int .i64 y8, .int .i64 y9] 66)) := (Touch.refl [] w23).alloc _
          have O24 := Lib.hid (o23.carry a24)
          have HH24 := Lib.hid ((HH22.out.carry t23 HNE.out).carry a24 (by simp))
          have HB24 := Lib.hid ((HB23.out.carry t23 HN3.out).carry a24 (by simp))
          have HB25 := Lib.hid (show BoxV (w23.alloc (.cells #[.int .i64 y0, .int .i64 y1, .int .i64 y2, .int .u64 y3, .int .u64 y4, .int .u64 y5, .int .u64 y6, .int .i64 y7, .int .i64 y8, .int .i64 y9] 66)) w23.heap.size 66 #[.int .i64 y0, .int .i64 y1, .int .i64 y2, .int .u64 y3, .int .u64 y4, .int .u64 y5, .int .u64 y6, .int .i64 y7, .int .i64 y8, .int .i64 y9] from BoxV.new w23 66 #[.int .i64 y0, .int .i64 y1, .int .i64 y2, .int .u64 y3, .int .u64 y4, .int .u64 y5, .int .u64 y6, .int .i64 y7, .int .i64 y8, .int .i64 y9])
          clear hp23 t23 hk23 o23 a24 Q2 O22 HH22 HB23 d0 d1 l22
          go_upto_region 25 with fail
          generalize w23.alloc (.cells #[.int .i64 y0, .int .i64 y1, .int .i64 y2, .int .u64 y3, .int .u64 y4, .int .u64 y5, .int .u64 y6, .int .i64 y7, .int .i64 y8, .int .i64 y9] 66) = w24 at *
          generalize hb25 : w23.heap.size = b25 at *
          clear hb25
          have l22 := HH24.out.lt
          have d0 := HH24.out.cell 0
          have d1 := HH24.out.cell 1
          simp only [List.getElem?_toArray, List.getElem?_cons_zero, List.getElem?_cons_succ] at d0 d1
          have Q3 := Lib.hid (free_no O24.out.pool xa xt dead_after)
          unfold GetPost zeroPk Pk.cells at Q3
          simp only at Q3
          go_wp2_with fail
          refine (Q3.out).mono ?_
          rintro e w25 ⟨rfl, t25⟩
          have a26 : Touch [] w25 (w25.alloc (.cells #[.int .i64 0, .int .i64 0, .int .i64 0, .int .u64 0, .int .u64 0, .int .u64 0, .int .u64 0, .int .i64 0, .int .i64 0, .int .i64 0] 66)) := (Touch.refl [] w25).alloc _
          have O26 := Lib.hid ((O24.out.carry t25).carry a26)
          have HB23 := Lib.hid ((HB24.out.carry t25 (by simp)).carry a26 (by simp))
          have HB25 := Lib.hid ((HB25.out.carry t25 (by simp)).carry a26 (by simp))
          clear t25 a26 Q3 O24 HH24 HB24 d0 d1 l22
          go_upto_region 26 with fail
          generalize w25.alloc (.cells #[.int .i64 0, .int .i64 0, .int .i64 0, .int .u64 0, .int .u64 0, .int .u64 0, .int .u64 0, .int .i64 0, .int .i64 0, .int .i64 0] 66) = w26 at *
          have RK := Lib.hid (fun w (t : Touch [] w26 w) => run_loadAt_mid (P := Try.prog) w gk (i' * 10) 66 (Pk.cells ⟨y0, y1, y2, y3, y4, y5, y6, y7, y8, y9⟩).toList _ (RK0.out w (O26.out.carry t).ok) Try.underlying66 rfl (by kernel_rfl))
          refine wp_region_leaves (wd := w26) (Leaf.const (.agg #[.int .i64 y0, .int .i64 y1, .int .i64 y2, .int .u64 y3, .int .u64 y4, .int .u64 y5, .int .u64 y6, .int .i64 y7, .int .i64 y8, .int .i64 y9]) :: Leaf.const (.slice (some ⟨gk, 0, none⟩) L.length ck) :: Leaf.const (.int .i64 (i' : Int)) :: Leaf.const (.pointer (some ⟨gk, i' * 10, none⟩)) :: Leaf.const (.agg #[.int .i64 y0, .int .i64 y1, .int .i64 y2, .int .u64 y3, .int .u64 y4, .int .u64 y5, .int .u64 y6, .int .i64 y7, .int .i64 y8, .int .i64 y9]) :: Leaf.const (.bool false) :: Leaf.const ((.bool false)) :: Leaf.const (.agg #[.int .i64 y0, .int .i64 y1, .int .i64 y2, .int .u64 y3, .int .u64 y4, .int .u64 y5, .int .u64 y6, .int .i64 y7, .int .i64 y8, .int .i64 y9]) :: Leaf.const (.agg #[.int .i64 y0, .int .i64 y1, .int .i64 y2, .int .u64 y3, .int .u64 y4, .int .u64 y5, .int .u64 y6, .int .i64 y7, .int .i64 y8, .int .i64 y9]) :: Leaf.const (.bool false) :: Leaf.const ((.bool false)) :: Leaf.const ((.bool false)) :: Leaf.const (.bool true) :: Leaf.const (.bool false) :: Leaf.const ((.bool false)) :: Leaf.const ((.bool false)) :: Leaf.const (.bool true) :: Leaf.const (.bool false) :: Leaf.const ((.bool false)) :: Leaf.const ((.bool false)) :: Leaf.const (.bool false) :: Leaf.const ((.bool false)) :: []) (by kernel_rfl) (by kernel_rfl) (by kernel_rfl) ((Touch.refl _ _).drew) (trivial) ?_ ?_
          · intro i o ho ac w ht hk hd
            match i, ho with
            | 0, ho =>
              have ho' : some _ = some o := ho
              cases ho'
              clear ho
              have e23 := known_slot hk 23 (by kernel_rfl) (v := .pointer (some ⟨b23, 0, none⟩)) rfl
              exact do_value (wanted_none rfl) (v := .agg #[.int .i64 y0, .int .i64 y1, .int .i64 y2, .int .u64 y3, .int .u64 y4, .int .u64 y5, .int .u64 y6, .int .i64 y7, .int .i64 y8, .int .i64 y9]) (run_value rfl (by rw [e23]; exact load_pk (x := ⟨y0, y1, y2, y3, y4, y5, y6, y7, y8, y9⟩) (HB23.out.carry ht (by simp)))) rfl
            | 1, ho =>
              have ho' : some _ = some o := ho
              cases ho'
              clear ho
              have e15 := known_slot hk 15 (by kernel_rfl) (v := .slice (some ⟨gk, 0, none⟩) L.length ck) rfl
              exact do_value (wanted_none rfl) (by rw [BigFrame.run_move (.tmp 15) rfl, e15]) rfl
            | 2, ho =>
              have ho' : some _ = some o := ho
              cases ho'
              clear ho
              have e21 := known_slot hk 21 (by kernel_rfl) (v := .int .i64 (i' : Int)) rfl
              exact do_value (wanted_none rfl) (by rw [BigFrame.run_move (.tmp 21) rfl, e21]) rfl
            | 3, ho =>
              have ho' : some _ = some o := ho
              cases ho'
              clear ho
              have e163 := has_const (has_dep hd 1 (by kernel_rfl)) rfl rfl rfl (c := (.slice (some ⟨gk, 0, none⟩) L.length ck))
              have e164 := has_const (has_dep hd 2 (by kernel_rfl)) rfl rfl rfl (c := (.int .i64 (i' : Int)))
              exact do_value (wanted_none rfl) (v := .pointer (some ⟨gk, i' * 10, none⟩)) (run_value rfl (by rw [e163, e164]; have hil := HIL.out; (first | (simp [go_sem, hil]; done) | (simp [go_sem]; omega)))) rfl
            | 4, ho =>
              have ho' : some _ = some o := ho
              cases ho'
              clear ho
              have e165 := has_const (has_dep hd 3 (by kernel_rfl)) rfl rfl rfl (c := (.pointer (some ⟨gk, i' * 10, none⟩)))
              exact do_value (wanted_none rfl) (v := .agg #[.int .i64 y0, .int .i64 y1, .int .i64 y2, .int .u64 y3, .int .u64 y4, .int .u64 y5, .int .u64 y6, .int .i64 y7, .int .i64 y8, .int .i64 y9]) (run_value rfl (by rw [e165]; exact RK.out _ ht)) rfl
            | 5, ho =>
              have ho' : some _ = some o := ho
              cases ho'
              clear ho
              have e162 := has_const (has_dep hd 0 (by kernel_rfl)) rfl rfl rfl (c := (.agg #[.int .i64 y0, .int .i64 y1, .int .i64 y2, .int .u64 y3, .int .u64 y4, .int .u64 y5, .int .u64 y6, .int .i64 y7, .int .i64 y8, .int .i64 y9]))
              have e166 := has_const (has_dep hd 4 (by kernel_rfl)) rfl rfl rfl (c := (.agg #[.int .i64 y0, .int .i64 y1, .int .i64 y2, .int .u64 y3, .int .u64 y4, .int .u64 y5, .int .u64 y6, .int .i64 y7, .int .i64 y8, .int .i64 y9]))
              exact do_value (wanted_none rfl) (v := .bool false) (run_value rfl (by rw [e162, e166]; simp [go_sem])) rfl
            | 6, ho =>
              have ho' : some _ = some o := ho
              cases ho'
              clear ho
              have e167 := has_const (has_dep hd 5 (by kernel_rfl)) rfl rfl rfl (c := (.bool false))
              exact do_value (wanted_none rfl) (by rw [BigFrame.run_move (.tmp 167) rfl, e167]) rfl
            | 7, ho =>
              have ho' : some _ = some o := ho
              cases ho'
              clear ho
              have e168 := has_const (has_dep hd 6 (by kernel_rfl)) rfl rfl rfl (c := (.bool false))
              have e25 := known_slot hk 25 (by kernel_rfl) (v := .pointer (some ⟨b25, 0, none⟩)) rfl
              exact do_value (wanted_some (g := 6) rfl rfl rfl e168) (v := .agg #[.int .i64 y0, .int .i64 y1, .int .i64 y2, .int .u64 y3, .int .u64 y4, .int .u64 y5, .int .u64 y6, .int .i64 y7, .int .i64 y8, .int .i64 y9]) (run_value rfl (by rw [e25]; exact load_pk (x := ⟨y0, y1, y2, y3, y4, y5, y6, y7, y8, y9⟩) (HB25.out.carry ht (by simp)))) rfl
            | 8, ho =>
              have ho' : some _ = some o := ho
              cases ho'
              clear ho
              have e168 := has_const (has_dep hd 6 (by kernel_rfl)) rfl rfl rfl (c := (.bool false))
              have e23 := known_slot hk 23 (by kernel_rfl) (v := .pointer (some ⟨b23, 0, none⟩)) rfl
              exact do_value (wanted_some (g := 6) rfl rfl rfl e168) (v := .agg #[.int .i64 y0, .int .i64 y1, .int .i64 y2, .int .u64 y3, .int .u64 y4, .int .u64 y5, .int .u64 y6, .int .i64 y7, .int .i64 y8, .int .i64 y9]) (run_value rfl (by rw [e23]; exact load_pk (x := ⟨y0, y1, y2, y3, y4, y5, y6, y7, y8, y9⟩) (HB23.out.carry ht (by simp)))) rfl
            | 9, ho =>
              have ho' : some _ = some o := ho
              cases ho'
              clear ho
              have e168 := has_const (has_dep hd 6 (by kernel_rfl)) rfl rfl rfl (c := (.bool false))
              have e169 := has_const (has_dep hd 7 (by kernel_rfl)) rfl rfl rfl (c := (.agg #[.int .i64 y0, .int .i64 y1, .int .i64 y2, .int .u64 y3, .int .u64 y4, .int .u64 y5, .int .u64 y6, .int .i64 y7, .int .i64 y8, .int .i64 y9]))
              have e170 := has_const (has_dep hd 8 (by kernel_rfl)) rfl rfl rfl (c := (.agg #[.int .i64 y0, .int .i64 y1, .int .i64 y2, .int .u64 y3, .int .u64 y4, .int .u64 y5, .int .u64 y6, .int .i64 y7, .int .i64 y8, .int .i64 y9]))
              exact do_value (wanted_some (g := 6) rfl rfl rfl e168) (v := .bool false) (run_value rfl (by rw [e169, e170]; simp [go_sem])) rfl
            | 10, ho =>
              have ho' : some _ = some o := ho
              cases ho'
              clear ho
              have e168 := has_const (has_dep hd 6 (by kernel_rfl)) rfl rfl rfl (c := (.bool false))
              have e171 := has_const (has_dep hd 9 (by kernel_rfl)) rfl rfl rfl (c := (.bool false))
              exact do_value (wanted_none rfl) (by rw [run_pickF (c := .tmp 168) (x := .const (.bool true)) (y := .tmp 171) rfl e168, e171]) rfl
            | 11, ho =>
              have ho' : some _ = some o := ho
              cases ho'
              clear ho
              have e172 := has_const (has_dep hd 10 (by kernel_rfl)) rfl rfl rfl (c := (.bool false))
              exact do_value (wanted_none rfl) (by rw [BigFrame.run_move (.tmp 172) rfl, e172]) rfl
            | 12, ho =>
              have ho' : some _ = some o := ho
              cases ho'
              clear ho
              have e173 := has_const (has_dep hd 11 (by kernel_rfl)) rfl rfl rfl (c := (.bool false))
              have e24 := known_slot hk 24 (by kernel_rfl) (v := .bool true) rfl
              exact do_value (wanted_some (g := 11) rfl rfl rfl e173) (by rw [BigFrame.run_move (.tmp 24) rfl, e24]) rfl
            | 13, ho =>
              have ho' : some _ = some o := ho
              cases ho'
              clear ho
              have e173 := has_const (has_dep hd 11 (by kernel_rfl)) rfl rfl rfl (c := (.bool false))
              have e174 := has_const (has_dep hd 12 (by kernel_rfl)) rfl rfl rfl (c := (.bool true))
              exact do_value (wanted_some (g := 11) rfl rfl rfl e173) (v := .bool false) (run_value rfl (by rw [e174]; simp [go_sem])) rfl
            | 14, ho =>
              have ho' : some _ = some o := ho
              cases ho'
              clear ho
              have e173 := has_const (has_dep hd 11 (by kernel_rfl)) rfl rfl rfl (c := (.bool false))
              have e175 := has_const (has_dep hd 13 (by kernel_rfl)) rfl rfl rfl (c := (.bool false))
              exact do_value (wanted_none rfl) (by rw [run_pickF (c := .tmp 173) (x := .const (.bool true)) (y := .tmp 175) rfl e173, e175]) rfl
            | 15, ho =>
              have ho' : some _ = some o := ho
              cases ho'
              clear ho
              have e176 := has_const (has_dep hd 14 (by kernel_rfl)) rfl rfl rfl (c := (.bool false))
              exact do_value (wanted_none rfl) (by rw [BigFrame.run_move (.tmp 176) rfl, e176]) rfl
            | 16, ho =>
              have ho' : some _ = some o := ho
              cases ho'
              clear ho
              have e177 := has_const (has_dep hd 15 (by kernel_rfl)) rfl rfl rfl (c := (.bool false))
              have e26 := known_slot hk 26 (by kernel_rfl) (v := .bool true) rfl
              exact do_value (wanted_some (g := 15) rfl rfl rfl e177) (by rw [BigFrame.run_move (.tmp 26) rfl, e26]) rfl
            | 17, ho =>
              have ho' : some _ = some o := ho
              cases ho'
              clear ho
              have e177 := has_const (has_dep hd 15 (by kernel_rfl)) rfl rfl rfl (c := (.bool false))
              have e178 := has_const (has_dep hd 16 (by kernel_rfl)) rfl rfl rfl (c := (.bool true))
              exact do_value (wanted_some (g := 15) rfl rfl rfl e177) (v := .bool false) (run_value rfl (by rw [e178]; simp [go_sem])) rfl
            | 18, ho =>
              have ho' : some _ = some o := ho
              cases ho'
              clear ho
              have e177 := has_const (has_dep hd 15 (by kernel_rfl)) rfl rfl rfl (c := (.bool false))
              have e179 := has_const (has_dep hd 17 (by kernel_rfl)) rfl rfl rfl (c := (.bool false))
              exact do_value (wanted_none rfl) (by rw [run_pickF (c := .tmp 177) (x := .const (.bool true)) (y := .tmp 179) rfl e177, e179]) rfl
            | 19, ho =>
              have ho' : some _ = some o := ho
              cases ho'
              clear ho
              have e180 := has_const (has_dep hd 18 (by kernel_rfl)) rfl rfl rfl (c := (.bool false))
              exact do_value (wanted_none rfl) (by rw [BigFrame.run_move (.tmp 180) rfl, e180]) rfl
            | 20, ho =>
              have ho' : some _ = some o := ho
              cases ho'
              clear ho
              have e181 := has_const (has_dep hd 19 (by kernel_rfl)) rfl rfl rfl (c := (.bool false))
              have e28 := known_slot hk 28 (by kernel_rfl) (v := .bool false) rfl
              exact do_value (wanted_some (g := 19) rfl rfl rfl e181) (by rw [BigFrame.run_move (.tmp 28) rfl, e28]) rfl
            | 21, ho =>
              have ho' : some _ = some o := ho
              cases ho'
              clear ho
              have e181 := has_const (has_dep hd 19 (by kernel_rfl)) rfl rfl rfl (c := (.bool false))
              have e182 := has_const (has_dep hd 20 (by kernel_rfl)) rfl rfl rfl (c := (.bool false))
              exact do_value (wanted_none rfl) (by rw [run_pickF (c := .tmp 181) (x := .const (.bool true)) (y := .tmp 182) rfl e181, e182]) rfl
            | q + 22, ho => exact absurd ho (by simp)
          · intro x w27 T27 hkn
            simp only [putL, Act.put, List.setIfInBounds_toArray, List.set_cons_succ, List.set_cons_zero]
            have O27 := Lib.hid (O26.out.carry T27)
            clear T27 hkn O26 RK RK0
            go_wp2_with fail
            go_roundw
            case rel => exact ⟨i' + 1, k', m + 1, c', s - 1, _, _, _, _, by omega, by go_num, O27.out, HF.out⟩
            case measure => simp [intOf]; omega
        · obtain rfl : i' = N.length := by omega
          have hb0 : bytes = 0 := by
            have h1 := hv'.sum
            rw [List.drop_eq_nil_of_le (by have := HLN.out; omega)] at h1
            simpa [sizes] using h1
          have hs0 : s = 0 := by
            have h1 := hv'.count
            rw [List.drop_length] at h1
            simpa using h1
          subst hb0 hs0
          have Q1 := Lib.hid (bytes_any hh.pool)
          have Q2 := Lib.hid (slots_any hh.pool)
          have HB := Lib.hid hh.below
          clear hh hv'
          go_wp2_with fail
          refine (Q1.out).mono ?_
          rintro e wq ⟨rfl, rfl⟩
          go_wp2_with fail
          refine (Q2.out).mono ?_
          rintro e wq ⟨rfl, rfl⟩
          go_wp2_with fail
          refine (N8.out _).mono ?_
          rintro e w9 ⟨rfl, t9⟩
          go_wp2_with fail
          go_ret
          exact ⟨rfl, HB.out.trans (t9.below (by simp) HB.out.size)⟩

set_option maxRecDepth 100000 in
/-- An argument that is a slice of packets. -/
theorem pk_cells (W : World) (base : Nat) (H : Type) (enc : TypeId × Value → H) (v : Value) (d : DataW H) (p : List MemPlace) (hv : Value.okWide Try.prog W .any base 56 v)
    (h : DataW.Trod enc Try.prog W 0 (fun _ => true) true 56 v d p) : ∃ A len cap X, v = .slice A len cap ∧ len ≤ maxLen ∧ PCells W W.heap.size A len X := by
  have kC : Try.prog.cellsOf 66 = 10 := by kernel_rfl
  obtain ⟨A, len, cap, rfl, hl, hm, hi⟩ := slice_elems Try.underlying56 (by rw [kC]; omega) hv h
  haveI : Inhabited Pk := ⟨zeroPk⟩
  obtain ⟨X, hX⟩ := Deep.choose_lt (α := Pk) (n := len) (p := fun i e => ∃ b off, A = some ⟨b, off, none⟩ ∧ b < W.heap.size ∧ ∀ t v, e.cells.toList[t]? = some v → W.cell? ⟨b, off + i * 10 + t, none⟩ = some v) (fun i hlt => by
      obtain ⟨b, off, m, cs, x, hA, hb, hlen, hat, hx⟩ := hi i hlt
      rw [kC] at hlen hat
      obtain ⟨q, hq, _⟩ := pk_open hlen hx
      refine ⟨q, b, off, hA, hb, fun t v hv => ?_⟩
      have ht : t < 10 := by
        have := (List.getElem?_eq_some_iff.1 hv).1
        simpa [Pk.cells] using this
      rw [hat t ht, hq]
      exact hv)
  exact ⟨A, len, cap, X, rfl, Nat.le_trans hl hm, hX⟩

set_option maxRecDepth 100000 in
theorem poolHolds_calls : LawCalls Try.prog 6 Try.f6 := by
  intro H enc W base args ds p hval hA hlt
  rw [Try.params6] at hA hval
  obtain ⟨v0, vs0, d0, ds0, p0, q0, hargs, rfl, rfl, h0, r0⟩ := trodAll_cons hA
  obtain ⟨v1, vs1, d1, ds1, p1, q1, rfl, rfl, rfl, h1, r1⟩ := trodAll_cons r0
  obtain ⟨v2, vs2, d2, ds2, p2, q2, rfl, rfl, rfl, h2, r2⟩ := trodAll_cons r1
  obtain ⟨rfl, rfl, rfl⟩ := trodAll_nil r2
  obtain rfl : args = #[v0, v1, v2] := by cases args; simp_all
  obtain ⟨t, rfl, rfl, rfl, wt⟩ := open_int Try.underlying5 (hval 0 5 v0 rfl rfl) h0
  obtain ⟨r, rfl, rfl, rfl, wr⟩ := open_int Try.underlying85 (hval 1 85 v1 rfl rfl) h1
  have ht := u8_in wt
  have hr : 0 ≤ r ∧ r ≤ 65535 := by simpa [Lit.wf, IntKind.min, IntKind.max, IntKind.signed, IntKind.bits] using wr
  obtain ⟨z, rfl⟩ := Int.eq_ofNat_of_zero_le ht.1
  obtain ⟨y, rfl⟩ := Int.eq_ofNat_of_zero_le hr.1
  obtain ⟨A, len, cap, X, rfl, hm, hX⟩ := pk_cells W base H enc v2 d2 p2 (hval 2 56 v2 rfl rfl) h2
  by_cases hn : 40 < len
  · exact (holds_long z y A len cap W hn).mono fun e w' h => ⟨h.1, h.2.below (by simp) (Nat.le_refl _)⟩
  · exact holds_short z y A len cap X W (by omega) (by omega) (by omega) hX

set_option maxRecDepth 100000 in
theorem poolHolds_lifted (os : Os) (started : os.Started) (H : Type) (enc : TypeId × Value → H) :
    ReturnsInHanded {} Try.checked os 6 .any (Rows.poolHoldsSpec.pre6 enc Try.prog Try.f6 Rows.poolHoldsRow.domain false) (Rows.poolHoldsSpec.post enc Try.prog Try.f6 false true false false) := by
  refine returnsInHanded_of_change (C := Try.checked) own started (by kernel_rfl) Try.func6
    (ChangeSpec.witness6 (enc := enc) (C := Try.checked) false ⟨#[], #[.int .u8 0, .int .u16 0, .slice none 0 0], []⟩ 8 (by kernel_rfl) (by kernel_rfl) (by kernel_rfl) (by kernel_rfl)) ?_
  intro W base args ds gs before hval hW _ _
  exact law_contract laidOut (by kernel_rfl) rfl rfl boolType (fun ds h => by match ds, h with | [_, _, _], _ => rfl) poolHolds_calls W base args ds gs before hval hW

theorem poolHolds_holds : Rows.PoolHoldsSaid :=
  OpenClaim.holds_of_wide 6 Try.f6 rfl rfl rfl rfl rfl rfl rfl ⟨rfl, rfl, rfl, rfl, rfl⟩ rfl rfl rfl rfl rfl (by kernel_rfl) Try.func6 (by kernel_rfl)
    (of_decide_eq_true (by kernel_rfl)) (by unfold Func.isWrapper; first | (rw [if_pos (by decide +kernel)]; kernel_rfl) | (rw [if_neg (by decide +kernel)]; exact ⟨rfl, rfl⟩))
    (fun os started H enc _ => poolHolds_lifted os started H enc)
#print axioms poolHolds_holds

end Go.Proofs.Ytkbjkijcabmbpaa
