/-
  Layer 18 (tree): the document's example.
-/
import Derived.Test.YtcfogoepoghedaaTree10
namespace Go.Proofs.Ytcfogoepoghedaa
open Go.ChangeShapes Go.WideShapes Go.ChangeAt Go.RowKit Go.Deep Go.Maps
set_option linter.unusedVariables false
set_option linter.unusedSimpArgs false
def tv (i p : Int) : Cl := ⟨i, p, 4607182418800017408, 0, 1, 1, 0, 0, 0, false, false⟩
/-- The example's classes. -/
def exX : Nat → Cl
  | 0 => tv 1 0
  | 1 => tv 2 1
  | 2 => tv 3 1
  | _ => tv 4 3
theorem tv_right (i p : Int) (h : 1 ≤ i ∧ i ≤ 65535 ∧ 0 ≤ p ∧ p ≤ 65535) (hp : p ≠ i) : rightV (tv i p) = 0 := by
  have h2 := unit_in (x := 4607182418800017408) isN_one (by rw [key_one]; omega)
  have hu : unitsOf 4607182418800017408 = 1048576 := by
    unfold unitsOf
    rw [show rung 4607182418800017408 = 4607182418800017408 by unfold rung; omega, V_one]
    have e : 2 ^ U * 2 ^ 20 = 1048576 * 2 ^ U := by rw [Nat.mul_comm]
    rw [e, RE_whole]
  rw [hu] at h2
  unfold rightV tv
  simp only [h2.1, h2.2]
  rw [if_neg (by simpa using h), if_neg hp]
  simp
theorem ex_gE : gE exX 4 = 0 := by
  have r0 : rightV (exX 0) = 0 := tv_right 1 0 (by omega) (by omega)
  have r1 : rightV (exX 1) = 0 := tv_right 2 1 (by omega) (by omega)
  have r2 : rightV (exX 2) = 0 := tv_right 3 1 (by omega) (by omega)
  have r3 : rightV (exX 3) = 0 := tv_right 4 3 (by omega) (by omega)
  have s0 : (gC exX 0 (exX 0).id).isSome = false := rfl
  have s1 : (gC exX 1 (exX 1).id).isSome = false := by decide
  have s2 : (gC exX 2 (exX 2).id).isSome = false := by decide
  have s3 : (gC exX 3 (exX 3).id).isSome = false := by decide
  simp [gE, r0, r1, r2, r3, s0, s1, s2, s3]
theorem ex_gather : gatherE exX 4 = 0 := by
  unfold gatherE
  rw [if_neg (by omega), if_neg (by omega), ex_gE]
theorem ex_C (i : Int) : gC exX 4 i = if i = 4 then some (tv 4 3) else if i = 3 then some (tv 3 1) else if i = 2 then some (tv 2 1) else if i = 1 then some (tv 1 0) else none := rfl
theorem ex_ids : IdsOf (gC exX 4) [1, 2, 3, 4] := by
  refine ⟨by decide, fun i => ?_⟩
  rw [ex_C]
  simp only [List.mem_cons, List.not_mem_nil, or_false]
  constructor
  · intro h
    refine ⟨i64k_of (by omega), ?_⟩
    rcases h with rfl | rfl | rfl | rfl <;> rfl
  · rintro ⟨_, h⟩
    by_cases h4 : i = 4
    · omega
    · rw [if_neg h4] at h
      by_cases h3 : i = 3
      · omega
      · rw [if_neg h3] at h
        by_cases h2 : i = 2
        · omega
        · rw [if_neg h2] at h
          by_cases h1 : i = 1
          · omega
          · rw [if_neg h1] at h
            cases h
theorem ex_up1 : upC (gC exX 4) 1 = 0 := rfl
theorem ex_up2 : upC (gC exX 4) 2 = 1 := rfl
theorem ex_up3 : upC (gC exX 4) 3 = 1 := rfl
theorem ex_up4 : upC (gC exX 4) 4 = 3 := rfl
theorem ex_up0 : upC (gC exX 4) 0 = 0 := rfl
theorem ex_rooted : rootedP (gC exX 4) [1, 2, 3, 4] := by
  refine ⟨rfl, fun c hc => ?_⟩
  simp only [List.mem_cons, List.not_mem_nil, or_false] at hc
  rcases hc with rfl | rfl | rfl | rfl
  · exact .inl rfl
  · exact .inr rfl
  · exact .inr rfl
  · exact .inr rfl
theorem ex_leaves : leavesOf (gC exX 4) [1, 2, 3, 4] = [2, 4] := rfl
def exLv (i : Int) : Int := if i = 1 then 3 else if i = 2 then 1 else if i = 3 then 2 else if i = 4 then 1 else 0
theorem ex_lv : LvOK (upC (gC exX 4)) (onWay (upC (gC exX 4)) [2, 4]) exLv := by
  have z2 : rise (upC (gC exX 4)) 2 2 = 0 := rfl
  have z4 : rise (upC (gC exX 4)) 3 4 = 0 := rfl
  refine ⟨fun l d hp => ?_, fun i => ?_⟩
  · obtain ⟨hl, hz⟩ := hp
    simp only [List.mem_cons, List.not_mem_nil, or_false] at hl
    rcases hl with rfl | rfl
    · match d, hz with
      | 0, _ => decide
      | 1, _ => decide
      | d + 2, hz => exact absurd (rise_stays ex_up0 z2 (by omega)) hz
    · match d, hz with
      | 0, _ => decide
      | 1, _ => decide
      | 2, _ => decide
      | d + 3, hz => exact absurd (rise_stays ex_up0 z4 (by omega)) hz
  · by_cases h1 : i = 1
    · subst h1
      exact .inr ⟨4, 2, ⟨by simp, by decide⟩, rfl, rfl⟩
    · by_cases h2 : i = 2
      · subst h2
        exact .inr ⟨2, 0, ⟨by simp, by decide⟩, rfl, rfl⟩
      · by_cases h3 : i = 3
        · subst h3
          exact .inr ⟨4, 1, ⟨by simp, by decide⟩, rfl, rfl⟩
        · by_cases h4 : i = 4
          · subst h4
            exact .inr ⟨4, 0, ⟨by simp, by decide⟩, rfl, rfl⟩
          · exact .inl (by unfold exLv; rw [if_neg h1, if_neg h2, if_neg h3, if_neg h4])
/-- What Compile says of the example. -/
theorem ex_comp {w' : World} {e : Ending} (h : CompOK exX 4 w' e) : ∃ b V Lm sK sL, e = .returned (.tuple #[.pointer (some ⟨b.p, 0, none⟩), .int .i64 0]) ∧ TreeAt w' b (treeD (gC exX 4) [1, 2, 3, 4] 1 V Lm) 4 sK sL ∧ lvF Lm 1 = 3 := by
  rcases h with ⟨hg, _⟩ | ⟨_, L, hL, hLn, hc⟩
  · exact absurd ex_gather hg
  · obtain rfl : [1, 2, 3, 4] = L := ids_unique ex_ids hL
    rcases hc with ⟨hr, _⟩ | ⟨_, ⟨i, hi, hz⟩, _⟩ | ⟨_, _, rt, Lm, hrt, hrt0, hlv, hd⟩
    · exact absurd ex_rooted hr
    · refine absurd ?_ hz
      simp only [List.mem_cons, List.not_mem_nil, or_false] at hi
      rcases hi with rfl | rfl | rfl | rfl <;> rfl
    · have hv := fun i => LvOK.unique hlv ex_lv i
      have h1 : rt = 1 := by
        simp only [List.mem_cons, List.not_mem_nil, or_false] at hrt
        rcases hrt with rfl | rfl | rfl | rfl
        · rfl
        · rw [ex_up2] at hrt0
          cases hrt0
        · rw [ex_up3] at hrt0
          cases hrt0
        · rw [ex_up4] at hrt0
          cases hrt0
      subst h1
      have h3 : lvF Lm 1 = 3 := hv 1
      rcases hd with ⟨h8, _⟩ | ⟨_, b, V, sK, sL, he, ht⟩
      · omega
      · exact ⟨b, V, Lm, sK, sL, he, ht, h3⟩
section
variable {w w' : World}
theorem same_yes18 {A A' : Option Addr} {n c c' : Nat} {X : Nat → Int} {w : World} (h : IntCells w w.heap.size A n X) (h' : IntCells w w.heap.size A' n X) (hn : n ≤ 100000) :
    Calls Try.prog 11 #[.slice A n c, .slice A' n c'] w fun e w' => e = .returned (.bool true) ∧ Touch [] w w' := by
  have H := Lib.hid h
  have H' := Lib.hid h'
  clear h h'
  go_enter Try.func11, Try.ntmps11
  go_wp2
  go_loopw [5] (fun i wr => ∃ k : Nat, k ≤ n ∧ i = .int .i64 k ∧ Touch [] w wr) (fun i _ => n - (intOf i).toNat)
  case atStart => exact ⟨0, Nat.zero_le _, rfl, Touch.refl _ _⟩
  case round =>
    obtain ⟨k, hk, rfl, ht⟩ := hrel
    by_cases hlt : k < n
    · obtain ⟨b, off, hA, hb, hc⟩ := H.out.new ht.drew k hlt
      obtain ⟨b', off', hA', hb', hc'⟩ := H'.out.new ht.drew k hlt
      subst hA hA'
      generalize X k = y at *
      have HT := Lib.hid ht
      clear ht
      go_wp2_with fail
      go_region
      all_goals
        go_wp2
        go_roundw
        case rel => exact ⟨k + 1, by omega, by go_num, HT.out.drew⟩
        case measure => simp [intOf]; omega
    · obtain rfl : k = n := by omega
      go_wp2
      go_ret
      exact ⟨rfl, ht⟩
set_option maxRecDepth 100000 in
set_option maxHeartbeats 16000000 in
theorem lives18 (w : World) : Calls Try.prog 5 #[] w fun e w' => e = .returned (.bool true) ∧ Touch [] w w' := by
  have sf := store_flt
  have T1 := Lib.hid (((Touch.refl [] w).alloc (.cells #[.int .i64 1, .int .i64 0, .float .f64 4607182418800017408, .int .i64 0, .int .i64 1, .int .i64 1, .int .i64 0, .int .i64 0, .int .i64 0, .bool false, .bool false] 36)).alloc (.cells #[.int .i64 1, .int .i64 0, .float .f64 4607182418800017408, .int .i64 0, .int .i64 1, .int .i64 1, .int .i64 0, .int .i64 0, .int .i64 0, .bool false, .bool false, .int .i64 2, .int .i64 1, .float .f64 4607182418800017408, .int .i64 0, .int .i64 1, .int .i64 1, .int .i64 0, .int .i64 0, .int .i64 0, .bool false, .bool false, .int .i64 3, .int .i64 1, .float .f64 4607182418800017408, .int .i64 0, .int .i64 1, .int .i64 1, .int .i64 0, .int .i64 0, .int .i64 0, .bool false, .bool false, .int .i64 4, .int .i64 3, .float .f64 4607182418800017408, .int .i64 0, .int .i64 1, .int .i64 1, .int .i64 0, .int .i64 0, .int .i64 0, .bool false, .bool false] 36))
  have Y := Lib.hid (BoxV.new (w.alloc (.cells #[.int .i64 1, .int .i64 0, .float .f64 4607182418800017408, .int .i64 0, .int .i64 1, .int .i64 1, .int .i64 0, .int .i64 0, .int .i64 0, .bool false, .bool false] 36)) 36 #[.int .i64 1, .int .i64 0, .float .f64 4607182418800017408, .int .i64 0, .int .i64 1, .int .i64 1, .int .i64 0, .int .i64 0, .int .i64 0, .bool false, .bool false, .int .i64 2, .int .i64 1, .float .f64 4607182418800017408, .int .i64 0, .int .i64 1, .int .i64 1, .int .i64 0, .int .i64 0, .int .i64 0, .bool false, .bool false, .int .i64 3, .int .i64 1, .float .f64 4607182418800017408, .int .i64 0, .int .i64 1, .int .i64 1, .int .i64 0, .int .i64 0, .int .i64 0, .bool false, .bool false, .int .i64 4, .int .i64 3, .float .f64 4607182418800017408, .int .i64 0, .int .i64 1, .int .i64 1, .int .i64 0, .int .i64 0, .int .i64 0, .bool false, .bool false])
  have es : (w.alloc (.cells #[.int .i64 1, .int .i64 0, .float .f64 4607182418800017408, .int .i64 0, .int .i64 1, .int .i64 1, .int .i64 0, .int .i64 0, .int .i64 0, .bool false, .bool false] 36)).heap.size = w.heap.size + 1 := by simp
  rw [es] at Y
  clear es
  go_enter Try.func5, Try.ntmps5
  go_wp2_with fail
  refine wp_loop_rounds 5 ?_
  rw [rounds_succ]
  go_wp2_with fail
  rw [rounds_succ]
  go_wp2_with fail
  rw [rounds_succ]
  go_wp2_with fail
  rw [rounds_succ]
  go_wp2_with fail
  rw [rounds_succ]
  go_upto_region 10 with fail
  generalize (w.alloc (.cells #[.int .i64 1, .int .i64 0, .float .f64 4607182418800017408, .int .i64 0, .int .i64 1, .int .i64 1, .int .i64 0, .int .i64 0, .int .i64 0, .bool false, .bool false] 36)).alloc (.cells #[.int .i64 1, .int .i64 0, .float .f64 4607182418800017408, .int .i64 0, .int .i64 1, .int .i64 1, .int .i64 0, .int .i64 0, .int .i64 0, .bool false, .bool false, .int .i64 2, .int .i64 1, .float .f64 4607182418800017408, .int .i64 0, .int .i64 1, .int .i64 1, .int .i64 0, .int .i64 0, .int .i64 0, .bool false, .bool false, .int .i64 3, .int .i64 1, .float .f64 4607182418800017408, .int .i64 0, .int .i64 1, .int .i64 1, .int .i64 0, .int .i64 0, .int .i64 0, .bool false, .bool false, .int .i64 4, .int .i64 3, .float .f64 4607182418800017408, .int .i64 0, .int .i64 1, .int .i64 1, .int .i64 0, .int .i64 0, .int .i64 0, .bool false, .bool false] 36) = w1 at *
  have hX : ClsCells w1 (some ⟨w.heap.size + 1, 0, none⟩) 4 exX := fun i hi => by
    refine ⟨w.heap.size + 1, 0, rfl, Y.out.lt, Y.out.rangeW (0 + i * 11) _ (fun j v hv => ?_)⟩
    have hj : j < 11 := by
      have := (List.getElem?_eq_some_iff.1 hv).1
      simpa [Cl.cells] using this
    rcases (show i = 0 ∨ i = 1 ∨ i = 2 ∨ i = 3 by omega) with rfl | rfl | rfl | rfl <;>
      rcases (show j = 0 ∨ j = 1 ∨ j = 2 ∨ j = 3 ∨ j = 4 ∨ j = 5 ∨ j = 6 ∨ j = 7 ∨ j = 8 ∨ j = 9 ∨ j = 10 by omega) with rfl | rfl | rfl | rfl | rfl | rfl | rfl | rfl | rfl | rfl | rfl <;> exact hv
  have CO := Lib.hid (compile_any (c := 4) hX (fun i hi => by
    rcases (show i = 0 ∨ i = 1 ∨ i = 2 ∨ i = 3 by omega) with rfl | rfl | rfl | rfl <;> exact ⟨by unfold In64 exX tv; simp, by unfold In64 exX tv; simp, by unfold exX tv; simp⟩))
  clear hX Y sf
  go_wp2_with fail
  refine (CO.out).mono ?_
  rintro e w2 ⟨hc, t2⟩
  obtain ⟨b, V, Lm, sK, sL, rfl, ht, hl3⟩ := ex_comp hc
  have H2 := Lib.hid ht
  have T2 := Lib.hid (T1.out.trans t2 (by simp))
  have HL3 := Lib.hid hl3
  have LE := Lib.hid (tree_leaves ht (by omega) ex_ids)
  have el : List.filter (leafB (treeD (gC exX 4) [1, 2, 3, 4] 1 V Lm)) [1, 2, 3, 4] = [2, 4] := rfl
  rw [el] at LE
  simp only [List.length_cons, List.length_nil] at LE
  clear hc ht hl3 t2 CO T1 el
  go_wp2_with fail
  refine (LE.out).mono ?_
  rintro e w3 ⟨A3, c3, rfl, r3, t3⟩
  have H3 := Lib.hid (H2.out.new t3)
  have T3 := Lib.hid (T2.out.trans t3 (by simp))
  have R3 := Lib.hid (row_ints (L := [2, 4]) r3)
  have Q := Lib.hid (show IntCells (w3.alloc (.cells #[.int .i64 2, .int .i64 4] 3)) (w3.alloc (.cells #[.int .i64 2, .int .i64 4] 3)).heap.size (some ⟨w3.heap.size, 0, none⟩) 2 (fun i => ([2, 4] : List Int).getD i 0) from fun i hi => by
    have hb := BoxV.new w3 3 #[.int .i64 2, .int .i64 4]
    rcases (show i = 0 ∨ i = 1 by omega) with rfl | rfl
    · exact ⟨w3.heap.size, 0, rfl, hb.lt, hb.cell 0⟩
    · exact ⟨w3.heap.size, 0, rfl, hb.lt, hb.cell 1⟩)
  have SA := Lib.hid (same_yes18 (c := c3) (c' := 2) (R3.out.new ((Touch.refl [] w3).alloc (.cells #[.int .i64 2, .int .i64 4] 3))) Q.out (by simp))
  have T4 := Lib.hid (T3.out.alloc (.cells #[.int .i64 2, .int .i64 4] 3))
  have H4 := Lib.hid (H3.out.new ((Touch.refl [] w3).alloc (.cells #[.int .i64 2, .int .i64 4] 3)))
  simp only [List.length_cons, List.length_nil] at SA
  clear r3 t3 LE H2 T2 R3 Q H3
  go_wp2_with fail
  refine (SA.out).mono ?_
  rintro e w5 ⟨rfl, t5⟩
  have H5 := Lib.hid (H4.out.new t5)
  have T5 := Lib.hid (T4.out.trans t5 (by simp))
  have LV := Lib.hid (show Calls Try.prog 22 #[.pointer (some ⟨b.p, 0, none⟩), .int .i64 1] w5 fun e w' => e = .returned (.int .i64 3) ∧ w' = w5 from by
    have := tree_level H5.out 1 (i64k_of (by omega))
    rwa [show ((treeD (gC exX 4) [1, 2, 3, 4] 1 V Lm).Lm 1).getD 0 = 3 from HL3.out] at this)
  have RT := Lib.hid (show Calls Try.prog 9 #[.pointer (some ⟨b.p, 0, none⟩)] w5 fun e w' => e = .returned (.int .i64 1) ∧ w' = w5 from tree_root H5.out)
  clear t5 SA H4 T4
  go_wp2_with fail
  refine (LV.out).mono ?_
  rintro e w6 ⟨rfl, hw⟩
  rw [hw]
  clear hw w6
  go_wp2_with fail
  refine (RT.out).mono ?_
  rintro e w6 ⟨rfl, hw⟩
  rw [hw]
  clear hw w6
  go_wp2_with fail
  go_ret
  exact ⟨rfl, T5.out⟩
end
end Go.Proofs.Ytcfogoepoghedaa
