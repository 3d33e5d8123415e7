/-
  WrrServes: for all quanta, sizes and able sets the law that a member that is able at each turn is told within its bound returns true. No conditions.
-/
import Derived.Test.YtcggpgjnjfjfnaaWrr7
import Derived.IntWalk
namespace Go.Proofs.Ytcggpgjnjfjfnaa
open Go.ChangeShapes Go.WideShapes Go.ChangeAt Go.RowKit Go.Deep Go.Joins Go.Maps
set_option linter.unusedVariables false
set_option linter.unusedSimpArgs false

/-- The rings and accounts at a turn: leaf 0 has been waiting for z turns. -/
def Serving (wd : World) (q c cb : Nat) (R : Tri) (n : Nat) (Q : Int) (z : Int) (wr : World) : Prop :=
  ∃ (C : Acc) (a : Nat) (c0 : Int), WAt wr q c cb (2 * n) R (LW n (rotL a (lS n))) C ∧ Touch [] wd wr ∧ C 0 = some (c0, Q) ∧ (∀ j : Nat, j < n → (C j).isSome = true ∧ (C (100 + (j : Int))).isSome = true) ∧ 0 ≤ z ∧ z + waits n a (visitsV c0 Q) ≤ ((n : Int) - 1) * ((2047 + Q) / Q)
abbrev bitV (x : Int) (r : Nat) : Int := bits BinOp.and IntKind.u16 (x / 2 ^ r) 1
def Able (b : Nat → Int) (j m : Nat) (Y : Nat → Int) : Prop := Y 0 = 0 ∧ ∀ i, i < m → Y i = 0 ∨ ∃ r : Nat, 1 ≤ r ∧ r < j ∧ b r = 1 ∧ (Y i = (r : Int) ∨ Y i = 100 + (r : Int))
theorem Able.next {b : Nat → Int} {j m : Nat} {Y : Nat → Int} (h : Able b j m Y) (hm : 1 ≤ m) (hj : 1 ≤ j) (hb : b j = 1) : Able b (j + 1) (m + 2) (upd (upd Y m (j : Int)) (m + 1) (100 + (j : Int))) := by
  refine ⟨?_, fun i hi => ?_⟩
  · rw [upd_other _ _ (by omega), upd_other _ _ (by omega)]; exact h.1
  · by_cases e1 : i = m + 1
    · subst e1
      rw [upd_same]
      exact .inr ⟨j, hj, by omega, hb, .inr rfl⟩
    · rw [upd_other _ _ e1]
      by_cases e2 : i = m
      · subst e2
        rw [upd_same]
        exact .inr ⟨j, hj, by omega, hb, .inl rfl⟩
      · rw [upd_other _ _ e2]
        rcases h.2 i (by omega) with h0 | ⟨r, r1, r2, r3⟩
        · exact .inl h0
        · exact .inr ⟨r, r1, by omega, r3⟩
theorem Able.skip {b : Nat → Int} {j m : Nat} {Y : Nat → Int} (h : Able b j m Y) : Able b (j + 1) m Y := by
  refine ⟨h.1, fun i hi => ?_⟩
  rcases h.2 i hi with h0 | ⟨r, r1, r2, r3⟩
  · exact .inl h0
  · exact .inr ⟨r, r1, by omega, r3⟩
/-- The able ones up to leaf j, in a row of the call's own. -/
def Asked (x : Int) (w0 : World) (j : Nat) (v : Value) (wx : World) : Prop :=
  ∃ (m : Nat) (Y : Nat → Int), 1 ≤ m ∧ m ≤ 2 * j ∧ wx.ownsRow w0.heap.size 3 1 v m (iv Y m) ∧ Touch [] w0 wx ∧ Able (bitV x) j m Y
/-- What Pick tells at a turn. -/
def Served (b : Nat → Int) (n a : Nat) (Q v0 : Int) (q c cb s : Nat) (R : Tri) (w : World) (e : Ending) (w' : World) : Prop :=
  ∃ (a1 : Nat) (C : Acc) (c1 : Int), e = .returned (.tuple #[.int .i64 ((a1 % n : Nat) : Int), .bool true]) ∧ (a1 % n = 0 ∨ b (a1 % n) = 1) ∧ WAt w' q c cb s R (LW n (rotL (a1 + 1) (lS n))) C ∧ Touch (zone q c cb R) w w' ∧
    (∀ j : Nat, j < n → (C j).isSome = true ∧ (C (100 + (j : Int))).isSome = true) ∧ C 0 = some (c1, Q) ∧ (a1 % n ≠ 0 → waits n (a1 + 1) (visitsV c1 Q) + 1 ≤ waits n a v0) ∧ (a1 % n = 0 → 0 < c1 ∧ c1 ≤ Q)
theorem pick_serves {b : Nat → Int} {n a m cap q c cb s : Nat} {R : Tri} {C : Acc} {Q c0 : Int} {w : World} {A : Option Addr} {Y : Nat → Int} (h : WAt w q c cb s R (LW n (rotL a (lS n))) C) (hn : 0 < n ∧ n ≤ 12) (hm : 1 ≤ m ∧ m ≤ 24) (hY : Able b n m Y)
    (hX : IntCells w w.heap.size A m Y) (hs : s < 1000) (hC0 : C 0 = some (c0, Q)) (hC1 : ∀ j : Nat, j < n → (C j).isSome = true ∧ (C (100 + (j : Int))).isSome = true) :
    Calls Try.prog 16 #[.pointer (some ⟨q, 0, none⟩), .slice A m cap] w (Served b n a Q (visitsV c0 Q) q c cb s R w) := by
  have hok := h.cred.ok
  have hl : (rotL a (lS n)).length = n := by rw [rotL_length, lS_length]
  refine (pickW h hX (by unfold maxLen; omega) (fun i hi => by
    unfold fit64
    rcases hY.2 i hi with h0 | ⟨r, r1, r2, _, h0 | h0⟩ <;> rw [h0] <;> omega) (LW_len (by omega) (by omega)) hs (fun k hk i hi => by
    unfold LW at hi
    split at hi
    · rw [rotL_mem, lS_mem] at hi
      have := (hC1 i.toNat (by omega)).1
      rwa [show ((i.toNat : Nat) : Int) = i by omega] at this
    · split at hi
      · rw [l3_mem] at hi
        have := (hC1 (i - 100).toNat (by omega)).2
        rwa [show 100 + (((i - 100).toNat : Nat) : Int) = i by omega] at this
      · simp at hi)).mono ?_
  intro e w' hp
  have hab0 : ableB Y m 0 = true := by
    unfold ableB
    rw [List.any_eq_true]
    exact ⟨0, List.mem_range.2 (by omega), by rw [hY.1]; rfl⟩
  have hany : anyIn (ableB Y m) (LW n (rotL a (lS n)) 0) = true := by
    unfold anyIn
    rw [List.any_eq_true]
    exact ⟨0, by rw [LW_zero, rotL_mem, lS_mem]; omega, hab0⟩
  rcases hp with ⟨hno, _⟩ | ⟨k, i, hk, g1, g2, g3, g4, g5⟩
  · rw [hno 0 (by omega)] at hany; exact Bool.noConfusion hany
  · have hk0 : k = 0 := by
      rcases Nat.eq_zero_or_pos k with h0 | h0
      · exact h0
      · rw [g2 0 h0] at hany; exact Bool.noConfusion hany
    subst hk0
    rw [LW_zero] at g3 g4
    unfold PickOne at g5
    rw [LW_zero, LW_upd0, hdx_rot n a i hn.1, ← rotL_add] at g5
    rw [show i + 1 + a = a + i + 1 by omega] at g5
    obtain ⟨e1, e2, e3⟩ := g5
    have hin : (a + i) % n < n := Nat.mod_lt _ hn.1
    have hdom : ∀ j : Nat, j < n → (crs (ableB Y m) (rotL a (lS n)) C (i + 1) j).isSome = true ∧ (crs (ableB Y m) (rotL a (lS n)) C (i + 1) (100 + (j : Int))).isSome = true := fun j hj => by
      rw [crs_dom, crs_dom]; exact hC1 j hj
    have hbit : (a + i) % n = 0 ∨ b ((a + i) % n) = 1 := by
      have ha := g3.1
      rw [hdx_rot n a i hn.1] at ha
      unfold ableB at ha
      rw [List.any_eq_true] at ha
      obtain ⟨j, hj, hj2⟩ := ha
      have hj := List.mem_range.1 hj
      simp only [beq_iff_eq] at hj2
      rcases hY.2 j hj with h0 | ⟨r, r1, r2, r3, h0 | h0⟩
      · left; omega
      · right
        rw [show (a + i) % n = r by omega]
        exact r3
      · omega
    by_cases hz : (a + i) % n = 0
    · obtain ⟨c1, h1, h2, h3⟩ := told_zero hn.1 hok hC0 hab0 g3 g4 hz
      exact ⟨a + i, _, c1, e1, hbit, e2, e3, hdom, h1, fun h => absurd hz h, fun _ => ⟨h2, h3⟩⟩
    · obtain ⟨c1, h1, h2⟩ := told_other hn.1 hok hC0 hab0 g4 hz
      exact ⟨a + i, _, c1, e1, hbit, e2, e3, hdom, h1, fun _ => h2, fun h => absurd h hz⟩
/-- The rings and accounts behind k joins. -/
def Joined (wd : World) (q c cb : Nat) (R : Tri) (k : Nat) (Q : Nat → Int) (wr : World) : Prop :=
  ∃ C : Acc, WAt wr q c cb (2 * k) R (LW k (lS k)) C ∧ Touch [] wd wr ∧ (∀ i : Int, C i ≠ none → (0 ≤ i ∧ i < k) ∨ (100 ≤ i ∧ i < 100 + k)) ∧ (∀ j : Nat, j < k → C j = some (0, 100 + Q j % 3000) ∧ C (100 + (j : Int)) = some (0, 100))

set_option maxHeartbeats 4000000 in
set_option maxRecDepth 100000 in
theorem wrrServes_walk (A A2 A3 : Option Addr) (n n2 n3 cap cap2 cap3 : Nat) (X X2 X3 : Nat → Int) (wd : World) (hc : n ≤ 9223372036854775807) (hc2 : n2 ≤ 9223372036854775807) (hc3 : n3 ≤ 9223372036854775807)
    (hX : NumCells .u16 wd wd.heap.size A n X) (hF : ∀ i, i < n → (Lit.int .u16 (X i)).wf = true)
    (hX2 : NumCells .u16 wd wd.heap.size A2 n2 X2) (hF2 : ∀ i, i < n2 → (Lit.int .u16 (X2 i)).wf = true)
    (hX3 : NumCells .u16 wd wd.heap.size A3 n3 X3) (hF3 : ∀ i, i < n3 → (Lit.int .u16 (X3 i)).wf = true) :
    Calls Try.prog 4 #[.slice A n cap, .slice A2 n2 cap2, .slice A3 n3 cap3] wd fun e w' => e = .returned (.bool true) ∧ Below wd.heap.size wd w' := by
  have HX := Lib.hid hX
  have HF := Lib.hid hF
  have HX2 := Lib.hid hX2
  have HF2 := Lib.hid hF2
  have HX3 := Lib.hid hX3
  have HF3 := Lib.hid hF3
  clear hX hF hX2 hF2 hX3 hF3
  by_cases hbad : 12 < n ∨ 200 < n2 ∨ 200 < n3 ∨ n = 0 ∨ n2 = 0
  · rcases (show (12 < n) ∨ (¬ 12 < n ∧ 200 < n2) ∨ (¬ 12 < n ∧ ¬ 200 < n2 ∧ 200 < n3) ∨ (¬ 12 < n ∧ ¬ 200 < n2 ∧ ¬ 200 < n3 ∧ n = 0) ∨ (¬ 12 < n ∧ ¬ 200 < n2 ∧ ¬ 200 < n3 ∧ n ≠ 0 ∧ n2 = 0) by omega) with h | ⟨h, h2⟩ | ⟨h, h2, h3⟩ | ⟨h, h2, h3, h4⟩ | ⟨h, h2, h3, h4, h5⟩
    all_goals try subst h4
    all_goals try subst h5
    all_goals clear hbad
    all_goals go_enter Try.func4, Try.ntmps4
    all_goals go_wp2_with fail
    all_goals refine (wrrLives_any _).mono ?_
    all_goals rintro e w8 ⟨rfl, hb⟩
    all_goals go_wp2_with fail
    all_goals go_ret
    all_goals exact ⟨rfl, hb⟩
  · have g1 : ¬ 12 < n := by omega
    have g2 : ¬ 200 < n2 := by omega
    have g3 : ¬ 200 < n3 := by omega
    have g4 : ¬ n = 0 := by omega
    have g5 : ¬ n2 = 0 := by omega
    clear hbad
    have b1 : decide (12 < (n : Int)) = false := by simp; omega
    have b2 : decide (200 < (n2 : Int)) = false := by simp; omega
    have b3 : decide (200 < (n3 : Int)) = false := by simp; omega
    have b4 : ((n : Int) == 0) = false := by simp; omega
    have b5 : ((n2 : Int) == 0) = false := by simp; omega
    go_enter Try.func4, Try.ntmps4
    go_wp2_with fail
    refine (newW wd).mono ?_
    rintro e w1 ⟨q, c, cb, R, rfl, a1, hz, t1⟩
    have HZ := Lib.hid hz
    have J0 := Lib.hid (show Joined wd q c cb R 0 X w1 from ⟨_, by rw [LW_none]; exact a1, t1, fun i h => absurd rfl h, fun j hj => absurd hj (Nat.not_lt_zero _)⟩)
    clear a1 hz t1
    unfold pt
    go_wp2_with fail
    go_loopw [46] (fun i wr => ∃ k : Nat, k ≤ n ∧ i = .int .i64 k ∧ Joined wd q c cb R k X wr) (fun i _ => n - (intOf i).toNat)
    case atStart => exact ⟨0, Nat.zero_le _, rfl, J0.out⟩
    case round =>
      clear J0
      obtain ⟨k, hk, rfl, C, hW, ht, hC1, hC2⟩ := hrel
      by_cases hlt : k < n
      · obtain ⟨bl, off, hA, hbB, hcell⟩ := HX.out k hlt
        have hx := u16_in (HF.out k hlt)
        have hcell := (ht.cell (a := ⟨bl, off + k, none⟩) hbB (by simp)).trans hcell
        subst hA
        have HXK := Lib.hid (show X k = X k from rfl)
        generalize hXk : X k = x at *
        have hid1 : i64k (k : Int) := i64k_of (by omega)
        have J1 := Lib.hid (joinW_yes hW (k : Int) (100 + x % 3000) hid1 0 (by omega) (by rw [LW_zero, lS_length]; omega) (Classical.byContradiction fun h => by have := hC1 _ h; omega) (by omega) (by omega) (by rw [LW_zero, lS_mem]; omega))
        have HC := Lib.hid hC1
        have HD := Lib.hid hC2
        have HT := Lib.hid ht
        clear hid1 hW ht hC1 hC2
        go_wp2_with fail
        refine (J1.out).mono ?_
        rintro e w2 ⟨rfl, a2, t2⟩
        rw [LW_zero, LW_upd0, ← lS_succ] at a2
        have hid2 : i64k (100 + (k : Int)) := i64k_of (by omega)
        have hnone2 : updC C (k : Int) (some (0, 100 + x % 3000)) (100 + (k : Int)) = none := by
          rw [updC_other _ _ (by omega)]
          exact Classical.byContradiction fun h => by have := HC.out _ h; omega
        have J2 := Lib.hid (joinW_yes a2 (100 + (k : Int)) 100 hid2 3 (by omega) (by rw [LW_three, l3_length]; omega) hnone2 (by omega) (by omega) (by rw [LW_three, l3_mem]; omega))
        have HZ1 := Lib.hid (show ∀ b ∈ cb :: tri R 0, b ∈ ([] : List Nat) ∨ wd.heap.size ≤ b from fun b hb => .inr (HZ.out b (zone_of (by omega) b hb)))
        have HZ2 := Lib.hid (show ∀ b ∈ cb :: tri R 3, b ∈ ([] : List Nat) ∨ wd.heap.size ≤ b from fun b hb => .inr (HZ.out b (zone_of (by omega) b hb)))
        have T2 := Lib.hid (HT.out.trans t2 HZ1.out)
        clear a2 t2 hid2 hnone2 J1 HT
        go_wp2_with fail
        refine (J2.out).mono ?_
        rintro e w3 ⟨rfl, a3, t3⟩
        rw [LW_three, ← l3_succ, LW_upd3] at a3
        have A3' := Lib.hid a3
        have T3 := Lib.hid (T2.out.trans t3 HZ2.out)
        clear a3 t3 J2 T2
        go_wp2_with fail
        go_roundw
        case rel =>
          refine ⟨k + 1, by omega, by go_num, _, A3'.out, T3.out, fun i hi => ?_, fun j hj => ?_⟩
          · by_cases e1 : i = 100 + (k : Int)
            · right; omega
            · rw [updC_other _ _ e1] at hi
              by_cases e2 : i = (k : Int)
              · left; omega
              · rw [updC_other _ _ e2] at hi
                have := HC.out i hi
                omega
          · by_cases e : j = k
            · subst e
              refine ⟨?_, updC_same _ _ _⟩
              rw [updC_other _ _ (by omega), updC_same, hXk]
            · have hd := HD.out j (by omega)
              rw [updC_other _ _ (by omega), updC_other _ _ (by omega), updC_other _ _ (by omega), updC_other _ _ (by omega)]
              exact hd
        case measure => simp [intOf]; omega
      · obtain rfl : n = k := by omega
        have HA0 := Lib.hid (HX.out 0 (by omega))
        have hx0 := u16_in (HF.out 0 (by omega))
        obtain ⟨Q, hQ⟩ : ∃ Q, Q = 100 + X 0 % 3000 := ⟨_, rfl⟩
        have hq1 : 100 ≤ Q ∧ Q ≤ 3099 := by omega
        have S0 := Lib.hid (show Serving wd q c cb R n Q 0 wr from ⟨C, 0, 0, hW, ht, by rw [hQ]; exact (hC2 0 (by omega)).1, fun j hj => by rw [(hC2 j hj).1, (hC2 j hj).2]; exact ⟨rfl, rfl⟩, Int.le_refl _, by
          have hv : visitsV 0 Q = 1 := by unfold visitsV; simp
          have h0 := Int.mul_nonneg (show 0 ≤ (n : Int) - 1 by omega) (Int.ediv_nonneg (show 0 ≤ 2047 + Q by omega) (show 0 ≤ Q by omega))
          rw [hv]
          unfold waits ahead0
          simpa using h0⟩)
        have HQ := Lib.hid hQ
        clear hW ht hC1 hC2 hlt hk hQ
        go_wp2_with fail
        go_loopw [10, 69] (fun s i wr => ∃ (k : Nat) (z : Int), k ≤ n3 ∧ s = .int .i64 z ∧ i = .int .i64 k ∧ Serving wd q c cb R n Q z wr) (fun _ i _ => n3 - (intOf i).toNat)
        case atStart => exact ⟨0, 0, Nat.zero_le _, rfl, rfl, S0.out⟩
        case round =>
          clear S0
          obtain ⟨k, z, hk, rfl, rfl, C1, a, c0, hW, ht, hC0, hC1, hz, hwt⟩ := hrel
          by_cases hlt : k < n3
          · obtain ⟨bl, off, hA, hbB, hcell⟩ := HX3.out k hlt
            have hx := u16_in (HF3.out k hlt)
            have hcell := (ht.cell (a := ⟨bl, off + k, none⟩) hbB (by simp)).trans hcell
            subst hA
            generalize X3 k = x at *
            generalize wr = w0 at *
            have HT := Lib.hid ht
            have HWn := Lib.hid hW
            have HC0 := Lib.hid hC0
            have HC1 := Lib.hid hC1
            have HW2 := Lib.hid hwt
            clear ht hW hC0 hC1 hwt
            go_wp2_with fail
            obtain ⟨i0, hi0, hz0, hz1, hz2⟩ := info_parts rg_int_info
            have O0 := Lib.hid (World.ownsRow_lit (base := w0.heap.size) (e := 3) (size := 1) w0 #[.int .i64 0] 1 (Nat.le_refl _) (by unfold maxLen; omega) rfl)
            go_loopw [13, 14] (fun v i wx => ∃ (j : Nat), 1 ≤ j ∧ j ≤ n ∧ i = .int .i64 j ∧ Asked x w0 j v wx) (fun _ i _ => n - (intOf i).toNat)
            case atStart => exact ⟨1, Nat.le_refl _, by omega, rfl, 1, fun _ => 0, Nat.le_refl _, by omega, O0.out, (Touch.refl [] w0).alloc _, rfl, fun j _ => .inl rfl⟩
            case round =>
              clear O0
              obtain ⟨j, hj1, hj, rfl, m, Y, hm1, hm, hown, htx, hY⟩ := hrel
              by_cases hlt : j < n
              · by_cases hb : bits BinOp.and IntKind.u16 (x / 2 ^ j) 1 = 1
                · have hb' : (bits BinOp.and IntKind.u16 (x / 2 ^ j) 1 == 1) = true := by rw [hb]; rfl
                  have HA := Lib.hid (hY.next hm1 hj1 hb)
                  have hsz := htx.size
                  go_upto_region 17 with (at_builtin; refine wpList_append_own _ rfl (.tmp 86) (.tmp 90) 31 rfl w0.heap.size 3 i0 (.int .i64 0) 1 8 Try.underlying31 hi0 hz0 hz1 hz2 rfl (by decide) u13 m (iv Y m) rfl (hown.alloc _) ⟨wr.heap.size, 0, none⟩ 2 2 [.int .i64 (j : Int), .int .i64 (100 + (j : Int))] rfl rfl (World.news_of_block (cs := #[.int .i64 (j : Int), .int .i64 (100 + (j : Int))]) (t := 3) (fr := (0, 0)) (heap_alloc_new _ _)) (by intro u hu; simp at hu; rcases hu with rfl | rfl <;> rfl) (by unfold maxLen; omega) (by omega) (by simp; omega) ?_; intro v' w2 hown' hgrow hnil)
                  have hb2 : Touch [] w0 w2 := (htx.alloc _).grown hgrow (fun g hg => .inr (hown.lt g hg).1)
                  rw [show iv Y m ++ [Value.int .i64 (j : Int), Value.int .i64 (100 + (j : Int))] = iv (upd (upd Y m (j : Int)) (m + 1) (100 + (j : Int))) (m + 2) by rw [← iv_succ, ← iv_succ, List.append_assoc]; rfl] at hown'
                  have HO := Lib.hid hown'
                  have HT2 := Lib.hid hb2
                  clear hown' hgrow hnil hown htx hY hb2
                  go_wp2_with fail
                  go_roundw
                  case rel => exact ⟨j + 1, by omega, by omega, by go_num, m + 2, _, by omega, by omega, HO.out, HT2.out, HA.out⟩
                  case measure => simp [intOf]; omega
                · have hb' : (bits BinOp.and IntKind.u16 (x / 2 ^ j) 1 == 1) = false := by simpa using hb
                  have HA := Lib.hid hY.skip
                  have HO := Lib.hid hown
                  have HTX := Lib.hid htx
                  clear hY hown htx
                  go_wp2_with fail
                  go_roundw
                  case rel => exact ⟨j + 1, by omega, by omega, by go_num, m, Y, hm1, by omega, HO.out, HTX.out, HA.out⟩
                  case measure => simp [intOf]; omega
              · obtain rfl : n = j := by omega
                obtain ⟨A', cap', rfl, hcap, hmax, hcells⟩ := own_cells hown
                have P1 := Lib.hid (pick_serves (b := bitV x) (cap := cap') (HWn.out.new htx) ⟨by omega, by omega⟩ ⟨hm1, by omega⟩ hY hcells (by omega) HC0.out HC1.out)
                have HTX := Lib.hid htx
                clear hown htx hcells hcap hmax hY
                go_wp2_with fail
                refine (P1.out).mono ?_
                rintro e w3 ⟨a1, C2, v1, rfl, hbit, a3, t3, hdom, h0, hne, hz0⟩
                have T3 := Lib.hid (((HT.out.trans HTX.out (by simp)).trans t3 (fun b hb => .inr (HZ.out b hb))))
                have A3W := Lib.hid a3
                have HD := Lib.hid hdom
                clear a3 t3 hdom P1 HTX
                generalize hr : a1 % n = r at *
                have hrn : r < n := by rw [← hr]; exact Nat.mod_lt _ (by omega)
                have hV := visits21 (q := Q) (by omega)
                have hV1 : 1 ≤ (2047 + Q) / Q := by rw [Int.le_ediv_iff_mul_le (by omega)]; omega
                have hok0 := HWn.out.cred.ok 0 _ HC0.out
                have hwp := waits_pos (n := n) (x := a) (v := visitsV c0 Q) (by omega) (visit_step (c := c0) (q := Q) (m := visitsV c0 Q) ⟨hok0.1, hok0.2.1⟩ ⟨hok0.2.2.1, hok0.2.2.2⟩ rfl).1
                have hcap : ((n : Int) - 1) * ((2047 + Q) / Q) ≤ ((n : Int) - 1) * 21 := Int.mul_le_mul_of_nonneg_left hV (by omega)
                have hz1 : z + 1 ≤ ((n : Int) - 1) * ((2047 + Q) / Q) + 1 := by have := HW2.out; omega
                have hz2 : z + 1 ≤ ((n : Int) - 1) * 21 + 1 := by omega
                have hp0 : 0 ≤ ((n : Int) - 1) * ((2047 + Q) / Q) := Int.mul_nonneg (by omega) (by omega)
                have hz231 : z ≤ 231 := by omega
                have d1 : decide (100 ≤ (r : Int)) = false := by simp; omega
                rcases Nat.eq_zero_or_pos r with hr0 | hr0
                · subst hr0
                  rw [show ((0 : Nat) : Int) = 0 from rfl]
                  obtain ⟨bq, oq, hAq, hbq, hcq⟩ := HA0.out
                  have hcq := (T3.out.cell (a := ⟨bq, oq + 0, none⟩) hbq (by simp)).trans hcq
                  rw [Nat.add_zero] at hcq
                  subst hAq
                  have HQ2 := Lib.hid HQ.out
                  generalize X 0 = x0 at *
                  have w1 : IntKind.i64.wrap (2048 + Q) = 2048 + Q := IntWalk.i64_in _ (by omega)
                  have w2 : IntKind.i64.wrap (2048 + Q - 1) = 2048 + Q - 1 := IntWalk.i64_in _ (by omega)
                  have q1 : (Q == 0) = false := by simp; omega
                  have q2 : (Q == -1) = false := by simp; omega
                  have q3 : Q ≠ 0 := by omega
                  go_upto_region 26 with fail
                  rw [← HQ2.out]
                  have hpr : ((n : Int) - 1) * ((2048 + Q - 1) / Q) = ((n : Int) - 1) * ((2047 + Q) / Q) := by rw [show 2048 + Q - 1 = 2047 + Q by omega]
                  have w5 : wrap64 (((n : Int) - 1) * ((2048 + Q - 1) / Q)) = ((n : Int) - 1) * ((2048 + Q - 1) / Q) := IntWalk.wrap64_in _ (by omega)
                  have w6 : wrap64 (((n : Int) - 1) * ((2048 + Q - 1) / Q) + 1) = ((n : Int) - 1) * ((2048 + Q - 1) / Q) + 1 := IntWalk.wrap64_in _ (by omega)
                  have e1 : decide (((n : Int) - 1) * ((2048 + Q - 1) / Q) + 1 < z + 1) = false := by rw [show 2048 + Q - 1 = 2047 + Q by omega]; simpa using hz1
                  have e2 : decide (((n : Int) - 1) * 21 + 1 < z + 1) = false := by simpa using hz2
                  go_upto_region 30 with fail
                  clear w1 w2 w5 w6 e1 e2 q1 q2 q3 hpr hcq hcell
                  have hk2 : k % n2 < n2 := Nat.mod_lt _ (by omega)
                  obtain ⟨b2, o2, hA2, hb2, hc2⟩ := HX2.out (k % n2) hk2
                  have hx2 := u16_in (HF2.out (k % n2) hk2)
                  have hc2 := (T3.out.cell (a := ⟨b2, o2 + k % n2, none⟩) hb2 (by simp)).trans hc2
                  subst hA2
                  generalize X2 (k % n2) = y at *
                  have m1 : ((k : Int) % (n2 : Int)).toNat = k % n2 := by rw [← Int.natCast_emod]; rfl
                  have m2 : (k : Int) % (n2 : Int) < (n2 : Int) := by rw [← Int.natCast_emod]; omega
                  have m3 : 0 ≤ (k : Int) % (n2 : Int) := by rw [← Int.natCast_emod]; omega
                  clear m1
                  have CR := Lib.hid (creditsW A3W.out)
                  have S1 := Lib.hid (sentW_of (.pointer (some ⟨q, 0, none⟩)) (.pointer (some ⟨c, 0, none⟩)) 0 (1 + y % 2048) CR (P := fun w' => WAt w' q c cb (2 * n) R (LW n (rotL (a1 + 1) (lS n))) (updC C2 0 (some (clampC Q (satSub v1 (size2048 (1 + y % 2048))), Q))) ∧ Touch (zone q c cb R) w3 w') (Lib.hid ((spend_yes A3W.out.cred 0 (1 + y % 2048) (by exact rfl) (v1, Q) h0 (by omega)).mono fun e w' h => ⟨h.1, A3W.out.credNow h.2.1 h.2.2, h.2.2.mono fun b hb => by simp at hb; subst hb; exact .inl (mem_zone.2 (.inr (.inr (.inl rfl))))⟩)))
                  go_wp2_with fail
                  refine (S1.out).mono ?_
                  rintro e w4 ⟨rfl, a4, t4⟩
                  have A4 := Lib.hid a4
                  have T4 := Lib.hid (T3.out.trans t4 (fun b hb => .inr (HZ.out b hb)))
                  clear a4 t4 S1
                  go_wp2_with fail
                  go_roundw
                  case measure => simp [intOf]; omega
                  case rel =>
                    have hzz := hz0 trivial
                    refine ⟨k + 1, 0, by omega, rfl, by go_num, _, a1 + 1, _, A4.out, T4.out, updC_same _ _ _, fun j hj => ?_, Int.le_refl _, ?_⟩
                    · have hd := HD.out j hj
                      by_cases ej : (j : Int) = 0
                      · rw [ej, updC_same, updC_other _ _ (by omega)]; exact ⟨rfl, by rw [ej] at hd; exact hd.2⟩
                      · rw [updC_other _ _ ej, updC_other _ _ (by omega)]; exact hd
                    · have := waits_most (n := n) (x := a1) (c := v1) (q := Q) (d := 1 + y % 2048) (by omega) (by omega) hzz (by omega) hr
                      omega
                · have d2 : decide (0 < (r : Int)) = true := by simp; omega
                  have hb1 : bits BinOp.and IntKind.u16 (x / 2 ^ r) 1 = 1 := by rcases hbit with h | h; (· omega); exact h
                  have d3 : (bits BinOp.and IntKind.u16 (x / 2 ^ r) 1 == 0) = false := by rw [hb1]; rfl
                  have d4 : ((r : Int) == 0) = false := by simp; omega
                  have d5 : (0 ≤ (r : Int)) := by omega
                  obtain ⟨bq, oq, hAq, hbq, hcq⟩ := HA0.out
                  have hcq := (T3.out.cell (a := ⟨bq, oq + 0, none⟩) hbq (by simp)).trans hcq
                  rw [Nat.add_zero] at hcq
                  subst hAq
                  have HQ2 := Lib.hid HQ.out
                  generalize X 0 = x0 at *
                  have w1 : IntKind.i64.wrap (2048 + Q) = 2048 + Q := IntWalk.i64_in _ (by omega)
                  have w2 : IntKind.i64.wrap (2048 + Q - 1) = 2048 + Q - 1 := IntWalk.i64_in _ (by omega)
                  have q1 : (Q == 0) = false := by simp; omega
                  have q2 : (Q == -1) = false := by simp; omega
                  have q3 : Q ≠ 0 := by omega
                  go_upto_region 26 with fail
                  rw [← HQ2.out]
                  have hpr : ((n : Int) - 1) * ((2048 + Q - 1) / Q) = ((n : Int) - 1) * ((2047 + Q) / Q) := by rw [show 2048 + Q - 1 = 2047 + Q by omega]
                  have w5 : wrap64 (((n : Int) - 1) * ((2048 + Q - 1) / Q)) = ((n : Int) - 1) * ((2048 + Q - 1) / Q) := IntWalk.wrap64_in _ (by omega)
                  have w6 : wrap64 (((n : Int) - 1) * ((2048 + Q - 1) / Q) + 1) = ((n : Int) - 1) * ((2048 + Q - 1) / Q) + 1 := IntWalk.wrap64_in _ (by omega)
                  have e1 : decide (((n : Int) - 1) * ((2048 + Q - 1) / Q) + 1 < z + 1) = false := by rw [show 2048 + Q - 1 = 2047 + Q by omega]; simpa using hz1
                  have e2 : decide (((n : Int) - 1) * 21 + 1 < z + 1) = false := by simpa using hz2
                  go_upto_region 30 with fail
                  clear w1 w2 w5 w6 e1 e2 q1 q2 q3 hpr hcq hcell
                  have hk2 : k % n2 < n2 := Nat.mod_lt _ (by omega)
                  obtain ⟨b2, o2, hA2, hb2, hc2⟩ := HX2.out (k % n2) hk2
                  have hx2 := u16_in (HF2.out (k % n2) hk2)
                  have hc2 := (T3.out.cell (a := ⟨b2, o2 + k % n2, none⟩) hb2 (by simp)).trans hc2
                  subst hA2
                  generalize X2 (k % n2) = y at *
                  have m1 : ((k : Int) % (n2 : Int)).toNat = k % n2 := by rw [← Int.natCast_emod]; rfl
                  have m2 : (k : Int) % (n2 : Int) < (n2 : Int) := by rw [← Int.natCast_emod]; omega
                  have m3 : 0 ≤ (k : Int) % (n2 : Int) := by rw [← Int.natCast_emod]; omega
                  clear m1
                  obtain ⟨xr, hxr⟩ := Option.isSome_iff_exists.1 (HD.out r hrn).1
                  have hidr : i64k (r : Int) := i64k_of (by omega)
                  have CR := Lib.hid (creditsW A3W.out)
                  have S1 := Lib.hid (sentW_of (.pointer (some ⟨q, 0, none⟩)) (.pointer (some ⟨c, 0, none⟩)) (r : Int) (1 + y % 2048) CR (P := fun w' => WAt w' q c cb (2 * n) R (LW n (rotL (a1 + 1) (lS n))) (updC C2 (r : Int) (some (clampC xr.2 (satSub xr.1 (size2048 (1 + y % 2048))), xr.2))) ∧ Touch (zone q c cb R) w3 w') (Lib.hid ((spend_yes A3W.out.cred (r : Int) (1 + y % 2048) hidr xr hxr (by omega)).mono fun e w' h => ⟨h.1, A3W.out.credNow h.2.1 h.2.2, h.2.2.mono fun b hb => by simp at hb; subst hb; exact .inl (mem_zone.2 (.inr (.inr (.inl rfl))))⟩)))
                  go_wp2_with fail
                  refine (S1.out).mono ?_
                  rintro e w4 ⟨rfl, a4, t4⟩
                  have A4 := Lib.hid a4
                  have T4 := Lib.hid (T3.out.trans t4 (fun b hb => .inr (HZ.out b hb)))
                  clear a4 t4 S1
                  go_wp2_with fail
                  go_roundw
                  case measure => simp [intOf]; omega
                  case rel =>
                    have hnn := hne (by omega)
                    refine ⟨k + 1, z + 1, by omega, by go_num, by go_num, _, a1 + 1, v1, A4.out, T4.out, by rw [updC_other _ _ (by omega)]; exact h0, fun j hj => ?_, by omega, by have := HW2.out; omega⟩
                    have hd := HD.out j hj
                    by_cases ej : (j : Int) = (r : Int)
                    · rw [ej, updC_same, updC_other _ _ (by omega)]; exact ⟨rfl, by rw [ej] at hd; exact hd.2⟩
                    · rw [updC_other _ _ ej, updC_other _ _ (by omega)]; exact hd
          · obtain rfl : k = n3 := by omega
            have HT := Lib.hid ht
            clear hW ht
            go_wp2_with fail
            refine (wrrLives_any _).mono ?_
            rintro e w8 ⟨rfl, hb⟩
            have HB := Lib.hid hb
            clear hb
            go_wp2_with fail
            go_ret
            exact ⟨rfl, bnext (HT.out.below (by simp) (Nat.le_refl _)) HB.out⟩

set_option maxRecDepth 100000 in
theorem wrrServes_calls : LawCalls Try.prog 4 Try.f4 := by
  intro H enc W base args ds p hval hA hlt
  rw [Try.params4] at hA hval
  obtain ⟨v0, vs0, d0, ds0, p0, q0, hargs, rfl, rfl, h0, r0⟩ := trodAll_cons hA
  obtain ⟨v1, vs1, d1, ds1, p1, q1, rfl, rfl, rfl, h1, r1⟩ := trodAll_cons r0
  obtain ⟨v2, vs2, d2, ds2, p2, q2, rfl, rfl, rfl, h2, r2⟩ := trodAll_cons r1
  obtain ⟨rfl, rfl, rfl⟩ := trodAll_nil r2
  obtain rfl : args = #[v0, v1, v2] := by cases args; simp_all
  obtain ⟨A, len, cap, X, rfl, hl, hm, hX, hF⟩ := num_cells Try.underlying52 Try.underlying53 (by kernel_rfl) (hval 0 52 v0 rfl rfl) h0
  obtain ⟨A2, len2, cap2, X2, rfl, hl2, hm2, hX2, hF2⟩ := num_cells Try.underlying52 Try.underlying53 (by kernel_rfl) (hval 1 52 v1 rfl rfl) h1
  obtain ⟨A3, len3, cap3, X3, rfl, hl3, hm3, hX3, hF3⟩ := num_cells Try.underlying52 Try.underlying53 (by kernel_rfl) (hval 2 52 v2 rfl rfl) h2
  exact wrrServes_walk A A2 A3 len len2 len3 cap cap2 cap3 X X2 X3 W (by omega) (by omega) (by omega) hX hF hX2 hF2 hX3 hF3

set_option maxRecDepth 100000 in
theorem wrrServes_lifted (os : Os) (started : os.Started) (H : Type) (enc : TypeId × Value → H) :
    ReturnsInHanded {} Try.checked os 4 .any (Rows.wrrServesSpec.pre6 enc Try.prog Try.f4 Rows.wrrServesRow.domain false) (Rows.wrrServesSpec.post enc Try.prog Try.f4 false true false false) := by
  refine returnsInHanded_of_change (C := Try.checked) own started (by kernel_rfl) Try.func4
    (ChangeSpec.witness6 (enc := enc) (C := Try.checked) false ⟨#[], #[.slice none 0 0, .slice none 0 0, .slice none 0 0], []⟩ 8 (by kernel_rfl) (by kernel_rfl) (by kernel_rfl) (by kernel_rfl)) ?_
  intro W base args ds gs before hval hW _ _
  exact law_contract laidOut (by kernel_rfl) rfl rfl boolType (fun ds h => by match ds, h with | [_, _, _], _ => rfl) wrrServes_calls W base args ds gs before hval hW

theorem wrrServes_holds : Rows.WrrServesSaid :=
  OpenClaim.holds_of_wide 4 Try.f4 rfl rfl rfl rfl rfl rfl rfl ⟨rfl, rfl, rfl, rfl, rfl⟩ rfl rfl rfl rfl rfl (by kernel_rfl) Try.func4 (by kernel_rfl)
    (of_decide_eq_true (by kernel_rfl)) (by unfold Func.isWrapper; first | (rw [if_pos (by decide +kernel)]; kernel_rfl) | (rw [if_neg (by decide +kernel)]; exact ⟨rfl, rfl⟩))
    (fun os started H enc _ => wrrServes_lifted os started H enc)
#print axioms wrrServes_holds
end Go.Proofs.Ytcggpgjnjfjfnaa
