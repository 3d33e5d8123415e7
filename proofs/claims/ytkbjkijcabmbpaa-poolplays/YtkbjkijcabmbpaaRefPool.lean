/-
  Contracts of the reference of layer 8 (pool): rows of packets that are read, never written; Bytes, Fits.
-/
import Derived.Test.YtkbjkijcabmbpaaPoolHeld
import Derived.Test.YtkbjkijcabmbpaaSlabRef6
namespace Go.Proofs.Ytkbjkijcabmbpaa
open Go.ChangeShapes Go.WideShapes Go.ChangeAt Go.RowKit Go.Deep Go.Maps
set_option linter.unusedVariables false
set_option linter.unusedSimpArgs false

/-- A slice of n packets X, none of them in a block of Z. -/
def RdP (Z : List Nat) (w : World) (v : Value) (n : Nat) (X : Nat → Pk) : Prop :=
  ∃ A c, v = .slice A n c ∧ n ≤ c ∧ c ≤ maxLen ∧ ∀ i, i < n → ∃ b off, A = some ⟨b, off, none⟩ ∧ b < w.heap.size ∧ b ∉ Z ∧ w.rangeAt b (off + i * 10) (X i).cells.toList
section
variable {Z Z' S : List Nat} {w w' : World} {v : Value} {n : Nat} {X Y : Nat → Pk}
theorem RdP.carry (h : RdP Z w v n X) (t : Touch S w w') (hS : ∀ b ∈ S, b ∈ Z ∨ w.heap.size ≤ b) : RdP Z w' v n X := by
  obtain ⟨A, c, rfl, h1, h2, h3⟩ := h
  refine ⟨A, c, rfl, h1, h2, fun i hi => ?_⟩
  obtain ⟨b, off, hA, hb, hz, hc⟩ := h3 i hi
  exact ⟨b, off, hA, Nat.lt_of_lt_of_le hb t.size, hz, fun j u hu => (t.cell (a := ⟨b, off + i * 10 + j, none⟩) hb (fun hm => by rcases hS b hm with h | h <;> first | exact hz h | omega)).trans (hc j u hu)⟩
theorem RdP.avoid (h : RdP Z w v n X) (hZ : ∀ b ∈ Z', b ∈ Z ∨ w.heap.size ≤ b) : RdP Z' w v n X := by
  obtain ⟨A, c, rfl, h1, h2, h3⟩ := h
  refine ⟨A, c, rfl, h1, h2, fun i hi => ?_⟩
  obtain ⟨b, off, hA, hb, hz, hc⟩ := h3 i hi
  exact ⟨b, off, hA, hb, fun hm => by rcases hZ b hm with h | h <;> first | exact hz h | omega, hc⟩
theorem RdP.congr (h : RdP Z w v n X) (e : ∀ i, i < n → X i = Y i) : RdP Z w v n Y := by
  obtain ⟨A, c, rfl, h1, h2, h3⟩ := h
  refine ⟨A, c, rfl, h1, h2, fun i hi => ?_⟩
  rw [← e i hi]
  exact h3 i hi
end
def sumC (c : Nat → Int) : Nat → Int
  | 0 => 0
  | n + 1 => sumC c n + c n
def sizeIf (B : Nat → Bool) (X : Nat → Pk) : Nat → Int := fun i => if B i then (X i).size else 0
theorem sumC_congr {c c' : Nat → Int} : ∀ {n : Nat}, (∀ i, i < n → c i = c' i) → sumC c n = sumC c' n
  | 0, _ => rfl
  | n + 1, h => by
    show sumC c n + c n = sumC c' n + c' n
    rw [sumC_congr (n := n) fun i hi => h i (by omega), h n (by omega)]
theorem sumC_at {c c' : Nat → Int} {a : Nat} : ∀ {n : Nat}, a < n → (∀ i, i < n → i ≠ a → c' i = c i) → sumC c' n = sumC c n + (c' a - c a)
  | 0, h, _ => absurd h (Nat.not_lt_zero _)
  | n + 1, h, e => by
    show sumC c' n + c' n = sumC c n + c n + _
    by_cases ha : a = n
    · subst ha
      rw [sumC_congr (c := c') (c' := c) fun i hi => e i (by omega) (by omega)]
      omega
    · rw [sumC_at (by omega) fun i hi hne => e i (by omega) hne, e n (by omega) (by omega)]
      omega
theorem sumC_bounds {c : Nat → Int} : ∀ {n : Nat}, (∀ i, i < n → 0 ≤ c i ∧ c i ≤ 2048) → 0 ≤ sumC c n ∧ sumC c n ≤ 2048 * n
  | 0, _ => by simp [sumC]
  | n + 1, h => by
    have h1 := sumC_bounds (n := n) fun i hi => h i (by omega)
    have h2 := h n (by omega)
    show 0 ≤ sumC c n + c n ∧ sumC c n + c n ≤ _
    omega
theorem load_box {P : Program} {w : World} {b : Nat} {T : TypeId} {cs : Array Value} {d : TypeDesc} (h : BoxV w b T cs) (hu : P.underlying T = some d) (hd : d.isRow = true) (hi : (P.info? T).map (·.size) = some cs.size) :
    (Instr.loadAt T (.pointer (some ⟨b, 0, none⟩))).run P w = .ok (.agg cs) w := by
  have := run_loadAt_mid (P := P) w b 0 T cs.toList d h.range hu hd (by simpa using hi)
  simpa using this

/-- The reference's buffer: its slots, and the packets of all n slots. -/
structure RPool (Z : List Nat) (w : World) (vf vt vb vk : Value) (m n : Nat) (F T : Nat → Int) (B : Nat → Bool) (X : Nat → Pk) : Prop where
  ref : RefAt Z w vf vt vb m n F T B
  rows : RdP Z w vk n X
section
variable {Z S : List Nat} {w w' : World} {vf vt vb vk : Value} {m n : Nat} {F T : Nat → Int} {B : Nat → Bool} {X : Nat → Pk}
theorem RPool.carry (h : RPool Z w vf vt vb vk m n F T B X) (t : Touch S w w') (hS : ∀ b ∈ S, b ∈ Z ∨ w.heap.size ≤ b) : RPool Z w' vf vt vb vk m n F T B X := ⟨h.ref.carry t hS, h.rows.carry t hS⟩
theorem RPool.new (h : RPool Z w vf vt vb vk m n F T B X) (t : Touch [] w w') : RPool Z w' vf vt vb vk m n F T B X := h.carry t (by simp)
set_option maxHeartbeats 1600000 in
theorem refBytes_any (h : RPool Z w vf vt vb vk m n F T B X) (room : Int) (hn : n ≤ 5000) (hs : ∀ i, i < n → 0 ≤ sizeIf B X i ∧ sizeIf B X i ≤ 2048) :
    Calls Try.prog 38 #[.agg #[vf, vt, vb, vk, .int .i64 room]] w fun e w' => e = .returned (.int .i64 (sumC (sizeIf B X) n)) ∧ Touch [] w w' := by
  obtain ⟨A1, c1, rfl, _, _, _⟩ := h.ref.free
  obtain ⟨A2, c2, rfl, _, _, _⟩ := h.ref.turns
  obtain ⟨A3, c3, rfl, _, _, _⟩ := h.ref.taken
  obtain ⟨A4, c4, rfl, _, _, _⟩ := h.rows
  have HB := Lib.hid (h.ref.taken.carry ((Touch.refl [] w).alloc (.cells (#[.slice A1 m c1, .slice A2 n c2, .slice A3 n c3, .slice A4 n c4, .int .i64 room] : Array Value) 58)) (by simp))
  have HK := Lib.hid (h.rows.carry ((Touch.refl [] w).alloc (.cells (#[.slice A1 m c1, .slice A2 n c2, .slice A3 n c3, .slice A4 n c4, .int .i64 room] : Array Value) 58)) (by simp))
  have HBX := Lib.hid (BoxV.new w 58 (#[.slice A1 m c1, .slice A2 n c2, .slice A3 n c3, .slice A4 n c4, .int .i64 room] : Array Value))
  have T1 := Lib.hid ((Touch.refl [] w).alloc (.cells (#[.slice A1 m c1, .slice A2 n c2, .slice A3 n c3, .slice A4 n c4, .int .i64 room] : Array Value) 58))
  clear h
  go_enter Try.func38, Try.ntmps38
  go_wp2_with fail
  generalize w.alloc (.cells (#[.slice A1 m c1, .slice A2 n c2, .slice A3 n c3, .slice A4 n c4, .int .i64 room] : Array Value) 58) = w1 at *
  generalize w.heap.size = bx at *
  go_loopw [3, 4] (fun s i wl => ∃ k : Nat, k ≤ n ∧ s = .int .i64 (sumC (sizeIf B X) k) ∧ i = .int .i64 k ∧ wl = w1) (fun _ i _ => n - (intOf i).toNat)
  case atStart => exact ⟨0, Nat.zero_le _, rfl, rfl, rfl⟩
  case round =>
    obtain ⟨k, hk, rfl, rfl, rfl⟩ := hrel
    have lx := HBX.out.lt
    have d2 := HBX.out.cell 2
    have d3 := HBX.out.cell 3
    simp only [List.getElem?_toArray, List.getElem?_cons_zero, List.getElem?_cons_succ] at d2 d3
    by_cases hlt : k < n
    · obtain ⟨A3', c3', e3, _, _, h3⟩ := HB.out
      simp only [Value.slice.injEq, true_and] at e3
      obtain ⟨rfl, rfl⟩ := e3
      obtain ⟨b3, o3, rfl, l3, _, x3⟩ := h3 k hlt
      obtain ⟨A4', c4', e4, _, _, h4⟩ := HK.out
      simp only [Value.slice.injEq, true_and] at e4
      obtain ⟨rfl, rfl⟩ := e4
      obtain ⟨b4, o4, rfl, l4, _, x4⟩ := h4 k hlt
      have x5 := x4 1 _ rfl
      have hb := sumC_bounds (c := sizeIf B X) (n := k) fun i hi => hs i (by omega)
      have hsk := hs k hlt
      have hnx : sumC (sizeIf B X) (k + 1) = sumC (sizeIf B X) k + sizeIf B X k := rfl
      have HNX := Lib.hid hnx
      clear h3 h4 x4 hnx
      cases hB : B k
      · have hz : sizeIf B X k = 0 := by simp [sizeIf, hB]
        simp only [hB] at x3
        have HZ := Lib.hid hz
        clear hz hB hsk
        go_wp2_with fail
        go_roundw
        case rel => exact ⟨k + 1, by omega, by rw [HNX.out, HZ.out, Int.add_zero], by go_num, trivial⟩
        case measure => simp [intOf]; omega
      · have hz : sizeIf B X k = (X k).size := by simp [sizeIf, hB]
        simp only [hB] at x3
        rw [hz] at hsk
        have HZ := Lib.hid hz
        generalize (X k).size = z at *
        have hw : IntKind.i64.wrap (sumC (sizeIf B X) k + z) = sumC (sizeIf B X) k + z := by rw [IntKind.wrap_i64]; omega
        clear hz hB
        go_wp2_with fail
        go_roundw
        case rel => exact ⟨k + 1, by omega, by rw [HNX.out, HZ.out], by go_num, trivial⟩
        case measure => simp [intOf]; omega
    · obtain rfl : k = n := by omega
      go_wp2_with fail
      go_ret
      exact ⟨rfl, T1.out⟩
theorem ent38 (args : Array Value) (w : World) : (callFunc 38 args).run Try.prog w = .ok (.enter 38 args) w := by
  simp [callFunc, Try.func38]
  rfl
set_option maxHeartbeats 1600000 in
set_option maxRecDepth 100000 in
theorem refFits_any (h : RPool Z w vf vt vb vk m n F T B X) (room size : Int) (hn : n ≤ 5000) (hs : ∀ i, i < n → 0 ≤ sizeIf B X i ∧ sizeIf B X i ≤ 2048) (hr : 0 ≤ room ∧ room ≤ 4194304) :
    Calls Try.prog 29 #[.agg #[vf, vt, vb, vk, .int .i64 room], .int .i64 size] w fun e w' => e = .returned (.int .i64 (fitsV m (sumC (sizeIf B X) n) room size)) ∧ Touch [] w w' := by
  have hb := sumC_bounds (c := sizeIf B X) (n := n) hs
  have HP0 := Lib.hid h
  obtain ⟨A1, c1, rfl, _, _, _⟩ := h.ref.free
  obtain ⟨A2, c2, rfl, _, _, _⟩ := h.ref.turns
  obtain ⟨A3, c3, rfl, _, _, _⟩ := h.ref.taken
  obtain ⟨A4, c4, rfl, _, _, _⟩ := h.rows
  have HBX := Lib.hid (BoxV.new w 58 (#[.slice A1 m c1, .slice A2 n c2, .slice A3 n c3, .slice A4 n c4, .int .i64 room] : Array Value))
  have T1 := Lib.hid ((Touch.refl [] w).alloc (.cells (#[.slice A1 m c1, .slice A2 n c2, .slice A3 n c3, .slice A4 n c4, .int .i64 room] : Array Value) 58))
  have HP := Lib.hid (HP0.out.new T1.out)
  have lx := HBX.out.lt
  have d0 := HBX.out.cell 0
  simp only [List.getElem?_toArray, List.getElem?_cons_zero, List.getElem?_cons_succ] at d0
  clear h HP0
  generalize hy : fitsV m (sumC (sizeIf B X) n) room size = y
  have HY := Lib.hid hy
  clear hy
  go_enter Try.func29, Try.ntmps29
  go_upto_region 1 with fail
  generalize w.alloc (.cells (#[.slice A1 m c1, .slice A2 n c2, .slice A3 n c3, .slice A4 n c4, .int .i64 room] : Array Value) 58) = w1 at *
  generalize w.heap.size = bx at *
  by_cases h1 : size < 1
  · have HY := Lib.hid (show 1 = y by rw [← HY.out]; unfold fitsV; rw [if_pos (.inl h1)])
    have b1 : decide (size < 1) = true := by simpa using h1
    go_wp2_with fail
    go_ret
    exact ⟨by have h := HY.out; subst h; rfl, T1.out⟩
  · have b1 : decide (size < 1) = false := by simpa using h1
    by_cases h2 : 2048 < size
    · have HY := Lib.hid (show 1 = y by rw [← HY.out]; unfold fitsV; rw [if_pos (.inr h2)])
      have b2 : decide (2048 < size) = true := by simpa using h2
      go_wp2_with fail
      go_ret
      exact ⟨by have h := HY.out; subst h; rfl, T1.out⟩
    · have b2 : decide (2048 < size) = false := by simpa using h2
      have HY := Lib.hid (by rw [← HY.out]; unfold fitsV; rw [if_neg (show ¬ (size < 1 ∨ 2048 < size) by omega)] : (if m = 0 then (4 : Int) else if room < sumC (sizeIf B X) n + size then 5 else 0) = y)
      by_cases h3 : m = 0
      · subst h3
        have HY := Lib.hid (show 4 = y by rw [← HY.out, if_pos rfl])
        go_wp2_with fail
        go_ret
        exact ⟨by have h := HY.out; subst h; rfl, T1.out⟩
      · have HY := Lib.hid (show (if room < sumC (sizeIf B X) n + size then (5 : Int) else 0) = y by rw [← HY.out, if_neg h3])
        have b3 : ((m : Int) == 0) = false := by simp; omega
        have hw : IntKind.i64.wrap (sumC (sizeIf B X) n + size) = sumC (sizeIf B X) n + size := by rw [IntKind.wrap_i64]; omega
        by_cases h4 : room < sumC (sizeIf B X) n + size
        · have HY := Lib.hid (show 5 = y by rw [← HY.out, if_pos h4])
          go_upto_region 5 with fail
          refine wp_region_leaves (wd := w1) (Leaf.const (.agg #[.slice A1 m c1, .slice A2 n c2, .slice A3 n c3, .slice A4 n c4, .int .i64 room]) :: Leaf.const (.int .i64 (sumC (sizeIf B X) n)) :: Leaf.const (.int .i64 size) :: Leaf.const (.int .i64 (sumC (sizeIf B X) n + size)) :: Leaf.const (.pointer (some ⟨bx, 4, none⟩)) :: Leaf.const (.int .i64 room) :: Leaf.const (.bool true) :: []) (by kernel_rfl) (by kernel_rfl) (by kernel_rfl) ((Touch.refl _ _).drew) (trivial) ?_ ?_
          · intro i o ho ac w ht hk hd
            match i, ho with
            | 0, ho =>
              have ho' : some _ = some o := ho
              cases ho'
              clear ho
              have e2 := known_slot hk 2 (by kernel_rfl) (v := .pointer (some ⟨bx, 0, none⟩)) rfl
              exact do_value (wanted_none rfl) (v := .agg #[.slice A1 m c1, .slice A2 n c2, .slice A3 n c3, .slice A4 n c4, .int .i64 room]) (run_value rfl (by rw [e2]; exact load_box (HBX.out.carry ht (by simp)) Try.underlying58 rfl (by kernel_rfl))) rfl
            | 1, ho =>
              have ho' : some _ = some o := ho
              cases ho'
              clear ho
              have e16 := has_const (has_dep hd 0 (by kernel_rfl)) rfl rfl rfl (c := (.agg #[.slice A1 m c1, .slice A2 n c2, .slice A3 n c3, .slice A4 n c4, .int .i64 room]))
              refine do_enter (wanted_none rfl) (f := 38) (args := #[(.agg #[.slice A1 m c1, .slice A2 n c2, .slice A3 n c3, .slice A4 n c4, .int .i64 room])]) (by rw [run_go3 38 _ _ rfl, ent38]; simp [eval_c, e16]) ?_
              exact (refBytes_any (HP.out.new ht) room hn hs).mono fun e w2 ⟨he, hb⟩ => ⟨_, he, rfl, hb⟩
            | 2, ho =>
              have ho' : some _ = some o := ho
              cases ho'
              clear ho
              have e1 := known_slot hk 1 (by kernel_rfl) (v := .int .i64 size) rfl
              exact do_value (wanted_none rfl) (by rw [BigFrame.run_move (.tmp 1) rfl, e1]) rfl
            | 3, ho =>
              have ho' : some _ = some o := ho
              cases ho'
              clear ho
              have e17 := has_const (has_dep hd 1 (by kernel_rfl)) rfl rfl rfl (c := (.int .i64 (sumC (sizeIf B X) n)))
              have e18 := has_const (has_dep hd 2 (by kernel_rfl)) rfl rfl rfl (c := (.int .i64 size))
              exact do_value (wanted_none rfl) (v := .int .i64 (sumC (sizeIf B X) n + size)) (run_value rfl (by rw [e17, e18]; simp [go_sem]; omega)) rfl
            | 4, ho =>
              have ho' : some _ = some o := ho
              cases ho'
              clear ho
              have e2 := known_slot hk 2 (by kernel_rfl) (v := .pointer (some ⟨bx, 0, none⟩)) rfl
              exact do_value (wanted_none rfl) (v := .pointer (some ⟨bx, 4, none⟩)) (run_value rfl (by rw [e2]; simp [go_sem])) rfl
            | 5, ho =>
              have ho' : some _ = some o := ho
              cases ho'
              clear ho
              have e20 := has_const (has_dep hd 4 (by kernel_rfl)) rfl rfl rfl (c := (.pointer (some ⟨bx, 4, none⟩)))
              have d4 := (HBX.out.carry ht (by simp)).cell 4
              simp only [List.getElem?_toArray, List.getElem?_cons_zero, List.getElem?_cons_succ] at d4
              exact do_value (wanted_none rfl) (v := .int .i64 room) (run_value rfl (by rw [e20]; simp [go_sem, d4])) rfl
            | 6, ho =>
              have ho' : some _ = some o := ho
              cases ho'
              clear ho
              have e19 := has_const (has_dep hd 3 (by kernel_rfl)) rfl rfl rfl (c := (.int .i64 (sumC (sizeIf B X) n + size)))
              have e21 := has_const (has_dep hd 5 (by kernel_rfl)) rfl rfl rfl (c := (.int .i64 room))
              exact do_value (wanted_none rfl) (v := .bool true) (run_value rfl (by rw [e19, e21]; simp [go_sem]; omega)) rfl
            | q + 7, ho => exact absurd ho (by simp)
          · intro x w2 T2 hkn
            have HT := Lib.hid (T1.out.trans T2 (by simp))
            simp only [putL, Act.put, List.setIfInBounds_toArray, List.set_cons_succ, List.set_cons_zero]
            clear T2 hkn
            go_wp2_with fail
            go_ret
            exact ⟨by have h := HY.out; subst h; rfl, HT.out⟩
        · have HY := Lib.hid (show 0 = y by rw [← HY.out, if_neg h4])
          go_upto_region 5 with fail
          refine wp_region_leaves (wd := w1) (Leaf.const (.agg #[.slice A1 m c1, .slice A2 n c2, .slice A3 n c3, .slice A4 n c4, .int .i64 room]) :: Leaf.const (.int .i64 (sumC (sizeIf B X) n)) :: Leaf.const (.int .i64 size) :: Leaf.const (.int .i64 (sumC (sizeIf B X) n + size)) :: Leaf.const (.pointer (some ⟨bx, 4, none⟩)) :: Leaf.const (.int .i64 room) :: Leaf.const (.bool false) :: []) (by kernel_rfl) (by kernel_rfl) (by kernel_rfl) ((Touch.refl _ _).drew) (trivial) ?_ ?_
          · intro i o ho ac w ht hk hd
            match i, ho with
            | 0, ho =>
              have ho' : some _ = some o := ho
              cases ho'
              clear ho
              have e2 := known_slot hk 2 (by kernel_rfl) (v := .pointer (some ⟨bx, 0, none⟩)) rfl
              exact do_value (wanted_none rfl) (v := .agg #[.slice A1 m c1, .slice A2 n c2, .slice A3 n c3, .slice A4 n c4, .int .i64 room]) (run_value rfl (by rw [e2]; exact load_box (HBX.out.carry ht (by simp)) Try.underlying58 rfl (by kernel_rfl))) rfl
            | 1, ho =>
              have ho' : some _ = some o := ho
              cases ho'
              clear ho
              have e16 := has_const (has_dep hd 0 (by kernel_rfl)) rfl rfl rfl (c := (.agg #[.slice A1 m c1, .slice A2 n c2, .slice A3 n c3, .slice A4 n c4, .int .i64 room]))
              refine do_enter (wanted_none rfl) (f := 38) (args := #[(.agg #[.slice A1 m c1, .slice A2 n c2, .slice A3 n c3, .slice A4 n c4, .int .i64 room])]) (by rw [run_go3 38 _ _ rfl, ent38]; simp [eval_c, e16]) ?_
              exact (refBytes_any (HP.out.new ht) room hn hs).mono fun e w2 ⟨he, hb⟩ => ⟨_, he, rfl, hb⟩
            | 2, ho =>
              have ho' : some _ = some o := ho
              cases ho'
              clear ho
              have e1 := known_slot hk 1 (by kernel_rfl) (v := .int .i64 size) rfl
              exact do_value (wanted_none rfl) (by rw [BigFrame.run_move (.tmp 1) rfl, e1]) rfl
            | 3, ho =>
              have ho' : some _ = some o := ho
              cases ho'
              clear ho
              have e17 := has_const (has_dep hd 1 (by kernel_rfl)) rfl rfl rfl (c := (.int .i64 (sumC (sizeIf B X) n)))
              have e18 := has_const (has_dep hd 2 (by kernel_rfl)) rfl rfl rfl (c := (.int .i64 size))
              exact do_value (wanted_none rfl) (v := .int .i64 (sumC (sizeIf B X) n + size)) (run_value rfl (by rw [e17, e18]; simp [go_sem]; omega)) rfl
            | 4, ho =>
              have ho' : some _ = some o := ho
              cases ho'
              clear ho
              have e2 := known_slot hk 2 (by kernel_rfl) (v := .pointer (some ⟨bx, 0, none⟩)) rfl
              exact do_value (wanted_none rfl) (v := .pointer (some ⟨bx, 4, none⟩)) (run_value rfl (by rw [e2]; simp [go_sem])) rfl
            | 5, ho =>
              have ho' : some _ = some o := ho
              cases ho'
              clear ho
              have e20 := has_const (has_dep hd 4 (by kernel_rfl)) rfl rfl rfl (c := (.pointer (some ⟨bx, 4, none⟩)))
              have d4 := (HBX.out.carry ht (by simp)).cell 4
              simp only [List.getElem?_toArray, List.getElem?_cons_zero, List.getElem?_cons_succ] at d4
              exact do_value (wanted_none rfl) (v := .int .i64 room) (run_value rfl (by rw [e20]; simp [go_sem, d4])) rfl
            | 6, ho =>
              have ho' : some _ = some o := ho
              cases ho'
              clear ho
              have e19 := has_const (has_dep hd 3 (by kernel_rfl)) rfl rfl rfl (c := (.int .i64 (sumC (sizeIf B X) n + size)))
              have e21 := has_const (has_dep hd 5 (by kernel_rfl)) rfl rfl rfl (c := (.int .i64 room))
              exact do_value (wanted_none rfl) (v := .bool false) (run_value rfl (by rw [e19, e21]; simp [go_sem]; omega)) rfl
            | q + 7, ho => exact absurd ho (by simp)
          · intro x w2 T2 hkn
            have HT := Lib.hid (T1.out.trans T2 (by simp))
            simp only [putL, Act.put, List.setIfInBounds_toArray, List.set_cons_succ, List.set_cons_zero]
            clear T2 hkn
            go_wp2_with fail
            go_ret
            exact ⟨by have h := HY.out; subst h; rfl, HT.out⟩
end
end Go.Proofs.Ytkbjkijcabmbpaa
