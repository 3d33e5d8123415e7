/-
  Contracts of layer 8 (pool): the buffer in memory; Fits, Slots, Bytes, Put.
-/
import Derived.Test.YtkbjkijcabmbpaaSlab4
import Derived.Test.YtkbjkijcabmbpaaIMap
import Derived.Test.YtkbjkijcabmbpaaBoxV
import Derived.Test.YtkbjkijcabmbpaaPhi7
namespace Go.Proofs.Ytkbjkijcabmbpaa
open Go.ChangeShapes Go.WideShapes Go.ChangeAt Go.RowKit Go.Deep Go.Maps
set_option linter.unusedVariables false
set_option linter.unusedSimpArgs false

/-- A packet by its fields. -/
structure Pk where
  seq : Int
  size : Int
  ver : Int
  sh : Int
  sl : Int
  dh : Int
  dl : Int
  proto : Int
  sp : Int
  dp : Int
  deriving DecidableEq
def Pk.cells (k : Pk) : Array Value := #[.int .i64 k.seq, .int .i64 k.size, .int .i64 k.ver, .int .u64 k.sh, .int .u64 k.sl, .int .u64 k.dh, .int .u64 k.dl, .int .i64 k.proto, .int .i64 k.sp, .int .i64 k.dp]
def zeroPk : Pk := ⟨0, 0, 0, 0, 0, 0, 0, 0, 0, 0⟩
abbrev Pks := Int → Option Pk
def pksM (M : Pks) : Int → Option Value := fun i => (M i).map fun x => .agg x.cells
def putP (M : Pks) (i : Int) (v : Option Pk) : Pks := fun j => if j = i then v else M j
theorem pksM_put (M : Pks) (i : Int) (x : Pk) : put (pksM M) i (some (.agg x.cells)) = pksM (putP M i (some x)) := by
  funext j
  unfold put pksM putP
  by_cases h : j = i <;> simp [h]
theorem pksM_drop (M : Pks) (i : Int) : put (pksM M) i none = pksM (putP M i none) := by
  funext j
  unfold put pksM putP
  by_cases h : j = i <;> simp [h]
theorem pksM_some (M : Pks) (i : Int) : (pksM M i).isSome = (M i).isSome := by unfold pksM; simp
theorem pkZero (w : World) : (zeroValue 66).run Try.prog w = .ok (.agg zeroPk.cells) w := by kernel_rfl
/-- A buffer at block q. -/
structure PoolAt (w : World) (q p g k n ns m c : Nat) (S K : Nat → Int) (mb s : Nat) (M : Pks) (bytes room : Int) : Prop where
  box : BoxV w q 105 #[.pointer (some ⟨p, 0, none⟩), .map (some mb), .int .i64 bytes, .int .i64 room]
  slab : SlabAt w p g k n ns m c S K
  map : IMap Try.prog 3 w mb s (pksM M)
  far : q ≠ p ∧ q ≠ g ∧ q ≠ k ∧ q ≠ mb ∧ mb ≠ p ∧ mb ≠ g ∧ mb ≠ k
section
variable {w w' : World} {q p g k n ns m c : Nat} {S K : Nat → Int} {mb s : Nat} {M : Pks} {bytes room : Int}
theorem PoolAt.carry {T : List Nat} (h : PoolAt w q p g k n ns m c S K mb s M bytes room) (t : Touch T w w') (hT : ∀ b ∈ [q, p, g, k, mb], b ∉ T) : PoolAt w' q p g k n ns m c S K mb s M bytes room :=
  ⟨h.box.carry t (hT q (by simp)), h.slab.carry t (hT p (by simp)) (hT g (by simp)) (hT k (by simp)), h.map.carry t (hT mb (by simp)), h.far⟩
theorem PoolAt.new (h : PoolAt w q p g k n ns m c S K mb s M bytes room) (t : Touch [] w w') : PoolAt w' q p g k n ns m c S K mb s M bytes room := h.carry t (by simp)
def fitsV (m : Nat) (bytes room size : Int) : Int := if size < 1 ∨ 2048 < size then 1 else if m = 0 then 4 else if room < bytes + size then 5 else 0
theorem fits_nil (size : Int) (w : World) : Calls Try.prog 28 #[.pointer none, .int .i64 size] w fun e w' => e = .returned (.int .i64 4) ∧ w' = w := by
  go_enter Try.func28, Try.ntmps28
  go_wp2
  go_ret
  exact ⟨rfl, rfl⟩
theorem slots_nil (w : World) : Calls Try.prog 39 #[.pointer none] w fun e w' => e = .returned (.int .i64 0) ∧ w' = w := by
  go_enter Try.func39, Try.ntmps39
  go_wp2
  go_ret
  exact ⟨rfl, rfl⟩
theorem bytes_nil (w : World) : Calls Try.prog 37 #[.pointer none] w fun e w' => e = .returned (.int .i64 0) ∧ w' = w := by
  go_enter Try.func37, Try.ntmps37
  go_wp2
  go_ret
  exact ⟨rfl, rfl⟩
theorem poolCopy_nil (w : World) : Calls Try.prog 36 #[.pointer none] w fun e w' => e = .returned (.pointer none) ∧ w' = w := by
  go_enter Try.func36, Try.ntmps36
  go_wp2
  go_ret
  exact ⟨rfl, rfl⟩
theorem bytes_any (h : PoolAt w q p g k n ns m c S K mb s M bytes room) : Calls Try.prog 37 #[.pointer (some ⟨q, 0, none⟩)] w fun e w' => e = .returned (.int .i64 bytes) ∧ w' = w := by
  have c2 := h.box.cell 2
  have lq := h.box.lt
  simp only [List.getElem?_toArray, List.getElem?_cons_zero, List.getElem?_cons_succ] at c2
  clear h
  go_enter Try.func37, Try.ntmps37
  go_wp2
  go_ret
  exact ⟨rfl, rfl⟩
theorem slots_any (h : PoolAt w q p g k n ns m c S K mb s M bytes room) : Calls Try.prog 39 #[.pointer (some ⟨q, 0, none⟩)] w fun e w' => e = .returned (.int .i64 (s : Int)) ∧ w' = w := by
  have c1 := h.box.cell 1
  have lq := h.box.lt
  simp only [List.getElem?_toArray, List.getElem?_cons_zero, List.getElem?_cons_succ] at c1
  have hl := h.map.len Try.underlying103 3
  clear h
  go_enter Try.func39, Try.ntmps39
  go_wp2
  go_ret
  exact ⟨rfl, rfl⟩
set_option maxHeartbeats 2000000 in
theorem fits_any (h : PoolAt w q p g k n ns m c S K mb s M bytes room) (size : Int) (hb : 0 ≤ bytes ∧ bytes ≤ 4194304) (hr : 0 ≤ room ∧ room ≤ 4194304) :
    Calls Try.prog 28 #[.pointer (some ⟨q, 0, none⟩), .int .i64 size] w fun e w' => e = .returned (.int .i64 (fitsV m bytes room size)) ∧ Touch [] w w' := by
  have c0 := h.box.cell 0
  have c2 := h.box.cell 2
  have c3 := h.box.cell 3
  have lq := h.box.lt
  have D := Lib.hid (left_any h.slab)
  simp only [List.getElem?_toArray, List.getElem?_cons_zero, List.getElem?_cons_succ] at c0 c2 c3
  have HB := Lib.hid h.box
  clear h
  unfold fitsV
  by_cases h1 : size < 1
  · rw [if_pos (.inl h1)]
    have b1 : decide (size < 1) = true := by simpa using h1
    go_enter Try.func28, Try.ntmps28
    go_wp2_with fail
    go_ret
    exact ⟨rfl, Touch.refl _ _⟩
  · have b1 : decide (size < 1) = false := by simpa using h1
    by_cases h2 : 2048 < size
    · rw [if_pos (.inr h2)]
      have b2 : decide (2048 < size) = true := by simpa using h2
      go_enter Try.func28, Try.ntmps28
      go_wp2_with fail
      go_ret
      exact ⟨rfl, Touch.refl _ _⟩
    · have b2 : decide (2048 < size) = false := by simpa using h2
      rw [if_neg (show ¬ (size < 1 ∨ 2048 < size) by omega)]
      by_cases h3 : m = 0
      · subst h3
        rw [if_pos rfl]
        go_enter Try.func28, Try.ntmps28
        go_wp2_with fail
        refine (D.out).mono ?_
        rintro e w1 ⟨rfl, rfl⟩
        go_wp2_with fail
        go_ret
        exact ⟨rfl, Touch.refl _ _⟩
      · rw [if_neg h3]
        have b3 : ((m : Int) == 0) = false := by simp; omega
        have hw : IntKind.i64.wrap (bytes + size) = bytes + size := by rw [IntKind.wrap_i64]; omega
        by_cases h4 : room < bytes + size
        · rw [if_pos h4]
          go_enter Try.func28, Try.ntmps28
          go_wp2_with fail
          refine (D.out).mono ?_
          rintro e w1 ⟨rfl, rfl⟩
          go_upto_region 7 with fail
          refine wp_region_leaves (wd := w) (Leaf.const (.pointer (some ⟨q, 0, none⟩)) :: Leaf.const ((.pointer (some ⟨q, 0, none⟩))) :: Leaf.const (.pointer (some ⟨q, 2, none⟩)) :: Leaf.const (.int .i64 bytes) :: Leaf.const (.int .i64 size) :: Leaf.const (.int .i64 (bytes + size)) :: Leaf.const (.pointer (some ⟨q, 0, none⟩)) :: Leaf.const ((.pointer (some ⟨q, 0, none⟩))) :: Leaf.const (.pointer (some ⟨q, 3, none⟩)) :: Leaf.const (.int .i64 room) :: Leaf.const (.bool true) :: Leaf.const ((.bool true)) :: []) (by kernel_rfl) (by kernel_rfl) (by kernel_rfl) ((Touch.refl _ _).drew) (trivial) ?_ ?_
          · intro i o ho ac w ht hk hd
            match i, ho with
            | 0, ho =>
              have ho' : some _ = some o := ho
              cases ho'
              clear ho
              have e0 := known_slot hk 0 (by kernel_rfl) (v := .pointer (some ⟨q, 0, none⟩)) rfl
              exact do_value (wanted_none rfl) (by rw [BigFrame.run_move (.tmp 0) rfl, e0]) rfl
            | 1, ho =>
              have ho' : some _ = some o := ho
              cases ho'
              clear ho
              have e23 := has_const (has_dep hd 0 (by kernel_rfl)) rfl rfl rfl (c := (.pointer (some ⟨q, 0, none⟩)))
              exact do_value (wanted_none rfl) (v := (.pointer (some ⟨q, 0, none⟩))) (by unfold execOp; simp only [e23]; rfl) rfl
            | 2, ho =>
              have ho' : some _ = some o := ho
              cases ho'
              clear ho
              have e24 := has_const (has_dep hd 1 (by kernel_rfl)) rfl rfl rfl (c := (.pointer (some ⟨q, 0, none⟩)))
              exact do_value (wanted_none rfl) (v := .pointer (some ⟨q, 2, none⟩)) (run_value rfl (by rw [e24]; simp [go_sem])) rfl
            | 3, ho =>
              have ho' : some _ = some o := ho
              cases ho'
              clear ho
              have e25 := has_const (has_dep hd 2 (by kernel_rfl)) rfl rfl rfl (c := (.pointer (some ⟨q, 2, none⟩)))
              have c2 := (HB.out.carry ht (by simp)).cell 2
              simp only [List.getElem?_toArray, List.getElem?_cons_zero, List.getElem?_cons_succ] at c2
              exact do_value (wanted_none rfl) (v := .int .i64 bytes) (run_value rfl (by rw [e25]; simp [go_sem, c2])) rfl
            | 4, ho =>
              have ho' : some _ = some o := ho
              cases ho'
              clear ho
              have e1 := known_slot hk 1 (by kernel_rfl) (v := .int .i64 size) rfl
              exact do_value (wanted_none rfl) (by rw [BigFrame.run_move (.tmp 1) rfl, e1]) rfl
            | 5, ho =>
              have ho' : some _ = some o := ho
              cases ho'
              clear ho
              have e26 := has_const (has_dep hd 3 (by kernel_rfl)) rfl rfl rfl (c := (.int .i64 bytes))
              have e27 := has_const (has_dep hd 4 (by kernel_rfl)) rfl rfl rfl (c := (.int .i64 size))
              exact do_value (wanted_none rfl) (v := .int .i64 (bytes + size)) (run_value rfl (by rw [e26, e27]; simp [go_sem]; omega)) rfl
            | 6, ho =>
              have ho' : some _ = some o := ho
              cases ho'
              clear ho
              have e0 := known_slot hk 0 (by kernel_rfl) (v := .pointer (some ⟨q, 0, none⟩)) rfl
              exact do_value (wanted_none rfl) (by rw [BigFrame.run_move (.tmp 0) rfl, e0]) rfl
            | 7, ho =>
              have ho' : some _ = some o := ho
              cases ho'
              clear ho
              have e29 := has_const (has_dep hd 6 (by kernel_rfl)) rfl rfl rfl (c := (.pointer (some ⟨q, 0, none⟩)))
              exact do_value (wanted_none rfl) (v := (.pointer (some ⟨q, 0, none⟩))) (by unfold execOp; simp only [e29]; rfl) rfl
            | 8, ho =>
              have ho' : some _ = some o := ho
              cases ho'
              clear ho
              have e30 := has_const (has_dep hd 7 (by kernel_rfl)) rfl rfl rfl (c := (.pointer (some ⟨q, 0, none⟩)))
              exact do_value (wanted_none rfl) (v := .pointer (some ⟨q, 3, none⟩)) (run_value rfl (by rw [e30]; simp [go_sem])) rfl
            | 9, ho =>
              have ho' : some _ = some o := ho
              cases ho'
              clear ho
              have e31 := has_const (has_dep hd 8 (by kernel_rfl)) rfl rfl rfl (c := (.pointer (some ⟨q, 3, none⟩)))
              have c3 := (HB.out.carry ht (by simp)).cell 3
              simp only [List.getElem?_toArray, List.getElem?_cons_zero, List.getElem?_cons_succ] at c3
              exact do_value (wanted_none rfl) (v := .int .i64 room) (run_value rfl (by rw [e31]; simp [go_sem, c3])) rfl
            | 10, ho =>
              have ho' : some _ = some o := ho
              cases ho'
              clear ho
              have e28 := has_const (has_dep hd 5 (by kernel_rfl)) rfl rfl rfl (c := (.int .i64 (bytes + size)))
              have e32 := has_const (has_dep hd 9 (by kernel_rfl)) rfl rfl rfl (c := (.int .i64 room))
              exact do_value (wanted_none rfl) (v := .bool true) (run_value rfl (by rw [e28, e32]; simp [go_sem]; omega)) rfl
            | 11, ho =>
              have ho' : some _ = some o := ho
              cases ho'
              clear ho
              have e33 := has_const (has_dep hd 10 (by kernel_rfl)) rfl rfl rfl (c := (.bool true))
              exact do_value (wanted_none rfl) (by rw [BigFrame.run_assign (.tmp 33) rfl, e33]) rfl
            | q + 12, ho => exact absurd ho (by simp)
          · intro x w2 T2 hkn
            have HT := Lib.hid T2
            simp only [putL, Act.put, List.setIfInBounds_toArray, List.set_cons_succ, List.set_cons_zero]
            clear T2 hkn
            go_wp2_with fail
            go_ret
            exact ⟨rfl, HT.out⟩
        · rw [if_neg h4]
          go_enter Try.func28, Try.ntmps28
          go_wp2_with fail
          refine (D.out).mono ?_
          rintro e w1 ⟨rfl, rfl⟩
          go_upto_region 7 with fail
          refine wp_region_leaves (wd := w) (Leaf.const (.pointer (some ⟨q, 0, none⟩)) :: Leaf.const ((.pointer (some ⟨q, 0, none⟩))) :: Leaf.const (.pointer (some ⟨q, 2, none⟩)) :: Leaf.const (.int .i64 bytes) :: Leaf.const (.int .i64 size) :: Leaf.const (.int .i64 (bytes + size)) :: Leaf.const (.pointer (some ⟨q, 0, none⟩)) :: Leaf.const ((.pointer (some ⟨q, 0, none⟩))) :: Leaf.const (.pointer (some ⟨q, 3, none⟩)) :: Leaf.const (.int .i64 room) :: Leaf.const (.bool false) :: Leaf.const ((.bool false)) :: []) (by kernel_rfl) (by kernel_rfl) (by kernel_rfl) ((Touch.refl _ _).drew) (trivial) ?_ ?_
          · intro i o ho ac w ht hk hd
            match i, ho with
            | 0, ho =>
              have ho' : some _ = some o := ho
              cases ho'
              clear ho
              have e0 := known_slot hk 0 (by kernel_rfl) (v := .pointer (some ⟨q, 0, none⟩)) rfl
              exact do_value (wanted_none rfl) (by rw [BigFrame.run_move (.tmp 0) rfl, e0]) rfl
            | 1, ho =>
              have ho' : some _ = some o := ho
              cases ho'
              clear ho
              have e23 := has_const (has_dep hd 0 (by kernel_rfl)) rfl rfl rfl (c := (.pointer (some ⟨q, 0, none⟩)))
              exact do_value (wanted_none rfl) (v := (.pointer (some ⟨q, 0, none⟩))) (by unfold execOp; simp only [e23]; rfl) rfl
            | 2, ho =>
              have ho' : some _ = some o := ho
              cases ho'
              clear ho
              have e24 := has_const (has_dep hd 1 (by kernel_rfl)) rfl rfl rfl (c := (.pointer (some ⟨q, 0, none⟩)))
              exact do_value (wanted_none rfl) (v := .pointer (some ⟨q, 2, none⟩)) (run_value rfl (by rw [e24]; simp [go_sem])) rfl
            | 3, ho =>
              have ho' : some _ = some o := ho
              cases ho'
              clear ho
              have e25 := has_const (has_dep hd 2 (by kernel_rfl)) rfl rfl rfl (c := (.pointer (some ⟨q, 2, none⟩)))
              have c2 := (HB.out.carry ht (by simp)).cell 2
              simp only [List.getElem?_toArray, List.getElem?_cons_zero, List.getElem?_cons_succ] at c2
              exact do_value (wanted_none rfl) (v := .int .i64 bytes) (run_value rfl (by rw [e25]; simp [go_sem, c2])) rfl
            | 4, ho =>
              have ho' : some _ = some o := ho
              cases ho'
              clear ho
              have e1 := known_slot hk 1 (by kernel_rfl) (v := .int .i64 size) rfl
              exact do_value (wanted_none rfl) (by rw [BigFrame.run_move (.tmp 1) rfl, e1]) rfl
            | 5, ho =>
              have ho' : some _ = some o := ho
              cases ho'
              clear ho
              have e26 := has_const (has_dep hd 3 (by kernel_rfl)) rfl rfl rfl (c := (.int .i64 bytes))
              have e27 := has_const (has_dep hd 4 (by kernel_rfl)) rfl rfl rfl (c := (.int .i64 size))
              exact do_value (wanted_none rfl) (v := .int .i64 (bytes + size)) (run_value rfl (by rw [e26, e27]; simp [go_sem]; omega)) rfl
            | 6, ho =>
              have ho' : some _ = some o := ho
              cases ho'
              clear ho
              have e0 := known_slot hk 0 (by kernel_rfl) (v := .pointer (some ⟨q, 0, none⟩)) rfl
              exact do_value (wanted_none rfl) (by rw [BigFrame.run_move (.tmp 0) rfl, e0]) rfl
            | 7, ho =>
              have ho' : some _ = some o := ho
              cases ho'
              clear ho
              have e29 := has_const (has_dep hd 6 (by kernel_rfl)) rfl rfl rfl (c := (.pointer (some ⟨q, 0, none⟩)))
              exact do_value (wanted_none rfl) (v := (.pointer (some ⟨q, 0, none⟩))) (by unfold execOp; simp only [e29]; rfl) rfl
            | 8, ho =>
              have ho' : some _ = some o := ho
              cases ho'
              clear ho
              have e30 := has_const (has_dep hd 7 (by kernel_rfl)) rfl rfl rfl (c := (.pointer (some ⟨q, 0, none⟩)))
              exact do_value (wanted_none rfl) (v := .pointer (some ⟨q, 3, none⟩)) (run_value rfl (by rw [e30]; simp [go_sem])) rfl
            | 9, ho =>
              have ho' : some _ = some o := ho
              cases ho'
              clear ho
              have e31 := has_const (has_dep hd 8 (by kernel_rfl)) rfl rfl rfl (c := (.pointer (some ⟨q, 3, none⟩)))
              have c3 := (HB.out.carry ht (by simp)).cell 3
              simp only [List.getElem?_toArray, List.getElem?_cons_zero, List.getElem?_cons_succ] at c3
              exact do_value (wanted_none rfl) (v := .int .i64 room) (run_value rfl (by rw [e31]; simp [go_sem, c3])) rfl
            | 10, ho =>
              have ho' : some _ = some o := ho
              cases ho'
              clear ho
              have e28 := has_const (has_dep hd 5 (by kernel_rfl)) rfl rfl rfl (c := (.int .i64 (bytes + size)))
              have e32 := has_const (has_dep hd 9 (by kernel_rfl)) rfl rfl rfl (c := (.int .i64 room))
              exact do_value (wanted_none rfl) (v := .bool false) (run_value rfl (by rw [e28, e32]; simp [go_sem]; omega)) rfl
            | 11, ho =>
              have ho' : some _ = some o := ho
              cases ho'
              clear ho
              have e33 := has_const (has_dep hd 10 (by kernel_rfl)) rfl rfl rfl (c := (.bool false))
              exact do_value (wanted_none rfl) (by rw [BigFrame.run_assign (.tmp 33) rfl, e33]) rfl
            | q + 12, ho => exact absurd ho (by simp)
          · intro x w2 T2 hkn
            have HT := Lib.hid T2
            simp only [putL, Act.put, List.setIfInBounds_toArray, List.set_cons_succ, List.set_cons_zero]
            clear T2 hkn
            go_wp2_with fail
            go_ret
            exact ⟨rfl, HT.out⟩
end
end Go.Proofs.Ytkbjkijcabmbpaa
