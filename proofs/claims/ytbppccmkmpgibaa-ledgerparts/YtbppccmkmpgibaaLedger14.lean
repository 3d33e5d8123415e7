/-
  The reference of layer 34 (ledger): IDs.
-/
import Derived.Test.YtbppccmkmpgibaaLedger13
import Derived.Deep.CutBlock
namespace Go.Proofs.Ytbppccmkmpgibaa
open Go.ChangeShapes Go.WideShapes Go.ChangeAt Go.RowKit Go.Deep Go.Maps
set_option linter.unusedVariables false
set_option linter.unusedSimpArgs false
def above (lo : Option Int) (i : Int) : Bool := match lo with
  | none => true
  | some l => decide (l < i)
def under (b : Option Int) (i : Int) : Bool := match b with
  | none => true
  | some b => decide (i < b)
/-- The least id above lo among the first k notes that are counted. -/
def nextId (X : Nat → Nt) (lo : Option Int) : Nat → Option Int
  | 0 => none
  | k + 1 => if cntd (X k) ∧ above lo (X k).i = true ∧ under (nextId X lo k) (X k).i = true then some (X k).i else nextId X lo k
theorem next_spec (X : Nat → Nt) (lo : Option Int) : ∀ k, (∀ b, nextId X lo k = some b → (∃ j, j < k ∧ cntd (X j) ∧ above lo (X j).i = true ∧ (X j).i = b) ∧ ∀ j, j < k → cntd (X j) → above lo (X j).i = true → b ≤ (X j).i) ∧
    (nextId X lo k = none → ∀ j, j < k → cntd (X j) → above lo (X j).i = false)
  | 0 => ⟨fun b h => by simp [nextId] at h, fun _ j hj => by omega⟩
  | k + 1 => by
    obtain ⟨h1, h2⟩ := next_spec X lo k
    by_cases hc : cntd (X k) ∧ above lo (X k).i = true ∧ under (nextId X lo k) (X k).i = true
    · have e : nextId X lo (k + 1) = some (X k).i := if_pos hc
      rw [e]
      refine ⟨fun b hb => ?_, fun h => by cases h⟩
      cases hb
      refine ⟨⟨k, by omega, hc.1, hc.2.1, rfl⟩, fun j hj hcj ha => ?_⟩
      by_cases hjk : j = k
      · subst hjk
        exact Int.le_refl _
      · cases hn : nextId X lo k with
        | none =>
          have := h2 hn j (by omega) hcj
          rw [ha] at this
          cases this
        | some b =>
          have h3 := (h1 b hn).2 j (by omega) hcj ha
          have h4 := hc.2.2
          rw [hn] at h4
          simp only [under, decide_eq_true_eq] at h4
          omega
    · have e : nextId X lo (k + 1) = nextId X lo k := if_neg hc
      rw [e]
      refine ⟨fun b hb => ?_, fun hn j hj hcj => ?_⟩
      · obtain ⟨⟨j, hj, hcj, ha, hi⟩, h4⟩ := h1 b hb
        refine ⟨⟨j, by omega, hcj, ha, hi⟩, fun j' hj' hc' ha' => ?_⟩
        by_cases hjk : j' = k
        · subst hjk
          rcases Int.lt_or_le (X j').i b with h | h
          · exact absurd ⟨hc', ha', by rw [hb]; simpa [under] using h⟩ hc
          · exact h
        · exact h4 j' (by omega) hc' ha'
      · by_cases hjk : j = k
        · subst hjk
          cases ha : above lo (X j).i
          · rfl
          · exact absurd ⟨hcj, ha, by rw [hn]; rfl⟩ hc
        · exact h2 hn j (by omega) hcj
theorem play_some (X : Nat → Nt) : ∀ m i, (playM X m i).isSome = true ↔ ∃ j, j < m ∧ cntd (X j) ∧ (X j).i = i
  | 0, i => by simp [playM]
  | m + 1, i => by
    have h := play_some X m i
    show (stepM (playM X m) (X m) i).isSome = true ↔ _
    unfold stepM
    by_cases hc : cntd (X m)
    · rw [if_pos hc]
      unfold putB
      by_cases hi : i = (X m).i
      · rw [if_pos hi]
        exact ⟨fun _ => ⟨m, by omega, hc, hi.symm⟩, fun _ => rfl⟩
      · rw [if_neg hi, h]
        exact ⟨fun ⟨j, h1, h2⟩ => ⟨j, by omega, h2⟩, fun ⟨j, h1, h2, h3⟩ => ⟨j, by have : j ≠ m := (fun e => hi (by rw [← h3, e])); omega, h2, h3⟩⟩
    · rw [if_neg hc, h]
      exact ⟨fun ⟨j, h1, h2⟩ => ⟨j, by omega, h2⟩, fun ⟨j, h1, h2, h3⟩ => ⟨j, by have : j ≠ m := (fun e => hc (e ▸ h2)); omega, h2, h3⟩⟩
theorem last_le {A : List Int} (h : A.Pairwise (· < ·)) {l : Int} (hl : A.getLast? = some l) : ∀ i ∈ A, i ≤ l := by
  intro i hi
  rcases List.eq_nil_or_concat A with rfl | ⟨A', x, hcat⟩
  · simp at hi
  · rw [List.concat_eq_append] at hcat
    subst hcat
    have hx : x = l := by simpa using hl
    subst hx
    rcases List.mem_append.1 hi with hi | hi
    · have := (List.pairwise_append.1 h).2.2 i hi x (by simp)
      omega
    · simp at hi
      omega
/-- The next id is the next of the list. -/
theorem next_head {X : Nat → Nt} {m : Nat} {A B : List Int} (h : IdsOf (playM X m) (A ++ B)) (hf : ∀ j, j < m → i64k (X j).i) : nextId X A.getLast? m = B.head? := by
  obtain ⟨h1, h2⟩ := next_spec X A.getLast? m
  obtain ⟨hA, hB, hAB⟩ := List.pairwise_append.1 h.1
  have hnot : ∀ i ∈ A, above A.getLast? i = false := fun i hi => by
    cases hl : A.getLast? with
    | none =>
      rw [List.getLast?_eq_none_iff] at hl
      subst hl
      simp at hi
    | some l =>
      have := last_le hA hl i hi
      simp only [above, decide_eq_false_iff_not]
      omega
  have hab : ∀ i ∈ B, above A.getLast? i = true := fun i hi => by
    cases hl : A.getLast? with
    | none => rfl
    | some l =>
      have := hAB l (List.mem_of_getLast? hl) i hi
      simpa [above] using this
  have hin : ∀ j, j < m → cntd (X j) → (X j).i ∈ A ++ B := fun j hj hc => (h.2 _).2 ⟨hf j hj, (play_some X m _).2 ⟨j, hj, hc, rfl⟩⟩
  cases B with
  | nil =>
    cases hn : nextId X A.getLast? m with
    | none => rfl
    | some b =>
      obtain ⟨⟨j, hj, hc, ha, hi⟩, _⟩ := h1 b hn
      have := hnot _ (by simpa using hin j hj hc)
      rw [ha] at this
      cases this
  | cons x B =>
    obtain ⟨_, hs⟩ := (h.2 x).1 (by simp)
    obtain ⟨j, hj, hc, hi⟩ := (play_some X m x).1 hs
    have hax := hab x (by simp)
    cases hn : nextId X A.getLast? m with
    | none =>
      have := h2 hn j hj hc
      rw [hi, hax] at this
      cases this
    | some b =>
      obtain ⟨⟨j', hj', hc', ha', hi'⟩, hmin⟩ := h1 b hn
      have hle := hmin j hj hc (by rw [hi]; exact hax)
      have hb := hin j' hj' hc'
      rw [hi'] at hb ha'
      rcases List.mem_append.1 hb with hb | hb
      · have := hnot b hb
        rw [ha'] at this
        cases this
      · rcases List.mem_cons.1 hb with rfl | hb
        · rfl
        · have := (List.pairwise_cons.1 hB).1 b hb
          omega
def slLen : Value → Nat
  | .slice _ n _ => n
  | _ => 0
section
variable {w w' : World}
theorem ent23 (args : Array Value) (w : World) : (callFunc 23 args).run Try.prog w = .ok (.enter 23 args) w := by
  simp [callFunc, Try.func23]
  rfl
set_option maxRecDepth 100000 in
set_option maxHeartbeats 16000000 in
theorem refIDs_any {A : Option Addr} {m c : Nat} {X : Nat → Nt} (hX : NtCells w A m X) (hm : m ≤ 80) (hf : ∀ j, j < m → i64k (X j).i) {L : List Int} (hL : IdsOf (playM X m) L) (hLn : L.length ≤ 100) :
    Calls Try.prog 13 #[.slice A m c] w fun e w' => ∃ A' c', e = .returned (.slice A' L.length c') ∧ w'.ownsRow w.heap.size 3 1 (.slice A' L.length c') L.length (zv L) ∧ Touch [] w w' := by
  obtain ⟨i0, hi0, hz0, hz1, hz2⟩ := info_parts ids_info
  have HX := Lib.hid hX
  have HF := Lib.hid hf
  have HL := Lib.hid hL
  clear hX hf hL
  go_enter Try.func13, Try.ntmps13
  go_wp2_with fail
  go_loopw [3] (fun v wr => ∃ Ap Bp : List Int, L = Ap ++ Bp ∧ wr.ownsRow w.heap.size 3 1 v Ap.length (zv Ap) ∧ Touch [] w wr) (fun v _ => L.length - slLen v)
  case atStart => exact ⟨[], L, rfl, ⟨rfl, .inl ⟨rfl, rfl⟩⟩, Touch.refl _ _⟩
  case round =>
    obtain ⟨Ap, Bp, hAB, hrow, ht⟩ := hrel
    obtain ⟨Ao, co, rfl⟩ := rowForm hrow
    have RW := Lib.hid hrow
    have TR := Lib.hid ht
    have NH := Lib.hid (next_head (hAB ▸ HL.out) HF.out)
    have HAB := Lib.hid hAB
    clear hrow ht hAB
    go_wp2_with fail
    go_loopw [4, 5, 6] (fun x y v wi => ∃ k : Nat, k ≤ m ∧ v = .int .i64 (k : Int) ∧ x = .int .i64 ((nextId X Ap.getLast? k).getD 0) ∧ y = .bool (nextId X Ap.getLast? k).isSome ∧ Touch [] wr wi) (fun _ _ v _ => m - (intOf v).toNat)
    case atStart => exact ⟨0, by omega, rfl, rfl, rfl, Touch.refl _ _⟩
    case round =>
      obtain ⟨k, hk, rfl, rfl, rfl, hti⟩ := hrel
      have TI := Lib.hid hti
      by_cases hlt : k < m
      · obtain ⟨bA, off, rfl, hbA, c0, c1, c2⟩ := HX.out.new (TR.out.trans hti (by simp)) k hlt
        have lA : bA < wr.heap.size := hbA
        have hlt' : (k : Int) < (m : Int) := by omega
        have RC := Lib.hid (refCounts (X k))
        have es : ∀ LO, nextId X LO (k + 1) = if cntd (X k) ∧ above LO (X k).i = true ∧ under (nextId X LO k) (X k).i = true then some (X k).i else nextId X LO k := fun _ => rfl
        have ES := Lib.hid (es Ap.getLast?)
        clear es hti
        generalize hLO : Ap.getLast? = LO at *
        have HLO := Lib.hid hLO
        clear hLO
        generalize X k = x at *
        obtain ⟨a, nid, n⟩ := x
        simp only at c0 c1 c2 RC ES
        by_cases hc : cntd ⟨a, nid, n⟩
        · rw [show decide (cntd ⟨a, nid, n⟩) = true by simpa using hc] at RC
          rcases List.eq_nil_or_concat Ap with hnil | ⟨A', l, hcat⟩
          · subst hnil
            obtain rfl : none = LO := HLO.out
            simp only [List.length_nil]
            cases hnb : nextId X none k with
            | none =>
              have EN := Lib.hid (ES.out.trans (if_pos ⟨hc, rfl, by rw [hnb]; rfl⟩))
              clear ES
              obtain ⟨b0, hb0⟩ : ∃ b0 : Int, (none : Option Int).getD 0 = b0 := ⟨_, rfl⟩
              rw [hb0]
              have hsm : (none : Option Int).isSome = false := rfl
              rw [hsm]
              clear hb0 hsm hnb
              go_upto_region 6 with fail
              refine wp_region_leaves (wd := wr) (Leaf.const (.slice (some ⟨bA, off, none⟩) m c) :: Leaf.const (.int .i64 (k : Int)) :: Leaf.const (.pointer (some ⟨bA, off + k * 3, none⟩)) :: Leaf.const (.agg #[.int .i64 a, .int .i64 nid, .int .i64 n]) :: Leaf.const (.bool true) :: Leaf.const ((.bool true)) :: Leaf.const (.slice Ao 0 co) :: Leaf.const (.int .i64 0) :: Leaf.const (.bool true) :: Leaf.const ((.bool true)) :: Leaf.const (undef) :: Leaf.const (undef) :: Leaf.const (undef) :: Leaf.const (undef) :: Leaf.const (undef) :: Leaf.const (undef) :: Leaf.const (undef) :: Leaf.const (undef) :: Leaf.const (undef) :: Leaf.const (undef) :: Leaf.const (undef) :: Leaf.const (undef) :: Leaf.const (.bool true) :: Leaf.const ((.bool true)) :: Leaf.const ((.bool true)) :: Leaf.const (.bool false) :: Leaf.const (.bool true) :: Leaf.const ((.bool true)) :: Leaf.const (undef) :: Leaf.const (undef) :: Leaf.const (undef) :: Leaf.const (undef) :: Leaf.const (undef) :: Leaf.const (undef) :: Leaf.const (undef) :: Leaf.const (.bool true) :: Leaf.const ((.bool true)) :: []) (by kernel_rfl) (by kernel_rfl) (by kernel_rfl) ((Touch.refl _ _).drew) (trivial) ?_ ?_
              · intro i o ho ac w ht hk hd
                match i, ho with
                | 0, ho =>
                  have ho' : some _ = some o := ho
                  cases ho'
                  clear ho
                  have e0 := known_slot hk 0 (by kernel_rfl) (v := .slice (some ⟨bA, off, none⟩) m c) rfl
                  exact do_value (wanted_none rfl) (by rw [BigFrame.run_move (.tmp 0) rfl, e0]) rfl
                | 1, ho =>
                  have ho' : some _ = some o := ho
                  cases ho'
                  clear ho
                  have e6 := known_slot hk 6 (by kernel_rfl) (v := .int .i64 (k : Int)) rfl
                  exact do_value (wanted_none rfl) (by rw [BigFrame.run_move (.tmp 6) rfl, e6]) rfl
                | 2, ho =>
                  have ho' : some _ = some o := ho
                  cases ho'
                  clear ho
                  have e13 := has_const (has_dep hd 0 (by kernel_rfl)) rfl rfl rfl (c := (.slice (some ⟨bA, off, none⟩) m c))
                  have e14 := has_const (has_dep hd 1 (by kernel_rfl)) rfl rfl rfl (c := (.int .i64 (k : Int)))
                  exact do_value (wanted_none rfl) (v := .pointer (some ⟨bA, off + k * 3, none⟩)) (run_value rfl (by rw [e13, e14]; simp [go_sem]; omega)) rfl
                | 3, ho =>
                  have ho' : some _ = some o := ho
                  cases ho'
                  clear ho
                  have e15 := has_const (has_dep hd 2 (by kernel_rfl)) rfl rfl rfl (c := (.pointer (some ⟨bA, off + k * 3, none⟩)))
                  have x0 := (ht.cell (a := ⟨bA, off + k * 3, none⟩) lA (by simp)).trans c0
                  have x1 := (ht.cell (a := ⟨bA, off + k * 3 + 1, none⟩) lA (by simp)).trans c1
                  have x2 := (ht.cell (a := ⟨bA, off + k * 3 + 2, none⟩) lA (by simp)).trans c2
                  have lA2 := Nat.lt_of_lt_of_le lA ht.size
                  exact do_value (wanted_none rfl) (v := .agg #[.int .i64 a, .int .i64 nid, .int .i64 n]) (run_value rfl (by rw [e15]; simp [go_sem, x0, x1, x2])) rfl
                | 4, ho =>
                  have ho' : some _ = some o := ho
                  cases ho'
                  clear ho
                  have e16 := has_const (has_dep hd 3 (by kernel_rfl)) rfl rfl rfl (c := (.agg #[.int .i64 a, .int .i64 nid, .int .i64 n]))
                  refine do_enter (wanted_none rfl) (f := 23) (args := #[(.agg #[.int .i64 a, .int .i64 nid, .int .i64 n])]) (by rw [run_go3 23 _ _ rfl, ent23]; simp [eval_c, e16]) ?_
                  exact Calls.leaf (RC.out _)
                | 5, ho =>
                  have ho' : some _ = some o := ho
                  cases ho'
                  clear ho
                  have e17 := has_const (has_dep hd 4 (by kernel_rfl)) rfl rfl rfl (c := (.bool true))
                  exact do_value (wanted_none rfl) (by rw [BigFrame.run_move (.tmp 17) rfl, e17]) rfl
                | 6, ho =>
                  have ho' : some _ = some o := ho
                  cases ho'
                  clear ho
                  have e18 := has_const (has_dep hd 5 (by kernel_rfl)) rfl rfl rfl (c := (.bool true))
                  have e3 := known_slot hk 3 (by kernel_rfl) (v := .slice Ao 0 co) rfl
                  exact do_value (wanted_some (g := 5) rfl rfl rfl e18) (by rw [BigFrame.run_move (.tmp 3) rfl, e3]) rfl
                | 7, ho =>
                  have ho' : some _ = some o := ho
                  cases ho'
                  clear ho
                  have e18 := has_const (has_dep hd 5 (by kernel_rfl)) rfl rfl rfl (c := (.bool true))
                  have e19 := has_const (has_dep hd 6 (by kernel_rfl)) rfl rfl rfl (c := (.slice Ao 0 co))
                  exact do_value (wanted_some (g := 5) rfl rfl rfl e18) (v := .int .i64 0) (run_len3 (x := .tmp 19) rfl Try.underlying33 e19) rfl
                | 8, ho =>
                  have ho' : some _ = some o := ho
                  cases ho'
                  clear ho
                  have e18 := has_const (has_dep hd 5 (by kernel_rfl)) rfl rfl rfl (c := (.bool true))
                  have e20 := has_const (has_dep hd 7 (by kernel_rfl)) rfl rfl rfl (c := (.int .i64 0))
                  exact do_value (wanted_some (g := 5) rfl rfl rfl e18) (v := .bool true) (run_value rfl (by rw [e20]; simp [go_sem])) rfl
                | 9, ho =>
                  have ho' : some _ = some o := ho
                  cases ho'
                  clear ho
                  have e18 := has_const (has_dep hd 5 (by kernel_rfl)) rfl rfl rfl (c := (.bool true))
                  have e21 := has_const (has_dep hd 8 (by kernel_rfl)) rfl rfl rfl (c := (.bool true))
                  exact do_value (wanted_some (g := 5) rfl rfl rfl e18) (by rw [BigFrame.run_move (.tmp 21) rfl, e21]) rfl
                | 10, ho =>
                  have ho' : some _ = some o := ho
                  cases ho'
                  clear ho
                  have e22 := has_const (has_dep hd 9 (by kernel_rfl)) rfl rfl rfl (c := (.bool true))
                  exact do_skip (wanted_not (g := 9) rfl rfl rfl e22) rfl
                | 11, ho =>
                  have ho' : some _ = some o := ho
                  cases ho'
                  clear ho
                  have e22 := has_const (has_dep hd 9 (by kernel_rfl)) rfl rfl rfl (c := (.bool true))
                  exact do_skip (wanted_not (g := 9) rfl rfl rfl e22) rfl
                | 12, ho =>
                  have ho' : some _ = some o := ho
                  cases ho'
                  clear ho
                  have e22 := has_const (has_dep hd 9 (by kernel_rfl)) rfl rfl rfl (c := (.bool true))
                  exact do_skip (wanted_not (g := 9) rfl rfl rfl e22) rfl
                | 13, ho =>
                  have ho' : some _ = some o := ho
                  cases ho'
                  clear ho
                  have e22 := has_const (has_dep hd 9 (by kernel_rfl)) rfl rfl rfl (c := (.bool true))
                  exact do_skip (wanted_not (g := 9) rfl rfl rfl e22) rfl
                | 14, ho =>
                  have ho' : some _ = some o := ho
                  cases ho'
                  clear ho
                  have e22 := has_const (has_dep hd 9 (by kernel_rfl)) rfl rfl rfl (c := (.bool true))
                  exact do_skip (wanted_not (g := 9) rfl rfl rfl e22) rfl
                | 15, ho =>
                  have ho' : some _ = some o := ho
                  cases ho'
                  clear ho
                  have e22 := has_const (has_dep hd 9 (by kernel_rfl)) rfl rfl rfl (c := (.bool true))
                  exact do_skip (wanted_not (g := 9) rfl rfl rfl e22) rfl
                | 16, ho =>
                  have ho' : some _ = some o := ho
                  cases ho'
                  clear ho
                  have e22 := has_const (has_dep hd 9 (by kernel_rfl)) rfl rfl rfl (c := (.bool true))
                  exact do_skip (wanted_not (g := 9) rfl rfl rfl e22) rfl
                | 17, ho =>
                  have ho' : some _ = some o := ho
                  cases ho'
                  clear ho
                  have e22 := has_const (has_dep hd 9 (by kernel_rfl)) rfl rfl rfl (c := (.bool true))
                  exact do_skip (wanted_not (g := 9) rfl rfl rfl e22) rfl
                | 18, ho =>
                  have ho' : some _ = some o := ho
                  cases ho'
                  clear ho
                  have e22 := has_const (has_dep hd 9 (by kernel_rfl)) rfl rfl rfl (c := (.bool true))
                  exact do_skip (wanted_not (g := 9) rfl rfl rfl e22) rfl
                | 19, ho =>
                  have ho' : some _ = some o := ho
                  cases ho'
                  clear ho
                  have e22 := has_const (has_dep hd 9 (by kernel_rfl)) rfl rfl rfl (c := (.bool true))
                  exact do_skip (wanted_not (g := 9) rfl rfl rfl e22) rfl
                | 20, ho =>
                  have ho' : some _ = some o := ho
                  cases ho'
                  clear ho
                  have e22 := has_const (has_dep hd 9 (by kernel_rfl)) rfl rfl rfl (c := (.bool true))
                  exact do_skip (wanted_not (g := 9) rfl rfl rfl e22) rfl
                | 21, ho =>
                  have ho' : some _ = some o := ho
                  cases ho'
                  clear ho
                  have e22 := has_const (has_dep hd 9 (by kernel_rfl)) rfl rfl rfl (c := (.bool true))
                  exact do_skip (wanted_not (g := 9) rfl rfl rfl e22) rfl
                | 22, ho =>
                  have ho' : some _ = some o := ho
                  cases ho'
                  clear ho
                  have e18 := has_const (has_dep hd 5 (by kernel_rfl)) rfl rfl rfl (c := (.bool true))
                  have e22 := has_const (has_dep hd 9 (by kernel_rfl)) rfl rfl rfl (c := (.bool true))
                  exact do_value (wanted_some (g := 5) rfl rfl rfl e18) (by rw [run_pickT (c := .tmp 22) (x := .const (.bool true)) (y := .tmp 34) rfl e22, eval_c]) rfl
                | 23, ho =>
                  have ho' : some _ = some o := ho
                  cases ho'
                  clear ho
                  have e18 := has_const (has_dep hd 5 (by kernel_rfl)) rfl rfl rfl (c := (.bool true))
                  have e35 := has_const (has_dep hd 22 (by kernel_rfl)) rfl rfl rfl (c := (.bool true))
                  exact do_value (wanted_none rfl) (by rw [run_pickT (c := .tmp 18) (x := .tmp 35) (y := .const (.bool false)) rfl e18, e35]) rfl
                | 24, ho =>
                  have ho' : some _ = some o := ho
                  cases ho'
                  clear ho
                  have e36 := has_const (has_dep hd 23 (by kernel_rfl)) rfl rfl rfl (c := (.bool true))
                  exact do_value (wanted_none rfl) (by rw [BigFrame.run_move (.tmp 36) rfl, e36]) rfl
                | 25, ho =>
                  have ho' : some _ = some o := ho
                  cases ho'
                  clear ho
                  have e37 := has_const (has_dep hd 24 (by kernel_rfl)) rfl rfl rfl (c := (.bool true))
                  have e5 := known_slot hk 5 (by kernel_rfl) (v := .bool false) rfl
                  exact do_value (wanted_some (g := 24) rfl rfl rfl e37) (by rw [BigFrame.run_move (.tmp 5) rfl, e5]) rfl
                | 26, ho =>
                  have ho' : some _ = some o := ho
                  cases ho'
                  clear ho
                  have e37 := has_const (has_dep hd 24 (by kernel_rfl)) rfl rfl rfl (c := (.bool true))
                  have e38 := has_const (has_dep hd 25 (by kernel_rfl)) rfl rfl rfl (c := (.bool false))
                  exact do_value (wanted_some (g := 24) rfl rfl rfl e37) (v := .bool true) (run_value rfl (by rw [e38]; simp [go_sem])) rfl
                | 27, ho =>
                  have ho' : some _ = some o := ho
                  cases ho'
                  clear ho
                  have e37 := has_const (has_dep hd 24 (by kernel_rfl)) rfl rfl rfl (c := (.bool true))
                  have e39 := has_const (has_dep hd 26 (by kernel_rfl)) rfl rfl rfl (c := (.bool true))
                  exact do_value (wanted_some (g := 24) rfl rfl rfl e37) (by rw [BigFrame.run_move (.tmp 39) rfl, e39]) rfl
                | 28, ho =>
                  have ho' : some _ = some o := ho
                  cases ho'
                  clear ho
                  have e40 := has_const (has_dep hd 27 (by kernel_rfl)) rfl rfl rfl (c := (.bool true))
                  exact do_skip (wanted_not (g := 27) rfl rfl rfl e40) rfl
                | 29, ho =>
                  have ho' : some _ = some o := ho
                  cases ho'
                  clear ho
                  have e40 := has_const (has_dep hd 27 (by kernel_rfl)) rfl rfl rfl (c := (.bool true))
                  exact do_skip (wanted_not (g := 27) rfl rfl rfl e40) rfl
                | 30, ho =>
                  have ho' : some _ = some o := ho
                  cases ho'
                  clear ho
                  have e40 := has_const (has_dep hd 27 (by kernel_rfl)) rfl rfl rfl (c := (.bool true))
                  exact do_skip (wanted_not (g := 27) rfl rfl rfl e40) rfl
                | 31, ho =>
                  have ho' : some _ = some o := ho
                  cases ho'
                  clear ho
                  have e40 := has_const (has_dep hd 27 (by kernel_rfl)) rfl rfl rfl (c := (.bool true))
                  exact do_skip (wanted_not (g := 27) rfl rfl rfl e40) rfl
                | 32, ho =>
                  have ho' : some _ = some o := ho
                  cases ho'
                  clear ho
                  have e40 := has_const (has_dep hd 27 (by kernel_rfl)) rfl rfl rfl (c := (.bool true))
                  exact do_skip (wanted_not (g := 27) rfl rfl rfl e40) rfl
                | 33, ho =>
                  have ho' : some _ = some o := ho
                  cases ho'
                  clear ho
                  have e40 := has_const (has_dep hd 27 (by kernel_rfl)) rfl rfl rfl (c := (.bool true))
                  exact do_skip (wanted_not (g := 27) rfl rfl rfl e40) rfl
                | 34, ho =>
                  have ho' : some _ = some o := ho
                  cases ho'
                  clear ho
                  have e40 := has_const (has_dep hd 27 (by kernel_rfl)) rfl rfl rfl (c := (.bool true))
                  exact do_skip (wanted_not (g := 27) rfl rfl rfl e40) rfl
                | 35, ho =>
                  have ho' : some _ = some o := ho
                  cases ho'
                  clear ho
                  have e37 := has_const (has_dep hd 24 (by kernel_rfl)) rfl rfl rfl (c := (.bool true))
                  have e40 := has_const (has_dep hd 27 (by kernel_rfl)) rfl rfl rfl (c := (.bool true))
                  exact do_value (wanted_some (g := 24) rfl rfl rfl e37) (by rw [run_pickT (c := .tmp 40) (x := .const (.bool true)) (y := .tmp 47) rfl e40, eval_c]) rfl
                | 36, ho =>
                  have ho' : some _ = some o := ho
                  cases ho'
                  clear ho
                  have e37 := has_const (has_dep hd 24 (by kernel_rfl)) rfl rfl rfl (c := (.bool true))
                  have e48 := has_const (has_dep hd 35 (by kernel_rfl)) rfl rfl rfl (c := (.bool true))
                  exact do_value (wanted_none rfl) (by rw [run_pickT (c := .tmp 37) (x := .tmp 48) (y := .const (.bool false)) rfl e37, e48]) rfl
                | q + 37, ho => exact absurd ho (by simp)
              · intro x' w4 T4 hkn
                simp only [putL, Act.put, List.setIfInBounds_toArray, List.set_cons_succ, List.set_cons_zero]
                have c1 := (T4.cell (a := ⟨bA, off + k * 3 + 1, none⟩) lA (by simp)).trans c1
                have lA := Nat.lt_of_lt_of_le lA T4.size
                have TW := Lib.hid (TI.out.trans T4 (by simp))
                clear T4 c0 c2
                go_wp2_with fail
                go_roundw
                case rel => exact ⟨k + 1, by omega, by go_num, by (try rw [HLO.out]); simp only [EN.out, Option.getD_some], by (try rw [HLO.out]); simp only [EN.out, Option.isSome_some], TW.out⟩
                case measure => simp [intOf]; omega
            | some b0 =>
              have hsm : (some b0 : Option Int).isSome = true := rfl
              have hgd : (some b0 : Option Int).getD 0 = b0 := rfl
              rw [hsm, hgd]
              clear hsm hgd
              by_cases hl : nid < b0
              · have hls : decide (nid < b0) = true := by simpa using hl
                have EN := Lib.hid (ES.out.trans (if_pos ⟨hc, rfl, by rw [hnb]; exact hls⟩))
                clear ES hl hnb
                go_upto_region 6 with fail
                refine wp_region_leaves (wd := wr) (Leaf.const (.slice (some ⟨bA, off, none⟩) m c) :: Leaf.const (.int .i64 (k : Int)) :: Leaf.const (.pointer (some ⟨bA, off + k * 3, none⟩)) :: Leaf.const (.agg #[.int .i64 a, .int .i64 nid, .int .i64 n]) :: Leaf.const (.bool true) :: Leaf.const ((.bool true)) :: Leaf.const (.slice Ao 0 co) :: Leaf.const (.int .i64 0) :: Leaf.const (.bool true) :: Leaf.const ((.bool true)) :: Leaf.const (undef) :: Leaf.const (undef) :: Leaf.const (undef) :: Leaf.const (undef) :: Leaf.const (undef) :: Leaf.const (undef) :: Leaf.const (undef) :: Leaf.const (undef) :: Leaf.const (undef) :: Leaf.const (undef) :: Leaf.const (undef) :: Leaf.const (undef) :: Leaf.const (.bool true) :: Leaf.const ((.bool true)) :: Leaf.const ((.bool true)) :: Leaf.const (.bool true) :: Leaf.const (.bool false) :: Leaf.const ((.bool false)) :: Leaf.const (.slice (some ⟨bA, off, none⟩) m c) :: Leaf.const (.int .i64 (k : Int)) :: Leaf.const (.pointer (some ⟨bA, off + k * 3, none⟩)) :: Leaf.const (.pointer (some ⟨bA, off + k * 3 + 1, none⟩)) :: Leaf.const (.int .i64 nid) :: Leaf.const (.int .i64 b0) :: Leaf.const (.bool true) :: Leaf.const ((.bool true)) :: Leaf.const ((.bool true)) :: []) (by kernel_rfl) (by kernel_rfl) (by kernel_rfl) ((Touch.refl _ _).drew) (trivial) ?_ ?_
                · intro i o ho ac w ht hk hd
                  match i, ho with
                  | 0, ho =>
                    have ho' : some _ = some o := ho
                    cases ho'
                    clear ho
                    have e0 := known_slot hk 0 (by kernel_rfl) (v := .slice (some ⟨bA, off, none⟩) m c) rfl
                    exact do_value (wanted_none rfl) (by rw [BigFrame.run_move (.tmp 0) rfl, e0]) rfl
                  | 1, ho =>
                    have ho' : some _ = some o := ho
                    cases ho'
                    clear ho
                    have e6 := known_slot hk 6 (by kernel_rfl) (v := .int .i64 (k : Int)) rfl
                    exact do_value (wanted_none rfl) (by rw [BigFrame.run_move (.tmp 6) rfl, e6]) rfl
                  | 2, ho =>
                    have ho' : some _ = some o := ho
                    cases ho'
                    clear ho
                    have e13 := has_const (has_dep hd 0 (by kernel_rfl)) rfl rfl rfl (c := (.slice (some ⟨bA, off, none⟩) m c))
                    have e14 := has_const (has_dep hd 1 (by kernel_rfl)) rfl rfl rfl (c := (.int .i64 (k : Int)))
                    exact do_value (wanted_none rfl) (v := .pointer (some ⟨bA, off + k * 3, none⟩)) (run_value rfl (by rw [e13, e14]; simp [go_sem]; omega)) rfl
                  | 3, ho =>
                    have ho' : some _ = some o := ho
                    cases ho'
                    clear ho
                    have e15 := has_const (has_dep hd 2 (by kernel_rfl)) rfl rfl rfl (c := (.pointer (some ⟨bA, off + k * 3, none⟩)))
                    have x0 := (ht.cell (a := ⟨bA, off + k * 3, none⟩) lA (by simp)).trans c0
                    have x1 := (ht.cell (a := ⟨bA, off + k * 3 + 1, none⟩) lA (by simp)).trans c1
                    have x2 := (ht.cell (a := ⟨bA, off + k * 3 + 2, none⟩) lA (by simp)).trans c2
                    have lA2 := Nat.lt_of_lt_of_le lA ht.size
                    exact do_value (wanted_none rfl) (v := .agg #[.int .i64 a, .int .i64 nid, .int .i64 n]) (run_value rfl (by rw [e15]; simp [go_sem, x0, x1, x2])) rfl
                  | 4, ho =>
                    have ho' : some _ = some o := ho
                    cases ho'
                    clear ho
                    have e16 := has_const (has_dep hd 3 (by kernel_rfl)) rfl rfl rfl (c := (.agg #[.int .i64 a, .int .i64 nid, .int .i64 n]))
                    refine do_enter (wanted_none rfl) (f := 23) (args := #[(.agg #[.int .i64 a, .int .i64 nid, .int .i64 n])]) (by rw [run_go3 23 _ _ rfl, ent23]; simp [eval_c, e16]) ?_
                    exact Calls.leaf (RC.out _)
                  | 5, ho =>
                    have ho' : some _ = some o := ho
                    cases ho'
                    clear ho
                    have e17 := has_const (has_dep hd 4 (by kernel_rfl)) rfl rfl rfl (c := (.bool true))
                    exact do_value (wanted_none rfl) (by rw [BigFrame.run_move (.tmp 17) rfl, e17]) rfl
                  | 6, ho =>
                    have ho' : some _ = some o := ho
                    cases ho'
                    clear ho
                    have e18 := has_const (has_dep hd 5 (by kernel_rfl)) rfl rfl rfl (c := (.bool true))
                    have e3 := known_slot hk 3 (by kernel_rfl) (v := .slice Ao 0 co) rfl
                    exact do_value (wanted_some (g := 5) rfl rfl rfl e18) (by rw [BigFrame.run_move (.tmp 3) rfl, e3]) rfl
                  | 7, ho =>
                    have ho' : some _ = some o := ho
                    cases ho'
                    clear ho
                    have e18 := has_const (has_dep hd 5 (by kernel_rfl)) rfl rfl rfl (c := (.bool true))
                    have e19 := has_const (has_dep hd 6 (by kernel_rfl)) rfl rfl rfl (c := (.slice Ao 0 co))
                    exact do_value (wanted_some (g := 5) rfl rfl rfl e18) (v := .int .i64 0) (run_len3 (x := .tmp 19) rfl Try.underlying33 e19) rfl
                  | 8, ho =>
                    have ho' : some _ = some o := ho
                    cases ho'
                    clear ho
                    have e18 := has_const (has_dep hd 5 (by kernel_rfl)) rfl rfl rfl (c := (.bool true))
                    have e20 := has_const (has_dep hd 7 (by kernel_rfl)) rfl rfl rfl (c := (.int .i64 0))
                    exact do_value (wanted_some (g := 5) rfl rfl rfl e18) (v := .bool true) (run_value rfl (by rw [e20]; simp [go_sem])) rfl
                  | 9, ho =>
                    have ho' : some _ = some o := ho
                    cases ho'
                    clear ho
                    have e18 := has_const (has_dep hd 5 (by kernel_rfl)) rfl rfl rfl (c := (.bool true))
                    have e21 := has_const (has_dep hd 8 (by kernel_rfl)) rfl rfl rfl (c := (.bool true))
                    exact do_value (wanted_some (g := 5) rfl rfl rfl e18) (by rw [BigFrame.run_move (.tmp 21) rfl, e21]) rfl
                  | 10, ho =>
                    have ho' : some _ = some o := ho
                    cases ho'
                    clear ho
                    have e22 := has_const (has_dep hd 9 (by kernel_rfl)) rfl rfl rfl (c := (.bool true))
                    exact do_skip (wanted_not (g := 9) rfl rfl rfl e22) rfl
                  | 11, ho =>
                    have ho' : some _ = some o := ho
                    cases ho'
                    clear ho
                    have e22 := has_const (has_dep hd 9 (by kernel_rfl)) rfl rfl rfl (c := (.bool true))
                    exact do_skip (wanted_not (g := 9) rfl rfl rfl e22) rfl
                  | 12, ho =>
                    have ho' : some _ = some o := ho
                    cases ho'
                    clear ho
                    have e22 := has_const (has_dep hd 9 (by kernel_rfl)) rfl rfl rfl (c := (.bool true))
                    exact do_skip (wanted_not (g := 9) rfl rfl rfl e22) rfl
                  | 13, ho =>
                    have ho' : some _ = some o := ho
                    cases ho'
                    clear ho
                    have e22 := has_const (has_dep hd 9 (by kernel_rfl)) rfl rfl rfl (c := (.bool true))
                    exact do_skip (wanted_not (g := 9) rfl rfl rfl e22) rfl
                  | 14, ho =>
                    have ho' : some _ = some o := ho
                    cases ho'
                    clear ho
                    have e22 := has_const (has_dep hd 9 (by kernel_rfl)) rfl rfl rfl (c := (.bool true))
                    exact do_skip (wanted_not (g := 9) rfl rfl rfl e22) rfl
                  | 15, ho =>
                    have ho' : some _ = some o := ho
                    cases ho'
                    clear ho
                    have e22 := has_const (has_dep hd 9 (by kernel_rfl)) rfl rfl rfl (c := (.bool true))
                    exact do_skip (wanted_not (g := 9) rfl rfl rfl e22) rfl
                  | 16, ho =>
                    have ho' : some _ = some o := ho
                    cases ho'
                    clear ho
                    have e22 := has_const (has_dep hd 9 (by kernel_rfl)) rfl rfl rfl (c := (.bool true))
                    exact do_skip (wanted_not (g := 9) rfl rfl rfl e22) rfl
                  | 17, ho =>
                    have ho' : some _ = some o := ho
                    cases ho'
                    clear ho
                    have e22 := has_const (has_dep hd 9 (by kernel_rfl)) rfl rfl rfl (c := (.bool true))
                    exact do_skip (wanted_not (g := 9) rfl rfl rfl e22) rfl
                  | 18, ho =>
                    have ho' : some _ = some o := ho
                    cases ho'
                    clear ho
                    have e22 := has_const (has_dep hd 9 (by kernel_rfl)) rfl rfl rfl (c := (.bool true))
                    exact do_skip (wanted_not (g := 9) rfl rfl rfl e22) rfl
                  | 19, ho =>
                    have ho' : some _ = some o := ho
                    cases ho'
                    clear ho
                    have e22 := has_const (has_dep hd 9 (by kernel_rfl)) rfl rfl rfl (c := (.bool true))
                    exact do_skip (wanted_not (g := 9) rfl rfl rfl e22) rfl
                  | 20, ho =>
                    have ho' : some _ = some o := ho
                    cases ho'
                    clear ho
                    have e22 := has_const (has_dep hd 9 (by kernel_rfl)) rfl rfl rfl (c := (.bool true))
                    exact do_skip (wanted_not (g := 9) rfl rfl rfl e22) rfl
                  | 21, ho =>
                    have ho' : some _ = some o := ho
                    cases ho'
                    clear ho
                    have e22 := has_const (has_dep hd 9 (by kernel_rfl)) rfl rfl rfl (c := (.bool true))
                    exact do_skip (wanted_not (g := 9) rfl rfl rfl e22) rfl
                  | 22, ho =>
                    have ho' : some _ = some o := ho
                    cases ho'
                    clear ho
                    have e18 := has_const (has_dep hd 5 (by kernel_rfl)) rfl rfl rfl (c := (.bool true))
                    have e22 := has_const (has_dep hd 9 (by kernel_rfl)) rfl rfl rfl (c := (.bool true))
                    exact do_value (wanted_some (g := 5) rfl rfl rfl e18) (by rw [run_pickT (c := .tmp 22) (x := .const (.bool true)) (y := .tmp 34) rfl e22, eval_c]) rfl
                  | 23, ho =>
                    have ho' : some _ = some o := ho
                    cases ho'
                    clear ho
                    have e18 := has_const (has_dep hd 5 (by kernel_rfl)) rfl rfl rfl (c := (.bool true))
                    have e35 := has_const (has_dep hd 22 (by kernel_rfl)) rfl rfl rfl (c := (.bool true))
                    exact do_value (wanted_none rfl) (by rw [run_pickT (c := .tmp 18) (x := .tmp 35) (y := .const (.bool false)) rfl e18, e35]) rfl
                  | 24, ho =>
                    have ho' : some _ = some o := ho
                    cases ho'
                    clear ho
                    have e36 := has_const (has_dep hd 23 (by kernel_rfl)) rfl rfl rfl (c := (.bool true))
                    exact do_value (wanted_none rfl) (by rw [BigFrame.run_move (.tmp 36) rfl, e36]) rfl
                  | 25, ho =>
                    have ho' : some _ = some o := ho
                    cases ho'
                    clear ho
                    have e37 := has_const (has_dep hd 24 (by kernel_rfl)) rfl rfl rfl (c := (.bool true))
                    have e5 := known_slot hk 5 (by kernel_rfl) (v := .bool true) rfl
                    exact do_value (wanted_some (g := 24) rfl rfl rfl e37) (by rw [BigFrame.run_move (.tmp 5) rfl, e5]) rfl
                  | 26, ho =>
                    have ho' : some _ = some o := ho
                    cases ho'
                    clear ho
                    have e37 := has_const (has_dep hd 24 (by kernel_rfl)) rfl rfl rfl (c := (.bool true))
                    have e38 := has_const (has_dep hd 25 (by kernel_rfl)) rfl rfl rfl (c := (.bool true))
                    exact do_value (wanted_some (g := 24) rfl rfl rfl e37) (v := .bool false) (run_value rfl (by rw [e38]; simp [go_sem])) rfl
                  | 27, ho =>
                    have ho' : some _ = some o := ho
                    cases ho'
                    clear ho
                    have e37 := has_const (has_dep hd 24 (by kernel_rfl)) rfl rfl rfl (c := (.bool true))
                    have e39 := has_const (has_dep hd 26 (by kernel_rfl)) rfl rfl rfl (c := (.bool false))
                    exact do_value (wanted_some (g := 24) rfl rfl rfl e37) (by rw [BigFrame.run_move (.tmp 39) rfl, e39]) rfl
                  | 28, ho =>
                    have ho' : some _ = some o := ho
                    cases ho'
                    clear ho
                    have e40 := has_const (has_dep hd 27 (by kernel_rfl)) rfl rfl rfl (c := (.bool false))
                    have e0 := known_slot hk 0 (by kernel_rfl) (v := .slice (some ⟨bA, off, none⟩) m c) rfl
                    exact do_value (wanted_some (g := 27) rfl rfl rfl e40) (by rw [BigFrame.run_move (.tmp 0) rfl, e0]) rfl
                  | 29, ho =>
                    have ho' : some _ = some o := ho
                    cases ho'
                    clear ho
                    have e40 := has_const (has_dep hd 27 (by kernel_rfl)) rfl rfl rfl (c := (.bool false))
                    have e6 := known_slot hk 6 (by kernel_rfl) (v := .int .i64 (k : Int)) rfl
                    exact do_value (wanted_some (g := 27) rfl rfl rfl e40) (by rw [BigFrame.run_move (.tmp 6) rfl, e6]) rfl
                  | 30, ho =>
                    have ho' : some _ = some o := ho
                    cases ho'
                    clear ho
                    have e40 := has_const (has_dep hd 27 (by kernel_rfl)) rfl rfl rfl (c := (.bool false))
                    have e41 := has_const (has_dep hd 28 (by kernel_rfl)) rfl rfl rfl (c := (.slice (some ⟨bA, off, none⟩) m c))
                    have e42 := has_const (has_dep hd 29 (by kernel_rfl)) rfl rfl rfl (c := (.int .i64 (k : Int)))
                    exact do_value (wanted_some (g := 27) rfl rfl rfl e40) (v := .pointer (some ⟨bA, off + k * 3, none⟩)) (run_value rfl (by rw [e41, e42]; simp [go_sem]; omega)) rfl
                  | 31, ho =>
                    have ho' : some _ = some o := ho
                    cases ho'
                    clear ho
                    have e40 := has_const (has_dep hd 27 (by kernel_rfl)) rfl rfl rfl (c := (.bool false))
                    have e43 := has_const (has_dep hd 30 (by kernel_rfl)) rfl rfl rfl (c := (.pointer (some ⟨bA, off + k * 3, none⟩)))
                    exact do_value (wanted_some (g := 27) rfl rfl rfl e40) (v := .pointer (some ⟨bA, off + k * 3 + 1, none⟩)) (run_value rfl (by rw [e43]; simp [go_sem])) rfl
                  | 32, ho =>
                    have ho' : some _ = some o := ho
                    cases ho'
                    clear ho
                    have e40 := has_const (has_dep hd 27 (by kernel_rfl)) rfl rfl rfl (c := (.bool false))
                    have e44 := has_const (has_dep hd 31 (by kernel_rfl)) rfl rfl rfl (c := (.pointer (some ⟨bA, off + k * 3 + 1, none⟩)))
                    have x0 := (ht.cell (a := ⟨bA, off + k * 3, none⟩) lA (by simp)).trans c0
                    have x1 := (ht.cell (a := ⟨bA, off + k * 3 + 1, none⟩) lA (by simp)).trans c1
                    have x2 := (ht.cell (a := ⟨bA, off + k * 3 + 2, none⟩) lA (by simp)).trans c2
                    have lA2 := Nat.lt_of_lt_of_le lA ht.size
                    exact do_value (wanted_some (g := 27) rfl rfl rfl e40) (v := .int .i64 nid) (run_value rfl (by rw [e44]; simp [go_sem, x1])) rfl
                  | 33, ho =>
                    have ho' : some _ = some o := ho
                    cases ho'
                    clear ho
                    have e40 := has_const (has_dep hd 27 (by kernel_rfl)) rfl rfl rfl (c := (.bool false))
                    have e4 := known_slot hk 4 (by kernel_rfl) (v := .int .i64 b0) rfl
                    exact do_value (wanted_some (g := 27) rfl rfl rfl e40) (by rw [BigFrame.run_move (.tmp 4) rfl, e4]) rfl
                  | 34, ho =>
                    have ho' : some _ = some o := ho
                    cases ho'
                    clear ho
                    have e40 := has_const (has_dep hd 27 (by kernel_rfl)) rfl rfl rfl (c := (.bool false))
                    have e45 := has_const (has_dep hd 32 (by kernel_rfl)) rfl rfl rfl (c := (.int .i64 nid))
                    have e46 := has_const (has_dep hd 33 (by kernel_rfl)) rfl rfl rfl (c := (.int .i64 b0))
                    exact do_value (wanted_some (g := 27) rfl rfl rfl e40) (v := .bool true) (run_value rfl (by rw [e45, e46]; simp [go_sem, hls])) rfl
                  | 35, ho =>
                    have ho' : some _ = some o := ho
                    cases ho'
                    clear ho
                    have e37 := has_const (has_dep hd 24 (by kernel_rfl)) rfl rfl rfl (c := (.bool true))
                    have e40 := has_const (has_dep hd 27 (by kernel_rfl)) rfl rfl rfl (c := (.bool false))
                    have e47 := has_const (has_dep hd 34 (by kernel_rfl)) rfl rfl rfl (c := (.bool true))
                    exact do_value (wanted_some (g := 24) rfl rfl rfl e37) (by rw [run_pickF (c := .tmp 40) (x := .const (.bool true)) (y := .tmp 47) rfl e40, e47]) rfl
                  | 36, ho =>
                    have ho' : some _ = some o := ho
                    cases ho'
                    clear ho
                    have e37 := has_const (has_dep hd 24 (by kernel_rfl)) rfl rfl rfl (c := (.bool true))
                    have e48 := has_const (has_dep hd 35 (by kernel_rfl)) rfl rfl rfl (c := (.bool true))
                    exact do_value (wanted_none rfl) (by rw [run_pickT (c := .tmp 37) (x := .tmp 48) (y := .const (.bool false)) rfl e37, e48]) rfl
                  | q + 37, ho => exact absurd ho (by simp)
                · intro x' w4 T4 hkn
                  simp only [putL, Act.put, List.setIfInBounds_toArray, List.set_cons_succ, List.set_cons_zero]
                  have c1 := (T4.cell (a := ⟨bA, off + k * 3 + 1, none⟩) lA (by simp)).trans c1
                  have lA := Nat.lt_of_lt_of_le lA T4.size
                  have TW := Lib.hid (TI.out.trans T4 (by simp))
                  clear T4 c0 c2
                  go_wp2_with fail
                  go_roundw
                  case rel => exact ⟨k + 1, by omega, by go_num, by (try rw [HLO.out]); simp only [EN.out, Option.getD_some], by (try rw [HLO.out]); simp only [EN.out, Option.isSome_some], TW.out⟩
                  case measure => simp [intOf]; omega
              · have hls : decide (nid < b0) = false := by simpa using hl
                have EN := Lib.hid (ES.out.trans ((if_neg (fun h => by have := h.2.2; rw [hnb] at this; simp [under] at this; omega)).trans hnb))
                clear ES hl hnb
                go_upto_region 6 with fail
                refine wp_region_leaves (wd := wr) (Leaf.const (.slice (some ⟨bA, off, none⟩) m c) :: Leaf.const (.int .i64 (k : Int)) :: Leaf.const (.pointer (some ⟨bA, off + k * 3, none⟩)) :: Leaf.const (.agg #[.int .i64 a, .int .i64 nid, .int .i64 n]) :: Leaf.const (.bool true) :: Leaf.const ((.bool true)) :: Leaf.const (.slice Ao 0 co) :: Leaf.const (.int .i64 0) :: Leaf.const (.bool true) :: Leaf.const ((.bool true)) :: Leaf.const (undef) :: Leaf.const (undef) :: Leaf.const (undef) :: Leaf.const (undef) :: Leaf.const (undef) :: Leaf.const (undef) :: Leaf.const (undef) :: Leaf.const (undef) :: Leaf.const (undef) :: Leaf.const (undef) :: Leaf.const (undef) :: Leaf.const (undef) :: Leaf.const (.bool true) :: Leaf.const ((.bool true)) :: Leaf.const ((.bool true)) :: Leaf.const (.bool true) :: Leaf.const (.bool false) :: Leaf.const ((.bool false)) :: Leaf.const (.slice (some ⟨bA, off, none⟩) m c) :: Leaf.const (.int .i64 (k : Int)) :: Leaf.const (.pointer (some ⟨bA, off + k * 3, none⟩)) :: Leaf.const (.pointer (some ⟨bA, off + k * 3 + 1, none⟩)) :: Leaf.const (.int .i64 nid) :: Leaf.const (.int .i64 b0) :: Leaf.const (.bool false) :: Leaf.const ((.bool false)) :: Leaf.const ((.bool false)) :: []) (by kernel_rfl) (by kernel_rfl) (by kernel_rfl) ((Touch.refl _ _).drew) (trivial) ?_ ?_
                · intro i o ho ac w ht hk hd
                  match i, ho with
                  | 0, ho =>
                    have ho' : some _ = some o := ho
                    cases ho'
                    clear ho
                    have e0 := known_slot hk 0 (by kernel_rfl) (v := .slice (some ⟨bA, off, none⟩) m c) rfl
                    exact do_value (wanted_none rfl) (by rw [BigFrame.run_move (.tmp 0) rfl, e0]) rfl
                  | 1, ho =>
                    have ho' : some _ = some o := ho
                    cases ho'
                    clear ho
                    have e6 := known_slot hk 6 (by kernel_rfl) (v := .int .i64 (k : Int)) rfl
                    exact do_value (wanted_none rfl) (by rw [BigFrame.run_move (.tmp 6) rfl, e6]) rfl
                  | 2, ho =>
                    have ho' : some _ = some o := ho
                    cases ho'
                    clear ho
                    have e13 := has_const (has_dep hd 0 (by kernel_rfl)) rfl rfl rfl (c := (.slice (some ⟨bA, off, none⟩) m c))
                    have e14 := has_const (has_dep hd 1 (by kernel_rfl)) rfl rfl rfl (c := (.int .i64 (k : Int)))
                    exact do_value (wanted_none rfl) (v := .pointer (some ⟨bA, off + k * 3, none⟩)) (run_value rfl (by rw [e13, e14]; simp [go_sem]; omega)) rfl
                  | 3, ho =>
                    have ho' : some _ = some o := ho
                    cases ho'
                    clear ho
                    have e15 := has_const (has_dep hd 2 (by kernel_rfl)) rfl rfl rfl (c := (.pointer (some ⟨bA, off + k * 3, none⟩)))
                    have x0 := (ht.cell (a := ⟨bA, off + k * 3, none⟩) lA (by simp)).trans c0
                    have x1 := (ht.cell (a := ⟨bA, off + k * 3 + 1, none⟩) lA (by simp)).trans c1
                    have x2 := (ht.cell (a := ⟨bA, off + k * 3 + 2, none⟩) lA (by simp)).trans c2
                    have lA2 := Nat.lt_of_lt_of_le lA ht.size
                    exact do_value (wanted_none rfl) (v := .agg #[.int .i64 a, .int .i64 nid, .int .i64 n]) (run_value rfl (by rw [e15]; simp [go_sem, x0, x1, x2])) rfl
                  | 4, ho =>
                    have ho' : some _ = some o := ho
                    cases ho'
                    clear ho
                    have e16 := has_const (has_dep hd 3 (by kernel_rfl)) rfl rfl rfl (c := (.agg #[.int .i64 a, .int .i64 nid, .int .i64 n]))
                    refine do_enter (wanted_none rfl) (f := 23) (args := #[(.agg #[.int .i64 a, .int .i64 nid, .int .i64 n])]) (by rw [run_go3 23 _ _ rfl, ent23]; simp [eval_c, e16]) ?_
                    exact Calls.leaf (RC.out _)
                  | 5, ho =>
                    have ho' : some _ = some o := ho
                    cases ho'
                    clear ho
                    have e17 := has_const (has_dep hd 4 (by kernel_rfl)) rfl rfl rfl (c := (.bool true))
                    exact do_value (wanted_none rfl) (by rw [BigFrame.run_move (.tmp 17) rfl, e17]) rfl
                  | 6, ho =>
                    have ho' : some _ = some o := ho
                    cases ho'
                    clear ho
                    have e18 := has_const (has_dep hd 5 (by kernel_rfl)) rfl rfl rfl (c := (.bool true))
                    have e3 := known_slot hk 3 (by kernel_rfl) (v := .slice Ao 0 co) rfl
                    exact do_value (wanted_some (g := 5) rfl rfl rfl e18) (by rw [BigFrame.run_move (.tmp 3) rfl, e3]) rfl
                  | 7, ho =>
                    have ho' : some _ = some o := ho
                    cases ho'
                    clear ho
                    have e18 := has_const (has_dep hd 5 (by kernel_rfl)) rfl rfl rfl (c := (.bool true))
                    have e19 := has_const (has_dep hd 6 (by kernel_rfl)) rfl rfl rfl (c := (.slice Ao 0 co))
                    exact do_value (wanted_some (g := 5) rfl rfl rfl e18) (v := .int .i64 0) (run_len3 (x := .tmp 19) rfl Try.underlying33 e19) rfl
                  | 8, ho =>
                    have ho' : some _ = some o := ho
                    cases ho'
                    clear ho
                    have e18 := has_const (has_dep hd 5 (by kernel_rfl)) rfl rfl rfl (c := (.bool true))
                    have e20 := has_const (has_dep hd 7 (by kernel_rfl)) rfl rfl rfl (c := (.int .i64 0))
                    exact do_value (wanted_some (g := 5) rfl rfl rfl e18) (v := .bool true) (run_value rfl (by rw [e20]; simp [go_sem])) rfl
                  | 9, ho =>
                    have ho' : some _ = some o := ho
                    cases ho'
                    clear ho
                    have e18 := has_const (has_dep hd 5 (by kernel_rfl)) rfl rfl rfl (c := (.bool true))
                    have e21 := has_const (has_dep hd 8 (by kernel_rfl)) rfl rfl rfl (c := (.bool true))
                    exact do_value (wanted_some (g := 5) rfl rfl rfl e18) (by rw [BigFrame.run_move (.tmp 21) rfl, e21]) rfl
                  | 10, ho =>
                    have ho' : some _ = some o := ho
                    cases ho'
                    clear ho
                    have e22 := has_const (has_dep hd 9 (by kernel_rfl)) rfl rfl rfl (c := (.bool true))
                    exact do_skip (wanted_not (g := 9) rfl rfl rfl e22) rfl
                  | 11, ho =>
                    have ho' : some _ = some o := ho
                    cases ho'
                    clear ho
                    have e22 := has_const (has_dep hd 9 (by kernel_rfl)) rfl rfl rfl (c := (.bool true))
                    exact do_skip (wanted_not (g := 9) rfl rfl rfl e22) rfl
                  | 12, ho =>
                    have ho' : some _ = some o := ho
                    cases ho'
                    clear ho
                    have e22 := has_const (has_dep hd 9 (by kernel_rfl)) rfl rfl rfl (c := (.bool true))
                    exact do_skip (wanted_not (g := 9) rfl rfl rfl e22) rfl
                  | 13, ho =>
                    have ho' : some _ = some o := ho
                    cases ho'
                    clear ho
                    have e22 := has_const (has_dep hd 9 (by kernel_rfl)) rfl rfl rfl (c := (.bool true))
                    exact do_skip (wanted_not (g := 9) rfl rfl rfl e22) rfl
                  | 14, ho =>
                    have ho' : some _ = some o := ho
                    cases ho'
                    clear ho
                    have e22 := has_const (has_dep hd 9 (by kernel_rfl)) rfl rfl rfl (c := (.bool true))
                    exact do_skip (wanted_not (g := 9) rfl rfl rfl e22) rfl
                  | 15, ho =>
                    have ho' : some _ = some o := ho
                    cases ho'
                    clear ho
                    have e22 := has_const (has_dep hd 9 (by kernel_rfl)) rfl rfl rfl (c := (.bool true))
                    exact do_skip (wanted_not (g := 9) rfl rfl rfl e22) rfl
                  | 16, ho =>
                    have ho' : some _ = some o := ho
                    cases ho'
                    clear ho
                    have e22 := has_const (has_dep hd 9 (by kernel_rfl)) rfl rfl rfl (c := (.bool true))
                    exact do_skip (wanted_not (g := 9) rfl rfl rfl e22) rfl
                  | 17, ho =>
                    have ho' : some _ = some o := ho
                    cases ho'
                    clear ho
                    have e22 := has_const (has_dep hd 9 (by kernel_rfl)) rfl rfl rfl (c := (.bool true))
                    exact do_skip (wanted_not (g := 9) rfl rfl rfl e22) rfl
                  | 18, ho =>
                    have ho' : some _ = some o := ho
                    cases ho'
                    clear ho
                    have e22 := has_const (has_dep hd 9 (by kernel_rfl)) rfl rfl rfl (c := (.bool true))
                    exact do_skip (wanted_not (g := 9) rfl rfl rfl e22) rfl
                  | 19, ho =>
                    have ho' : some _ = some o := ho
                    cases ho'
                    clear ho
                    have e22 := has_const (has_dep hd 9 (by kernel_rfl)) rfl rfl rfl (c := (.bool true))
                    exact do_skip (wanted_not (g := 9) rfl rfl rfl e22) rfl
                  | 20, ho =>
                    have ho' : some _ = some o := ho
                    cases ho'
                    clear ho
                    have e22 := has_const (has_dep hd 9 (by kernel_rfl)) rfl rfl rfl (c := (.bool true))
                    exact do_skip (wanted_not (g := 9) rfl rfl rfl e22) rfl
                  | 21, ho =>
                    have ho' : some _ = some o := ho
                    cases ho'
                    clear ho
                    have e22 := has_const (has_dep hd 9 (by kernel_rfl)) rfl rfl rfl (c := (.bool true))
                    exact do_skip (wanted_not (g := 9) rfl rfl rfl e22) rfl
                  | 22, ho =>
                    have ho' : some _ = some o := ho
                    cases ho'
                    clear ho
                    have e18 := has_const (has_dep hd 5 (by kernel_rfl)) rfl rfl rfl (c := (.bool true))
                    have e22 := has_const (has_dep hd 9 (by kernel_rfl)) rfl rfl rfl (c := (.bool true))
                    exact do_value (wanted_some (g := 5) rfl rfl rfl e18) (by rw [run_pickT (c := .tmp 22) (x := .const (.bool true)) (y := .tmp 34) rfl e22, eval_c]) rfl
                  | 23, ho =>
                    have ho' : some _ = some o := ho
                    cases ho'
                    clear ho
                    have e18 := has_const (has_dep hd 5 (by kernel_rfl)) rfl rfl rfl (c := (.bool true))
                    have e35 := has_const (has_dep hd 22 (by kernel_rfl)) rfl rfl rfl (c := (.bool true))
                    exact do_value (wanted_none rfl) (by rw [run_pickT (c := .tmp 18) (x := .tmp 35) (y := .const (.bool false)) rfl e18, e35]) rfl
                  | 24, ho =>
                    have ho' : some _ = some o := ho
                    cases ho'
                    clear ho
                    have e36 := has_const (has_dep hd 23 (by kernel_rfl)) rfl rfl rfl (c := (.bool true))
                    exact do_value (wanted_none rfl) (by rw [BigFrame.run_move (.tmp 36) rfl, e36]) rfl
                  | 25, ho =>
                    have ho' : some _ = some o := ho
                    cases ho'
                    clear ho
                    have e37 := has_const (has_dep hd 24 (by kernel_rfl)) rfl rfl rfl (c := (.bool true))
                    have e5 := known_slot hk 5 (by kernel_rfl) (v := .bool true) rfl
                    exact do_value (wanted_some (g := 24) rfl rfl rfl e37) (by rw [BigFrame.run_move (.tmp 5) rfl, e5]) rfl
                  | 26, ho =>
                    have ho' : some _ = some o := ho
                    cases ho'
                    clear ho
                    have e37 := has_const (has_dep hd 24 (by kernel_rfl)) rfl rfl rfl (c := (.bool true))
                    have e38 := has_const (has_dep hd 25 (by kernel_rfl)) rfl rfl rfl (c := (.bool true))
                    exact do_value (wanted_some (g := 24) rfl rfl rfl e37) (v := .bool false) (run_value rfl (by rw [e38]; simp [go_sem])) rfl
                  | 27, ho =>
                    have ho' : some _ = some o := ho
                    cases ho'
                    clear ho
                    have e37 := has_const (has_dep hd 24 (by kernel_rfl)) rfl rfl rfl (c := (.bool true))
                    have e39 := has_const (has_dep hd 26 (by kernel_rfl)) rfl rfl rfl (c := (.bool false))
                    exact do_value (wanted_some (g := 24) rfl rfl rfl e37) (by rw [BigFrame.run_move (.tmp 39) rfl, e39]) rfl
                  | 28, ho =>
                    have ho' : some _ = some o := ho
                    cases ho'
                    clear ho
                    have e40 := has_const (has_dep hd 27 (by kernel_rfl)) rfl rfl rfl (c := (.bool false))
                    have e0 := known_slot hk 0 (by kernel_rfl) (v := .slice (some ⟨bA, off, none⟩) m c) rfl
                    exact do_value (wanted_some (g := 27) rfl rfl rfl e40) (by rw [BigFrame.run_move (.tmp 0) rfl, e0]) rfl
                  | 29, ho =>
                    have ho' : some _ = some o := ho
                    cases ho'
                    clear ho
                    have e40 := has_const (has_dep hd 27 (by kernel_rfl)) rfl rfl rfl (c := (.bool false))
                    have e6 := known_slot hk 6 (by kernel_rfl) (v := .int .i64 (k : Int)) rfl
                    exact do_value (wanted_some (g := 27) rfl rfl rfl e40) (by rw [BigFrame.run_move (.tmp 6) rfl, e6]) rfl
                  | 30, ho =>
                    have ho' : some _ = some o := ho
                    cases ho'
                    clear ho
                    have e40 := has_const (has_dep hd 27 (by kernel_rfl)) rfl rfl rfl (c := (.bool false))
                    have e41 := has_const (has_dep hd 28 (by kernel_rfl)) rfl rfl rfl (c := (.slice (some ⟨bA, off, none⟩) m c))
                    have e42 := has_const (has_dep hd 29 (by kernel_rfl)) rfl rfl rfl (c := (.int .i64 (k : Int)))
                    exact do_value (wanted_some (g := 27) rfl rfl rfl e40) (v := .pointer (some ⟨bA, off + k * 3, none⟩)) (run_value rfl (by rw [e41, e42]; simp [go_sem]; omega)) rfl
                  | 31, ho =>
                    have ho' : some _ = some o := ho
                    cases ho'
                    clear ho
                    have e40 := has_const (has_dep hd 27 (by kernel_rfl)) rfl rfl rfl (c := (.bool false))
                    have e43 := has_const (has_dep hd 30 (by kernel_rfl)) rfl rfl rfl (c := (.pointer (some ⟨bA, off + k * 3, none⟩)))
                    exact do_value (wanted_some (g := 27) rfl rfl rfl e40) (v := .pointer (some ⟨bA, off + k * 3 + 1, none⟩)) (run_value rfl (by rw [e43]; simp [go_sem])) rfl
                  | 32, ho =>
                    have ho' : some _ = some o := ho
                    cases ho'
                    clear ho
                    have e40 := has_const (has_dep hd 27 (by kernel_rfl)) rfl rfl rfl (c := (.bool false))
                    have e44 := has_const (has_dep hd 31 (by kernel_rfl)) rfl rfl rfl (c := (.pointer (some ⟨bA, off + k * 3 + 1, none⟩)))
                    have x0 := (ht.cell (a := ⟨bA, off + k * 3, none⟩) lA (by simp)).trans c0
                    have x1 := (ht.cell (a := ⟨bA, off + k * 3 + 1, none⟩) lA (by simp)).trans c1
                    have x2 := (ht.cell (a := ⟨bA, off + k * 3 + 2, none⟩) lA (by simp)).trans c2
                    have lA2 := Nat.lt_of_lt_of_le lA ht.size
                    exact do_value (wanted_some (g := 27) rfl rfl rfl e40) (v := .int .i64 nid) (run_value rfl (by rw [e44]; simp [go_sem, x1])) rfl
                  | 33, ho =>
                    have ho' : some _ = some o := ho
                    cases ho'
                    clear ho
                    have e40 := has_const (has_dep hd 27 (by kernel_rfl)) rfl rfl rfl (c := (.bool false))
                    have e4 := known_slot hk 4 (by kernel_rfl) (v := .int .i64 b0) rfl
                    exact do_value (wanted_some (g := 27) rfl rfl rfl e40) (by rw [BigFrame.run_move (.tmp 4) rfl, e4]) rfl
                  | 34, ho =>
                    have ho' : some _ = some o := ho
                    cases ho'
                    clear ho
                    have e40 := has_const (has_dep hd 27 (by kernel_rfl)) rfl rfl rfl (c := (.bool false))
                    have e45 := has_const (has_dep hd 32 (by kernel_rfl)) rfl rfl rfl (c := (.int .i64 nid))
                    have e46 := has_const (has_dep hd 33 (by kernel_rfl)) rfl rfl rfl (c := (.int .i64 b0))
                    exact do_value (wanted_some (g := 27) rfl rfl rfl e40) (v := .bool false) (run_value rfl (by rw [e45, e46]; simp [go_sem, hls])) rfl
                  | 35, ho =>
                    have ho' : some _ = some o := ho
                    cases ho'
                    clear ho
                    have e37 := has_const (has_dep hd 24 (by kernel_rfl)) rfl rfl rfl (c := (.bool true))
                    have e40 := has_const (has_dep hd 27 (by kernel_rfl)) rfl rfl rfl (c := (.bool false))
                    have e47 := has_const (has_dep hd 34 (by kernel_rfl)) rfl rfl rfl (c := (.bool false))
                    exact do_value (wanted_some (g := 24) rfl rfl rfl e37) (by rw [run_pickF (c := .tmp 40) (x := .const (.bool true)) (y := .tmp 47) rfl e40, e47]) rfl
                  | 36, ho =>
                    have ho' : some _ = some o := ho
                    cases ho'
                    clear ho
                    have e37 := has_const (has_dep hd 24 (by kernel_rfl)) rfl rfl rfl (c := (.bool true))
                    have e48 := has_const (has_dep hd 35 (by kernel_rfl)) rfl rfl rfl (c := (.bool false))
                    exact do_value (wanted_none rfl) (by rw [run_pickT (c := .tmp 37) (x := .tmp 48) (y := .const (.bool false)) rfl e37, e48]) rfl
                  | q + 37, ho => exact absurd ho (by simp)
                · intro x' w4 T4 hkn
                  simp only [putL, Act.put, List.setIfInBounds_toArray, List.set_cons_succ, List.set_cons_zero]
                  have c1 := (T4.cell (a := ⟨bA, off + k * 3 + 1, none⟩) lA (by simp)).trans c1
                  have lA := Nat.lt_of_lt_of_le lA T4.size
                  have TW := Lib.hid (TI.out.trans T4 (by simp))
                  clear T4 c0 c2
                  go_wp2_with fail
                  go_roundw
                  case rel => exact ⟨k + 1, by omega, by go_num, by (try rw [HLO.out]); simp only [EN.out, Option.getD_some], by (try rw [HLO.out]); simp only [EN.out, Option.isSome_some], TW.out⟩
                  case measure => simp [intOf]; omega
          · rw [List.concat_eq_append] at hcat
            subst hcat
            obtain rfl : some l = LO := by have := HLO.out; simpa using this
            obtain ⟨na, hna⟩ : ∃ na, A'.length = na := ⟨_, rfl⟩
            have hln : (A' ++ [l]).length = na + 1 := by simp [hna]
            have hn9 : na < 1000 := by
              have := congrArg List.length HAB.out
              simp only [List.length_append] at this
              omega
            obtain ⟨bo, rfl, hbo, lo, co0⟩ := row_cell (TI.out.row RW.out (by simp)) (show (A' ++ [l])[na]? = some l by subst hna; simp)
            rw [hln]
            by_cases hgl : l < nid
            · have hgt : decide (l < nid) = true := by simpa using hgl
              clear hgl
              cases hnb : nextId X (some l) k with
              | none =>
                have EN := Lib.hid (ES.out.trans (if_pos ⟨hc, hgt, by rw [hnb]; rfl⟩))
                clear ES
                obtain ⟨b0, hb0⟩ : ∃ b0 : Int, (none : Option Int).getD 0 = b0 := ⟨_, rfl⟩
                rw [hb0]
                have hsm : (none : Option Int).isSome = false := rfl
                rw [hsm]
                clear hb0 hsm hnb
                go_upto_region 6 with fail
                refine wp_region_leaves (wd := wr) (Leaf.const (.slice (some ⟨bA, off, none⟩) m c) :: Leaf.const (.int .i64 (k : Int)) :: Leaf.const (.pointer (some ⟨bA, off + k * 3, none⟩)) :: Leaf.const (.agg #[.int .i64 a, .int .i64 nid, .int .i64 n]) :: Leaf.const (.bool true) :: Leaf.const ((.bool true)) :: Leaf.const (.slice (some ⟨bo, 0, none⟩) (na + 1) co) :: Leaf.const (.int .i64 ((na + 1) : Nat)) :: Leaf.const (.bool false) :: Leaf.const ((.bool false)) :: Leaf.const (.slice (some ⟨bA, off, none⟩) m c) :: Leaf.const (.int .i64 (k : Int)) :: Leaf.const (.pointer (some ⟨bA, off + k * 3, none⟩)) :: Leaf.const (.pointer (some ⟨bA, off + k * 3 + 1, none⟩)) :: Leaf.const (.int .i64 nid) :: Leaf.const (.slice (some ⟨bo, 0, none⟩) (na + 1) co) :: Leaf.const (.slice (some ⟨bo, 0, none⟩) (na + 1) co) :: Leaf.const (.int .i64 ((na + 1) : Nat)) :: Leaf.const (.int .i64 (na : Int)) :: Leaf.const (.pointer (some ⟨bo, na, none⟩)) :: Leaf.const (.int .i64 l) :: Leaf.const (.bool true) :: Leaf.const ((.bool true)) :: Leaf.const ((.bool true)) :: Leaf.const ((.bool true)) :: Leaf.const (.bool false) :: Leaf.const (.bool true) :: Leaf.const ((.bool true)) :: Leaf.const (undef) :: Leaf.const (undef) :: Leaf.const (undef) :: Leaf.const (undef) :: Leaf.const (undef) :: Leaf.const (undef) :: Leaf.const (undef) :: Leaf.const (.bool true) :: Leaf.const ((.bool true)) :: []) (by kernel_rfl) (by kernel_rfl) (by kernel_rfl) ((Touch.refl _ _).drew) (trivial) ?_ ?_
                · intro i o ho ac w ht hk hd
                  match i, ho with
                  | 0, ho =>
                    have ho' : some _ = some o := ho
                    cases ho'
                    clear ho
                    have e0 := known_slot hk 0 (by kernel_rfl) (v := .slice (some ⟨bA, off, none⟩) m c) rfl
                    exact do_value (wanted_none rfl) (by rw [BigFrame.run_move (.tmp 0) rfl, e0]) rfl
                  | 1, ho =>
                    have ho' : some _ = some o := ho
                    cases ho'
                    clear ho
                    have e6 := known_slot hk 6 (by kernel_rfl) (v := .int .i64 (k : Int)) rfl
                    exact do_value (wanted_none rfl) (by rw [BigFrame.run_move (.tmp 6) rfl, e6]) rfl
                  | 2, ho =>
                    have ho' : some _ = some o := ho
                    cases ho'
                    clear ho
                    have e13 := has_const (has_dep hd 0 (by kernel_rfl)) rfl rfl rfl (c := (.slice (some ⟨bA, off, none⟩) m c))
                    have e14 := has_const (has_dep hd 1 (by kernel_rfl)) rfl rfl rfl (c := (.int .i64 (k : Int)))
                    exact do_value (wanted_none rfl) (v := .pointer (some ⟨bA, off + k * 3, none⟩)) (run_value rfl (by rw [e13, e14]; simp [go_sem]; omega)) rfl
                  | 3, ho =>
                    have ho' : some _ = some o := ho
                    cases ho'
                    clear ho
                    have e15 := has_const (has_dep hd 2 (by kernel_rfl)) rfl rfl rfl (c := (.pointer (some ⟨bA, off + k * 3, none⟩)))
                    have x0 := (ht.cell (a := ⟨bA, off + k * 3, none⟩) lA (by simp)).trans c0
                    have x1 := (ht.cell (a := ⟨bA, off + k * 3 + 1, none⟩) lA (by simp)).trans c1
                    have x2 := (ht.cell (a := ⟨bA, off + k * 3 + 2, none⟩) lA (by simp)).trans c2
                    have lA2 := Nat.lt_of_lt_of_le lA ht.size
                    exact do_value (wanted_none rfl) (v := .agg #[.int .i64 a, .int .i64 nid, .int .i64 n]) (run_value rfl (by rw [e15]; simp [go_sem, x0, x1, x2])) rfl
                  | 4, ho =>
                    have ho' : some _ = some o := ho
                    cases ho'
                    clear ho
                    have e16 := has_const (has_dep hd 3 (by kernel_rfl)) rfl rfl rfl (c := (.agg #[.int .i64 a, .int .i64 nid, .int .i64 n]))
                    refine do_enter (wanted_none rfl) (f := 23) (args := #[(.agg #[.int .i64 a, .int .i64 nid, .int .i64 n])]) (by rw [run_go3 23 _ _ rfl, ent23]; simp [eval_c, e16]) ?_
                    exact Calls.leaf (RC.out _)
                  | 5, ho =>
                    have ho' : some _ = some o := ho
                    cases ho'
                    clear ho
                    have e17 := has_const (has_dep hd 4 (by kernel_rfl)) rfl rfl rfl (c := (.bool true))
                    exact do_value (wanted_none rfl) (by rw [BigFrame.run_move (.tmp 17) rfl, e17]) rfl
                  | 6, ho =>
                    have ho' : some _ = some o := ho
                    cases ho'
                    clear ho
                    have e18 := has_const (has_dep hd 5 (by kernel_rfl)) rfl rfl rfl (c := (.bool true))
                    have e3 := known_slot hk 3 (by kernel_rfl) (v := .slice (some ⟨bo, 0, none⟩) (na + 1) co) rfl
                    exact do_value (wanted_some (g := 5) rfl rfl rfl e18) (by rw [BigFrame.run_move (.tmp 3) rfl, e3]) rfl
                  | 7, ho =>
                    have ho' : some _ = some o := ho
                    cases ho'
                    clear ho
                    have e18 := has_const (has_dep hd 5 (by kernel_rfl)) rfl rfl rfl (c := (.bool true))
                    have e19 := has_const (has_dep hd 6 (by kernel_rfl)) rfl rfl rfl (c := (.slice (some ⟨bo, 0, none⟩) (na + 1) co))
                    exact do_value (wanted_some (g := 5) rfl rfl rfl e18) (v := .int .i64 ((na + 1) : Nat)) (run_len3 (x := .tmp 19) rfl Try.underlying33 e19) rfl
                  | 8, ho =>
                    have ho' : some _ = some o := ho
                    cases ho'
                    clear ho
                    have e18 := has_const (has_dep hd 5 (by kernel_rfl)) rfl rfl rfl (c := (.bool true))
                    have e20 := has_const (has_dep hd 7 (by kernel_rfl)) rfl rfl rfl (c := (.int .i64 ((na + 1) : Nat)))
                    exact do_value (wanted_some (g := 5) rfl rfl rfl e18) (v := .bool false) (run_value rfl (by rw [e20]; simp [go_sem]; omega)) rfl
                  | 9, ho =>
                    have ho' : some _ = some o := ho
                    cases ho'
                    clear ho
                    have e18 := has_const (has_dep hd 5 (by kernel_rfl)) rfl rfl rfl (c := (.bool true))
                    have e21 := has_const (has_dep hd 8 (by kernel_rfl)) rfl rfl rfl (c := (.bool false))
                    exact do_value (wanted_some (g := 5) rfl rfl rfl e18) (by rw [BigFrame.run_move (.tmp 21) rfl, e21]) rfl
                  | 10, ho =>
                    have ho' : some _ = some o := ho
                    cases ho'
                    clear ho
                    have e22 := has_const (has_dep hd 9 (by kernel_rfl)) rfl rfl rfl (c := (.bool false))
                    have e0 := known_slot hk 0 (by kernel_rfl) (v := .slice (some ⟨bA, off, none⟩) m c) rfl
                    exact do_value (wanted_some (g := 9) rfl rfl rfl e22) (by rw [BigFrame.run_move (.tmp 0) rfl, e0]) rfl
                  | 11, ho =>
                    have ho' : some _ = some o := ho
                    cases ho'
                    clear ho
                    have e22 := has_const (has_dep hd 9 (by kernel_rfl)) rfl rfl rfl (c := (.bool false))
                    have e6 := known_slot hk 6 (by kernel_rfl) (v := .int .i64 (k : Int)) rfl
                    exact do_value (wanted_some (g := 9) rfl rfl rfl e22) (by rw [BigFrame.run_move (.tmp 6) rfl, e6]) rfl
                  | 12, ho =>
                    have ho' : some _ = some o := ho
                    cases ho'
                    clear ho
                    have e22 := has_const (has_dep hd 9 (by kernel_rfl)) rfl rfl rfl (c := (.bool false))
                    have e23 := has_const (has_dep hd 10 (by kernel_rfl)) rfl rfl rfl (c := (.slice (some ⟨bA, off, none⟩) m c))
                    have e24 := has_const (has_dep hd 11 (by kernel_rfl)) rfl rfl rfl (c := (.int .i64 (k : Int)))
                    exact do_value (wanted_some (g := 9) rfl rfl rfl e22) (v := .pointer (some ⟨bA, off + k * 3, none⟩)) (run_value rfl (by rw [e23, e24]; simp [go_sem]; omega)) rfl
                  | 13, ho =>
                    have ho' : some _ = some o := ho
                    cases ho'
                    clear ho
                    have e22 := has_const (has_dep hd 9 (by kernel_rfl)) rfl rfl rfl (c := (.bool false))
                    have e25 := has_const (has_dep hd 12 (by kernel_rfl)) rfl rfl rfl (c := (.pointer (some ⟨bA, off + k * 3, none⟩)))
                    exact do_value (wanted_some (g := 9) rfl rfl rfl e22) (v := .pointer (some ⟨bA, off + k * 3 + 1, none⟩)) (run_value rfl (by rw [e25]; simp [go_sem])) rfl
                  | 14, ho =>
                    have ho' : some _ = some o := ho
                    cases ho'
                    clear ho
                    have e22 := has_const (has_dep hd 9 (by kernel_rfl)) rfl rfl rfl (c := (.bool false))
                    have e26 := has_const (has_dep hd 13 (by kernel_rfl)) rfl rfl rfl (c := (.pointer (some ⟨bA, off + k * 3 + 1, none⟩)))
                    have x0 := (ht.cell (a := ⟨bA, off + k * 3, none⟩) lA (by simp)).trans c0
                    have x1 := (ht.cell (a := ⟨bA, off + k * 3 + 1, none⟩) lA (by simp)).trans c1
                    have x2 := (ht.cell (a := ⟨bA, off + k * 3 + 2, none⟩) lA (by simp)).trans c2
                    have lA2 := Nat.lt_of_lt_of_le lA ht.size
                    exact do_value (wanted_some (g := 9) rfl rfl rfl e22) (v := .int .i64 nid) (run_value rfl (by rw [e26]; simp [go_sem, x1])) rfl
                  | 15, ho =>
                    have ho' : some _ = some o := ho
                    cases ho'
                    clear ho
                    have e22 := has_const (has_dep hd 9 (by kernel_rfl)) rfl rfl rfl (c := (.bool false))
                    have e3 := known_slot hk 3 (by kernel_rfl) (v := .slice (some ⟨bo, 0, none⟩) (na + 1) co) rfl
                    exact do_value (wanted_some (g := 9) rfl rfl rfl e22) (by rw [BigFrame.run_move (.tmp 3) rfl, e3]) rfl
                  | 16, ho =>
                    have ho' : some _ = some o := ho
                    cases ho'
                    clear ho
                    have e22 := has_const (has_dep hd 9 (by kernel_rfl)) rfl rfl rfl (c := (.bool false))
                    have e3 := known_slot hk 3 (by kernel_rfl) (v := .slice (some ⟨bo, 0, none⟩) (na + 1) co) rfl
                    exact do_value (wanted_some (g := 9) rfl rfl rfl e22) (by rw [BigFrame.run_move (.tmp 3) rfl, e3]) rfl
                  | 17, ho =>
                    have ho' : some _ = some o := ho
                    cases ho'
                    clear ho
                    have e22 := has_const (has_dep hd 9 (by kernel_rfl)) rfl rfl rfl (c := (.bool false))
                    have e29 := has_const (has_dep hd 16 (by kernel_rfl)) rfl rfl rfl (c := (.slice (some ⟨bo, 0, none⟩) (na + 1) co))
                    exact do_value (wanted_some (g := 9) rfl rfl rfl e22) (v := .int .i64 ((na + 1) : Nat)) (run_len3 (x := .tmp 29) rfl Try.underlying33 e29) rfl
                  | 18, ho =>
                    have ho' : some _ = some o := ho
                    cases ho'
                    clear ho
                    have e22 := has_const (has_dep hd 9 (by kernel_rfl)) rfl rfl rfl (c := (.bool false))
                    have e30 := has_const (has_dep hd 17 (by kernel_rfl)) rfl rfl rfl (c := (.int .i64 ((na + 1) : Nat)))
                    exact do_value (wanted_some (g := 9) rfl rfl rfl e22) (v := .int .i64 (na : Int)) (run_value rfl (by rw [e30]; simp [go_sem, IntKind.wrap_i64]; omega)) rfl
                  | 19, ho =>
                    have ho' : some _ = some o := ho
                    cases ho'
                    clear ho
                    have e22 := has_const (has_dep hd 9 (by kernel_rfl)) rfl rfl rfl (c := (.bool false))
                    have e28 := has_const (has_dep hd 15 (by kernel_rfl)) rfl rfl rfl (c := (.slice (some ⟨bo, 0, none⟩) (na + 1) co))
                    have e31 := has_const (has_dep hd 18 (by kernel_rfl)) rfl rfl rfl (c := (.int .i64 (na : Int)))
                    exact do_value (wanted_some (g := 9) rfl rfl rfl e22) (v := .pointer (some ⟨bo, na, none⟩)) (run_value rfl (by rw [e28, e31]; simp [go_sem]; omega)) rfl
                  | 20, ho =>
                    have ho' : some _ = some o := ho
                    cases ho'
                    clear ho
                    have e22 := has_const (has_dep hd 9 (by kernel_rfl)) rfl rfl rfl (c := (.bool false))
                    have e32 := has_const (has_dep hd 19 (by kernel_rfl)) rfl rfl rfl (c := (.pointer (some ⟨bo, na, none⟩)))
                    have y0 := (ht.cell (a := ⟨bo, na, none⟩) lo (by simp)).trans co0
                    have lo2 := Nat.lt_of_lt_of_le lo ht.size
                    exact do_value (wanted_some (g := 9) rfl rfl rfl e22) (v := .int .i64 l) (run_value rfl (by rw [e32]; simp [go_sem, y0])) rfl
                  | 21, ho =>
                    have ho' : some _ = some o := ho
                    cases ho'
                    clear ho
                    have e22 := has_const (has_dep hd 9 (by kernel_rfl)) rfl rfl rfl (c := (.bool false))
                    have e27 := has_const (has_dep hd 14 (by kernel_rfl)) rfl rfl rfl (c := (.int .i64 nid))
                    have e33 := has_const (has_dep hd 20 (by kernel_rfl)) rfl rfl rfl (c := (.int .i64 l))
                    exact do_value (wanted_some (g := 9) rfl rfl rfl e22) (v := .bool true) (run_value rfl (by rw [e27, e33]; simp [go_sem, hgt])) rfl
                  | 22, ho =>
                    have ho' : some _ = some o := ho
                    cases ho'
                    clear ho
                    have e18 := has_const (has_dep hd 5 (by kernel_rfl)) rfl rfl rfl (c := (.bool true))
                    have e22 := has_const (has_dep hd 9 (by kernel_rfl)) rfl rfl rfl (c := (.bool false))
                    have e34 := has_const (has_dep hd 21 (by kernel_rfl)) rfl rfl rfl (c := (.bool true))
                    exact do_value (wanted_some (g := 5) rfl rfl rfl e18) (by rw [run_pickF (c := .tmp 22) (x := .const (.bool true)) (y := .tmp 34) rfl e22, e34]) rfl
                  | 23, ho =>
                    have ho' : some _ = some o := ho
                    cases ho'
                    clear ho
                    have e18 := has_const (has_dep hd 5 (by kernel_rfl)) rfl rfl rfl (c := (.bool true))
                    have e35 := has_const (has_dep hd 22 (by kernel_rfl)) rfl rfl rfl (c := (.bool true))
                    exact do_value (wanted_none rfl) (by rw [run_pickT (c := .tmp 18) (x := .tmp 35) (y := .const (.bool false)) rfl e18, e35]) rfl
                  | 24, ho =>
                    have ho' : some _ = some o := ho
                    cases ho'
                    clear ho
                    have e36 := has_const (has_dep hd 23 (by kernel_rfl)) rfl rfl rfl (c := (.bool true))
                    exact do_value (wanted_none rfl) (by rw [BigFrame.run_move (.tmp 36) rfl, e36]) rfl
                  | 25, ho =>
                    have ho' : some _ = some o := ho
                    cases ho'
                    clear ho
                    have e37 := has_const (has_dep hd 24 (by kernel_rfl)) rfl rfl rfl (c := (.bool true))
                    have e5 := known_slot hk 5 (by kernel_rfl) (v := .bool false) rfl
                    exact do_value (wanted_some (g := 24) rfl rfl rfl e37) (by rw [BigFrame.run_move (.tmp 5) rfl, e5]) rfl
                  | 26, ho =>
                    have ho' : some _ = some o := ho
                    cases ho'
                    clear ho
                    have e37 := has_const (has_dep hd 24 (by kernel_rfl)) rfl rfl rfl (c := (.bool true))
                    have e38 := has_const (has_dep hd 25 (by kernel_rfl)) rfl rfl rfl (c := (.bool false))
                    exact do_value (wanted_some (g := 24) rfl rfl rfl e37) (v := .bool true) (run_value rfl (by rw [e38]; simp [go_sem])) rfl
                  | 27, ho =>
                    have ho' : some _ = some o := ho
                    cases ho'
                    clear ho
                    have e37 := has_const (has_dep hd 24 (by kernel_rfl)) rfl rfl rfl (c := (.bool true))
                    have e39 := has_const (has_dep hd 26 (by kernel_rfl)) rfl rfl rfl (c := (.bool true))
                    exact do_value (wanted_some (g := 24) rfl rfl rfl e37) (by rw [BigFrame.run_move (.tmp 39) rfl, e39]) rfl
                  | 28, ho =>
                    have ho' : some _ = some o := ho
                    cases ho'
                    clear ho
                    have e40 := has_const (has_dep hd 27 (by kernel_rfl)) rfl rfl rfl (c := (.bool true))
                    exact do_skip (wanted_not (g := 27) rfl rfl rfl e40) rfl
                  | 29, ho =>
                    have ho' : some _ = some o := ho
                    cases ho'
                    clear ho
                    have e40 := has_const (has_dep hd 27 (by kernel_rfl)) rfl rfl rfl (c := (.bool true))
                    exact do_skip (wanted_not (g := 27) rfl rfl rfl e40) rfl
                  | 30, ho =>
                    have ho' : some _ = some o := ho
                    cases ho'
                    clear ho
                    have e40 := has_const (has_dep hd 27 (by kernel_rfl)) rfl rfl rfl (c := (.bool true))
                    exact do_skip (wanted_not (g := 27) rfl rfl rfl e40) rfl
                  | 31, ho =>
                    have ho' : some _ = some o := ho
                    cases ho'
                    clear ho
                    have e40 := has_const (has_dep hd 27 (by kernel_rfl)) rfl rfl rfl (c := (.bool true))
                    exact do_skip (wanted_not (g := 27) rfl rfl rfl e40) rfl
                  | 32, ho =>
                    have ho' : some _ = some o := ho
                    cases ho'
                    clear ho
                    have e40 := has_const (has_dep hd 27 (by kernel_rfl)) rfl rfl rfl (c := (.bool true))
                    exact do_skip (wanted_not (g := 27) rfl rfl rfl e40) rfl
                  | 33, ho =>
                    have ho' : some _ = some o := ho
                    cases ho'
                    clear ho
                    have e40 := has_const (has_dep hd 27 (by kernel_rfl)) rfl rfl rfl (c := (.bool true))
                    exact do_skip (wanted_not (g := 27) rfl rfl rfl e40) rfl
                  | 34, ho =>
                    have ho' : some _ = some o := ho
                    cases ho'
                    clear ho
                    have e40 := has_const (has_dep hd 27 (by kernel_rfl)) rfl rfl rfl (c := (.bool true))
                    exact do_skip (wanted_not (g := 27) rfl rfl rfl e40) rfl
                  | 35, ho =>
                    have ho' : some _ = some o := ho
                    cases ho'
                    clear ho
                    have e37 := has_const (has_dep hd 24 (by kernel_rfl)) rfl rfl rfl (c := (.bool true))
                    have e40 := has_const (has_dep hd 27 (by kernel_rfl)) rfl rfl rfl (c := (.bool true))
                    exact do_value (wanted_some (g := 24) rfl rfl rfl e37) (by rw [run_pickT (c := .tmp 40) (x := .const (.bool true)) (y := .tmp 47) rfl e40, eval_c]) rfl
                  | 36, ho =>
                    have ho' : some _ = some o := ho
                    cases ho'
                    clear ho
                    have e37 := has_const (has_dep hd 24 (by kernel_rfl)) rfl rfl rfl (c := (.bool true))
                    have e48 := has_const (has_dep hd 35 (by kernel_rfl)) rfl rfl rfl (c := (.bool true))
                    exact do_value (wanted_none rfl) (by rw [run_pickT (c := .tmp 37) (x := .tmp 48) (y := .const (.bool false)) rfl e37, e48]) rfl
                  | q + 37, ho => exact absurd ho (by simp)
                · intro x' w4 T4 hkn
                  simp only [putL, Act.put, List.setIfInBounds_toArray, List.set_cons_succ, List.set_cons_zero]
                  have c1 := (T4.cell (a := ⟨bA, off + k * 3 + 1, none⟩) lA (by simp)).trans c1
                  have lA := Nat.lt_of_lt_of_le lA T4.size
                  have TW := Lib.hid (TI.out.trans T4 (by simp))
                  clear T4 c0 c2
                  go_wp2_with fail
                  go_roundw
                  case rel => exact ⟨k + 1, by omega, by go_num, by (try rw [HLO.out]); simp only [EN.out, Option.getD_some], by (try rw [HLO.out]); simp only [EN.out, Option.isSome_some], TW.out⟩
                  case measure => simp [intOf]; omega
              | some b0 =>
                have hsm : (some b0 : Option Int).isSome = true := rfl
                have hgd : (some b0 : Option Int).getD 0 = b0 := rfl
                rw [hsm, hgd]
                clear hsm hgd
                by_cases hl : nid < b0
                · have hls : decide (nid < b0) = true := by simpa using hl
                  have EN := Lib.hid (ES.out.trans (if_pos ⟨hc, hgt, by rw [hnb]; exact hls⟩))
                  clear ES hl hnb
                  go_upto_region 6 with fail
                  refine wp_region_leaves (wd := wr) (Leaf.const (.slice (some ⟨bA, off, none⟩) m c) :: Leaf.const (.int .i64 (k : Int)) :: Leaf.const (.pointer (some ⟨bA, off + k * 3, none⟩)) :: Leaf.const (.agg #[.int .i64 a, .int .i64 nid, .int .i64 n]) :: Leaf.const (.bool true) :: Leaf.const ((.bool true)) :: Leaf.const (.slice (some ⟨bo, 0, none⟩) (na + 1) co) :: Leaf.const (.int .i64 ((na + 1) : Nat)) :: Leaf.const (.bool false) :: Leaf.const ((.bool false)) :: Leaf.const (.slice (some ⟨bA, off, none⟩) m c) :: Leaf.const (.int .i64 (k : Int)) :: Leaf.const (.pointer (some ⟨bA, off + k * 3, none⟩)) :: Leaf.const (.pointer (some ⟨bA, off + k * 3 + 1, none⟩)) :: Leaf.const (.int .i64 nid) :: Leaf.const (.slice (some ⟨bo, 0, none⟩) (na + 1) co) :: Leaf.const (.slice (some ⟨bo, 0, none⟩) (na + 1) co) :: Leaf.const (.int .i64 ((na + 1) : Nat)) :: Leaf.const (.int .i64 (na : Int)) :: Leaf.const (.pointer (some ⟨bo, na, none⟩)) :: Leaf.const (.int .i64 l) :: Leaf.const (.bool true) :: Leaf.const ((.bool true)) :: Leaf.const ((.bool true)) :: Leaf.const ((.bool true)) :: Leaf.const (.bool true) :: Leaf.const (.bool false) :: Leaf.const ((.bool false)) :: Leaf.const (.slice (some ⟨bA, off, none⟩) m c) :: Leaf.const (.int .i64 (k : Int)) :: Leaf.const (.pointer (some ⟨bA, off + k * 3, none⟩)) :: Leaf.const (.pointer (some ⟨bA, off + k * 3 + 1, none⟩)) :: Leaf.const (.int .i64 nid) :: Leaf.const (.int .i64 b0) :: Leaf.const (.bool true) :: Leaf.const ((.bool true)) :: Leaf.const ((.bool true)) :: []) (by kernel_rfl) (by kernel_rfl) (by kernel_rfl) ((Touch.refl _ _).drew) (trivial) ?_ ?_
                  · intro i o ho ac w ht hk hd
                    match i, ho with
                    | 0, ho =>
                      have ho' : some _ = some o := ho
                      cases ho'
                      clear ho
                      have e0 := known_slot hk 0 (by kernel_rfl) (v := .slice (some ⟨bA, off, none⟩) m c) rfl
                      exact do_value (wanted_none rfl) (by rw [BigFrame.run_move (.tmp 0) rfl, e0]) rfl
                    | 1, ho =>
                      have ho' : some _ = some o := ho
                      cases ho'
                      clear ho
                      have e6 := known_slot hk 6 (by kernel_rfl) (v := .int .i64 (k : Int)) rfl
                      exact do_value (wanted_none rfl) (by rw [BigFrame.run_move (.tmp 6) rfl, e6]) rfl
                    | 2, ho =>
                      have ho' : some _ = some o := ho
                      cases ho'
                      clear ho
                      have e13 := has_const (has_dep hd 0 (by kernel_rfl)) rfl rfl rfl (c := (.slice (some ⟨bA, off, none⟩) m c))
                      have e14 := has_const (has_dep hd 1 (by kernel_rfl)) rfl rfl rfl (c := (.int .i64 (k : Int)))
                      exact do_value (wanted_none rfl) (v := .pointer (some ⟨bA, off + k * 3, none⟩)) (run_value rfl (by rw [e13, e14]; simp [go_sem]; omega)) rfl
                    | 3, ho =>
                      have ho' : some _ = some o := ho
                      cases ho'
                      clear ho
                      have e15 := has_const (has_dep hd 2 (by kernel_rfl)) rfl rfl rfl (c := (.pointer (some ⟨bA, off + k * 3, none⟩)))
                      have x0 := (ht.cell (a := ⟨bA, off + k * 3, none⟩) lA (by simp)).trans c0
                      have x1 := (ht.cell (a := ⟨bA, off + k * 3 + 1, none⟩) lA (by simp)).trans c1
                      have x2 := (ht.cell (a := ⟨bA, off + k * 3 + 2, none⟩) lA (by simp)).trans c2
                      have lA2 := Nat.lt_of_lt_of_le lA ht.size
                      exact do_value (wanted_none rfl) (v := .agg #[.int .i64 a, .int .i64 nid, .int .i64 n]) (run_value rfl (by rw [e15]; simp [go_sem, x0, x1, x2])) rfl
                    | 4, ho =>
                      have ho' : some _ = some o := ho
                      cases ho'
                      clear ho
                      have e16 := has_const (has_dep hd 3 (by kernel_rfl)) rfl rfl rfl (c := (.agg #[.int .i64 a, .int .i64 nid, .int .i64 n]))
                      refine do_enter (wanted_none rfl) (f := 23) (args := #[(.agg #[.int .i64 a, .int .i64 nid, .int .i64 n])]) (by rw [run_go3 23 _ _ rfl, ent23]; simp [eval_c, e16]) ?_
                      exact Calls.leaf (RC.out _)
                    | 5, ho =>
                      have ho' : some _ = some o := ho
                      cases ho'
                      clear ho
                      have e17 := has_const (has_dep hd 4 (by kernel_rfl)) rfl rfl rfl (c := (.bool true))
                      exact do_value (wanted_none rfl) (by rw [BigFrame.run_move (.tmp 17) rfl, e17]) rfl
                    | 6, ho =>
                      have ho' : some _ = some o := ho
                      cases ho'
                      clear ho
                      have e18 := has_const (has_dep hd 5 (by kernel_rfl)) rfl rfl rfl (c := (.bool true))
                      have e3 := known_slot hk 3 (by kernel_rfl) (v := .slice (some ⟨bo, 0, none⟩) (na + 1) co) rfl
                      exact do_value (wanted_some (g := 5) rfl rfl rfl e18) (by rw [BigFrame.run_move (.tmp 3) rfl, e3]) rfl
                    | 7, ho =>
                      have ho' : some _ = some o := ho
                      cases ho'
                      clear ho
                      have e18 := has_const (has_dep hd 5 (by kernel_rfl)) rfl rfl rfl (c := (.bool true))
                      have e19 := has_const (has_dep hd 6 (by kernel_rfl)) rfl rfl rfl (c := (.slice (some ⟨bo, 0, none⟩) (na + 1) co))
                      exact do_value (wanted_some (g := 5) rfl rfl rfl e18) (v := .int .i64 ((na + 1) : Nat)) (run_len3 (x := .tmp 19) rfl Try.underlying33 e19) rfl
                    | 8, ho =>
                      have ho' : some _ = some o := ho
                      cases ho'
                      clear ho
                      have e18 := has_const (has_dep hd 5 (by kernel_rfl)) rfl rfl rfl (c := (.bool true))
                      have e20 := has_const (has_dep hd 7 (by kernel_rfl)) rfl rfl rfl (c := (.int .i64 ((na + 1) : Nat)))
                      exact do_value (wanted_some (g := 5) rfl rfl rfl e18) (v := .bool false) (run_value rfl (by rw [e20]; simp [go_sem]; omega)) rfl
                    | 9, ho =>
                      have ho' : some _ = some o := ho
                      cases ho'
                      clear ho
                      have e18 := has_const (has_dep hd 5 (by kernel_rfl)) rfl rfl rfl (c := (.bool true))
                      have e21 := has_const (has_dep hd 8 (by kernel_rfl)) rfl rfl rfl (c := (.bool false))
                      exact do_value (wanted_some (g := 5) rfl rfl rfl e18) (by rw [BigFrame.run_move (.tmp 21) rfl, e21]) rfl
                    | 10, ho =>
                      have ho' : some _ = some o := ho
                      cases ho'
                      clear ho
                      have e22 := has_const (has_dep hd 9 (by kernel_rfl)) rfl rfl rfl (c := (.bool false))
                      have e0 := known_slot hk 0 (by kernel_rfl) (v := .slice (some ⟨bA, off, none⟩) m c) rfl
                      exact do_value (wanted_some (g := 9) rfl rfl rfl e22) (by rw [BigFrame.run_move (.tmp 0) rfl, e0]) rfl
                    | 11, ho =>
                      have ho' : some _ = some o := ho
                      cases ho'
                      clear ho
                      have e22 := has_const (has_dep hd 9 (by kernel_rfl)) rfl rfl rfl (c := (.bool false))
                      have e6 := known_slot hk 6 (by kernel_rfl) (v := .int .i64 (k : Int)) rfl
                      exact do_value (wanted_some (g := 9) rfl rfl rfl e22) (by rw [BigFrame.run_move (.tmp 6) rfl, e6]) rfl
                    | 12, ho =>
                      have ho' : some _ = some o := ho
                      cases ho'
                      clear ho
                      have e22 := has_const (has_dep hd 9 (by kernel_rfl)) rfl rfl rfl (c := (.bool false))
                      have e23 := has_const (has_dep hd 10 (by kernel_rfl)) rfl rfl rfl (c := (.slice (some ⟨bA, off, none⟩) m c))
                      have e24 := has_const (has_dep hd 11 (by kernel_rfl)) rfl rfl rfl (c := (.int .i64 (k : Int)))
                      exact do_value (wanted_some (g := 9) rfl rfl rfl e22) (v := .pointer (some ⟨bA, off + k * 3, none⟩)) (run_value rfl (by rw [e23, e24]; simp [go_sem]; omega)) rfl
                    | 13, ho =>
                      have ho' : some _ = some o := ho
                      cases ho'
                      clear ho
                      have e22 := has_const (has_dep hd 9 (by kernel_rfl)) rfl rfl rfl (c := (.bool false))
                      have e25 := has_const (has_dep hd 12 (by kernel_rfl)) rfl rfl rfl (c := (.pointer (some ⟨bA, off + k * 3, none⟩)))
                      exact do_value (wanted_some (g := 9) rfl rfl rfl e22) (v := .pointer (some ⟨bA, off + k * 3 + 1, none⟩)) (run_value rfl (by rw [e25]; simp [go_sem])) rfl
                    | 14, ho =>
                      have ho' : some _ = some o := ho
                      cases ho'
                      clear ho
                      have e22 := has_const (has_dep hd 9 (by kernel_rfl)) rfl rfl rfl (c := (.bool false))
                      have e26 := has_const (has_dep hd 13 (by kernel_rfl)) rfl rfl rfl (c := (.pointer (some ⟨bA, off + k * 3 + 1, none⟩)))
                      have x0 := (ht.cell (a := ⟨bA, off + k * 3, none⟩) lA (by simp)).trans c0
                      have x1 := (ht.cell (a := ⟨bA, off + k * 3 + 1, none⟩) lA (by simp)).trans c1
                      have x2 := (ht.cell (a := ⟨bA, off + k * 3 + 2, none⟩) lA (by simp)).trans c2
                      have lA2 := Nat.lt_of_lt_of_le lA ht.size
                      exact do_value (wanted_some (g := 9) rfl rfl rfl e22) (v := .int .i64 nid) (run_value rfl (by rw [e26]; simp [go_sem, x1])) rfl
                    | 15, ho =>
                      have ho' : some _ = some o := ho
                      cases ho'
                      clear ho
                      have e22 := has_const (has_dep hd 9 (by kernel_rfl)) rfl rfl rfl (c := (.bool false))
                      have e3 := known_slot hk 3 (by kernel_rfl) (v := .slice (some ⟨bo, 0, none⟩) (na + 1) co) rfl
                      exact do_value (wanted_some (g := 9) rfl rfl rfl e22) (by rw [BigFrame.run_move (.tmp 3) rfl, e3]) rfl
                    | 16, ho =>
                      have ho' : some _ = some o := ho
                      cases ho'
                      clear ho
                      have e22 := has_const (has_dep hd 9 (by kernel_rfl)) rfl rfl rfl (c := (.bool false))
                      have e3 := known_slot hk 3 (by kernel_rfl) (v := .slice (some ⟨bo, 0, none⟩) (na + 1) co) rfl
                      exact do_value (wanted_some (g := 9) rfl rfl rfl e22) (by rw [BigFrame.run_move (.tmp 3) rfl, e3]) rfl
                    | 17, ho =>
                      have ho' : some _ = some o := ho
                      cases ho'
                      clear ho
                      have e22 := has_const (has_dep hd 9 (by kernel_rfl)) rfl rfl rfl (c := (.bool false))
                      have e29 := has_const (has_dep hd 16 (by kernel_rfl)) rfl rfl rfl (c := (.slice (some ⟨bo, 0, none⟩) (na + 1) co))
                      exact do_value (wanted_some (g := 9) rfl rfl rfl e22) (v := .int .i64 ((na + 1) : Nat)) (run_len3 (x := .tmp 29) rfl Try.underlying33 e29) rfl
                    | 18, ho =>
                      have ho' : some _ = some o := ho
                      cases ho'
                      clear ho
                      have e22 := has_const (has_dep hd 9 (by kernel_rfl)) rfl rfl rfl (c := (.bool false))
                      have e30 := has_const (has_dep hd 17 (by kernel_rfl)) rfl rfl rfl (c := (.int .i64 ((na + 1) : Nat)))
                      exact do_value (wanted_some (g := 9) rfl rfl rfl e22) (v := .int .i64 (na : Int)) (run_value rfl (by rw [e30]; simp [go_sem, IntKind.wrap_i64]; omega)) rfl
                    | 19, ho =>
                      have ho' : some _ = some o := ho
                      cases ho'
                      clear ho
                      have e22 := has_const (has_dep hd 9 (by kernel_rfl)) rfl rfl rfl (c := (.bool false))
                      have e28 := has_const (has_dep hd 15 (by kernel_rfl)) rfl rfl rfl (c := (.slice (some ⟨bo, 0, none⟩) (na + 1) co))
                      have e31 := has_const (has_dep hd 18 (by kernel_rfl)) rfl rfl rfl (c := (.int .i64 (na : Int)))
                      exact do_value (wanted_some (g := 9) rfl rfl rfl e22) (v := .pointer (some ⟨bo, na, none⟩)) (run_value rfl (by rw [e28, e31]; simp [go_sem]; omega)) rfl
                    | 20, ho =>
                      have ho' : some _ = some o := ho
                      cases ho'
                      clear ho
                      have e22 := has_const (has_dep hd 9 (by kernel_rfl)) rfl rfl rfl (c := (.bool false))
                      have e32 := has_const (has_dep hd 19 (by kernel_rfl)) rfl rfl rfl (c := (.pointer (some ⟨bo, na, none⟩)))
                      have y0 := (ht.cell (a := ⟨bo, na, none⟩) lo (by simp)).trans co0
                      have lo2 := Nat.lt_of_lt_of_le lo ht.size
                      exact do_value (wanted_some (g := 9) rfl rfl rfl e22) (v := .int .i64 l) (run_value rfl (by rw [e32]; simp [go_sem, y0])) rfl
                    | 21, ho =>
                      have ho' : some _ = some o := ho
                      cases ho'
                      clear ho
                      have e22 := has_const (has_dep hd 9 (by kernel_rfl)) rfl rfl rfl (c := (.bool false))
                      have e27 := has_const (has_dep hd 14 (by kernel_rfl)) rfl rfl rfl (c := (.int .i64 nid))
                      have e33 := has_const (has_dep hd 20 (by kernel_rfl)) rfl rfl rfl (c := (.int .i64 l))
                      exact do_value (wanted_some (g := 9) rfl rfl rfl e22) (v := .bool true) (run_value rfl (by rw [e27, e33]; simp [go_sem, hgt])) rfl
                    | 22, ho =>
                      have ho' : some _ = some o := ho
                      cases ho'
                      clear ho
                      have e18 := has_const (has_dep hd 5 (by kernel_rfl)) rfl rfl rfl (c := (.bool true))
                      have e22 := has_const (has_dep hd 9 (by kernel_rfl)) rfl rfl rfl (c := (.bool false))
                      have e34 := has_const (has_dep hd 21 (by kernel_rfl)) rfl rfl rfl (c := (.bool true))
                      exact do_value (wanted_some (g := 5) rfl rfl rfl e18) (by rw [run_pickF (c := .tmp 22) (x := .const (.bool true)) (y := .tmp 34) rfl e22, e34]) rfl
                    | 23, ho =>
                      have ho' : some _ = some o := ho
                      cases ho'
                      clear ho
                      have e18 := has_const (has_dep hd 5 (by kernel_rfl)) rfl rfl rfl (c := (.bool true))
                      have e35 := has_const (has_dep hd 22 (by kernel_rfl)) rfl rfl rfl (c := (.bool true))
                      exact do_value (wanted_none rfl) (by rw [run_pickT (c := .tmp 18) (x := .tmp 35) (y := .const (.bool false)) rfl e18, e35]) rfl
                    | 24, ho =>
                      have ho' : some _ = some o := ho
                      cases ho'
                      clear ho
                      have e36 := has_const (has_dep hd 23 (by kernel_rfl)) rfl rfl rfl (c := (.bool true))
                      exact do_value (wanted_none rfl) (by rw [BigFrame.run_move (.tmp 36) rfl, e36]) rfl
                    | 25, ho =>
                      have ho' : some _ = some o := ho
                      cases ho'
                      clear ho
                      have e37 := has_const (has_dep hd 24 (by kernel_rfl)) rfl rfl rfl (c := (.bool true))
                      have e5 := known_slot hk 5 (by kernel_rfl) (v := .bool true) rfl
                      exact do_value (wanted_some (g := 24) rfl rfl rfl e37) (by rw [BigFrame.run_move (.tmp 5) rfl, e5]) rfl
                    | 26, ho =>
                      have ho' : some _ = some o := ho
                      cases ho'
                      clear ho
                      have e37 := has_const (has_dep hd 24 (by kernel_rfl)) rfl rfl rfl (c := (.bool true))
                      have e38 := has_const (has_dep hd 25 (by kernel_rfl)) rfl rfl rfl (c := (.bool true))
                      exact do_value (wanted_some (g := 24) rfl rfl rfl e37) (v := .bool false) (run_value rfl (by rw [e38]; simp [go_sem])) rfl
                    | 27, ho =>
                      have ho' : some _ = some o := ho
                      cases ho'
                      clear ho
                      have e37 := has_const (has_dep hd 24 (by kernel_rfl)) rfl rfl rfl (c := (.bool true))
                      have e39 := has_const (has_dep hd 26 (by kernel_rfl)) rfl rfl rfl (c := (.bool false))
                      exact do_value (wanted_some (g := 24) rfl rfl rfl e37) (by rw [BigFrame.run_move (.tmp 39) rfl, e39]) rfl
                    | 28, ho =>
                      have ho' : some _ = some o := ho
                      cases ho'
                      clear ho
                      have e40 := has_const (has_dep hd 27 (by kernel_rfl)) rfl rfl rfl (c := (.bool false))
                      have e0 := known_slot hk 0 (by kernel_rfl) (v := .slice (some ⟨bA, off, none⟩) m c) rfl
                      exact do_value (wanted_some (g := 27) rfl rfl rfl e40) (by rw [BigFrame.run_move (.tmp 0) rfl, e0]) rfl
                    | 29, ho =>
                      have ho' : some _ = some o := ho
                      cases ho'
                      clear ho
                      have e40 := has_const (has_dep hd 27 (by kernel_rfl)) rfl rfl rfl (c := (.bool false))
                      have e6 := known_slot hk 6 (by kernel_rfl) (v := .int .i64 (k : Int)) rfl
                      exact do_value (wanted_some (g := 27) rfl rfl rfl e40) (by rw [BigFrame.run_move (.tmp 6) rfl, e6]) rfl
                    | 30, ho =>
                      have ho' : some _ = some o := ho
                      cases ho'
                      clear ho
                      have e40 := has_const (has_dep hd 27 (by kernel_rfl)) rfl rfl rfl (c := (.bool false))
                      have e41 := has_const (has_dep hd 28 (by kernel_rfl)) rfl rfl rfl (c := (.slice (some ⟨bA, off, none⟩) m c))
                      have e42 := has_const (has_dep hd 29 (by kernel_rfl)) rfl rfl rfl (c := (.int .i64 (k : Int)))
                      exact do_value (wanted_some (g := 27) rfl rfl rfl e40) (v := .pointer (some ⟨bA, off + k * 3, none⟩)) (run_value rfl (by rw [e41, e42]; simp [go_sem]; omega)) rfl
                    | 31, ho =>
                      have ho' : some _ = some o := ho
                      cases ho'
                      clear ho
                      have e40 := has_const (has_dep hd 27 (by kernel_rfl)) rfl rfl rfl (c := (.bool false))
                      have e43 := has_const (has_dep hd 30 (by kernel_rfl)) rfl rfl rfl (c := (.pointer (some ⟨bA, off + k * 3, none⟩)))
                      exact do_value (wanted_some (g := 27) rfl rfl rfl e40) (v := .pointer (some ⟨bA, off + k * 3 + 1, none⟩)) (run_value rfl (by rw [e43]; simp [go_sem])) rfl
                    | 32, ho =>
                      have ho' : some _ = some o := ho
                      cases ho'
                      clear ho
                      have e40 := has_const (has_dep hd 27 (by kernel_rfl)) rfl rfl rfl (c := (.bool false))
                      have e44 := has_const (has_dep hd 31 (by kernel_rfl)) rfl rfl rfl (c := (.pointer (some ⟨bA, off + k * 3 + 1, none⟩)))
                      have x0 := (ht.cell (a := ⟨bA, off + k * 3, none⟩) lA (by simp)).trans c0
                      have x1 := (ht.cell (a := ⟨bA, off + k * 3 + 1, none⟩) lA (by simp)).trans c1
                      have x2 := (ht.cell (a := ⟨bA, off + k * 3 + 2, none⟩) lA (by simp)).trans c2
                      have lA2 := Nat.lt_of_lt_of_le lA ht.size
                      exact do_value (wanted_some (g := 27) rfl rfl rfl e40) (v := .int .i64 nid) (run_value rfl (by rw [e44]; simp [go_sem, x1])) rfl
                    | 33, ho =>
                      have ho' : some _ = some o := ho
                      cases ho'
                      clear ho
                      have e40 := has_const (has_dep hd 27 (by kernel_rfl)) rfl rfl rfl (c := (.bool false))
                      have e4 := known_slot hk 4 (by kernel_rfl) (v := .int .i64 b0) rfl
                      exact do_value (wanted_some (g := 27) rfl rfl rfl e40) (by rw [BigFrame.run_move (.tmp 4) rfl, e4]) rfl
                    | 34, ho =>
                      have ho' : some _ = some o := ho
                      cases ho'
                      clear ho
                      have e40 := has_const (has_dep hd 27 (by kernel_rfl)) rfl rfl rfl (c := (.bool false))
                      have e45 := has_const (has_dep hd 32 (by kernel_rfl)) rfl rfl rfl (c := (.int .i64 nid))
                      have e46 := has_const (has_dep hd 33 (by kernel_rfl)) rfl rfl rfl (c := (.int .i64 b0))
                      exact do_value (wanted_some (g := 27) rfl rfl rfl e40) (v := .bool true) (run_value rfl (by rw [e45, e46]; simp [go_sem, hls])) rfl
                    | 35, ho =>
                      have ho' : some _ = some o := ho
                      cases ho'
                      clear ho
                      have e37 := has_const (has_dep hd 24 (by kernel_rfl)) rfl rfl rfl (c := (.bool true))
                      have e40 := has_const (has_dep hd 27 (by kernel_rfl)) rfl rfl rfl (c := (.bool false))
                      have e47 := has_const (has_dep hd 34 (by kernel_rfl)) rfl rfl rfl (c := (.bool true))
                      exact do_value (wanted_some (g := 24) rfl rfl rfl e37) (by rw [run_pickF (c := .tmp 40) (x := .const (.bool true)) (y := .tmp 47) rfl e40, e47]) rfl
                    | 36, ho =>
                      have ho' : some _ = some o := ho
                      cases ho'
                      clear ho
                      have e37 := has_const (has_dep hd 24 (by kernel_rfl)) rfl rfl rfl (c := (.bool true))
                      have e48 := has_const (has_dep hd 35 (by kernel_rfl)) rfl rfl rfl (c := (.bool true))
                      exact do_value (wanted_none rfl) (by rw [run_pickT (c := .tmp 37) (x := .tmp 48) (y := .const (.bool false)) rfl e37, e48]) rfl
                    | q + 37, ho => exact absurd ho (by simp)
                  · intro x' w4 T4 hkn
                    simp only [putL, Act.put, List.setIfInBounds_toArray, List.set_cons_succ, List.set_cons_zero]
                    have c1 := (T4.cell (a := ⟨bA, off + k * 3 + 1, none⟩) lA (by simp)).trans c1
                    have lA := Nat.lt_of_lt_of_le lA T4.size
                    have TW := Lib.hid (TI.out.trans T4 (by simp))
                    clear T4 c0 c2
                    go_wp2_with fail
                    go_roundw
                    case rel => exact ⟨k + 1, by omega, by go_num, by (try rw [HLO.out]); simp only [EN.out, Option.getD_some], by (try rw [HLO.out]); simp only [EN.out, Option.isSome_some], TW.out⟩
                    case measure => simp [intOf]; omega
                · have hls : decide (nid < b0) = false := by simpa using hl
                  have EN := Lib.hid (ES.out.trans ((if_neg (fun h => by have := h.2.2; rw [hnb] at this; simp [under] at this; omega)).trans hnb))
                  clear ES hl hnb
                  go_upto_region 6 with fail
                  refine wp_region_leaves (wd := wr) (Leaf.const (.slice (some ⟨bA, off, none⟩) m c) :: Leaf.const (.int .i64 (k : Int)) :: Leaf.const (.pointer (some ⟨bA, off + k * 3, none⟩)) :: Leaf.const (.agg #[.int .i64 a, .int .i64 nid, .int .i64 n]) :: Leaf.const (.bool true) :: Leaf.const ((.bool true)) :: Leaf.const (.slice (some ⟨bo, 0, none⟩) (na + 1) co) :: Leaf.const (.int .i64 ((na + 1) : Nat)) :: Leaf.const (.bool false) :: Leaf.const ((.bool false)) :: Leaf.const (.slice (some ⟨bA, off, none⟩) m c) :: Leaf.const (.int .i64 (k : Int)) :: Leaf.const (.pointer (some ⟨bA, off + k * 3, none⟩)) :: Leaf.const (.pointer (some ⟨bA, off + k * 3 + 1, none⟩)) :: Leaf.const (.int .i64 nid) :: Leaf.const (.slice (some ⟨bo, 0, none⟩) (na + 1) co) :: Leaf.const (.slice (some ⟨bo, 0, none⟩) (na + 1) co) :: Leaf.const (.int .i64 ((na + 1) : Nat)) :: Leaf.const (.int .i64 (na : Int)) :: Leaf.const (.pointer (some ⟨bo, na, none⟩)) :: Leaf.const (.int .i64 l) :: Leaf.const (.bool true) :: Leaf.const ((.bool true)) :: Leaf.const ((.bool true)) :: Leaf.const ((.bool true)) :: Leaf.const (.bool true) :: Leaf.const (.bool false) :: Leaf.const ((.bool false)) :: Leaf.const (.slice (some ⟨bA, off, none⟩) m c) :: Leaf.const (.int .i64 (k : Int)) :: Leaf.const (.pointer (some ⟨bA, off + k * 3, none⟩)) :: Leaf.const (.pointer (some ⟨bA, off + k * 3 + 1, none⟩)) :: Leaf.const (.int .i64 nid) :: Leaf.const (.int .i64 b0) :: Leaf.const (.bool false) :: Leaf.const ((.bool false)) :: Leaf.const ((.bool false)) :: []) (by kernel_rfl) (by kernel_rfl) (by kernel_rfl) ((Touch.refl _ _).drew) (trivial) ?_ ?_
                  · intro i o ho ac w ht hk hd
                    match i, ho with
                    | 0, ho =>
                      have ho' : some _ = some o := ho
                      cases ho'
                      clear ho
                      have e0 := known_slot hk 0 (by kernel_rfl) (v := .slice (some ⟨bA, off, none⟩) m c) rfl
                      exact do_value (wanted_none rfl) (by rw [BigFrame.run_move (.tmp 0) rfl, e0]) rfl
                    | 1, ho =>
                      have ho' : some _ = some o := ho
                      cases ho'
                      clear ho
                      have e6 := known_slot hk 6 (by kernel_rfl) (v := .int .i64 (k : Int)) rfl
                      exact do_value (wanted_none rfl) (by rw [BigFrame.run_move (.tmp 6) rfl, e6]) rfl
                    | 2, ho =>
                      have ho' : some _ = some o := ho
                      cases ho'
                      clear ho
                      have e13 := has_const (has_dep hd 0 (by kernel_rfl)) rfl rfl rfl (c := (.slice (some ⟨bA, off, none⟩) m c))
                      have e14 := has_const (has_dep hd 1 (by kernel_rfl)) rfl rfl rfl (c := (.int .i64 (k : Int)))
                      exact do_value (wanted_none rfl) (v := .pointer (some ⟨bA, off + k * 3, none⟩)) (run_value rfl (by rw [e13, e14]; simp [go_sem]; omega)) rfl
                    | 3, ho =>
                      have ho' : some _ = some o := ho
                      cases ho'
                      clear ho
                      have e15 := has_const (has_dep hd 2 (by kernel_rfl)) rfl rfl rfl (c := (.pointer (some ⟨bA, off + k * 3, none⟩)))
                      have x0 := (ht.cell (a := ⟨bA, off + k * 3, none⟩) lA (by simp)).trans c0
                      have x1 := (ht.cell (a := ⟨bA, off + k * 3 + 1, none⟩) lA (by simp)).trans c1
                      have x2 := (ht.cell (a := ⟨bA, off + k * 3 + 2, none⟩) lA (by simp)).trans c2
                      have lA2 := Nat.lt_of_lt_of_le lA ht.size
                      exact do_value (wanted_none rfl) (v := .agg #[.int .i64 a, .int .i64 nid, .int .i64 n]) (run_value rfl (by rw [e15]; simp [go_sem, x0, x1, x2])) rfl
                    | 4, ho =>
                      have ho' : some _ = some o := ho
                      cases ho'
                      clear ho
                      have e16 := has_const (has_dep hd 3 (by kernel_rfl)) rfl rfl rfl (c := (.agg #[.int .i64 a, .int .i64 nid, .int .i64 n]))
                      refine do_enter (wanted_none rfl) (f := 23) (args := #[(.agg #[.int .i64 a, .int .i64 nid, .int .i64 n])]) (by rw [run_go3 23 _ _ rfl, ent23]; simp [eval_c, e16]) ?_
                      exact Calls.leaf (RC.out _)
                    | 5, ho =>
                      have ho' : some _ = some o := ho
                      cases ho'
                      clear ho
                      have e17 := has_const (has_dep hd 4 (by kernel_rfl)) rfl rfl rfl (c := (.bool true))
                      exact do_value (wanted_none rfl) (by rw [BigFrame.run_move (.tmp 17) rfl, e17]) rfl
                    | 6, ho =>
                      have ho' : some _ = some o := ho
                      cases ho'
                      clear ho
                      have e18 := has_const (has_dep hd 5 (by kernel_rfl)) rfl rfl rfl (c := (.bool true))
                      have e3 := known_slot hk 3 (by kernel_rfl) (v := .slice (some ⟨bo, 0, none⟩) (na + 1) co) rfl
                      exact do_value (wanted_some (g := 5) rfl rfl rfl e18) (by rw [BigFrame.run_move (.tmp 3) rfl, e3]) rfl
                    | 7, ho =>
                      have ho' : some _ = some o := ho
                      cases ho'
                      clear ho
                      have e18 := has_const (has_dep hd 5 (by kernel_rfl)) rfl rfl rfl (c := (.bool true))
                      have e19 := has_const (has_dep hd 6 (by kernel_rfl)) rfl rfl rfl (c := (.slice (some ⟨bo, 0, none⟩) (na + 1) co))
                      exact do_value (wanted_some (g := 5) rfl rfl rfl e18) (v := .int .i64 ((na + 1) : Nat)) (run_len3 (x := .tmp 19) rfl Try.underlying33 e19) rfl
                    | 8, ho =>
                      have ho' : some _ = some o := ho
                      cases ho'
                      clear ho
                      have e18 := has_const (has_dep hd 5 (by kernel_rfl)) rfl rfl rfl (c := (.bool true))
                      have e20 := has_const (has_dep hd 7 (by kernel_rfl)) rfl rfl rfl (c := (.int .i64 ((na + 1) : Nat)))
                      exact do_value (wanted_some (g := 5) rfl rfl rfl e18) (v := .bool false) (run_value rfl (by rw [e20]; simp [go_sem]; omega)) rfl
                    | 9, ho =>
                      have ho' : some _ = some o := ho
                      cases ho'
                      clear ho
                      have e18 := has_const (has_dep hd 5 (by kernel_rfl)) rfl rfl rfl (c := (.bool true))
                      have e21 := has_const (has_dep hd 8 (by kernel_rfl)) rfl rfl rfl (c := (.bool false))
                      exact do_value (wanted_some (g := 5) rfl rfl rfl e18) (by rw [BigFrame.run_move (.tmp 21) rfl, e21]) rfl
                    | 10, ho =>
                      have ho' : some _ = some o := ho
                      cases ho'
                      clear ho
                      have e22 := has_const (has_dep hd 9 (by kernel_rfl)) rfl rfl rfl (c := (.bool false))
                      have e0 := known_slot hk 0 (by kernel_rfl) (v := .slice (some ⟨bA, off, none⟩) m c) rfl
                      exact do_value (wanted_some (g := 9) rfl rfl rfl e22) (by rw [BigFrame.run_move (.tmp 0) rfl, e0]) rfl
                    | 11, ho =>
                      have ho' : some _ = some o := ho
                      cases ho'
                      clear ho
                      have e22 := has_const (has_dep hd 9 (by kernel_rfl)) rfl rfl rfl (c := (.bool false))
                      have e6 := known_slot hk 6 (by kernel_rfl) (v := .int .i64 (k : Int)) rfl
                      exact do_value (wanted_some (g := 9) rfl rfl rfl e22) (by rw [BigFrame.run_move (.tmp 6) rfl, e6]) rfl
                    | 12, ho =>
                      have ho' : some _ = some o := ho
                      cases ho'
                      clear ho
                      have e22 := has_const (has_dep hd 9 (by kernel_rfl)) rfl rfl rfl (c := (.bool false))
                      have e23 := has_const (has_dep hd 10 (by kernel_rfl)) rfl rfl rfl (c := (.slice (some ⟨bA, off, none⟩) m c))
                      have e24 := has_const (has_dep hd 11 (by kernel_rfl)) rfl rfl rfl (c := (.int .i64 (k : Int)))
                      exact do_value (wanted_some (g := 9) rfl rfl rfl e22) (v := .pointer (some ⟨bA, off + k * 3, none⟩)) (run_value rfl (by rw [e23, e24]; simp [go_sem]; omega)) rfl
                    | 13, ho =>
                      have ho' : some _ = some o := ho
                      cases ho'
                      clear ho
                      have e22 := has_const (has_dep hd 9 (by kernel_rfl)) rfl rfl rfl (c := (.bool false))
                      have e25 := has_const (has_dep hd 12 (by kernel_rfl)) rfl rfl rfl (c := (.pointer (some ⟨bA, off + k * 3, none⟩)))
                      exact do_value (wanted_some (g := 9) rfl rfl rfl e22) (v := .pointer (some ⟨bA, off + k * 3 + 1, none⟩)) (run_value rfl (by rw [e25]; simp [go_sem])) rfl
                    | 14, ho =>
                      have ho' : some _ = some o := ho
                      cases ho'
                      clear ho
                      have e22 := has_const (has_dep hd 9 (by kernel_rfl)) rfl rfl rfl (c := (.bool false))
                      have e26 := has_const (has_dep hd 13 (by kernel_rfl)) rfl rfl rfl (c := (.pointer (some ⟨bA, off + k * 3 + 1, none⟩)))
                      have x0 := (ht.cell (a := ⟨bA, off + k * 3, none⟩) lA (by simp)).trans c0
                      have x1 := (ht.cell (a := ⟨bA, off + k * 3 + 1, none⟩) lA (by simp)).trans c1
                      have x2 := (ht.cell (a := ⟨bA, off + k * 3 + 2, none⟩) lA (by simp)).trans c2
                      have lA2 := Nat.lt_of_lt_of_le lA ht.size
                      exact do_value (wanted_some (g := 9) rfl rfl rfl e22) (v := .int .i64 nid) (run_value rfl (by rw [e26]; simp [go_sem, x1])) rfl
                    | 15, ho =>
                      have ho' : some _ = some o := ho
                      cases ho'
                      clear ho
                      have e22 := has_const (has_dep hd 9 (by kernel_rfl)) rfl rfl rfl (c := (.bool false))
                      have e3 := known_slot hk 3 (by kernel_rfl) (v := .slice (some ⟨bo, 0, none⟩) (na + 1) co) rfl
                      exact do_value (wanted_some (g := 9) rfl rfl rfl e22) (by rw [BigFrame.run_move (.tmp 3) rfl, e3]) rfl
                    | 16, ho =>
                      have ho' : some _ = some o := ho
                      cases ho'
                      clear ho
                      have e22 := has_const (has_dep hd 9 (by kernel_rfl)) rfl rfl rfl (c := (.bool false))
                      have e3 := known_slot hk 3 (by kernel_rfl) (v := .slice (some ⟨bo, 0, none⟩) (na + 1) co) rfl
                      exact do_value (wanted_some (g := 9) rfl rfl rfl e22) (by rw [BigFrame.run_move (.tmp 3) rfl, e3]) rfl
                    | 17, ho =>
                      have ho' : some _ = some o := ho
                      cases ho'
                      clear ho
                      have e22 := has_const (has_dep hd 9 (by kernel_rfl)) rfl rfl rfl (c := (.bool false))
                      have e29 := has_const (has_dep hd 16 (by kernel_rfl)) rfl rfl rfl (c := (.slice (some ⟨bo, 0, none⟩) (na + 1) co))
                      exact do_value (wanted_some (g := 9) rfl rfl rfl e22) (v := .int .i64 ((na + 1) : Nat)) (run_len3 (x := .tmp 29) rfl Try.underlying33 e29) rfl
                    | 18, ho =>
                      have ho' : some _ = some o := ho
                      cases ho'
                      clear ho
                      have e22 := has_const (has_dep hd 9 (by kernel_rfl)) rfl rfl rfl (c := (.bool false))
                      have e30 := has_const (has_dep hd 17 (by kernel_rfl)) rfl rfl rfl (c := (.int .i64 ((na + 1) : Nat)))
                      exact do_value (wanted_some (g := 9) rfl rfl rfl e22) (v := .int .i64 (na : Int)) (run_value rfl (by rw [e30]; simp [go_sem, IntKind.wrap_i64]; omega)) rfl
                    | 19, ho =>
                      have ho' : some _ = some o := ho
                      cases ho'
                      clear ho
                      have e22 := has_const (has_dep hd 9 (by kernel_rfl)) rfl rfl rfl (c := (.bool false))
                      have e28 := has_const (has_dep hd 15 (by kernel_rfl)) rfl rfl rfl (c := (.slice (some ⟨bo, 0, none⟩) (na + 1) co))
                      have e31 := has_const (has_dep hd 18 (by kernel_rfl)) rfl rfl rfl (c := (.int .i64 (na : Int)))
                      exact do_value (wanted_some (g := 9) rfl rfl rfl e22) (v := .pointer (some ⟨bo, na, none⟩)) (run_value rfl (by rw [e28, e31]; simp [go_sem]; omega)) rfl
                    | 20, ho =>
                      have ho' : some _ = some o := ho
                      cases ho'
                      clear ho
                      have e22 := has_const (has_dep hd 9 (by kernel_rfl)) rfl rfl rfl (c := (.bool false))
                      have e32 := has_const (has_dep hd 19 (by kernel_rfl)) rfl rfl rfl (c := (.pointer (some ⟨bo, na, none⟩)))
                      have y0 := (ht.cell (a := ⟨bo, na, none⟩) lo (by simp)).trans co0
                      have lo2 := Nat.lt_of_lt_of_le lo ht.size
                      exact do_value (wanted_some (g := 9) rfl rfl rfl e22) (v := .int .i64 l) (run_value rfl (by rw [e32]; simp [go_sem, y0])) rfl
                    | 21, ho =>
                      have ho' : some _ = some o := ho
                      cases ho'
                      clear ho
                      have e22 := has_const (has_dep hd 9 (by kernel_rfl)) rfl rfl rfl (c := (.bool false))
                      have e27 := has_const (has_dep hd 14 (by kernel_rfl)) rfl rfl rfl (c := (.int .i64 nid))
                      have e33 := has_const (has_dep hd 20 (by kernel_rfl)) rfl rfl rfl (c := (.int .i64 l))
                      exact do_value (wanted_some (g := 9) rfl rfl rfl e22) (v := .bool true) (run_value rfl (by rw [e27, e33]; simp [go_sem, hgt])) rfl
                    | 22, ho =>
                      have ho' : some _ = some o := ho
                      cases ho'
                      clear ho
                      have e18 := has_const (has_dep hd 5 (by kernel_rfl)) rfl rfl rfl (c := (.bool true))
                      have e22 := has_const (has_dep hd 9 (by kernel_rfl)) rfl rfl rfl (c := (.bool false))
                      have e34 := has_const (has_dep hd 21 (by kernel_rfl)) rfl rfl rfl (c := (.bool true))
                      exact do_value (wanted_some (g := 5) rfl rfl rfl e18) (by rw [run_pickF (c := .tmp 22) (x := .const (.bool true)) (y := .tmp 34) rfl e22, e34]) rfl
                    | 23, ho =>
                      have ho' : some _ = some o := ho
                      cases ho'
                      clear ho
                      have e18 := has_const (has_dep hd 5 (by kernel_rfl)) rfl rfl rfl (c := (.bool true))
                      have e35 := has_const (has_dep hd 22 (by kernel_rfl)) rfl rfl rfl (c := (.bool true))
                      exact do_value (wanted_none rfl) (by rw [run_pickT (c := .tmp 18) (x := .tmp 35) (y := .const (.bool false)) rfl e18, e35]) rfl
                    | 24, ho =>
                      have ho' : some _ = some o := ho
                      cases ho'
                      clear ho
                      have e36 := has_const (has_dep hd 23 (by kernel_rfl)) rfl rfl rfl (c := (.bool true))
                      exact do_value (wanted_none rfl) (by rw [BigFrame.run_move (.tmp 36) rfl, e36]) rfl
                    | 25, ho =>
                      have ho' : some _ = some o := ho
                      cases ho'
                      clear ho
                      have e37 := has_const (has_dep hd 24 (by kernel_rfl)) rfl rfl rfl (c := (.bool true))
                      have e5 := known_slot hk 5 (by kernel_rfl) (v := .bool true) rfl
                      exact do_value (wanted_some (g := 24) rfl rfl rfl e37) (by rw [BigFrame.run_move (.tmp 5) rfl, e5]) rfl
                    | 26, ho =>
                      have ho' : some _ = some o := ho
                      cases ho'
                      clear ho
                      have e37 := has_const (has_dep hd 24 (by kernel_rfl)) rfl rfl rfl (c := (.bool true))
                      have e38 := has_const (has_dep hd 25 (by kernel_rfl)) rfl rfl rfl (c := (.bool true))
                      exact do_value (wanted_some (g := 24) rfl rfl rfl e37) (v := .bool false) (run_value rfl (by rw [e38]; simp [go_sem])) rfl
                    | 27, ho =>
                      have ho' : some _ = some o := ho
                      cases ho'
                      clear ho
                      have e37 := has_const (has_dep hd 24 (by kernel_rfl)) rfl rfl rfl (c := (.bool true))
                      have e39 := has_const (has_dep hd 26 (by kernel_rfl)) rfl rfl rfl (c := (.bool false))
                      exact do_value (wanted_some (g := 24) rfl rfl rfl e37) (by rw [BigFrame.run_move (.tmp 39) rfl, e39]) rfl
                    | 28, ho =>
                      have ho' : some _ = some o := ho
                      cases ho'
                      clear ho
                      have e40 := has_const (has_dep hd 27 (by kernel_rfl)) rfl rfl rfl (c := (.bool false))
                      have e0 := known_slot hk 0 (by kernel_rfl) (v := .slice (some ⟨bA, off, none⟩) m c) rfl
                      exact do_value (wanted_some (g := 27) rfl rfl rfl e40) (by rw [BigFrame.run_move (.tmp 0) rfl, e0]) rfl
                    | 29, ho =>
                      have ho' : some _ = some o := ho
                      cases ho'
                      clear ho
                      have e40 := has_const (has_dep hd 27 (by kernel_rfl)) rfl rfl rfl (c := (.bool false))
                      have e6 := known_slot hk 6 (by kernel_rfl) (v := .int .i64 (k : Int)) rfl
                      exact do_value (wanted_some (g := 27) rfl rfl rfl e40) (by rw [BigFrame.run_move (.tmp 6) rfl, e6]) rfl
                    | 30, ho =>
                      have ho' : some _ = some o := ho
                      cases ho'
                      clear ho
                      have e40 := has_const (has_dep hd 27 (by kernel_rfl)) rfl rfl rfl (c := (.bool false))
                      have e41 := has_const (has_dep hd 28 (by kernel_rfl)) rfl rfl rfl (c := (.slice (some ⟨bA, off, none⟩) m c))
                      have e42 := has_const (has_dep hd 29 (by kernel_rfl)) rfl rfl rfl (c := (.int .i64 (k : Int)))
                      exact do_value (wanted_some (g := 27) rfl rfl rfl e40) (v := .pointer (some ⟨bA, off + k * 3, none⟩)) (run_value rfl (by rw [e41, e42]; simp [go_sem]; omega)) rfl
                    | 31, ho =>
                      have ho' : some _ = some o := ho
                      cases ho'
                      clear ho
                      have e40 := has_const (has_dep hd 27 (by kernel_rfl)) rfl rfl rfl (c := (.bool false))
                      have e43 := has_const (has_dep hd 30 (by kernel_rfl)) rfl rfl rfl (c := (.pointer (some ⟨bA, off + k * 3, none⟩)))
                      exact do_value (wanted_some (g := 27) rfl rfl rfl e40) (v := .pointer (some ⟨bA, off + k * 3 + 1, none⟩)) (run_value rfl (by rw [e43]; simp [go_sem])) rfl
                    | 32, ho =>
                      have ho' : some _ = some o := ho
                      cases ho'
                      clear ho
                      have e40 := has_const (has_dep hd 27 (by kernel_rfl)) rfl rfl rfl (c := (.bool false))
                      have e44 := has_const (has_dep hd 31 (by kernel_rfl)) rfl rfl rfl (c := (.pointer (some ⟨bA, off + k * 3 + 1, none⟩)))
                      have x0 := (ht.cell (a := ⟨bA, off + k * 3, none⟩) lA (by simp)).trans c0
                      have x1 := (ht.cell (a := ⟨bA, off + k * 3 + 1, none⟩) lA (by simp)).trans c1
                      have x2 := (ht.cell (a := ⟨bA, off + k * 3 + 2, none⟩) lA (by simp)).trans c2
                      have lA2 := Nat.lt_of_lt_of_le lA ht.size
                      exact do_value (wanted_some (g := 27) rfl rfl rfl e40) (v := .int .i64 nid) (run_value rfl (by rw [e44]; simp [go_sem, x1])) rfl
                    | 33, ho =>
                      have ho' : some _ = some o := ho
                      cases ho'
                      clear ho
                      have e40 := has_const (has_dep hd 27 (by kernel_rfl)) rfl rfl rfl (c := (.bool false))
                      have e4 := known_slot hk 4 (by kernel_rfl) (v := .int .i64 b0) rfl
                      exact do_value (wanted_some (g := 27) rfl rfl rfl e40) (by rw [BigFrame.run_move (.tmp 4) rfl, e4]) rfl
                    | 34, ho =>
                      have ho' : some _ = some o := ho
                      cases ho'
                      clear ho
                      have e40 := has_const (has_dep hd 27 (by kernel_rfl)) rfl rfl rfl (c := (.bool false))
                      have e45 := has_const (has_dep hd 32 (by kernel_rfl)) rfl rfl rfl (c := (.int .i64 nid))
                      have e46 := has_const (has_dep hd 33 (by kernel_rfl)) rfl rfl rfl (c := (.int .i64 b0))
                      exact do_value (wanted_some (g := 27) rfl rfl rfl e40) (v := .bool false) (run_value rfl (by rw [e45, e46]; simp [go_sem, hls])) rfl
                    | 35, ho =>
                      have ho' : some _ = some o := ho
                      cases ho'
                      clear ho
                      have e37 := has_const (has_dep hd 24 (by kernel_rfl)) rfl rfl rfl (c := (.bool true))
                      have e40 := has_const (has_dep hd 27 (by kernel_rfl)) rfl rfl rfl (c := (.bool false))
                      have e47 := has_const (has_dep hd 34 (by kernel_rfl)) rfl rfl rfl (c := (.bool false))
                      exact do_value (wanted_some (g := 24) rfl rfl rfl e37) (by rw [run_pickF (c := .tmp 40) (x := .const (.bool true)) (y := .tmp 47) rfl e40, e47]) rfl
                    | 36, ho =>
                      have ho' : some _ = some o := ho
                      cases ho'
                      clear ho
                      have e37 := has_const (has_dep hd 24 (by kernel_rfl)) rfl rfl rfl (c := (.bool true))
                      have e48 := has_const (has_dep hd 35 (by kernel_rfl)) rfl rfl rfl (c := (.bool false))
                      exact do_value (wanted_none rfl) (by rw [run_pickT (c := .tmp 37) (x := .tmp 48) (y := .const (.bool false)) rfl e37, e48]) rfl
                    | q + 37, ho => exact absurd ho (by simp)
                  · intro x' w4 T4 hkn
                    simp only [putL, Act.put, List.setIfInBounds_toArray, List.set_cons_succ, List.set_cons_zero]
                    have c1 := (T4.cell (a := ⟨bA, off + k * 3 + 1, none⟩) lA (by simp)).trans c1
                    have lA := Nat.lt_of_lt_of_le lA T4.size
                    have TW := Lib.hid (TI.out.trans T4 (by simp))
                    clear T4 c0 c2
                    go_wp2_with fail
                    go_roundw
                    case rel => exact ⟨k + 1, by omega, by go_num, by (try rw [HLO.out]); simp only [EN.out, Option.getD_some], by (try rw [HLO.out]); simp only [EN.out, Option.isSome_some], TW.out⟩
                    case measure => simp [intOf]; omega
            · have hgt : decide (l < nid) = false := by simpa using hgl
              have EN := Lib.hid (ES.out.trans (if_neg (fun h => by have := h.2.1; simp only [above] at this; rw [hgt] at this; cases this)))
              clear ES hgl
              obtain ⟨b0, hb0⟩ : ∃ b0 : Int, (nextId X (some l) k).getD 0 = b0 := ⟨_, rfl⟩
              rw [hb0]
              cases hsm : (nextId X (some l) k).isSome
              · have HB0 := Lib.hid hb0
                have HSM := Lib.hid hsm
                clear hb0 hsm
                go_upto_region 6 with fail
                refine wp_region_leaves (wd := wr) (Leaf.const (.slice (some ⟨bA, off, none⟩) m c) :: Leaf.const (.int .i64 (k : Int)) :: Leaf.const (.pointer (some ⟨bA, off + k * 3, none⟩)) :: Leaf.const (.agg #[.int .i64 a, .int .i64 nid, .int .i64 n]) :: Leaf.const (.bool true) :: Leaf.const ((.bool true)) :: Leaf.const (.slice (some ⟨bo, 0, none⟩) (na + 1) co) :: Leaf.const (.int .i64 ((na + 1) : Nat)) :: Leaf.const (.bool false) :: Leaf.const ((.bool false)) :: Leaf.const (.slice (some ⟨bA, off, none⟩) m c) :: Leaf.const (.int .i64 (k : Int)) :: Leaf.const (.pointer (some ⟨bA, off + k * 3, none⟩)) :: Leaf.const (.pointer (some ⟨bA, off + k * 3 + 1, none⟩)) :: Leaf.const (.int .i64 nid) :: Leaf.const (.slice (some ⟨bo, 0, none⟩) (na + 1) co) :: Leaf.const (.slice (some ⟨bo, 0, none⟩) (na + 1) co) :: Leaf.const (.int .i64 ((na + 1) : Nat)) :: Leaf.const (.int .i64 (na : Int)) :: Leaf.const (.pointer (some ⟨bo, na, none⟩)) :: Leaf.const (.int .i64 l) :: Leaf.const (.bool false) :: Leaf.const ((.bool false)) :: Leaf.const ((.bool false)) :: Leaf.const ((.bool false)) :: Leaf.const (undef) :: Leaf.const (undef) :: Leaf.const (undef) :: Leaf.const (undef) :: Leaf.const (undef) :: Leaf.const (undef) :: Leaf.const (undef) :: Leaf.const (undef) :: Leaf.const (undef) :: Leaf.const (undef) :: Leaf.const (undef) :: Leaf.const (.bool false) :: []) (by kernel_rfl) (by kernel_rfl) (by kernel_rfl) ((Touch.refl _ _).drew) (trivial) ?_ ?_
                · intro i o ho ac w ht hk hd
                  match i, ho with
                  | 0, ho =>
                    have ho' : some _ = some o := ho
                    cases ho'
                    clear ho
                    have e0 := known_slot hk 0 (by kernel_rfl) (v := .slice (some ⟨bA, off, none⟩) m c) rfl
                    exact do_value (wanted_none rfl) (by rw [BigFrame.run_move (.tmp 0) rfl, e0]) rfl
                  | 1, ho =>
                    have ho' : some _ = some o := ho
                    cases ho'
                    clear ho
                    have e6 := known_slot hk 6 (by kernel_rfl) (v := .int .i64 (k : Int)) rfl
                    exact do_value (wanted_none rfl) (by rw [BigFrame.run_move (.tmp 6) rfl, e6]) rfl
                  | 2, ho =>
                    have ho' : some _ = some o := ho
                    cases ho'
                    clear ho
                    have e13 := has_const (has_dep hd 0 (by kernel_rfl)) rfl rfl rfl (c := (.slice (some ⟨bA, off, none⟩) m c))
                    have e14 := has_const (has_dep hd 1 (by kernel_rfl)) rfl rfl rfl (c := (.int .i64 (k : Int)))
                    exact do_value (wanted_none rfl) (v := .pointer (some ⟨bA, off + k * 3, none⟩)) (run_value rfl (by rw [e13, e14]; simp [go_sem]; omega)) rfl
                  | 3, ho =>
                    have ho' : some _ = some o := ho
                    cases ho'
                    clear ho
                    have e15 := has_const (has_dep hd 2 (by kernel_rfl)) rfl rfl rfl (c := (.pointer (some ⟨bA, off + k * 3, none⟩)))
                    have x0 := (ht.cell (a := ⟨bA, off + k * 3, none⟩) lA (by simp)).trans c0
                    have x1 := (ht.cell (a := ⟨bA, off + k * 3 + 1, none⟩) lA (by simp)).trans c1
                    have x2 := (ht.cell (a := ⟨bA, off + k * 3 + 2, none⟩) lA (by simp)).trans c2
                    have lA2 := Nat.lt_of_lt_of_le lA ht.size
                    exact do_value (wanted_none rfl) (v := .agg #[.int .i64 a, .int .i64 nid, .int .i64 n]) (run_value rfl (by rw [e15]; simp [go_sem, x0, x1, x2])) rfl
                  | 4, ho =>
                    have ho' : some _ = some o := ho
                    cases ho'
                    clear ho
                    have e16 := has_const (has_dep hd 3 (by kernel_rfl)) rfl rfl rfl (c := (.agg #[.int .i64 a, .int .i64 nid, .int .i64 n]))
                    refine do_enter (wanted_none rfl) (f := 23) (args := #[(.agg #[.int .i64 a, .int .i64 nid, .int .i64 n])]) (by rw [run_go3 23 _ _ rfl, ent23]; simp [eval_c, e16]) ?_
                    exact Calls.leaf (RC.out _)
                  | 5, ho =>
                    have ho' : some _ = some o := ho
                    cases ho'
                    clear ho
                    have e17 := has_const (has_dep hd 4 (by kernel_rfl)) rfl rfl rfl (c := (.bool true))
                    exact do_value (wanted_none rfl) (by rw [BigFrame.run_move (.tmp 17) rfl, e17]) rfl
                  | 6, ho =>
                    have ho' : some _ = some o := ho
                    cases ho'
                    clear ho
                    have e18 := has_const (has_dep hd 5 (by kernel_rfl)) rfl rfl rfl (c := (.bool true))
                    have e3 := known_slot hk 3 (by kernel_rfl) (v := .slice (some ⟨bo, 0, none⟩) (na + 1) co) rfl
                    exact do_value (wanted_some (g := 5) rfl rfl rfl e18) (by rw [BigFrame.run_move (.tmp 3) rfl, e3]) rfl
                  | 7, ho =>
                    have ho' : some _ = some o := ho
                    cases ho'
                    clear ho
                    have e18 := has_const (has_dep hd 5 (by kernel_rfl)) rfl rfl rfl (c := (.bool true))
                    have e19 := has_const (has_dep hd 6 (by kernel_rfl)) rfl rfl rfl (c := (.slice (some ⟨bo, 0, none⟩) (na + 1) co))
                    exact do_value (wanted_some (g := 5) rfl rfl rfl e18) (v := .int .i64 ((na + 1) : Nat)) (run_len3 (x := .tmp 19) rfl Try.underlying33 e19) rfl
                  | 8, ho =>
                    have ho' : some _ = some o := ho
                    cases ho'
                    clear ho
                    have e18 := has_const (has_dep hd 5 (by kernel_rfl)) rfl rfl rfl (c := (.bool true))
                    have e20 := has_const (has_dep hd 7 (by kernel_rfl)) rfl rfl rfl (c := (.int .i64 ((na + 1) : Nat)))
                    exact do_value (wanted_some (g := 5) rfl rfl rfl e18) (v := .bool false) (run_value rfl (by rw [e20]; simp [go_sem]; omega)) rfl
                  | 9, ho =>
                    have ho' : some _ = some o := ho
                    cases ho'
                    clear ho
                    have e18 := has_const (has_dep hd 5 (by kernel_rfl)) rfl rfl rfl (c := (.bool true))
                    have e21 := has_const (has_dep hd 8 (by kernel_rfl)) rfl rfl rfl (c := (.bool false))
                    exact do_value (wanted_some (g := 5) rfl rfl rfl e18) (by rw [BigFrame.run_move (.tmp 21) rfl, e21]) rfl
                  | 10, ho =>
                    have ho' : some _ = some o := ho
                    cases ho'
                    clear ho
                    have e22 := has_const (has_dep hd 9 (by kernel_rfl)) rfl rfl rfl (c := (.bool false))
                    have e0 := known_slot hk 0 (by kernel_rfl) (v := .slice (some ⟨bA, off, none⟩) m c) rfl
                    exact do_value (wanted_some (g := 9) rfl rfl rfl e22) (by rw [BigFrame.run_move (.tmp 0) rfl, e0]) rfl
                  | 11, ho =>
                    have ho' : some _ = some o := ho
                    cases ho'
                    clear ho
                    have e22 := has_const (has_dep hd 9 (by kernel_rfl)) rfl rfl rfl (c := (.bool false))
                    have e6 := known_slot hk 6 (by kernel_rfl) (v := .int .i64 (k : Int)) rfl
                    exact do_value (wanted_some (g := 9) rfl rfl rfl e22) (by rw [BigFrame.run_move (.tmp 6) rfl, e6]) rfl
                  | 12, ho =>
                    have ho' : some _ = some o := ho
                    cases ho'
                    clear ho
                    have e22 := has_const (has_dep hd 9 (by kernel_rfl)) rfl rfl rfl (c := (.bool false))
                    have e23 := has_const (has_dep hd 10 (by kernel_rfl)) rfl rfl rfl (c := (.slice (some ⟨bA, off, none⟩) m c))
                    have e24 := has_const (has_dep hd 11 (by kernel_rfl)) rfl rfl rfl (c := (.int .i64 (k : Int)))
                    exact do_value (wanted_some (g := 9) rfl rfl rfl e22) (v := .pointer (some ⟨bA, off + k * 3, none⟩)) (run_value rfl (by rw [e23, e24]; simp [go_sem]; omega)) rfl
                  | 13, ho =>
                    have ho' : some _ = some o := ho
                    cases ho'
                    clear ho
                    have e22 := has_const (has_dep hd 9 (by kernel_rfl)) rfl rfl rfl (c := (.bool false))
                    have e25 := has_const (has_dep hd 12 (by kernel_rfl)) rfl rfl rfl (c := (.pointer (some ⟨bA, off + k * 3, none⟩)))
                    exact do_value (wanted_some (g := 9) rfl rfl rfl e22) (v := .pointer (some ⟨bA, off + k * 3 + 1, none⟩)) (run_value rfl (by rw [e25]; simp [go_sem])) rfl
                  | 14, ho =>
                    have ho' : some _ = some o := ho
                    cases ho'
                    clear ho
                    have e22 := has_const (has_dep hd 9 (by kernel_rfl)) rfl rfl rfl (c := (.bool false))
                    have e26 := has_const (has_dep hd 13 (by kernel_rfl)) rfl rfl rfl (c := (.pointer (some ⟨bA, off + k * 3 + 1, none⟩)))
                    have x0 := (ht.cell (a := ⟨bA, off + k * 3, none⟩) lA (by simp)).trans c0
                    have x1 := (ht.cell (a := ⟨bA, off + k * 3 + 1, none⟩) lA (by simp)).trans c1
                    have x2 := (ht.cell (a := ⟨bA, off + k * 3 + 2, none⟩) lA (by simp)).trans c2
                    have lA2 := Nat.lt_of_lt_of_le lA ht.size
                    exact do_value (wanted_some (g := 9) rfl rfl rfl e22) (v := .int .i64 nid) (run_value rfl (by rw [e26]; simp [go_sem, x1])) rfl
                  | 15, ho =>
                    have ho' : some _ = some o := ho
                    cases ho'
                    clear ho
                    have e22 := has_const (has_dep hd 9 (by kernel_rfl)) rfl rfl rfl (c := (.bool false))
                    have e3 := known_slot hk 3 (by kernel_rfl) (v := .slice (some ⟨bo, 0, none⟩) (na + 1) co) rfl
                    exact do_value (wanted_some (g := 9) rfl rfl rfl e22) (by rw [BigFrame.run_move (.tmp 3) rfl, e3]) rfl
                  | 16, ho =>
                    have ho' : some _ = some o := ho
                    cases ho'
                    clear ho
                    have e22 := has_const (has_dep hd 9 (by kernel_rfl)) rfl rfl rfl (c := (.bool false))
                    have e3 := known_slot hk 3 (by kernel_rfl) (v := .slice (some ⟨bo, 0, none⟩) (na + 1) co) rfl
                    exact do_value (wanted_some (g := 9) rfl rfl rfl e22) (by rw [BigFrame.run_move (.tmp 3) rfl, e3]) rfl
                  | 17, ho =>
                    have ho' : some _ = some o := ho
                    cases ho'
                    clear ho
                    have e22 := has_const (has_dep hd 9 (by kernel_rfl)) rfl rfl rfl (c := (.bool false))
                    have e29 := has_const (has_dep hd 16 (by kernel_rfl)) rfl rfl rfl (c := (.slice (some ⟨bo, 0, none⟩) (na + 1) co))
                    exact do_value (wanted_some (g := 9) rfl rfl rfl e22) (v := .int .i64 ((na + 1) : Nat)) (run_len3 (x := .tmp 29) rfl Try.underlying33 e29) rfl
                  | 18, ho =>
                    have ho' : some _ = some o := ho
                    cases ho'
                    clear ho
                    have e22 := has_const (has_dep hd 9 (by kernel_rfl)) rfl rfl rfl (c := (.bool false))
                    have e30 := has_const (has_dep hd 17 (by kernel_rfl)) rfl rfl rfl (c := (.int .i64 ((na + 1) : Nat)))
                    exact do_value (wanted_some (g := 9) rfl rfl rfl e22) (v := .int .i64 (na : Int)) (run_value rfl (by rw [e30]; simp [go_sem, IntKind.wrap_i64]; omega)) rfl
                  | 19, ho =>
                    have ho' : some _ = some o := ho
                    cases ho'
                    clear ho
                    have e22 := has_const (has_dep hd 9 (by kernel_rfl)) rfl rfl rfl (c := (.bool false))
                    have e28 := has_const (has_dep hd 15 (by kernel_rfl)) rfl rfl rfl (c := (.slice (some ⟨bo, 0, none⟩) (na + 1) co))
                    have e31 := has_const (has_dep hd 18 (by kernel_rfl)) rfl rfl rfl (c := (.int .i64 (na : Int)))
                    exact do_value (wanted_some (g := 9) rfl rfl rfl e22) (v := .pointer (some ⟨bo, na, none⟩)) (run_value rfl (by rw [e28, e31]; simp [go_sem]; omega)) rfl
                  | 20, ho =>
                    have ho' : some _ = some o := ho
                    cases ho'
                    clear ho
                    have e22 := has_const (has_dep hd 9 (by kernel_rfl)) rfl rfl rfl (c := (.bool false))
                    have e32 := has_const (has_dep hd 19 (by kernel_rfl)) rfl rfl rfl (c := (.pointer (some ⟨bo, na, none⟩)))
                    have y0 := (ht.cell (a := ⟨bo, na, none⟩) lo (by simp)).trans co0
                    have lo2 := Nat.lt_of_lt_of_le lo ht.size
                    exact do_value (wanted_some (g := 9) rfl rfl rfl e22) (v := .int .i64 l) (run_value rfl (by rw [e32]; simp [go_sem, y0])) rfl
                  | 21, ho =>
                    have ho' : some _ = some o := ho
                    cases ho'
                    clear ho
                    have e22 := has_const (has_dep hd 9 (by kernel_rfl)) rfl rfl rfl (c := (.bool false))
                    have e27 := has_const (has_dep hd 14 (by kernel_rfl)) rfl rfl rfl (c := (.int .i64 nid))
                    have e33 := has_const (has_dep hd 20 (by kernel_rfl)) rfl rfl rfl (c := (.int .i64 l))
                    exact do_value (wanted_some (g := 9) rfl rfl rfl e22) (v := .bool false) (run_value rfl (by rw [e27, e33]; simp [go_sem, hgt])) rfl
                  | 22, ho =>
                    have ho' : some _ = some o := ho
                    cases ho'
                    clear ho
                    have e18 := has_const (has_dep hd 5 (by kernel_rfl)) rfl rfl rfl (c := (.bool true))
                    have e22 := has_const (has_dep hd 9 (by kernel_rfl)) rfl rfl rfl (c := (.bool false))
                    have e34 := has_const (has_dep hd 21 (by kernel_rfl)) rfl rfl rfl (c := (.bool false))
                    exact do_value (wanted_some (g := 5) rfl rfl rfl e18) (by rw [run_pickF (c := .tmp 22) (x := .const (.bool true)) (y := .tmp 34) rfl e22, e34]) rfl
                  | 23, ho =>
                    have ho' : some _ = some o := ho
                    cases ho'
                    clear ho
                    have e18 := has_const (has_dep hd 5 (by kernel_rfl)) rfl rfl rfl (c := (.bool true))
                    have e35 := has_const (has_dep hd 22 (by kernel_rfl)) rfl rfl rfl (c := (.bool false))
                    exact do_value (wanted_none rfl) (by rw [run_pickT (c := .tmp 18) (x := .tmp 35) (y := .const (.bool false)) rfl e18, e35]) rfl
                  | 24, ho =>
                    have ho' : some _ = some o := ho
                    cases ho'
                    clear ho
                    have e36 := has_const (has_dep hd 23 (by kernel_rfl)) rfl rfl rfl (c := (.bool false))
                    exact do_value (wanted_none rfl) (by rw [BigFrame.run_move (.tmp 36) rfl, e36]) rfl
                  | 25, ho =>
                    have ho' : some _ = some o := ho
                    cases ho'
                    clear ho
                    have e37 := has_const (has_dep hd 24 (by kernel_rfl)) rfl rfl rfl (c := (.bool false))
                    exact do_skip (wanted_not (g := 24) rfl rfl rfl e37) rfl
                  | 26, ho =>
                    have ho' : some _ = some o := ho
                    cases ho'
                    clear ho
                    have e37 := has_const (has_dep hd 24 (by kernel_rfl)) rfl rfl rfl (c := (.bool false))
                    exact do_skip (wanted_not (g := 24) rfl rfl rfl e37) rfl
                  | 27, ho =>
                    have ho' : some _ = some o := ho
                    cases ho'
                    clear ho
                    have e37 := has_const (has_dep hd 24 (by kernel_rfl)) rfl rfl rfl (c := (.bool false))
                    exact do_skip (wanted_not (g := 24) rfl rfl rfl e37) rfl
                  | 28, ho =>
                    have ho' : some _ = some o := ho
                    cases ho'
                    clear ho
                    have e40 := has_const (has_dep hd 27 (by kernel_rfl)) rfl rfl rfl (c := undef)
                    exact do_skip (wanted_undef (g := 27) rfl rfl rfl e40) rfl
                  | 29, ho =>
                    have ho' : some _ = some o := ho
                    cases ho'
                    clear ho
                    have e40 := has_const (has_dep hd 27 (by kernel_rfl)) rfl rfl rfl (c := undef)
                    exact do_skip (wanted_undef (g := 27) rfl rfl rfl e40) rfl
                  | 30, ho =>
                    have ho' : some _ = some o := ho
                    cases ho'
                    clear ho
                    have e40 := has_const (has_dep hd 27 (by kernel_rfl)) rfl rfl rfl (c := undef)
                    exact do_skip (wanted_undef (g := 27) rfl rfl rfl e40) rfl
                  | 31, ho =>
                    have ho' : some _ = some o := ho
                    cases ho'
                    clear ho
                    have e40 := has_const (has_dep hd 27 (by kernel_rfl)) rfl rfl rfl (c := undef)
                    exact do_skip (wanted_undef (g := 27) rfl rfl rfl e40) rfl
                  | 32, ho =>
                    have ho' : some _ = some o := ho
                    cases ho'
                    clear ho
                    have e40 := has_const (has_dep hd 27 (by kernel_rfl)) rfl rfl rfl (c := undef)
                    exact do_skip (wanted_undef (g := 27) rfl rfl rfl e40) rfl
                  | 33, ho =>
                    have ho' : some _ = some o := ho
                    cases ho'
                    clear ho
                    have e40 := has_const (has_dep hd 27 (by kernel_rfl)) rfl rfl rfl (c := undef)
                    exact do_skip (wanted_undef (g := 27) rfl rfl rfl e40) rfl
                  | 34, ho =>
                    have ho' : some _ = some o := ho
                    cases ho'
                    clear ho
                    have e40 := has_const (has_dep hd 27 (by kernel_rfl)) rfl rfl rfl (c := undef)
                    exact do_skip (wanted_undef (g := 27) rfl rfl rfl e40) rfl
                  | 35, ho =>
                    have ho' : some _ = some o := ho
                    cases ho'
                    clear ho
                    have e37 := has_const (has_dep hd 24 (by kernel_rfl)) rfl rfl rfl (c := (.bool false))
                    exact do_skip (wanted_not (g := 24) rfl rfl rfl e37) rfl
                  | 36, ho =>
                    have ho' : some _ = some o := ho
                    cases ho'
                    clear ho
                    have e37 := has_const (has_dep hd 24 (by kernel_rfl)) rfl rfl rfl (c := (.bool false))
                    exact do_value (wanted_none rfl) (by rw [run_pickF (c := .tmp 37) (x := .tmp 48) (y := .const (.bool false)) rfl e37, eval_c]) rfl
                  | q + 37, ho => exact absurd ho (by simp)
                · intro x' w4 T4 hkn
                  simp only [putL, Act.put, List.setIfInBounds_toArray, List.set_cons_succ, List.set_cons_zero]
                  have c1 := (T4.cell (a := ⟨bA, off + k * 3 + 1, none⟩) lA (by simp)).trans c1
                  have lA := Nat.lt_of_lt_of_le lA T4.size
                  have TW := Lib.hid (TI.out.trans T4 (by simp))
                  clear T4 c0 c2
                  go_wp2_with fail
                  go_roundw
                  case rel => exact ⟨k + 1, by omega, by go_num, by (try rw [HLO.out]); rw [EN.out, HB0.out], by (try rw [HLO.out]); rw [EN.out, HSM.out], TW.out⟩
                  case measure => simp [intOf]; omega
              · have HB0 := Lib.hid hb0
                have HSM := Lib.hid hsm
                clear hb0 hsm
                go_upto_region 6 with fail
                refine wp_region_leaves (wd := wr) (Leaf.const (.slice (some ⟨bA, off, none⟩) m c) :: Leaf.const (.int .i64 (k : Int)) :: Leaf.const (.pointer (some ⟨bA, off + k * 3, none⟩)) :: Leaf.const (.agg #[.int .i64 a, .int .i64 nid, .int .i64 n]) :: Leaf.const (.bool true) :: Leaf.const ((.bool true)) :: Leaf.const (.slice (some ⟨bo, 0, none⟩) (na + 1) co) :: Leaf.const (.int .i64 ((na + 1) : Nat)) :: Leaf.const (.bool false) :: Leaf.const ((.bool false)) :: Leaf.const (.slice (some ⟨bA, off, none⟩) m c) :: Leaf.const (.int .i64 (k : Int)) :: Leaf.const (.pointer (some ⟨bA, off + k * 3, none⟩)) :: Leaf.const (.pointer (some ⟨bA, off + k * 3 + 1, none⟩)) :: Leaf.const (.int .i64 nid) :: Leaf.const (.slice (some ⟨bo, 0, none⟩) (na + 1) co) :: Leaf.const (.slice (some ⟨bo, 0, none⟩) (na + 1) co) :: Leaf.const (.int .i64 ((na + 1) : Nat)) :: Leaf.const (.int .i64 (na : Int)) :: Leaf.const (.pointer (some ⟨bo, na, none⟩)) :: Leaf.const (.int .i64 l) :: Leaf.const (.bool false) :: Leaf.const ((.bool false)) :: Leaf.const ((.bool false)) :: Leaf.const ((.bool false)) :: Leaf.const (undef) :: Leaf.const (undef) :: Leaf.const (undef) :: Leaf.const (undef) :: Leaf.const (undef) :: Leaf.const (undef) :: Leaf.const (undef) :: Leaf.const (undef) :: Leaf.const (undef) :: Leaf.const (undef) :: Leaf.const (undef) :: Leaf.const (.bool false) :: []) (by kernel_rfl) (by kernel_rfl) (by kernel_rfl) ((Touch.refl _ _).drew) (trivial) ?_ ?_
                · intro i o ho ac w ht hk hd
                  match i, ho with
                  | 0, ho =>
                    have ho' : some _ = some o := ho
                    cases ho'
                    clear ho
                    have e0 := known_slot hk 0 (by kernel_rfl) (v := .slice (some ⟨bA, off, none⟩) m c) rfl
                    exact do_value (wanted_none rfl) (by rw [BigFrame.run_move (.tmp 0) rfl, e0]) rfl
                  | 1, ho =>
                    have ho' : some _ = some o := ho
                    cases ho'
                    clear ho
                    have e6 := known_slot hk 6 (by kernel_rfl) (v := .int .i64 (k : Int)) rfl
                    exact do_value (wanted_none rfl) (by rw [BigFrame.run_move (.tmp 6) rfl, e6]) rfl
                  | 2, ho =>
                    have ho' : some _ = some o := ho
                    cases ho'
                    clear ho
                    have e13 := has_const (has_dep hd 0 (by kernel_rfl)) rfl rfl rfl (c := (.slice (some ⟨bA, off, none⟩) m c))
                    have e14 := has_const (has_dep hd 1 (by kernel_rfl)) rfl rfl rfl (c := (.int .i64 (k : Int)))
                    exact do_value (wanted_none rfl) (v := .pointer (some ⟨bA, off + k * 3, none⟩)) (run_value rfl (by rw [e13, e14]; simp [go_sem]; omega)) rfl
                  | 3, ho =>
                    have ho' : some _ = some o := ho
                    cases ho'
                    clear ho
                    have e15 := has_const (has_dep hd 2 (by kernel_rfl)) rfl rfl rfl (c := (.pointer (some ⟨bA, off + k * 3, none⟩)))
                    have x0 := (ht.cell (a := ⟨bA, off + k * 3, none⟩) lA (by simp)).trans c0
                    have x1 := (ht.cell (a := ⟨bA, off + k * 3 + 1, none⟩) lA (by simp)).trans c1
                    have x2 := (ht.cell (a := ⟨bA, off + k * 3 + 2, none⟩) lA (by simp)).trans c2
                    have lA2 := Nat.lt_of_lt_of_le lA ht.size
                    exact do_value (wanted_none rfl) (v := .agg #[.int .i64 a, .int .i64 nid, .int .i64 n]) (run_value rfl (by rw [e15]; simp [go_sem, x0, x1, x2])) rfl
                  | 4, ho =>
                    have ho' : some _ = some o := ho
                    cases ho'
                    clear ho
                    have e16 := has_const (has_dep hd 3 (by kernel_rfl)) rfl rfl rfl (c := (.agg #[.int .i64 a, .int .i64 nid, .int .i64 n]))
                    refine do_enter (wanted_none rfl) (f := 23) (args := #[(.agg #[.int .i64 a, .int .i64 nid, .int .i64 n])]) (by rw [run_go3 23 _ _ rfl, ent23]; simp [eval_c, e16]) ?_
                    exact Calls.leaf (RC.out _)
                  | 5, ho =>
                    have ho' : some _ = some o := ho
                    cases ho'
                    clear ho
                    have e17 := has_const (has_dep hd 4 (by kernel_rfl)) rfl rfl rfl (c := (.bool true))
                    exact do_value (wanted_none rfl) (by rw [BigFrame.run_move (.tmp 17) rfl, e17]) rfl
                  | 6, ho =>
                    have ho' : some _ = some o := ho
                    cases ho'
                    clear ho
                    have e18 := has_const (has_dep hd 5 (by kernel_rfl)) rfl rfl rfl (c := (.bool true))
                    have e3 := known_slot hk 3 (by kernel_rfl) (v := .slice (some ⟨bo, 0, none⟩) (na + 1) co) rfl
                    exact do_value (wanted_some (g := 5) rfl rfl rfl e18) (by rw [BigFrame.run_move (.tmp 3) rfl, e3]) rfl
                  | 7, ho =>
                    have ho' : some _ = some o := ho
                    cases ho'
                    clear ho
                    have e18 := has_const (has_dep hd 5 (by kernel_rfl)) rfl rfl rfl (c := (.bool true))
                    have e19 := has_const (has_dep hd 6 (by kernel_rfl)) rfl rfl rfl (c := (.slice (some ⟨bo, 0, none⟩) (na + 1) co))
                    exact do_value (wanted_some (g := 5) rfl rfl rfl e18) (v := .int .i64 ((na + 1) : Nat)) (run_len3 (x := .tmp 19) rfl Try.underlying33 e19) rfl
                  | 8, ho =>
                    have ho' : some _ = some o := ho
                    cases ho'
                    clear ho
                    have e18 := has_const (has_dep hd 5 (by kernel_rfl)) rfl rfl rfl (c := (.bool true))
                    have e20 := has_const (has_dep hd 7 (by kernel_rfl)) rfl rfl rfl (c := (.int .i64 ((na + 1) : Nat)))
                    exact do_value (wanted_some (g := 5) rfl rfl rfl e18) (v := .bool false) (run_value rfl (by rw [e20]; simp [go_sem]; omega)) rfl
                  | 9, ho =>
                    have ho' : some _ = some o := ho
                    cases ho'
                    clear ho
                    have e18 := has_const (has_dep hd 5 (by kernel_rfl)) rfl rfl rfl (c := (.bool true))
                    have e21 := has_const (has_dep hd 8 (by kernel_rfl)) rfl rfl rfl (c := (.bool false))
                    exact do_value (wanted_some (g := 5) rfl rfl rfl e18) (by rw [BigFrame.run_move (.tmp 21) rfl, e21]) rfl
                  | 10, ho =>
                    have ho' : some _ = some o := ho
                    cases ho'
                    clear ho
                    have e22 := has_const (has_dep hd 9 (by kernel_rfl)) rfl rfl rfl (c := (.bool false))
                    have e0 := known_slot hk 0 (by kernel_rfl) (v := .slice (some ⟨bA, off, none⟩) m c) rfl
                    exact do_value (wanted_some (g := 9) rfl rfl rfl e22) (by rw [BigFrame.run_move (.tmp 0) rfl, e0]) rfl
                  | 11, ho =>
                    have ho' : some _ = some o := ho
                    cases ho'
                    clear ho
                    have e22 := has_const (has_dep hd 9 (by kernel_rfl)) rfl rfl rfl (c := (.bool false))
                    have e6 := known_slot hk 6 (by kernel_rfl) (v := .int .i64 (k : Int)) rfl
                    exact do_value (wanted_some (g := 9) rfl rfl rfl e22) (by rw [BigFrame.run_move (.tmp 6) rfl, e6]) rfl
                  | 12, ho =>
                    have ho' : some _ = some o := ho
                    cases ho'
                    clear ho
                    have e22 := has_const (has_dep hd 9 (by kernel_rfl)) rfl rfl rfl (c := (.bool false))
                    have e23 := has_const (has_dep hd 10 (by kernel_rfl)) rfl rfl rfl (c := (.slice (some ⟨bA, off, none⟩) m c))
                    have e24 := has_const (has_dep hd 11 (by kernel_rfl)) rfl rfl rfl (c := (.int .i64 (k : Int)))
                    exact do_value (wanted_some (g := 9) rfl rfl rfl e22) (v := .pointer (some ⟨bA, off + k * 3, none⟩)) (run_value rfl (by rw [e23, e24]; simp [go_sem]; omega)) rfl
                  | 13, ho =>
                    have ho' : some _ = some o := ho
                    cases ho'
                    clear ho
                    have e22 := has_const (has_dep hd 9 (by kernel_rfl)) rfl rfl rfl (c := (.bool false))
                    have e25 := has_const (has_dep hd 12 (by kernel_rfl)) rfl rfl rfl (c := (.pointer (some ⟨bA, off + k * 3, none⟩)))
                    exact do_value (wanted_some (g := 9) rfl rfl rfl e22) (v := .pointer (some ⟨bA, off + k * 3 + 1, none⟩)) (run_value rfl (by rw [e25]; simp [go_sem])) rfl
                  | 14, ho =>
                    have ho' : some _ = some o := ho
                    cases ho'
                    clear ho
                    have e22 := has_const (has_dep hd 9 (by kernel_rfl)) rfl rfl rfl (c := (.bool false))
                    have e26 := has_const (has_dep hd 13 (by kernel_rfl)) rfl rfl rfl (c := (.pointer (some ⟨bA, off + k * 3 + 1, none⟩)))
                    have x0 := (ht.cell (a := ⟨bA, off + k * 3, none⟩) lA (by simp)).trans c0
                    have x1 := (ht.cell (a := ⟨bA, off + k * 3 + 1, none⟩) lA (by simp)).trans c1
                    have x2 := (ht.cell (a := ⟨bA, off + k * 3 + 2, none⟩) lA (by simp)).trans c2
                    have lA2 := Nat.lt_of_lt_of_le lA ht.size
                    exact do_value (wanted_some (g := 9) rfl rfl rfl e22) (v := .int .i64 nid) (run_value rfl (by rw [e26]; simp [go_sem, x1])) rfl
                  | 15, ho =>
                    have ho' : some _ = some o := ho
                    cases ho'
                    clear ho
                    have e22 := has_const (has_dep hd 9 (by kernel_rfl)) rfl rfl rfl (c := (.bool false))
                    have e3 := known_slot hk 3 (by kernel_rfl) (v := .slice (some ⟨bo, 0, none⟩) (na + 1) co) rfl
                    exact do_value (wanted_some (g := 9) rfl rfl rfl e22) (by rw [BigFrame.run_move (.tmp 3) rfl, e3]) rfl
                  | 16, ho =>
                    have ho' : some _ = some o := ho
                    cases ho'
                    clear ho
                    have e22 := has_const (has_dep hd 9 (by kernel_rfl)) rfl rfl rfl (c := (.bool false))
                    have e3 := known_slot hk 3 (by kernel_rfl) (v := .slice (some ⟨bo, 0, none⟩) (na + 1) co) rfl
                    exact do_value (wanted_some (g := 9) rfl rfl rfl e22) (by rw [BigFrame.run_move (.tmp 3) rfl, e3]) rfl
                  | 17, ho =>
                    have ho' : some _ = some o := ho
                    cases ho'
                    clear ho
                    have e22 := has_const (has_dep hd 9 (by kernel_rfl)) rfl rfl rfl (c := (.bool false))
                    have e29 := has_const (has_dep hd 16 (by kernel_rfl)) rfl rfl rfl (c := (.slice (some ⟨bo, 0, none⟩) (na + 1) co))
                    exact do_value (wanted_some (g := 9) rfl rfl rfl e22) (v := .int .i64 ((na + 1) : Nat)) (run_len3 (x := .tmp 29) rfl Try.underlying33 e29) rfl
                  | 18, ho =>
                    have ho' : some _ = some o := ho
                    cases ho'
                    clear ho
                    have e22 := has_const (has_dep hd 9 (by kernel_rfl)) rfl rfl rfl (c := (.bool false))
                    have e30 := has_const (has_dep hd 17 (by kernel_rfl)) rfl rfl rfl (c := (.int .i64 ((na + 1) : Nat)))
                    exact do_value (wanted_some (g := 9) rfl rfl rfl e22) (v := .int .i64 (na : Int)) (run_value rfl (by rw [e30]; simp [go_sem, IntKind.wrap_i64]; omega)) rfl
                  | 19, ho =>
                    have ho' : some _ = some o := ho
                    cases ho'
                    clear ho
                    have e22 := has_const (has_dep hd 9 (by kernel_rfl)) rfl rfl rfl (c := (.bool false))
                    have e28 := has_const (has_dep hd 15 (by kernel_rfl)) rfl rfl rfl (c := (.slice (some ⟨bo, 0, none⟩) (na + 1) co))
                    have e31 := has_const (has_dep hd 18 (by kernel_rfl)) rfl rfl rfl (c := (.int .i64 (na : Int)))
                    exact do_value (wanted_some (g := 9) rfl rfl rfl e22) (v := .pointer (some ⟨bo, na, none⟩)) (run_value rfl (by rw [e28, e31]; simp [go_sem]; omega)) rfl
                  | 20, ho =>
                    have ho' : some _ = some o := ho
                    cases ho'
                    clear ho
                    have e22 := has_const (has_dep hd 9 (by kernel_rfl)) rfl rfl rfl (c := (.bool false))
                    have e32 := has_const (has_dep hd 19 (by kernel_rfl)) rfl rfl rfl (c := (.pointer (some ⟨bo, na, none⟩)))
                    have y0 := (ht.cell (a := ⟨bo, na, none⟩) lo (by simp)).trans co0
                    have lo2 := Nat.lt_of_lt_of_le lo ht.size
                    exact do_value (wanted_some (g := 9) rfl rfl rfl e22) (v := .int .i64 l) (run_value rfl (by rw [e32]; simp [go_sem, y0])) rfl
                  | 21, ho =>
                    have ho' : some _ = some o := ho
                    cases ho'
                    clear ho
                    have e22 := has_const (has_dep hd 9 (by kernel_rfl)) rfl rfl rfl (c := (.bool false))
                    have e27 := has_const (has_dep hd 14 (by kernel_rfl)) rfl rfl rfl (c := (.int .i64 nid))
                    have e33 := has_const (has_dep hd 20 (by kernel_rfl)) rfl rfl rfl (c := (.int .i64 l))
                    exact do_value (wanted_some (g := 9) rfl rfl rfl e22) (v := .bool false) (run_value rfl (by rw [e27, e33]; simp [go_sem, hgt])) rfl
                  | 22, ho =>
                    have ho' : some _ = some o := ho
                    cases ho'
                    clear ho
                    have e18 := has_const (has_dep hd 5 (by kernel_rfl)) rfl rfl rfl (c := (.bool true))
                    have e22 := has_const (has_dep hd 9 (by kernel_rfl)) rfl rfl rfl (c := (.bool false))
                    have e34 := has_const (has_dep hd 21 (by kernel_rfl)) rfl rfl rfl (c := (.bool false))
                    exact do_value (wanted_some (g := 5) rfl rfl rfl e18) (by rw [run_pickF (c := .tmp 22) (x := .const (.bool true)) (y := .tmp 34) rfl e22, e34]) rfl
                  | 23, ho =>
                    have ho' : some _ = some o := ho
                    cases ho'
                    clear ho
                    have e18 := has_const (has_dep hd 5 (by kernel_rfl)) rfl rfl rfl (c := (.bool true))
                    have e35 := has_const (has_dep hd 22 (by kernel_rfl)) rfl rfl rfl (c := (.bool false))
                    exact do_value (wanted_none rfl) (by rw [run_pickT (c := .tmp 18) (x := .tmp 35) (y := .const (.bool false)) rfl e18, e35]) rfl
                  | 24, ho =>
                    have ho' : some _ = some o := ho
                    cases ho'
                    clear ho
                    have e36 := has_const (has_dep hd 23 (by kernel_rfl)) rfl rfl rfl (c := (.bool false))
                    exact do_value (wanted_none rfl) (by rw [BigFrame.run_move (.tmp 36) rfl, e36]) rfl
                  | 25, ho =>
                    have ho' : some _ = some o := ho
                    cases ho'
                    clear ho
                    have e37 := has_const (has_dep hd 24 (by kernel_rfl)) rfl rfl rfl (c := (.bool false))
                    exact do_skip (wanted_not (g := 24) rfl rfl rfl e37) rfl
                  | 26, ho =>
                    have ho' : some _ = some o := ho
                    cases ho'
                    clear ho
                    have e37 := has_const (has_dep hd 24 (by kernel_rfl)) rfl rfl rfl (c := (.bool false))
                    exact do_skip (wanted_not (g := 24) rfl rfl rfl e37) rfl
                  | 27, ho =>
                    have ho' : some _ = some o := ho
                    cases ho'
                    clear ho
                    have e37 := has_const (has_dep hd 24 (by kernel_rfl)) rfl rfl rfl (c := (.bool false))
                    exact do_skip (wanted_not (g := 24) rfl rfl rfl e37) rfl
                  | 28, ho =>
                    have ho' : some _ = some o := ho
                    cases ho'
                    clear ho
                    have e40 := has_const (has_dep hd 27 (by kernel_rfl)) rfl rfl rfl (c := undef)
                    exact do_skip (wanted_undef (g := 27) rfl rfl rfl e40) rfl
                  | 29, ho =>
                    have ho' : some _ = some o := ho
                    cases ho'
                    clear ho
                    have e40 := has_const (has_dep hd 27 (by kernel_rfl)) rfl rfl rfl (c := undef)
                    exact do_skip (wanted_undef (g := 27) rfl rfl rfl e40) rfl
                  | 30, ho =>
                    have ho' : some _ = some o := ho
                    cases ho'
                    clear ho
                    have e40 := has_const (has_dep hd 27 (by kernel_rfl)) rfl rfl rfl (c := undef)
                    exact do_skip (wanted_undef (g := 27) rfl rfl rfl e40) rfl
                  | 31, ho =>
                    have ho' : some _ = some o := ho
                    cases ho'
                    clear ho
                    have e40 := has_const (has_dep hd 27 (by kernel_rfl)) rfl rfl rfl (c := undef)
                    exact do_skip (wanted_undef (g := 27) rfl rfl rfl e40) rfl
                  | 32, ho =>
                    have ho' : some _ = some o := ho
                    cases ho'
                    clear ho
                    have e40 := has_const (has_dep hd 27 (by kernel_rfl)) rfl rfl rfl (c := undef)
                    exact do_skip (wanted_undef (g := 27) rfl rfl rfl e40) rfl
                  | 33, ho =>
                    have ho' : some _ = some o := ho
                    cases ho'
                    clear ho
                    have e40 := has_const (has_dep hd 27 (by kernel_rfl)) rfl rfl rfl (c := undef)
                    exact do_skip (wanted_undef (g := 27) rfl rfl rfl e40) rfl
                  | 34, ho =>
                    have ho' : some _ = some o := ho
                    cases ho'
                    clear ho
                    have e40 := has_const (has_dep hd 27 (by kernel_rfl)) rfl rfl rfl (c := undef)
                    exact do_skip (wanted_undef (g := 27) rfl rfl rfl e40) rfl
                  | 35, ho =>
                    have ho' : some _ = some o := ho
                    cases ho'
                    clear ho
                    have e37 := has_const (has_dep hd 24 (by kernel_rfl)) rfl rfl rfl (c := (.bool false))
                    exact do_skip (wanted_not (g := 24) rfl rfl rfl e37) rfl
                  | 36, ho =>
                    have ho' : some _ = some o := ho
                    cases ho'
                    clear ho
                    have e37 := has_const (has_dep hd 24 (by kernel_rfl)) rfl rfl rfl (c := (.bool false))
                    exact do_value (wanted_none rfl) (by rw [run_pickF (c := .tmp 37) (x := .tmp 48) (y := .const (.bool false)) rfl e37, eval_c]) rfl
                  | q + 37, ho => exact absurd ho (by simp)
                · intro x' w4 T4 hkn
                  simp only [putL, Act.put, List.setIfInBounds_toArray, List.set_cons_succ, List.set_cons_zero]
                  have c1 := (T4.cell (a := ⟨bA, off + k * 3 + 1, none⟩) lA (by simp)).trans c1
                  have lA := Nat.lt_of_lt_of_le lA T4.size
                  have TW := Lib.hid (TI.out.trans T4 (by simp))
                  clear T4 c0 c2
                  go_wp2_with fail
                  go_roundw
                  case rel => exact ⟨k + 1, by omega, by go_num, by (try rw [HLO.out]); rw [EN.out, HB0.out], by (try rw [HLO.out]); rw [EN.out, HSM.out], TW.out⟩
                  case measure => simp [intOf]; omega
        · rw [show decide (cntd ⟨a, nid, n⟩) = false by simpa using hc] at RC
          have EN := Lib.hid (ES.out.trans (if_neg (fun h => hc h.1)))
          clear ES
          rcases List.eq_nil_or_concat Ap with hnil | ⟨A', l, hcat⟩
          · subst hnil
            simp only [List.length_nil]
            obtain ⟨b0, hb0⟩ : ∃ b0 : Int, (nextId X LO k).getD 0 = b0 := ⟨_, rfl⟩
            rw [hb0]
            cases hsm : (nextId X LO k).isSome
            · have HB0 := Lib.hid hb0
              have HSM := Lib.hid hsm
              clear hb0 hsm
              go_upto_region 6 with fail
              refine wp_region_leaves (wd := wr) (Leaf.const (.slice (some ⟨bA, off, none⟩) m c) :: Leaf.const (.int .i64 (k : Int)) :: Leaf.const (.pointer (some ⟨bA, off + k * 3, none⟩)) :: Leaf.const (.agg #[.int .i64 a, .int .i64 nid, .int .i64 n]) :: Leaf.const (.bool false) :: Leaf.const ((.bool false)) :: Leaf.const (undef) :: Leaf.const (undef) :: Leaf.const (undef) :: Leaf.const (undef) :: Leaf.const (undef) :: Leaf.const (undef) :: Leaf.const (undef) :: Leaf.const (undef) :: Leaf.const (undef) :: Leaf.const (undef) :: Leaf.const (undef) :: Leaf.const (undef) :: Leaf.const (undef) :: Leaf.const (undef) :: Leaf.const (undef) :: Leaf.const (undef) :: Leaf.const (undef) :: Leaf.const (.bool false) :: Leaf.const ((.bool false)) :: Leaf.const (undef) :: Leaf.const (undef) :: Leaf.const (undef) :: Leaf.const (undef) :: Leaf.const (undef) :: Leaf.const (undef) :: Leaf.const (undef) :: Leaf.const (undef) :: Leaf.const (undef) :: Leaf.const (undef) :: Leaf.const (undef) :: Leaf.const (.bool false) :: []) (by kernel_rfl) (by kernel_rfl) (by kernel_rfl) ((Touch.refl _ _).drew) (trivial) ?_ ?_
              · intro i o ho ac w ht hk hd
                match i, ho with
                | 0, ho =>
                  have ho' : some _ = some o := ho
                  cases ho'
                  clear ho
                  have e0 := known_slot hk 0 (by kernel_rfl) (v := .slice (some ⟨bA, off, none⟩) m c) rfl
                  exact do_value (wanted_none rfl) (by rw [BigFrame.run_move (.tmp 0) rfl, e0]) rfl
                | 1, ho =>
                  have ho' : some _ = some o := ho
                  cases ho'
                  clear ho
                  have e6 := known_slot hk 6 (by kernel_rfl) (v := .int .i64 (k : Int)) rfl
                  exact do_value (wanted_none rfl) (by rw [BigFrame.run_move (.tmp 6) rfl, e6]) rfl
                | 2, ho =>
                  have ho' : some _ = some o := ho
                  cases ho'
                  clear ho
                  have e13 := has_const (has_dep hd 0 (by kernel_rfl)) rfl rfl rfl (c := (.slice (some ⟨bA, off, none⟩) m c))
                  have e14 := has_const (has_dep hd 1 (by kernel_rfl)) rfl rfl rfl (c := (.int .i64 (k : Int)))
                  exact do_value (wanted_none rfl) (v := .pointer (some ⟨bA, off + k * 3, none⟩)) (run_value rfl (by rw [e13, e14]; simp [go_sem]; omega)) rfl
                | 3, ho =>
                  have ho' : some _ = some o := ho
                  cases ho'
                  clear ho
                  have e15 := has_const (has_dep hd 2 (by kernel_rfl)) rfl rfl rfl (c := (.pointer (some ⟨bA, off + k * 3, none⟩)))
                  have x0 := (ht.cell (a := ⟨bA, off + k * 3, none⟩) lA (by simp)).trans c0
                  have x1 := (ht.cell (a := ⟨bA, off + k * 3 + 1, none⟩) lA (by simp)).trans c1
                  have x2 := (ht.cell (a := ⟨bA, off + k * 3 + 2, none⟩) lA (by simp)).trans c2
                  have lA2 := Nat.lt_of_lt_of_le lA ht.size
                  exact do_value (wanted_none rfl) (v := .agg #[.int .i64 a, .int .i64 nid, .int .i64 n]) (run_value rfl (by rw [e15]; simp [go_sem, x0, x1, x2])) rfl
                | 4, ho =>
                  have ho' : some _ = some o := ho
                  cases ho'
                  clear ho
                  have e16 := has_const (has_dep hd 3 (by kernel_rfl)) rfl rfl rfl (c := (.agg #[.int .i64 a, .int .i64 nid, .int .i64 n]))
                  refine do_enter (wanted_none rfl) (f := 23) (args := #[(.agg #[.int .i64 a, .int .i64 nid, .int .i64 n])]) (by rw [run_go3 23 _ _ rfl, ent23]; simp [eval_c, e16]) ?_
                  exact Calls.leaf (RC.out _)
                | 5, ho =>
                  have ho' : some _ = some o := ho
                  cases ho'
                  clear ho
                  have e17 := has_const (has_dep hd 4 (by kernel_rfl)) rfl rfl rfl (c := (.bool false))
                  exact do_value (wanted_none rfl) (by rw [BigFrame.run_move (.tmp 17) rfl, e17]) rfl
                | 6, ho =>
                  have ho' : some _ = some o := ho
                  cases ho'
                  clear ho
                  have e18 := has_const (has_dep hd 5 (by kernel_rfl)) rfl rfl rfl (c := (.bool false))
                  exact do_skip (wanted_not (g := 5) rfl rfl rfl e18) rfl
                | 7, ho =>
                  have ho' : some _ = some o := ho
                  cases ho'
                  clear ho
                  have e18 := has_const (has_dep hd 5 (by kernel_rfl)) rfl rfl rfl (c := (.bool false))
                  exact do_skip (wanted_not (g := 5) rfl rfl rfl e18) rfl
                | 8, ho =>
                  have ho' : some _ = some o := ho
                  cases ho'
                  clear ho
                  have e18 := has_const (has_dep hd 5 (by kernel_rfl)) rfl rfl rfl (c := (.bool false))
                  exact do_skip (wanted_not (g := 5) rfl rfl rfl e18) rfl
                | 9, ho =>
                  have ho' : some _ = some o := ho
                  cases ho'
                  clear ho
                  have e18 := has_const (has_dep hd 5 (by kernel_rfl)) rfl rfl rfl (c := (.bool false))
                  exact do_skip (wanted_not (g := 5) rfl rfl rfl e18) rfl
                | 10, ho =>
                  have ho' : some _ = some o := ho
                  cases ho'
                  clear ho
                  have e22 := has_const (has_dep hd 9 (by kernel_rfl)) rfl rfl rfl (c := undef)
                  exact do_skip (wanted_undef (g := 9) rfl rfl rfl e22) rfl
                | 11, ho =>
                  have ho' : some _ = some o := ho
                  cases ho'
                  clear ho
                  have e22 := has_const (has_dep hd 9 (by kernel_rfl)) rfl rfl rfl (c := undef)
                  exact do_skip (wanted_undef (g := 9) rfl rfl rfl e22) rfl
                | 12, ho =>
                  have ho' : some _ = some o := ho
                  cases ho'
                  clear ho
                  have e22 := has_const (has_dep hd 9 (by kernel_rfl)) rfl rfl rfl (c := undef)
                  exact do_skip (wanted_undef (g := 9) rfl rfl rfl e22) rfl
                | 13, ho =>
                  have ho' : some _ = some o := ho
                  cases ho'
                  clear ho
                  have e22 := has_const (has_dep hd 9 (by kernel_rfl)) rfl rfl rfl (c := undef)
                  exact do_skip (wanted_undef (g := 9) rfl rfl rfl e22) rfl
                | 14, ho =>
                  have ho' : some _ = some o := ho
                  cases ho'
                  clear ho
                  have e22 := has_const (has_dep hd 9 (by kernel_rfl)) rfl rfl rfl (c := undef)
                  exact do_skip (wanted_undef (g := 9) rfl rfl rfl e22) rfl
                | 15, ho =>
                  have ho' : some _ = some o := ho
                  cases ho'
                  clear ho
                  have e22 := has_const (has_dep hd 9 (by kernel_rfl)) rfl rfl rfl (c := undef)
                  exact do_skip (wanted_undef (g := 9) rfl rfl rfl e22) rfl
                | 16, ho =>
                  have ho' : some _ = some o := ho
                  cases ho'
                  clear ho
                  have e22 := has_const (has_dep hd 9 (by kernel_rfl)) rfl rfl rfl (c := undef)
                  exact do_skip (wanted_undef (g := 9) rfl rfl rfl e22) rfl
                | 17, ho =>
                  have ho' : some _ = some o := ho
                  cases ho'
                  clear ho
                  have e22 := has_const (has_dep hd 9 (by kernel_rfl)) rfl rfl rfl (c := undef)
                  exact do_skip (wanted_undef (g := 9) rfl rfl rfl e22) rfl
                | 18, ho =>
                  have ho' : some _ = some o := ho
                  cases ho'
                  clear ho
                  have e22 := has_const (has_dep hd 9 (by kernel_rfl)) rfl rfl rfl (c := undef)
                  exact do_skip (wanted_undef (g := 9) rfl rfl rfl e22) rfl
                | 19, ho =>
                  have ho' : some _ = some o := ho
                  cases ho'
                  clear ho
                  have e22 := has_const (has_dep hd 9 (by kernel_rfl)) rfl rfl rfl (c := undef)
                  exact do_skip (wanted_undef (g := 9) rfl rfl rfl e22) rfl
                | 20, ho =>
                  have ho' : some _ = some o := ho
                  cases ho'
                  clear ho
                  have e22 := has_const (has_dep hd 9 (by kernel_rfl)) rfl rfl rfl (c := undef)
                  exact do_skip (wanted_undef (g := 9) rfl rfl rfl e22) rfl
                | 21, ho =>
                  have ho' : some _ = some o := ho
                  cases ho'
                  clear ho
                  have e22 := has_const (has_dep hd 9 (by kernel_rfl)) rfl rfl rfl (c := undef)
                  exact do_skip (wanted_undef (g := 9) rfl rfl rfl e22) rfl
                | 22, ho =>
                  have ho' : some _ = some o := ho
                  cases ho'
                  clear ho
                  have e18 := has_const (has_dep hd 5 (by kernel_rfl)) rfl rfl rfl (c := (.bool false))
                  exact do_skip (wanted_not (g := 5) rfl rfl rfl e18) rfl
                | 23, ho =>
                  have ho' : some _ = some o := ho
                  cases ho'
                  clear ho
                  have e18 := has_const (has_dep hd 5 (by kernel_rfl)) rfl rfl rfl (c := (.bool false))
                  exact do_value (wanted_none rfl) (by rw [run_pickF (c := .tmp 18) (x := .tmp 35) (y := .const (.bool false)) rfl e18, eval_c]) rfl
                | 24, ho =>
                  have ho' : some _ = some o := ho
                  cases ho'
                  clear ho
                  have e36 := has_const (has_dep hd 23 (by kernel_rfl)) rfl rfl rfl (c := (.bool false))
                  exact do_value (wanted_none rfl) (by rw [BigFrame.run_move (.tmp 36) rfl, e36]) rfl
                | 25, ho =>
                  have ho' : some _ = some o := ho
                  cases ho'
                  clear ho
                  have e37 := has_const (has_dep hd 24 (by kernel_rfl)) rfl rfl rfl (c := (.bool false))
                  exact do_skip (wanted_not (g := 24) rfl rfl rfl e37) rfl
                | 26, ho =>
                  have ho' : some _ = some o := ho
                  cases ho'
                  clear ho
                  have e37 := has_const (has_dep hd 24 (by kernel_rfl)) rfl rfl rfl (c := (.bool false))
                  exact do_skip (wanted_not (g := 24) rfl rfl rfl e37) rfl
                | 27, ho =>
                  have ho' : some _ = some o := ho
                  cases ho'
                  clear ho
                  have e37 := has_const (has_dep hd 24 (by kernel_rfl)) rfl rfl rfl (c := (.bool false))
                  exact do_skip (wanted_not (g := 24) rfl rfl rfl e37) rfl
                | 28, ho =>
                  have ho' : some _ = some o := ho
                  cases ho'
                  clear ho
                  have e40 := has_const (has_dep hd 27 (by kernel_rfl)) rfl rfl rfl (c := undef)
                  exact do_skip (wanted_undef (g := 27) rfl rfl rfl e40) rfl
                | 29, ho =>
                  have ho' : some _ = some o := ho
                  cases ho'
                  clear ho
                  have e40 := has_const (has_dep hd 27 (by kernel_rfl)) rfl rfl rfl (c := undef)
                  exact do_skip (wanted_undef (g := 27) rfl rfl rfl e40) rfl
                | 30, ho =>
                  have ho' : some _ = some o := ho
                  cases ho'
                  clear ho
                  have e40 := has_const (has_dep hd 27 (by kernel_rfl)) rfl rfl rfl (c := undef)
                  exact do_skip (wanted_undef (g := 27) rfl rfl rfl e40) rfl
                | 31, ho =>
                  have ho' : some _ = some o := ho
                  cases ho'
                  clear ho
                  have e40 := has_const (has_dep hd 27 (by kernel_rfl)) rfl rfl rfl (c := undef)
                  exact do_skip (wanted_undef (g := 27) rfl rfl rfl e40) rfl
                | 32, ho =>
                  have ho' : some _ = some o := ho
                  cases ho'
                  clear ho
                  have e40 := has_const (has_dep hd 27 (by kernel_rfl)) rfl rfl rfl (c := undef)
                  exact do_skip (wanted_undef (g := 27) rfl rfl rfl e40) rfl
                | 33, ho =>
                  have ho' : some _ = some o := ho
                  cases ho'
                  clear ho
                  have e40 := has_const (has_dep hd 27 (by kernel_rfl)) rfl rfl rfl (c := undef)
                  exact do_skip (wanted_undef (g := 27) rfl rfl rfl e40) rfl
                | 34, ho =>
                  have ho' : some _ = some o := ho
                  cases ho'
                  clear ho
                  have e40 := has_const (has_dep hd 27 (by kernel_rfl)) rfl rfl rfl (c := undef)
                  exact do_skip (wanted_undef (g := 27) rfl rfl rfl e40) rfl
                | 35, ho =>
                  have ho' : some _ = some o := ho
                  cases ho'
                  clear ho
                  have e37 := has_const (has_dep hd 24 (by kernel_rfl)) rfl rfl rfl (c := (.bool false))
                  exact do_skip (wanted_not (g := 24) rfl rfl rfl e37) rfl
                | 36, ho =>
                  have ho' : some _ = some o := ho
                  cases ho'
                  clear ho
                  have e37 := has_const (has_dep hd 24 (by kernel_rfl)) rfl rfl rfl (c := (.bool false))
                  exact do_value (wanted_none rfl) (by rw [run_pickF (c := .tmp 37) (x := .tmp 48) (y := .const (.bool false)) rfl e37, eval_c]) rfl
                | q + 37, ho => exact absurd ho (by simp)
              · intro x' w4 T4 hkn
                simp only [putL, Act.put, List.setIfInBounds_toArray, List.set_cons_succ, List.set_cons_zero]
                have c1 := (T4.cell (a := ⟨bA, off + k * 3 + 1, none⟩) lA (by simp)).trans c1
                have lA := Nat.lt_of_lt_of_le lA T4.size
                have TW := Lib.hid (TI.out.trans T4 (by simp))
                clear T4 c0 c2
                go_wp2_with fail
                go_roundw
                case rel => exact ⟨k + 1, by omega, by go_num, by (try rw [HLO.out]); rw [EN.out, HB0.out], by (try rw [HLO.out]); rw [EN.out, HSM.out], TW.out⟩
                case measure => simp [intOf]; omega
            · have HB0 := Lib.hid hb0
              have HSM := Lib.hid hsm
              clear hb0 hsm
              go_upto_region 6 with fail
              refine wp_region_leaves (wd := wr) (Leaf.const (.slice (some ⟨bA, off, none⟩) m c) :: Leaf.const (.int .i64 (k : Int)) :: Leaf.const (.pointer (some ⟨bA, off + k * 3, none⟩)) :: Leaf.const (.agg #[.int .i64 a, .int .i64 nid, .int .i64 n]) :: Leaf.const (.bool false) :: Leaf.const ((.bool false)) :: Leaf.const (undef) :: Leaf.const (undef) :: Leaf.const (undef) :: Leaf.const (undef) :: Leaf.const (undef) :: Leaf.const (undef) :: Leaf.const (undef) :: Leaf.const (undef) :: Leaf.const (undef) :: Leaf.const (undef) :: Leaf.const (undef) :: Leaf.const (undef) :: Leaf.const (undef) :: Leaf.const (undef) :: Leaf.const (undef) :: Leaf.const (undef) :: Leaf.const (undef) :: Leaf.const (.bool false) :: Leaf.const ((.bool false)) :: Leaf.const (undef) :: Leaf.const (undef) :: Leaf.const (undef) :: Leaf.const (undef) :: Leaf.const (undef) :: Leaf.const (undef) :: Leaf.const (undef) :: Leaf.const (undef) :: Leaf.const (undef) :: Leaf.const (undef) :: Leaf.const (undef) :: Leaf.const (.bool false) :: []) (by kernel_rfl) (by kernel_rfl) (by kernel_rfl) ((Touch.refl _ _).drew) (trivial) ?_ ?_
              · intro i o ho ac w ht hk hd
                match i, ho with
                | 0, ho =>
                  have ho' : some _ = some o := ho
                  cases ho'
                  clear ho
                  have e0 := known_slot hk 0 (by kernel_rfl) (v := .slice (some ⟨bA, off, none⟩) m c) rfl
                  exact do_value (wanted_none rfl) (by rw [BigFrame.run_move (.tmp 0) rfl, e0]) rfl
                | 1, ho =>
                  have ho' : some _ = some o := ho
                  cases ho'
                  clear ho
                  have e6 := known_slot hk 6 (by kernel_rfl) (v := .int .i64 (k : Int)) rfl
                  exact do_value (wanted_none rfl) (by rw [BigFrame.run_move (.tmp 6) rfl, e6]) rfl
                | 2, ho =>
                  have ho' : some _ = some o := ho
                  cases ho'
                  clear ho
                  have e13 := has_const (has_dep hd 0 (by kernel_rfl)) rfl rfl rfl (c := (.slice (some ⟨bA, off, none⟩) m c))
                  have e14 := has_const (has_dep hd 1 (by kernel_rfl)) rfl rfl rfl (c := (.int .i64 (k : Int)))
                  exact do_value (wanted_none rfl) (v := .pointer (some ⟨bA, off + k * 3, none⟩)) (run_value rfl (by rw [e13, e14]; simp [go_sem]; omega)) rfl
                | 3, ho =>
                  have ho' : some _ = some o := ho
                  cases ho'
                  clear ho
                  have e15 := has_const (has_dep hd 2 (by kernel_rfl)) rfl rfl rfl (c := (.pointer (some ⟨bA, off + k * 3, none⟩)))
                  have x0 := (ht.cell (a := ⟨bA, off + k * 3, none⟩) lA (by simp)).trans c0
                  have x1 := (ht.cell (a := ⟨bA, off + k * 3 + 1, none⟩) lA (by simp)).trans c1
                  have x2 := (ht.cell (a := ⟨bA, off + k * 3 + 2, none⟩) lA (by simp)).trans c2
                  have lA2 := Nat.lt_of_lt_of_le lA ht.size
                  exact do_value (wanted_none rfl) (v := .agg #[.int .i64 a, .int .i64 nid, .int .i64 n]) (run_value rfl (by rw [e15]; simp [go_sem, x0, x1, x2])) rfl
                | 4, ho =>
                  have ho' : some _ = some o := ho
                  cases ho'
                  clear ho
                  have e16 := has_const (has_dep hd 3 (by kernel_rfl)) rfl rfl rfl (c := (.agg #[.int .i64 a, .int .i64 nid, .int .i64 n]))
                  refine do_enter (wanted_none rfl) (f := 23) (args := #[(.agg #[.int .i64 a, .int .i64 nid, .int .i64 n])]) (by rw [run_go3 23 _ _ rfl, ent23]; simp [eval_c, e16]) ?_
                  exact Calls.leaf (RC.out _)
                | 5, ho =>
                  have ho' : some _ = some o := ho
                  cases ho'
                  clear ho
                  have e17 := has_const (has_dep hd 4 (by kernel_rfl)) rfl rfl rfl (c := (.bool false))
                  exact do_value (wanted_none rfl) (by rw [BigFrame.run_move (.tmp 17) rfl, e17]) rfl
                | 6, ho =>
                  have ho' : some _ = some o := ho
                  cases ho'
                  clear ho
                  have e18 := has_const (has_dep hd 5 (by kernel_rfl)) rfl rfl rfl (c := (.bool false))
                  exact do_skip (wanted_not (g := 5) rfl rfl rfl e18) rfl
                | 7, ho =>
                  have ho' : some _ = some o := ho
                  cases ho'
                  clear ho
                  have e18 := has_const (has_dep hd 5 (by kernel_rfl)) rfl rfl rfl (c := (.bool false))
                  exact do_skip (wanted_not (g := 5) rfl rfl rfl e18) rfl
                | 8, ho =>
                  have ho' : some _ = some o := ho
                  cases ho'
                  clear ho
                  have e18 := has_const (has_dep hd 5 (by kernel_rfl)) rfl rfl rfl (c := (.bool false))
                  exact do_skip (wanted_not (g := 5) rfl rfl rfl e18) rfl
                | 9, ho =>
                  have ho' : some _ = some o := ho
                  cases ho'
                  clear ho
                  have e18 := has_const (has_dep hd 5 (by kernel_rfl)) rfl rfl rfl (c := (.bool false))
                  exact do_skip (wanted_not (g := 5) rfl rfl rfl e18) rfl
                | 10, ho =>
                  have ho' : some _ = some o := ho
                  cases ho'
                  clear ho
                  have e22 := has_const (has_dep hd 9 (by kernel_rfl)) rfl rfl rfl (c := undef)
                  exact do_skip (wanted_undef (g := 9) rfl rfl rfl e22) rfl
                | 11, ho =>
                  have ho' : some _ = some o := ho
                  cases ho'
                  clear ho
                  have e22 := has_const (has_dep hd 9 (by kernel_rfl)) rfl rfl rfl (c := undef)
                  exact do_skip (wanted_undef (g := 9) rfl rfl rfl e22) rfl
                | 12, ho =>
                  have ho' : some _ = some o := ho
                  cases ho'
                  clear ho
                  have e22 := has_const (has_dep hd 9 (by kernel_rfl)) rfl rfl rfl (c := undef)
                  exact do_skip (wanted_undef (g := 9) rfl rfl rfl e22) rfl
                | 13, ho =>
                  have ho' : some _ = some o := ho
                  cases ho'
                  clear ho
                  have e22 := has_const (has_dep hd 9 (by kernel_rfl)) rfl rfl rfl (c := undef)
                  exact do_skip (wanted_undef (g := 9) rfl rfl rfl e22) rfl
                | 14, ho =>
                  have ho' : some _ = some o := ho
                  cases ho'
                  clear ho
                  have e22 := has_const (has_dep hd 9 (by kernel_rfl)) rfl rfl rfl (c := undef)
                  exact do_skip (wanted_undef (g := 9) rfl rfl rfl e22) rfl
                | 15, ho =>
                  have ho' : some _ = some o := ho
                  cases ho'
                  clear ho
                  have e22 := has_const (has_dep hd 9 (by kernel_rfl)) rfl rfl rfl (c := undef)
                  exact do_skip (wanted_undef (g := 9) rfl rfl rfl e22) rfl
                | 16, ho =>
                  have ho' : some _ = some o := ho
                  cases ho'
                  clear ho
                  have e22 := has_const (has_dep hd 9 (by kernel_rfl)) rfl rfl rfl (c := undef)
                  exact do_skip (wanted_undef (g := 9) rfl rfl rfl e22) rfl
                | 17, ho =>
                  have ho' : some _ = some o := ho
                  cases ho'
                  clear ho
                  have e22 := has_const (has_dep hd 9 (by kernel_rfl)) rfl rfl rfl (c := undef)
                  exact do_skip (wanted_undef (g := 9) rfl rfl rfl e22) rfl
                | 18, ho =>
                  have ho' : some _ = some o := ho
                  cases ho'
                  clear ho
                  have e22 := has_const (has_dep hd 9 (by kernel_rfl)) rfl rfl rfl (c := undef)
                  exact do_skip (wanted_undef (g := 9) rfl rfl rfl e22) rfl
                | 19, ho =>
                  have ho' : some _ = some o := ho
                  cases ho'
                  clear ho
                  have e22 := has_const (has_dep hd 9 (by kernel_rfl)) rfl rfl rfl (c := undef)
                  exact do_skip (wanted_undef (g := 9) rfl rfl rfl e22) rfl
                | 20, ho =>
                  have ho' : some _ = some o := ho
                  cases ho'
                  clear ho
                  have e22 := has_const (has_dep hd 9 (by kernel_rfl)) rfl rfl rfl (c := undef)
                  exact do_skip (wanted_undef (g := 9) rfl rfl rfl e22) rfl
                | 21, ho =>
                  have ho' : some _ = some o := ho
                  cases ho'
                  clear ho
                  have e22 := has_const (has_dep hd 9 (by kernel_rfl)) rfl rfl rfl (c := undef)
                  exact do_skip (wanted_undef (g := 9) rfl rfl rfl e22) rfl
                | 22, ho =>
                  have ho' : some _ = some o := ho
                  cases ho'
                  clear ho
                  have e18 := has_const (has_dep hd 5 (by kernel_rfl)) rfl rfl rfl (c := (.bool false))
                  exact do_skip (wanted_not (g := 5) rfl rfl rfl e18) rfl
                | 23, ho =>
                  have ho' : some _ = some o := ho
                  cases ho'
                  clear ho
                  have e18 := has_const (has_dep hd 5 (by kernel_rfl)) rfl rfl rfl (c := (.bool false))
                  exact do_value (wanted_none rfl) (by rw [run_pickF (c := .tmp 18) (x := .tmp 35) (y := .const (.bool false)) rfl e18, eval_c]) rfl
                | 24, ho =>
                  have ho' : some _ = some o := ho
                  cases ho'
                  clear ho
                  have e36 := has_const (has_dep hd 23 (by kernel_rfl)) rfl rfl rfl (c := (.bool false))
                  exact do_value (wanted_none rfl) (by rw [BigFrame.run_move (.tmp 36) rfl, e36]) rfl
                | 25, ho =>
                  have ho' : some _ = some o := ho
                  cases ho'
                  clear ho
                  have e37 := has_const (has_dep hd 24 (by kernel_rfl)) rfl rfl rfl (c := (.bool false))
                  exact do_skip (wanted_not (g := 24) rfl rfl rfl e37) rfl
                | 26, ho =>
                  have ho' : some _ = some o := ho
                  cases ho'
                  clear ho
                  have e37 := has_const (has_dep hd 24 (by kernel_rfl)) rfl rfl rfl (c := (.bool false))
                  exact do_skip (wanted_not (g := 24) rfl rfl rfl e37) rfl
                | 27, ho =>
                  have ho' : some _ = some o := ho
                  cases ho'
                  clear ho
                  have e37 := has_const (has_dep hd 24 (by kernel_rfl)) rfl rfl rfl (c := (.bool false))
                  exact do_skip (wanted_not (g := 24) rfl rfl rfl e37) rfl
                | 28, ho =>
                  have ho' : some _ = some o := ho
                  cases ho'
                  clear ho
                  have e40 := has_const (has_dep hd 27 (by kernel_rfl)) rfl rfl rfl (c := undef)
                  exact do_skip (wanted_undef (g := 27) rfl rfl rfl e40) rfl
                | 29, ho =>
                  have ho' : some _ = some o := ho
                  cases ho'
                  clear ho
                  have e40 := has_const (has_dep hd 27 (by kernel_rfl)) rfl rfl rfl (c := undef)
                  exact do_skip (wanted_undef (g := 27) rfl rfl rfl e40) rfl
                | 30, ho =>
                  have ho' : some _ = some o := ho
                  cases ho'
                  clear ho
                  have e40 := has_const (has_dep hd 27 (by kernel_rfl)) rfl rfl rfl (c := undef)
                  exact do_skip (wanted_undef (g := 27) rfl rfl rfl e40) rfl
                | 31, ho =>
                  have ho' : some _ = some o := ho
                  cases ho'
                  clear ho
                  have e40 := has_const (has_dep hd 27 (by kernel_rfl)) rfl rfl rfl (c := undef)
                  exact do_skip (wanted_undef (g := 27) rfl rfl rfl e40) rfl
                | 32, ho =>
                  have ho' : some _ = some o := ho
                  cases ho'
                  clear ho
                  have e40 := has_const (has_dep hd 27 (by kernel_rfl)) rfl rfl rfl (c := undef)
                  exact do_skip (wanted_undef (g := 27) rfl rfl rfl e40) rfl
                | 33, ho =>
                  have ho' : some _ = some o := ho
                  cases ho'
                  clear ho
                  have e40 := has_const (has_dep hd 27 (by kernel_rfl)) rfl rfl rfl (c := undef)
                  exact do_skip (wanted_undef (g := 27) rfl rfl rfl e40) rfl
                | 34, ho =>
                  have ho' : some _ = some o := ho
                  cases ho'
                  clear ho
                  have e40 := has_const (has_dep hd 27 (by kernel_rfl)) rfl rfl rfl (c := undef)
                  exact do_skip (wanted_undef (g := 27) rfl rfl rfl e40) rfl
                | 35, ho =>
                  have ho' : some _ = some o := ho
                  cases ho'
                  clear ho
                  have e37 := has_const (has_dep hd 24 (by kernel_rfl)) rfl rfl rfl (c := (.bool false))
                  exact do_skip (wanted_not (g := 24) rfl rfl rfl e37) rfl
                | 36, ho =>
                  have ho' : some _ = some o := ho
                  cases ho'
                  clear ho
                  have e37 := has_const (has_dep hd 24 (by kernel_rfl)) rfl rfl rfl (c := (.bool false))
                  exact do_value (wanted_none rfl) (by rw [run_pickF (c := .tmp 37) (x := .tmp 48) (y := .const (.bool false)) rfl e37, eval_c]) rfl
                | q + 37, ho => exact absurd ho (by simp)
              · intro x' w4 T4 hkn
                simp only [putL, Act.put, List.setIfInBounds_toArray, List.set_cons_succ, List.set_cons_zero]
                have c1 := (T4.cell (a := ⟨bA, off + k * 3 + 1, none⟩) lA (by simp)).trans c1
                have lA := Nat.lt_of_lt_of_le lA T4.size
                have TW := Lib.hid (TI.out.trans T4 (by simp))
                clear T4 c0 c2
                go_wp2_with fail
                go_roundw
                case rel => exact ⟨k + 1, by omega, by go_num, by (try rw [HLO.out]); rw [EN.out, HB0.out], by (try rw [HLO.out]); rw [EN.out, HSM.out], TW.out⟩
                case measure => simp [intOf]; omega
          · rw [List.concat_eq_append] at hcat
            subst hcat
            obtain ⟨na, hna⟩ : ∃ na, A'.length = na := ⟨_, rfl⟩
            have hln : (A' ++ [l]).length = na + 1 := by simp [hna]
            have hn9 : na < 1000 := by
              have := congrArg List.length HAB.out
              simp only [List.length_append] at this
              omega
            obtain ⟨bo, rfl, hbo, lo, co0⟩ := row_cell (TI.out.row RW.out (by simp)) (show (A' ++ [l])[na]? = some l by subst hna; simp)
            rw [hln]
            obtain ⟨b0, hb0⟩ : ∃ b0 : Int, (nextId X LO k).getD 0 = b0 := ⟨_, rfl⟩
            rw [hb0]
            cases hsm : (nextId X LO k).isSome
            · have HB0 := Lib.hid hb0
              have HSM := Lib.hid hsm
              clear hb0 hsm
              go_upto_region 6 with fail
              refine wp_region_leaves (wd := wr) (Leaf.const (.slice (some ⟨bA, off, none⟩) m c) :: Leaf.const (.int .i64 (k : Int)) :: Leaf.const (.pointer (some ⟨bA, off + k * 3, none⟩)) :: Leaf.const (.agg #[.int .i64 a, .int .i64 nid, .int .i64 n]) :: Leaf.const (.bool false) :: Leaf.const ((.bool false)) :: Leaf.const (undef) :: Leaf.const (undef) :: Leaf.const (undef) :: Leaf.const (undef) :: Leaf.const (undef) :: Leaf.const (undef) :: Leaf.const (undef) :: Leaf.const (undef) :: Leaf.const (undef) :: Leaf.const (undef) :: Leaf.const (undef) :: Leaf.const (undef) :: Leaf.const (undef) :: Leaf.const (undef) :: Leaf.const (undef) :: Leaf.const (undef) :: Leaf.const (undef) :: Leaf.const (.bool false) :: Leaf.const ((.bool false)) :: Leaf.const (undef) :: Leaf.const (undef) :: Leaf.const (undef) :: Leaf.const (undef) :: Leaf.const (undef) :: Leaf.const (undef) :: Leaf.const (undef) :: Leaf.const (undef) :: Leaf.const (undef) :: Leaf.const (undef) :: Leaf.const (undef) :: Leaf.const (.bool false) :: []) (by kernel_rfl) (by kernel_rfl) (by kernel_rfl) ((Touch.refl _ _).drew) (trivial) ?_ ?_
              · intro i o ho ac w ht hk hd
                match i, ho with
                | 0, ho =>
                  have ho' : some _ = some o := ho
                  cases ho'
                  clear ho
                  have e0 := known_slot hk 0 (by kernel_rfl) (v := .slice (some ⟨bA, off, none⟩) m c) rfl
                  exact do_value (wanted_none rfl) (by rw [BigFrame.run_move (.tmp 0) rfl, e0]) rfl
                | 1, ho =>
                  have ho' : some _ = some o := ho
                  cases ho'
                  clear ho
                  have e6 := known_slot hk 6 (by kernel_rfl) (v := .int .i64 (k : Int)) rfl
                  exact do_value (wanted_none rfl) (by rw [BigFrame.run_move (.tmp 6) rfl, e6]) rfl
                | 2, ho =>
                  have ho' : some _ = some o := ho
                  cases ho'
                  clear ho
                  have e13 := has_const (has_dep hd 0 (by kernel_rfl)) rfl rfl rfl (c := (.slice (some ⟨bA, off, none⟩) m c))
                  have e14 := has_const (has_dep hd 1 (by kernel_rfl)) rfl rfl rfl (c := (.int .i64 (k : Int)))
                  exact do_value (wanted_none rfl) (v := .pointer (some ⟨bA, off + k * 3, none⟩)) (run_value rfl (by rw [e13, e14]; simp [go_sem]; omega)) rfl
                | 3, ho =>
                  have ho' : some _ = some o := ho
                  cases ho'
                  clear ho
                  have e15 := has_const (has_dep hd 2 (by kernel_rfl)) rfl rfl rfl (c := (.pointer (some ⟨bA, off + k * 3, none⟩)))
                  have x0 := (ht.cell (a := ⟨bA, off + k * 3, none⟩) lA (by simp)).trans c0
                  have x1 := (ht.cell (a := ⟨bA, off + k * 3 + 1, none⟩) lA (by simp)).trans c1
                  have x2 := (ht.cell (a := ⟨bA, off + k * 3 + 2, none⟩) lA (by simp)).trans c2
                  have lA2 := Nat.lt_of_lt_of_le lA ht.size
                  exact do_value (wanted_none rfl) (v := .agg #[.int .i64 a, .int .i64 nid, .int .i64 n]) (run_value rfl (by rw [e15]; simp [go_sem, x0, x1, x2])) rfl
                | 4, ho =>
                  have ho' : some _ = some o := ho
                  cases ho'
                  clear ho
                  have e16 := has_const (has_dep hd 3 (by kernel_rfl)) rfl rfl rfl (c := (.agg #[.int .i64 a, .int .i64 nid, .int .i64 n]))
                  refine do_enter (wanted_none rfl) (f := 23) (args := #[(.agg #[.int .i64 a, .int .i64 nid, .int .i64 n])]) (by rw [run_go3 23 _ _ rfl, ent23]; simp [eval_c, e16]) ?_
                  exact Calls.leaf (RC.out _)
                | 5, ho =>
                  have ho' : some _ = some o := ho
                  cases ho'
                  clear ho
                  have e17 := has_const (has_dep hd 4 (by kernel_rfl)) rfl rfl rfl (c := (.bool false))
                  exact do_value (wanted_none rfl) (by rw [BigFrame.run_move (.tmp 17) rfl, e17]) rfl
                | 6, ho =>
                  have ho' : some _ = some o := ho
                  cases ho'
                  clear ho
                  have e18 := has_const (has_dep hd 5 (by kernel_rfl)) rfl rfl rfl (c := (.bool false))
                  exact do_skip (wanted_not (g := 5) rfl rfl rfl e18) rfl
                | 7, ho =>
                  have ho' : some _ = some o := ho
                  cases ho'
                  clear ho
                  have e18 := has_const (has_dep hd 5 (by kernel_rfl)) rfl rfl rfl (c := (.bool false))
                  exact do_skip (wanted_not (g := 5) rfl rfl rfl e18) rfl
                | 8, ho =>
                  have ho' : some _ = some o := ho
                  cases ho'
                  clear ho
                  have e18 := has_const (has_dep hd 5 (by kernel_rfl)) rfl rfl rfl (c := (.bool false))
                  exact do_skip (wanted_not (g := 5) rfl rfl rfl e18) rfl
                | 9, ho =>
                  have ho' : some _ = some o := ho
                  cases ho'
                  clear ho
                  have e18 := has_const (has_dep hd 5 (by kernel_rfl)) rfl rfl rfl (c := (.bool false))
                  exact do_skip (wanted_not (g := 5) rfl rfl rfl e18) rfl
                | 10, ho =>
                  have ho' : some _ = some o := ho
                  cases ho'
                  clear ho
                  have e22 := has_const (has_dep hd 9 (by kernel_rfl)) rfl rfl rfl (c := undef)
                  exact do_skip (wanted_undef (g := 9) rfl rfl rfl e22) rfl
                | 11, ho =>
                  have ho' : some _ = some o := ho
                  cases ho'
                  clear ho
                  have e22 := has_const (has_dep hd 9 (by kernel_rfl)) rfl rfl rfl (c := undef)
                  exact do_skip (wanted_undef (g := 9) rfl rfl rfl e22) rfl
                | 12, ho =>
                  have ho' : some _ = some o := ho
                  cases ho'
                  clear ho
                  have e22 := has_const (has_dep hd 9 (by kernel_rfl)) rfl rfl rfl (c := undef)
                  exact do_skip (wanted_undef (g := 9) rfl rfl rfl e22) rfl
                | 13, ho =>
                  have ho' : some _ = some o := ho
                  cases ho'
                  clear ho
                  have e22 := has_const (has_dep hd 9 (by kernel_rfl)) rfl rfl rfl (c := undef)
                  exact do_skip (wanted_undef (g := 9) rfl rfl rfl e22) rfl
                | 14, ho =>
                  have ho' : some _ = some o := ho
                  cases ho'
                  clear ho
                  have e22 := has_const (has_dep hd 9 (by kernel_rfl)) rfl rfl rfl (c := undef)
                  exact do_skip (wanted_undef (g := 9) rfl rfl rfl e22) rfl
                | 15, ho =>
                  have ho' : some _ = some o := ho
                  cases ho'
                  clear ho
                  have e22 := has_const (has_dep hd 9 (by kernel_rfl)) rfl rfl rfl (c := undef)
                  exact do_skip (wanted_undef (g := 9) rfl rfl rfl e22) rfl
                | 16, ho =>
                  have ho' : some _ = some o := ho
                  cases ho'
                  clear ho
                  have e22 := has_const (has_dep hd 9 (by kernel_rfl)) rfl rfl rfl (c := undef)
                  exact do_skip (wanted_undef (g := 9) rfl rfl rfl e22) rfl
                | 17, ho =>
                  have ho' : some _ = some o := ho
                  cases ho'
                  clear ho
                  have e22 := has_const (has_dep hd 9 (by kernel_rfl)) rfl rfl rfl (c := undef)
                  exact do_skip (wanted_undef (g := 9) rfl rfl rfl e22) rfl
                | 18, ho =>
                  have ho' : some _ = some o := ho
                  cases ho'
                  clear ho
                  have e22 := has_const (has_dep hd 9 (by kernel_rfl)) rfl rfl rfl (c := undef)
                  exact do_skip (wanted_undef (g := 9) rfl rfl rfl e22) rfl
                | 19, ho =>
                  have ho' : some _ = some o := ho
                  cases ho'
                  clear ho
                  have e22 := has_const (has_dep hd 9 (by kernel_rfl)) rfl rfl rfl (c := undef)
                  exact do_skip (wanted_undef (g := 9) rfl rfl rfl e22) rfl
                | 20, ho =>
                  have ho' : some _ = some o := ho
                  cases ho'
                  clear ho
                  have e22 := has_const (has_dep hd 9 (by kernel_rfl)) rfl rfl rfl (c := undef)
                  exact do_skip (wanted_undef (g := 9) rfl rfl rfl e22) rfl
                | 21, ho =>
                  have ho' : some _ = some o := ho
                  cases ho'
                  clear ho
                  have e22 := has_const (has_dep hd 9 (by kernel_rfl)) rfl rfl rfl (c := undef)
                  exact do_skip (wanted_undef (g := 9) rfl rfl rfl e22) rfl
                | 22, ho =>
                  have ho' : some _ = some o := ho
                  cases ho'
                  clear ho
                  have e18 := has_const (has_dep hd 5 (by kernel_rfl)) rfl rfl rfl (c := (.bool false))
                  exact do_skip (wanted_not (g := 5) rfl rfl rfl e18) rfl
                | 23, ho =>
                  have ho' : some _ = some o := ho
                  cases ho'
                  clear ho
                  have e18 := has_const (has_dep hd 5 (by kernel_rfl)) rfl rfl rfl (c := (.bool false))
                  exact do_value (wanted_none rfl) (by rw [run_pickF (c := .tmp 18) (x := .tmp 35) (y := .const (.bool false)) rfl e18, eval_c]) rfl
                | 24, ho =>
                  have ho' : some _ = some o := ho
                  cases ho'
                  clear ho
                  have e36 := has_const (has_dep hd 23 (by kernel_rfl)) rfl rfl rfl (c := (.bool false))
                  exact do_value (wanted_none rfl) (by rw [BigFrame.run_move (.tmp 36) rfl, e36]) rfl
                | 25, ho =>
                  have ho' : some _ = some o := ho
                  cases ho'
                  clear ho
                  have e37 := has_const (has_dep hd 24 (by kernel_rfl)) rfl rfl rfl (c := (.bool false))
                  exact do_skip (wanted_not (g := 24) rfl rfl rfl e37) rfl
                | 26, ho =>
                  have ho' : some _ = some o := ho
                  cases ho'
                  clear ho
                  have e37 := has_const (has_dep hd 24 (by kernel_rfl)) rfl rfl rfl (c := (.bool false))
                  exact do_skip (wanted_not (g := 24) rfl rfl rfl e37) rfl
                | 27, ho =>
                  have ho' : some _ = some o := ho
                  cases ho'
                  clear ho
                  have e37 := has_const (has_dep hd 24 (by kernel_rfl)) rfl rfl rfl (c := (.bool false))
                  exact do_skip (wanted_not (g := 24) rfl rfl rfl e37) rfl
                | 28, ho =>
                  have ho' : some _ = some o := ho
                  cases ho'
                  clear ho
                  have e40 := has_const (has_dep hd 27 (by kernel_rfl)) rfl rfl rfl (c := undef)
                  exact do_skip (wanted_undef (g := 27) rfl rfl rfl e40) rfl
                | 29, ho =>
                  have ho' : some _ = some o := ho
                  cases ho'
                  clear ho
                  have e40 := has_const (has_dep hd 27 (by kernel_rfl)) rfl rfl rfl (c := undef)
                  exact do_skip (wanted_undef (g := 27) rfl rfl rfl e40) rfl
                | 30, ho =>
                  have ho' : some _ = some o := ho
                  cases ho'
                  clear ho
                  have e40 := has_const (has_dep hd 27 (by kernel_rfl)) rfl rfl rfl (c := undef)
                  exact do_skip (wanted_undef (g := 27) rfl rfl rfl e40) rfl
                | 31, ho =>
                  have ho' : some _ = some o := ho
                  cases ho'
                  clear ho
                  have e40 := has_const (has_dep hd 27 (by kernel_rfl)) rfl rfl rfl (c := undef)
                  exact do_skip (wanted_undef (g := 27) rfl rfl rfl e40) rfl
                | 32, ho =>
                  have ho' : some _ = some o := ho
                  cases ho'
                  clear ho
                  have e40 := has_const (has_dep hd 27 (by kernel_rfl)) rfl rfl rfl (c := undef)
                  exact do_skip (wanted_undef (g := 27) rfl rfl rfl e40) rfl
                | 33, ho =>
                  have ho' : some _ = some o := ho
                  cases ho'
                  clear ho
                  have e40 := has_const (has_dep hd 27 (by kernel_rfl)) rfl rfl rfl (c := undef)
                  exact do_skip (wanted_undef (g := 27) rfl rfl rfl e40) rfl
                | 34, ho =>
                  have ho' : some _ = some o := ho
                  cases ho'
                  clear ho
                  have e40 := has_const (has_dep hd 27 (by kernel_rfl)) rfl rfl rfl (c := undef)
                  exact do_skip (wanted_undef (g := 27) rfl rfl rfl e40) rfl
                | 35, ho =>
                  have ho' : some _ = some o := ho
                  cases ho'
                  clear ho
                  have e37 := has_const (has_dep hd 24 (by kernel_rfl)) rfl rfl rfl (c := (.bool false))
                  exact do_skip (wanted_not (g := 24) rfl rfl rfl e37) rfl
                | 36, ho =>
                  have ho' : some _ = some o := ho
                  cases ho'
                  clear ho
                  have e37 := has_const (has_dep hd 24 (by kernel_rfl)) rfl rfl rfl (c := (.bool false))
                  exact do_value (wanted_none rfl) (by rw [run_pickF (c := .tmp 37) (x := .tmp 48) (y := .const (.bool false)) rfl e37, eval_c]) rfl
                | q + 37, ho => exact absurd ho (by simp)
              · intro x' w4 T4 hkn
                simp only [putL, Act.put, List.setIfInBounds_toArray, List.set_cons_succ, List.set_cons_zero]
                have c1 := (T4.cell (a := ⟨bA, off + k * 3 + 1, none⟩) lA (by simp)).trans c1
                have lA := Nat.lt_of_lt_of_le lA T4.size
                have TW := Lib.hid (TI.out.trans T4 (by simp))
                clear T4 c0 c2
                go_wp2_with fail
                go_roundw
                case rel => exact ⟨k + 1, by omega, by go_num, by (try rw [HLO.out]); rw [EN.out, HB0.out], by (try rw [HLO.out]); rw [EN.out, HSM.out], TW.out⟩
                case measure => simp [intOf]; omega
            · have HB0 := Lib.hid hb0
              have HSM := Lib.hid hsm
              clear hb0 hsm
              go_upto_region 6 with fail
              refine wp_region_leaves (wd := wr) (Leaf.const (.slice (some ⟨bA, off, none⟩) m c) :: Leaf.const (.int .i64 (k : Int)) :: Leaf.const (.pointer (some ⟨bA, off + k * 3, none⟩)) :: Leaf.const (.agg #[.int .i64 a, .int .i64 nid, .int .i64 n]) :: Leaf.const (.bool false) :: Leaf.const ((.bool false)) :: Leaf.const (undef) :: Leaf.const (undef) :: Leaf.const (undef) :: Leaf.const (undef) :: Leaf.const (undef) :: Leaf.const (undef) :: Leaf.const (undef) :: Leaf.const (undef) :: Leaf.const (undef) :: Leaf.const (undef) :: Leaf.const (undef) :: Leaf.const (undef) :: Leaf.const (undef) :: Leaf.const (undef) :: Leaf.const (undef) :: Leaf.const (undef) :: Leaf.const (undef) :: Leaf.const (.bool false) :: Leaf.const ((.bool false)) :: Leaf.const (undef) :: Leaf.const (undef) :: Leaf.const (undef) :: Leaf.const (undef) :: Leaf.const (undef) :: Leaf.const (undef) :: Leaf.const (undef) :: Leaf.const (undef) :: Leaf.const (undef) :: Leaf.const (undef) :: Leaf.const (undef) :: Leaf.const (.bool false) :: []) (by kernel_rfl) (by kernel_rfl) (by kernel_rfl) ((Touch.refl _ _).drew) (trivial) ?_ ?_
              · intro i o ho ac w ht hk hd
                match i, ho with
                | 0, ho =>
                  have ho' : some _ = some o := ho
                  cases ho'
                  clear ho
                  have e0 := known_slot hk 0 (by kernel_rfl) (v := .slice (some ⟨bA, off, none⟩) m c) rfl
                  exact do_value (wanted_none rfl) (by rw [BigFrame.run_move (.tmp 0) rfl, e0]) rfl
                | 1, ho =>
                  have ho' : some _ = some o := ho
                  cases ho'
                  clear ho
                  have e6 := known_slot hk 6 (by kernel_rfl) (v := .int .i64 (k : Int)) rfl
                  exact do_value (wanted_none rfl) (by rw [BigFrame.run_move (.tmp 6) rfl, e6]) rfl
                | 2, ho =>
                  have ho' : some _ = some o := ho
                  cases ho'
                  clear ho
                  have e13 := has_const (has_dep hd 0 (by kernel_rfl)) rfl rfl rfl (c := (.slice (some ⟨bA, off, none⟩) m c))
                  have e14 := has_const (has_dep hd 1 (by kernel_rfl)) rfl rfl rfl (c := (.int .i64 (k : Int)))
                  exact do_value (wanted_none rfl) (v := .pointer (some ⟨bA, off + k * 3, none⟩)) (run_value rfl (by rw [e13, e14]; simp [go_sem]; omega)) rfl
                | 3, ho =>
                  have ho' : some _ = some o := ho
                  cases ho'
                  clear ho
                  have e15 := has_const (has_dep hd 2 (by kernel_rfl)) rfl rfl rfl (c := (.pointer (some ⟨bA, off + k * 3, none⟩)))
                  have x0 := (ht.cell (a := ⟨bA, off + k * 3, none⟩) lA (by simp)).trans c0
                  have x1 := (ht.cell (a := ⟨bA, off + k * 3 + 1, none⟩) lA (by simp)).trans c1
                  have x2 := (ht.cell (a := ⟨bA, off + k * 3 + 2, none⟩) lA (by simp)).trans c2
                  have lA2 := Nat.lt_of_lt_of_le lA ht.size
                  exact do_value (wanted_none rfl) (v := .agg #[.int .i64 a, .int .i64 nid, .int .i64 n]) (run_value rfl (by rw [e15]; simp [go_sem, x0, x1, x2])) rfl
                | 4, ho =>
                  have ho' : some _ = some o := ho
                  cases ho'
                  clear ho
                  have e16 := has_const (has_dep hd 3 (by kernel_rfl)) rfl rfl rfl (c := (.agg #[.int .i64 a, .int .i64 nid, .int .i64 n]))
                  refine do_enter (wanted_none rfl) (f := 23) (args := #[(.agg #[.int .i64 a, .int .i64 nid, .int .i64 n])]) (by rw [run_go3 23 _ _ rfl, ent23]; simp [eval_c, e16]) ?_
                  exact Calls.leaf (RC.out _)
                | 5, ho =>
                  have ho' : some _ = some o := ho
                  cases ho'
                  clear ho
                  have e17 := has_const (has_dep hd 4 (by kernel_rfl)) rfl rfl rfl (c := (.bool false))
                  exact do_value (wanted_none rfl) (by rw [BigFrame.run_move (.tmp 17) rfl, e17]) rfl
                | 6, ho =>
                  have ho' : some _ = some o := ho
                  cases ho'
                  clear ho
                  have e18 := has_const (has_dep hd 5 (by kernel_rfl)) rfl rfl rfl (c := (.bool false))
                  exact do_skip (wanted_not (g := 5) rfl rfl rfl e18) rfl
                | 7, ho =>
                  have ho' : some _ = some o := ho
                  cases ho'
                  clear ho
                  have e18 := has_const (has_dep hd 5 (by kernel_rfl)) rfl rfl rfl (c := (.bool false))
                  exact do_skip (wanted_not (g := 5) rfl rfl rfl e18) rfl
                | 8, ho =>
                  have ho' : some _ = some o := ho
                  cases ho'
                  clear ho
                  have e18 := has_const (has_dep hd 5 (by kernel_rfl)) rfl rfl rfl (c := (.bool false))
                  exact do_skip (wanted_not (g := 5) rfl rfl rfl e18) rfl
                | 9, ho =>
                  have ho' : some _ = some o := ho
                  cases ho'
                  clear ho
                  have e18 := has_const (has_dep hd 5 (by kernel_rfl)) rfl rfl rfl (c := (.bool false))
                  exact do_skip (wanted_not (g := 5) rfl rfl rfl e18) rfl
                | 10, ho =>
                  have ho' : some _ = some o := ho
                  cases ho'
                  clear ho
                  have e22 := has_const (has_dep hd 9 (by kernel_rfl)) rfl rfl rfl (c := undef)
                  exact do_skip (wanted_undef (g := 9) rfl rfl rfl e22) rfl
                | 11, ho =>
                  have ho' : some _ = some o := ho
                  cases ho'
                  clear ho
                  have e22 := has_const (has_dep hd 9 (by kernel_rfl)) rfl rfl rfl (c := undef)
                  exact do_skip (wanted_undef (g := 9) rfl rfl rfl e22) rfl
                | 12, ho =>
                  have ho' : some _ = some o := ho
                  cases ho'
                  clear ho
                  have e22 := has_const (has_dep hd 9 (by kernel_rfl)) rfl rfl rfl (c := undef)
                  exact do_skip (wanted_undef (g := 9) rfl rfl rfl e22) rfl
                | 13, ho =>
                  have ho' : some _ = some o := ho
                  cases ho'
                  clear ho
                  have e22 := has_const (has_dep hd 9 (by kernel_rfl)) rfl rfl rfl (c := undef)
                  exact do_skip (wanted_undef (g := 9) rfl rfl rfl e22) rfl
                | 14, ho =>
                  have ho' : some _ = some o := ho
                  cases ho'
                  clear ho
                  have e22 := has_const (has_dep hd 9 (by kernel_rfl)) rfl rfl rfl (c := undef)
                  exact do_skip (wanted_undef (g := 9) rfl rfl rfl e22) rfl
                | 15, ho =>
                  have ho' : some _ = some o := ho
                  cases ho'
                  clear ho
                  have e22 := has_const (has_dep hd 9 (by kernel_rfl)) rfl rfl rfl (c := undef)
                  exact do_skip (wanted_undef (g := 9) rfl rfl rfl e22) rfl
                | 16, ho =>
                  have ho' : some _ = some o := ho
                  cases ho'
                  clear ho
                  have e22 := has_const (has_dep hd 9 (by kernel_rfl)) rfl rfl rfl (c := undef)
                  exact do_skip (wanted_undef (g := 9) rfl rfl rfl e22) rfl
                | 17, ho =>
                  have ho' : some _ = some o := ho
                  cases ho'
                  clear ho
                  have e22 := has_const (has_dep hd 9 (by kernel_rfl)) rfl rfl rfl (c := undef)
                  exact do_skip (wanted_undef (g := 9) rfl rfl rfl e22) rfl
                | 18, ho =>
                  have ho' : some _ = some o := ho
                  cases ho'
                  clear ho
                  have e22 := has_const (has_dep hd 9 (by kernel_rfl)) rfl rfl rfl (c := undef)
                  exact do_skip (wanted_undef (g := 9) rfl rfl rfl e22) rfl
                | 19, ho =>
                  have ho' : some _ = some o := ho
                  cases ho'
                  clear ho
                  have e22 := has_const (has_dep hd 9 (by kernel_rfl)) rfl rfl rfl (c := undef)
                  exact do_skip (wanted_undef (g := 9) rfl rfl rfl e22) rfl
                | 20, ho =>
                  have ho' : some _ = some o := ho
                  cases ho'
                  clear ho
                  have e22 := has_const (has_dep hd 9 (by kernel_rfl)) rfl rfl rfl (c := undef)
                  exact do_skip (wanted_undef (g := 9) rfl rfl rfl e22) rfl
                | 21, ho =>
                  have ho' : some _ = some o := ho
                  cases ho'
                  clear ho
                  have e22 := has_const (has_dep hd 9 (by kernel_rfl)) rfl rfl rfl (c := undef)
                  exact do_skip (wanted_undef (g := 9) rfl rfl rfl e22) rfl
                | 22, ho =>
                  have ho' : some _ = some o := ho
                  cases ho'
                  clear ho
                  have e18 := has_const (has_dep hd 5 (by kernel_rfl)) rfl rfl rfl (c := (.bool false))
                  exact do_skip (wanted_not (g := 5) rfl rfl rfl e18) rfl
                | 23, ho =>
                  have ho' : some _ = some o := ho
                  cases ho'
                  clear ho
                  have e18 := has_const (has_dep hd 5 (by kernel_rfl)) rfl rfl rfl (c := (.bool false))
                  exact do_value (wanted_none rfl) (by rw [run_pickF (c := .tmp 18) (x := .tmp 35) (y := .const (.bool false)) rfl e18, eval_c]) rfl
                | 24, ho =>
                  have ho' : some _ = some o := ho
                  cases ho'
                  clear ho
                  have e36 := has_const (has_dep hd 23 (by kernel_rfl)) rfl rfl rfl (c := (.bool false))
                  exact do_value (wanted_none rfl) (by rw [BigFrame.run_move (.tmp 36) rfl, e36]) rfl
                | 25, ho =>
                  have ho' : some _ = some o := ho
                  cases ho'
                  clear ho
                  have e37 := has_const (has_dep hd 24 (by kernel_rfl)) rfl rfl rfl (c := (.bool false))
                  exact do_skip (wanted_not (g := 24) rfl rfl rfl e37) rfl
                | 26, ho =>
                  have ho' : some _ = some o := ho
                  cases ho'
                  clear ho
                  have e37 := has_const (has_dep hd 24 (by kernel_rfl)) rfl rfl rfl (c := (.bool false))
                  exact do_skip (wanted_not (g := 24) rfl rfl rfl e37) rfl
                | 27, ho =>
                  have ho' : some _ = some o := ho
                  cases ho'
                  clear ho
                  have e37 := has_const (has_dep hd 24 (by kernel_rfl)) rfl rfl rfl (c := (.bool false))
                  exact do_skip (wanted_not (g := 24) rfl rfl rfl e37) rfl
                | 28, ho =>
                  have ho' : some _ = some o := ho
                  cases ho'
                  clear ho
                  have e40 := has_const (has_dep hd 27 (by kernel_rfl)) rfl rfl rfl (c := undef)
                  exact do_skip (wanted_undef (g := 27) rfl rfl rfl e40) rfl
                | 29, ho =>
                  have ho' : some _ = some o := ho
                  cases ho'
                  clear ho
                  have e40 := has_const (has_dep hd 27 (by kernel_rfl)) rfl rfl rfl (c := undef)
                  exact do_skip (wanted_undef (g := 27) rfl rfl rfl e40) rfl
                | 30, ho =>
                  have ho' : some _ = some o := ho
                  cases ho'
                  clear ho
                  have e40 := has_const (has_dep hd 27 (by kernel_rfl)) rfl rfl rfl (c := undef)
                  exact do_skip (wanted_undef (g := 27) rfl rfl rfl e40) rfl
                | 31, ho =>
                  have ho' : some _ = some o := ho
                  cases ho'
                  clear ho
                  have e40 := has_const (has_dep hd 27 (by kernel_rfl)) rfl rfl rfl (c := undef)
                  exact do_skip (wanted_undef (g := 27) rfl rfl rfl e40) rfl
                | 32, ho =>
                  have ho' : some _ = some o := ho
                  cases ho'
                  clear ho
                  have e40 := has_const (has_dep hd 27 (by kernel_rfl)) rfl rfl rfl (c := undef)
                  exact do_skip (wanted_undef (g := 27) rfl rfl rfl e40) rfl
                | 33, ho =>
                  have ho' : some _ = some o := ho
                  cases ho'
                  clear ho
                  have e40 := has_const (has_dep hd 27 (by kernel_rfl)) rfl rfl rfl (c := undef)
                  exact do_skip (wanted_undef (g := 27) rfl rfl rfl e40) rfl
                | 34, ho =>
                  have ho' : some _ = some o := ho
                  cases ho'
                  clear ho
                  have e40 := has_const (has_dep hd 27 (by kernel_rfl)) rfl rfl rfl (c := undef)
                  exact do_skip (wanted_undef (g := 27) rfl rfl rfl e40) rfl
                | 35, ho =>
                  have ho' : some _ = some o := ho
                  cases ho'
                  clear ho
                  have e37 := has_const (has_dep hd 24 (by kernel_rfl)) rfl rfl rfl (c := (.bool false))
                  exact do_skip (wanted_not (g := 24) rfl rfl rfl e37) rfl
                | 36, ho =>
                  have ho' : some _ = some o := ho
                  cases ho'
                  clear ho
                  have e37 := has_const (has_dep hd 24 (by kernel_rfl)) rfl rfl rfl (c := (.bool false))
                  exact do_value (wanted_none rfl) (by rw [run_pickF (c := .tmp 37) (x := .tmp 48) (y := .const (.bool false)) rfl e37, eval_c]) rfl
                | q + 37, ho => exact absurd ho (by simp)
              · intro x' w4 T4 hkn
                simp only [putL, Act.put, List.setIfInBounds_toArray, List.set_cons_succ, List.set_cons_zero]
                have c1 := (T4.cell (a := ⟨bA, off + k * 3 + 1, none⟩) lA (by simp)).trans c1
                have lA := Nat.lt_of_lt_of_le lA T4.size
                have TW := Lib.hid (TI.out.trans T4 (by simp))
                clear T4 c0 c2
                go_wp2_with fail
                go_roundw
                case rel => exact ⟨k + 1, by omega, by go_num, by (try rw [HLO.out]); rw [EN.out, HB0.out], by (try rw [HLO.out]); rw [EN.out, HSM.out], TW.out⟩
                case measure => simp [intOf]; omega
      · obtain rfl : k = m := by omega
        have hlt' : ¬ (k : Int) < (k : Int) := by omega
        rw [NH.out]
        cases Bp with
        | nil =>
          have HT := Lib.hid (TR.out.trans TI.out (by simp))
          have R2 := Lib.hid (TI.out.row RW.out (by simp))
          have hs0 : ([] : List Int).head?.isSome = false := rfl
          rw [hs0]
          have hL : L = Ap := by rw [HAB.out]; simp
          subst hL
          clear hti HX hs0
          go_wp2_with fail
          go_ret
          exact ⟨Ao, co, rfl, R2.out, HT.out⟩
        | cons x Bp =>
          have HT := Lib.hid (TR.out.trans TI.out (by simp))
          have R2 := Lib.hid (TI.out.row RW.out (by simp))
          have hs0 : (x :: Bp).head?.isSome = true := rfl
          have hg0 : (x :: Bp).head?.getD 0 = x := rfl
          rw [hs0, hg0]
          have hcv : Ap.length ≤ co ∧ co ≤ maxLen := by
            rcases R2.out.2 with ⟨h', _⟩ | ⟨g', cap', cur, h', h1, hh, h2, h3, h4, h5⟩
            · simp at h'
              omega
            · simp only [Value.slice.injEq, true_and] at h'
              omega
          have hAl : Ap.length < L.length := by rw [HAB.out]; simp
          have hsz := HT.out.size
          clear hti HX hs0 hg0
          go_wp2_with (at_builtin; refine wpList_append_own_at _ rfl _ _ 33 rfl w.heap.size 3 i0 (.int .i64 0) 1 8 Try.underlying33 hi0 hz0 hz1 hz2 rfl (by decide) (.slice Ao Ap.length co) Ap.length (zv Ap) rfl (R2.out.alloc _) ⟨wr.heap.size, 0, none⟩ 1 1 [.int .i64 x] rfl rfl (World.news_of_block (cs := #[.int .i64 x]) (t := 3) (fr := (0, 0)) (heap_alloc_new wr _)) (by simp [Value.oneCell']) (by unfold maxLen; omega) (by omega) (by simp; omega) ?_; intro v3 w3 hown3 hgrow3 hnil3 hat3)
          have tr : Touch (Value.slice Ao Ap.length co).ownBlock.toList wr w3 := ((Touch.refl (Value.slice Ao Ap.length co).ownBlock.toList wr).alloc _).grown hgrow3 (by intro b hb; rw [hb]; simp)
          have T3 := Lib.hid (HT.out.trans tr (fun g hg => .inr (by have := rowBase RW.out (by simpa using hg); omega)))
          have HO3 := Lib.hid (show w3.ownsRow w.heap.size 3 1 v3 (Ap ++ [x]).length (zv (Ap ++ [x])) by rw [zv_append, List.length_append]; exact hown3)
          clear tr hown3 hgrow3 hnil3 hat3
          obtain ⟨A3, c3, rfl⟩ := rowForm HO3.out
          go_wp2_with fail
          go_roundw
          case rel => exact ⟨Ap ++ [x], Bp, by rw [HAB.out]; simp, HO3.out, T3.out⟩
          case measure => simp [slLen]; omega
end
end Go.Proofs.Ytbppccmkmpgibaa
