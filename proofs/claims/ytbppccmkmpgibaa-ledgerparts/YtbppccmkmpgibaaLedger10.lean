/-
  Layer 34 (ledger): Keep.
-/
import Derived.Test.YtbppccmkmpgibaaLedger9
import Derived.Test.YtbppccmkmpgibaaInts
namespace Go.Proofs.Ytbppccmkmpgibaa
open Go.ChangeShapes Go.WideShapes Go.ChangeAt Go.RowKit Go.Deep Go.Maps
set_option linter.unusedVariables false
set_option linter.unusedSimpArgs false
/-- The books of the first k ids of X. -/
def keepM (M : Int → Option Bk) (X : Nat → Int) : Nat → Int → Option Bk
  | 0 => fun _ => none
  | k + 1 => match M (X k) with
    | some B => putB (keepM M X k) (X k) B
    | none => keepM M X k
theorem keepM_eq (M : Int → Option Bk) (X : Nat → Int) : ∀ k i, keepM M X k i = if (∃ j, j < k ∧ X j = i) then M i else none
  | 0, i => by simp [keepM]
  | k + 1, i => by
    have h := keepM_eq M X k i
    unfold keepM
    by_cases hi : X k = i
    · rw [if_pos ⟨k, by omega, hi⟩]
      subst hi
      cases hM : M (X k) with
      | none =>
        show keepM M X k (X k) = none
        rw [h, hM]
        split <;> rfl
      | some B => simp [putB]
    · have e : (∃ j, j < k + 1 ∧ X j = i) ↔ (∃ j, j < k ∧ X j = i) := by
        constructor
        · rintro ⟨j, h1, h2⟩
          have : j ≠ k := fun e => hi (e ▸ h2)
          exact ⟨j, by omega, h2⟩
        · rintro ⟨j, h1, h2⟩
          exact ⟨j, by omega, h2⟩
      simp only [e]
      rw [← h]
      cases hM : M (X k) with
      | none => rfl
      | some B => exact if_neg (fun e => hi e.symm)
section
variable {w w' : World} {p b s : Nat} {M : Int → Option Bk}
theorem LgAt.look_ok (h : LgAt w p b s M) (id : Int) (hi : i64k id) : (Instr.lookup 50 (.map (some b)) (.int .i64 id) true).run Try.prog w = .ok (.tuple #[.agg (bk (bookOf M id)), .bool (M id).isSome]) w := by
  have := h.map.look_ok Try.underlying3 Try.underlying50 (zero_book w) hi
  rw [this]
  unfold vals bookOf
  cases M id <;> rfl
set_option maxRecDepth 100000 in
set_option maxHeartbeats 6400000 in
theorem keep_any (h : LgAt w p b s M) {A : Option Addr} {n c : Nat} {X : Nat → Int} (hX : IntCells w w.heap.size A n X) (hn : n ≤ 200) (hf : ∀ i, i < n → fit64 (X i)) :
    Calls Try.prog 19 #[.pointer (some ⟨p, 0, none⟩), .slice A n c] w fun e w' => ∃ p2 b2 s2, e = .returned (.pointer (some ⟨p2, 0, none⟩)) ∧ LgAt w' p2 b2 s2 (keepM M X n) ∧ s2 ≤ n ∧ Touch [] w w' ∧ w.heap.size ≤ p2 ∧ w.heap.size ≤ b2 := by
  have NW := Lib.hid (newL w)
  have H := Lib.hid h
  have HX := Lib.hid hX
  have HF := Lib.hid hf
  clear h hX hf
  go_enter Try.func19, Try.ntmps19
  go_wp2_with fail
  refine (NW.out).mono ?_
  rintro e w1 ⟨p2, b2, rfl, h2, t1, hp2, hb2⟩
  have HH := Lib.hid h2
  have T1 := Lib.hid t1
  clear h2 t1 NW
  go_wp2_with fail
  go_loopw [15] (fun v wr => ∃ k s2 : Nat, k ≤ n ∧ v = .int .i64 (k : Int) ∧ LgAt wr p2 b2 s2 (keepM M X k) ∧ s2 ≤ k ∧ Touch [] w wr)
    (fun v _ => n - (intOf v).toNat)
  case atStart => exact ⟨0, 0, by omega, rfl, HH.out, by omega, T1.out⟩
  case round =>
    obtain ⟨k, s2, hk, rfl, h2, hs2, ht⟩ := hrel
    have TR := Lib.hid ht
    have H2 := Lib.hid h2
    clear ht h2
    by_cases hlt : k < n
    · obtain ⟨x, ex⟩ : ∃ x, X k = x := ⟨_, rfl⟩
      have hxi : i64k x := by
        have := HF.out k hlt
        rw [ex] at this
        exact i64k_of this
      obtain ⟨bA, off, rfl, hbA, cA⟩ := HX.out k hlt
      rw [ex] at cA
      rw [← TR.out.cell (a := ⟨bA, _, none⟩) hbA (by simp)] at cA
      have lA : bA < wr.heap.size := Nat.lt_of_lt_of_le hbA TR.out.size
      have hlt' : (k : Int) < (n : Int) := by omega
      have h9 := H.out.new TR.out
      have c0 := h9.box.c0
      have lp := h9.box.lt
      have kL := h9.look_ok x hxi
      have EX := Lib.hid ex
      cases hM : M x with
      | none =>
        rw [hM] at kL
        simp only [Option.isSome_none] at kL
        unfold bk at kL
        have ek : keepM M X (k + 1) = keepM M X k := by simp only [keepM]; rw [ex, hM]
        have EK := Lib.hid ek
        clear h9 ek ex hM HH
        go_wp2_with fail
        go_roundw
        case rel => exact ⟨k + 1, s2, by omega, by go_num, by rw [EK.out]; exact H2.out.new ((Touch.refl [] wr).alloc _), by omega, TR.out.trans ((Touch.refl [] wr).alloc _) (by simp)⟩
        case measure => simp [intOf]; omega
      | some B =>
        have eB : bookOf M x = B := by simp [bookOf, hM]
        rw [hM, eB] at kL
        simp only [Option.isSome_some] at kL
        unfold bk at kL
        have ek : keepM M X (k + 1) = putB (keepM M X k) x B := by simp only [keepM]; rw [ex, hM]
        have EK := Lib.hid ek
        clear h9 ek ex hM HH eB
        have HQ := Lib.hid (BoxV.new wr 49 #[.int .i64 (B 0), .int .i64 (B 1), .int .i64 (B 2), .int .i64 (B 3), .int .i64 (B 4), .int .i64 (B 5), .int .i64 (B 6), .int .i64 (B 7), .int .i64 (B 8), .int .i64 (B 9)])
        have TN := Lib.hid ((Touch.refl [] wr).alloc (.cells #[.int .i64 (B 0), .int .i64 (B 1), .int .i64 (B 2), .int .i64 (B 3), .int .i64 (B 4), .int .i64 (B 5), .int .i64 (B 6), .int .i64 (B 7), .int .i64 (B 8), .int .i64 (B 9)] 49))
        go_upto_region 9 with fail
        generalize wr.alloc (.cells #[.int .i64 (B 0), .int .i64 (B 1), .int .i64 (B 2), .int .i64 (B 3), .int .i64 (B 4), .int .i64 (B 5), .int .i64 (B 6), .int .i64 (B 7), .int .i64 (B 8), .int .i64 (B 9)] 49) = w3 at *
        have HQ2 := Lib.hid (HQ.out)
        have H3 := Lib.hid (H2.out.new TN.out)
        have T3' := Lib.hid (TR.out.trans TN.out (by simp))
        clear HQ kL c0 cA H2 TR TN
        have HQ := Lib.hid HQ2.out
        have H2 := Lib.hid H3.out
        clear HQ2 H3
        generalize eq : wr.heap.size = q at *
        refine wp_region_store (wd := w3) 6 (Leaf.const (.pointer (some ⟨p2, 0, none⟩)) :: Leaf.const ((.pointer (some ⟨p2, 0, none⟩))) :: Leaf.const (.pointer (some ⟨p2, 0, none⟩)) :: Leaf.const (.map (some b2)) :: Leaf.const (.int .i64 x) :: Leaf.const (.agg #[.int .i64 (B 0), .int .i64 (B 1), .int .i64 (B 2), .int .i64 (B 3), .int .i64 (B 4), .int .i64 (B 5), .int .i64 (B 6), .int .i64 (B 7), .int .i64 (B 8), .int .i64 (B 9)]) :: Leaf.const undef :: []) (by kernel_rfl) (by kernel_rfl) (by kernel_rfl) (by kernel_rfl) ((Touch.refl _ _).drew) (trivial) ?_ ?_
        · intro i o ho hin ac w ht hk hd
          match i, ho, hin with
          | 0, ho, hin =>
            have ho' : some _ = some o := ho
            cases ho'
            clear ho
            have e5 := known_slot hk 5 (by kernel_rfl) (v := .pointer (some ⟨p2, 0, none⟩)) rfl
            exact do_value (wanted_none rfl) (by rw [BigFrame.run_move (.tmp 5) rfl, e5]) rfl
          | 1, ho, hin =>
            have ho' : some _ = some o := ho
            cases ho'
            clear ho
            have e29 := has_const (has_dep hd 0 (by kernel_rfl)) rfl rfl rfl (c := (.pointer (some ⟨p2, 0, none⟩)))
            exact do_value (wanted_none rfl) (v := (.pointer (some ⟨p2, 0, none⟩))) (by unfold execOp; simp only [e29]; rfl) rfl
          | 2, ho, hin =>
            have ho' : some _ = some o := ho
            cases ho'
            clear ho
            have e30 := has_const (has_dep hd 1 (by kernel_rfl)) rfl rfl rfl (c := (.pointer (some ⟨p2, 0, none⟩)))
            exact do_value (wanted_none rfl) (v := .pointer (some ⟨p2, 0, none⟩)) (run_value rfl (by rw [e30]; simp [go_sem])) rfl
          | 3, ho, hin =>
            have ho' : some _ = some o := ho
            cases ho'
            clear ho
            have e31 := has_const (has_dep hd 2 (by kernel_rfl)) rfl rfl rfl (c := (.pointer (some ⟨p2, 0, none⟩)))
            have c0 := (H2.out.carry ht (by simp) (by simp)).box.c0
            exact do_value (wanted_none rfl) (v := .map (some b2)) (run_value rfl (by rw [e31]; simp [go_sem, c0])) rfl
          | 4, ho, hin =>
            have ho' : some _ = some o := ho
            cases ho'
            clear ho
            have e7 := known_slot hk 7 (by kernel_rfl) (v := .int .i64 x) rfl
            exact do_value (wanted_none rfl) (by rw [BigFrame.run_move (.tmp 7) rfl, e7]) rfl
          | 5, ho, hin =>
            have ho' : some _ = some o := ho
            cases ho'
            clear ho
            have e8 := known_slot hk 8 (by kernel_rfl) (v := .pointer (some ⟨q, 0, none⟩)) rfl
            have hq := HQ.out.carry ht (by simp)
            have q0 := hq.cell 0
            have q1 := hq.cell 1
            have q2 := hq.cell 2
            have q3 := hq.cell 3
            have q4 := hq.cell 4
            have q5 := hq.cell 5
            have q6 := hq.cell 6
            have q7 := hq.cell 7
            have q8 := hq.cell 8
            have q9 := hq.cell 9
            simp only [List.getElem?_toArray, List.getElem?_cons_zero, List.getElem?_cons_succ] at q0 q1 q2 q3 q4 q5 q6 q7 q8 q9
            have lq := hq.lt
            exact do_value (wanted_none rfl) (v := .agg #[.int .i64 (B 0), .int .i64 (B 1), .int .i64 (B 2), .int .i64 (B 3), .int .i64 (B 4), .int .i64 (B 5), .int .i64 (B 6), .int .i64 (B 7), .int .i64 (B 8), .int .i64 (B 9)]) (run_value rfl (by rw [e8]; simp [go_sem, q0, q1, q2, q3, q4, q5, q6, q7, q8, q9])) rfl
          | 6, ho, hin => exact absurd hin (by omega)
          | q + 7, ho, hin => exact absurd ho (by simp)
        · intro x' w4 T4 hkn
          simp only [putL, Act.put, List.setIfInBounds_toArray, List.set_cons_succ, List.set_cons_zero, List.drop]
          obtain ⟨w5, hrun, hm, t5⟩ := (H2.out.carry T4 (by simp) (by simp)).map.store Try.underlying3 Try.underlying50 (by unfold maxLen; omega) hxi (.agg (bk B))
          rw [vals_put] at hm
          have HL := Lib.hid (show LgAt w5 p2 b2 (grown (keepM M X k) x s2) (keepM M X (k + 1)) from ⟨(H2.out.carry T4 (by simp) (by simp)).box.carry t5 (by have := H2.out.ne; simpa using this), by
            have e : (vals (keepM M X k) x).isSome = (keepM M X k x).isSome := by unfold vals; cases keepM M X k x <;> rfl
            rw [EK.out]
            unfold grown
            rw [← e]
            exact hm⟩)
          have HT := Lib.hid (((T3'.out.trans T4 (by simp))).trans t5 (fun b hb => .inr (by simp at hb; omega)))
          unfold bk at hrun
          clear hm t5 T4 hkn H2 HQ
          go_wp2_with fail
          go_roundw
          case rel => exact ⟨k + 1, _, by omega, by go_num, HL.out, by unfold grown; split <;> omega, HT.out⟩
          case measure => simp [intOf]; omega
    · obtain rfl : k = n := by omega
      have hlt' : ¬ (k : Int) < (k : Int) := by omega
      clear HH
      go_wp2_with fail
      go_ret
      exact ⟨p2, rfl, b2, s2, H2.out, hs2, TR.out, hp2, hb2⟩
end
end Go.Proofs.Ytbppccmkmpgibaa
