/-
  Layer 34 (ledger): the ids for which anything was counted, in increasing order.
-/
import Derived.Test.YtbppccmkmpgibaaLedger7
import Derived.Test.YtbppccmkmpgibaaSortInts
import Derived.Maps.RangeWalk
namespace Go.Proofs.Ytbppccmkmpgibaa
open Go.ChangeShapes Go.WideShapes Go.ChangeAt Go.RowKit Go.Deep Go.Maps
set_option linter.unusedVariables false
set_option linter.unusedSimpArgs false
/-- The keys of a map under way that have come: no key twice; a key is on the list just where the map has it and it is no longer to come. -/
def CollI (D : DataW Value) (left : Lit → Bool) (X : List Int) : Prop := X.Nodup ∧ (∀ i ∈ X, i64k i) ∧ ∀ i, i ∈ X ↔ (has D (.int .i64 i) = true ∧ left (.int .i64 i) = false)
theorem CollI.start (D : DataW Value) : CollI D (has D) [] := ⟨List.nodup_nil, by simp, fun x => by cases has D (.int .i64 x) <;> simp⟩
theorem CollI.step {D : DataW Value} {left : Lit → Bool} {X : List Int} (h : CollI D left X) {x : Int} {y : DataW Value} (hx : i64k x) (hlk : left (.int .i64 x) = true) (hat : ∀ zd, D.atKey (.int .i64 x) zd = y) :
    CollI D (fun z => left z && !z.sameKey (.int .i64 x)) (X ++ [x]) := by
  have hhas : has D (.int .i64 x) = true := has_true_of_atKey hat
  have hnew : x ∉ X := fun hx => by have := ((h.2.2 x).1 hx).2; rw [hlk] at this; cases this
  refine ⟨List.nodup_append.2 ⟨h.1, by simp, fun a ha b hb => by simp at hb; subst hb; exact fun e => hnew (e ▸ ha)⟩, ?_, fun y => ?_⟩
  · intro i hi
    rcases List.mem_append.1 hi with hi | hi
    · exact h.2.1 i hi
    · simp at hi
      rw [hi]
      exact hx
  · by_cases hy : y = x
    · subst hy; simp [hhas, Lit.sameKey]
    · simp [h.2.2 y, hy, Lit.sameKey]
/-- X is the ids of the books, in increasing order. -/
def IdsOf {β : Type} (M : Int → Option β) (X : List Int) : Prop := X.Pairwise (· < ·) ∧ ∀ i, i ∈ X ↔ i64k i ∧ (M i).isSome = true
theorem ids_of {β : Type} {M : Int → Option β} {D : DataW Value} {left : Lit → Bool} {X : List Int} (h : CollI D left X) (hl : ∀ kl, left kl = false) (hD : ∀ i, i64k i → has D (.int .i64 i) = (M i).isSome) : IdsOf M (X.mergeSort leI) := by
  have tr : ∀ a b c : Int, leI a b = true → leI b c = true → leI a c = true := fun a b c h1 h2 => by simp only [leI, decide_eq_true_eq] at *; omega
  have to : ∀ a b : Int, (leI a b || leI b a) = true := fun a b => by simp only [leI, Bool.or_eq_true, decide_eq_true_eq]; omega
  have hs := List.pairwise_mergeSort tr to X
  have hp := List.mergeSort_perm X leI
  have hn : (X.mergeSort leI).Nodup := hp.nodup_iff.2 h.1
  refine ⟨(hs.and hn).imp (fun {a b} h => ?_), fun i => ?_⟩
  · have h1 := h.1
    have h2 := h.2
    simp only [leI, decide_eq_true_eq] at h1
    omega
  · rw [hp.mem_iff]
    constructor
    · intro hi
      have hk := h.2.1 i hi
      refine ⟨hk, ?_⟩
      rw [← hD i hk]
      exact ((h.2.2 i).1 hi).1
    · rintro ⟨hk, hm⟩
      refine (h.2.2 i).2 ⟨?_, hl _⟩
      rw [hD i hk]
      exact hm
section
variable {w w' : World} {p b s : Nat} {M : Int → Option Bk}
theorem ids_info : (Try.prog.info? 3).map (fun i => (i.zero, i.size, i.bytes)) = some (some (.int .i64 0), 1, 8) := by kernel_rfl
set_option maxRecDepth 100000 in
set_option maxHeartbeats 3200000 in
theorem ids_any (h : LgAt w p b s M) (hs : s < 1000) :
    Calls Try.prog 12 #[.pointer (some ⟨p, 0, none⟩)] w fun e w' => ∃ A c X, e = .returned (.slice A X.length c) ∧ w'.ownsRow w.heap.size 3 1 (.slice A X.length c) X.length (zv X) ∧ IdsOf M X ∧ X.length ≤ s ∧ Touch [] w w' := by
  obtain ⟨i0, hi0, hz0, hz1, hz2⟩ := info_parts ids_info
  have c0 := h.box.c0
  obtain ⟨D, hown, hsz, hD⟩ := h.map
  have hbl := hown.lt
  have hD' : ∀ i, i64k i → has D (.int .i64 i) = (M i).isSome := fun i hi => by
    rw [(hD i hi).1]
    unfold vals
    cases M i <;> rfl
  have KD := Lib.hid hD'
  have K0 := int_keyed Try.underlying3
  have lp := h.box.lt
  clear hD hD' h
  have KK := Lib.hid K0
  clear K0
  have KO := Lib.hid hown
  clear hown
  go_enter Try.func12, Try.ntmps12
  go_wp2_with (at_range; refine wpList_range_own _ rfl _ 50 rfl 3 49 KK.out Try.underlying50 heldR b s D rfl KO.out ?_; intro w0 hrg0 hg0 hs0)
  go_frame
  have T0 := Lib.hid ((Touch.refl [] w).grown hg0 (by simp))
  clear hg0
  have HS0 := Lib.hid hs0
  clear hs0
  go_loopw [3] (fun v wr => ∃ (left : Lit → Bool) (cnt : Nat) (X : List Int), wr.ranges Try.prog 3 heldR b w.heap.size s D left cnt ∧ X.length + cnt ≤ s ∧
      wr.ownsRow (w.heap.size + 1) 3 1 v X.length (zv X) ∧ CollI D left X ∧ Touch [] w wr ∧ w.heap.size + 1 ≤ wr.heap.size)
    (fun _ wr => wr.rangeLeft b w.heap.size)
  case atStart => exact ⟨_, _, [], hrg0, by simp [hsz], ⟨rfl, .inl ⟨rfl, rfl⟩⟩, CollI.start D, T0.out, by rw [HS0.out]; omega⟩
  case round =>
    obtain ⟨left, cnt, X, hrg, hcs, hrow, hC, ht, hl⟩ := hrel
    obtain ⟨A, c, rfl⟩ := rowForm hrow
    have RG := Lib.hid hrg
    have RW := Lib.hid hrow
    have HC := Lib.hid hC
    have HT := Lib.hid ht
    clear hrg hrow hC ht hrg0
    go_wp2_with (at_next; refine wpList_next_ranges _ rfl _ rfl 3 KK.out heldR (Value.int .i64) id (fun key kl hk => by obtain ⟨x, rfl, _, _⟩ := Maps.keyOf_int_inv Try.underlying3 hk; exact ⟨x, rfl⟩) (fun v y _ => ⟨v, rfl⟩) b w.heap.size s D left cnt rfl RG.out ?_ ?_)
    · intro hc0 hl0
      have HL := Lib.hid hl0
      clear hl0
      have E := Lib.hid (sort_any RW.out (by omega))
      go_wp2_with fail
      refine (E.out).mono ?_
      rintro e w2 ⟨rfl, ho2, t2⟩
      have HO2 := Lib.hid ho2
      have T2 := Lib.hid (HT.out.trans t2 (fun g hg => .inr (by have := rowBase RW.out (by simpa using hg); omega)))
      clear ho2 t2 E
      go_wp2_with fail
      go_ret
      refine ⟨A, c, X.mergeSort leI, ?_, ?_, ids_of HC.out HL.out KD.out, ?_, T2.out⟩
      · rw [List.length_mergeSort]
        rfl
      · rw [List.length_mergeSort]
        exact rowDown HO2.out (by omega)
      · rw [List.length_mergeSort]
        omega
    · intro x y kl yd yp w2 cnt2 hkey hlk hv hat hrg2 hlt hg2 hs2 hen
      obtain ⟨x', ex, rfl, hx⟩ := Maps.keyOf_int_inv Try.underlying3 hkey
      cases ex
      have HX := Lib.hid (HC.out.step hx hlk hat)
      have HT2 := Lib.hid (HT.out.grown hg2 (fun k hk => by cases hk; exact .inr (Nat.le_refl _)))
      have RW2 := Lib.hid (RW.out.kept hg2 (Or.inr (fun e => by have := rowBase RW.out e; omega)))
      have l2 : w.heap.size + 1 ≤ w2.heap.size := by have := hg2.size; omega
      have RG2 := Lib.hid hrg2
      have HLT := Lib.hid hlt
      have HEN := Lib.hid hen
      have hen' := hen
      clear hs2 hkey hlk hv hat hrg2 hg2 hen
      have hcv : X.length ≤ c ∧ c ≤ maxLen := by
        rcases RW.out.2 with ⟨h', _⟩ | ⟨g', cap', cur, h', h1, hh, h2, h3, h4, h5⟩
        · simp at h'
          omega
        · simp only [Value.slice.injEq, true_and] at h'
          omega
      go_wp2_with (at_builtin; refine wpList_append_own_at _ rfl _ _ 33 rfl (w.heap.size + 1) 3 i0 (.int .i64 0) 1 8 Try.underlying33 hi0 hz0 hz1 hz2 rfl (by decide) (.slice A X.length c) X.length (zv X) rfl (RW2.out.alloc _) ⟨w2.heap.size, 0, none⟩ 1 1 [.int .i64 x] rfl rfl (World.news_of_block (cs := #[.int .i64 x]) (t := 3) (fr := (0, 0)) (heap_alloc_new w2 _)) (by simp [Value.oneCell']) (by unfold maxLen; omega) (by omega) (by simp; omega) ?_; intro v3 w3 hown3 hgrow3 hnil3 hat3)
      have tr : Touch (Value.slice A X.length c).ownBlock.toList w2 w3 := ((Touch.refl (Value.slice A X.length c).ownBlock.toList w2).alloc _).grown hgrow3 (by intro b hb; rw [hb]; simp)
      have T3 := Lib.hid (HT2.out.trans tr (fun g hg => .inr (by have := rowBase RW.out (by simpa using hg); omega)))
      have HO3 := Lib.hid (show w3.ownsRow (w.heap.size + 1) 3 1 v3 (X ++ [x]).length (zv (X ++ [x])) by rw [zv_append, List.length_append]; exact hown3)
      have RG3 := Lib.hid ((RG2.out.alloc _).kept hgrow3 (fun e => by have := rowBase RW.out e.symm; omega) (fun e => by have := rowBase RW.out e.symm; omega))
      have l3 := tr.size
      clear tr hown3 hgrow3 hnil3 hat3
      go_wp2_with fail
      go_roundw
      case rel => exact ⟨_, cnt2, X ++ [x], RG3.out, by have := HLT.out; simp; omega, HO3.out, HX.out, T3.out, by omega⟩
      case measure => rw [RG3.out.left_eq, RG.out.left_eq]; exact HLT.out
end
end Go.Proofs.Ytbppccmkmpgibaa
