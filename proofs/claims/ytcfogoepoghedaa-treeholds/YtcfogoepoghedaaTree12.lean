/-
  Layer 18 (tree): what holds of every tree.
-/
import Derived.Test.YtcfogoepoghedaaTree11
namespace Go.Proofs.Ytcfogoepoghedaa
open Go.ChangeShapes Go.WideShapes Go.ChangeAt Go.RowKit Go.Deep Go.Maps
set_option linter.unusedVariables false
set_option linter.unusedSimpArgs false
section
variable {C : Int → Option Cl} {L : List Int} {rt : Int} {V : Int → Option Value} {Lm : Int → Option Int}
theorem kid_mem {id c : Int} (hid : id ≠ 0) : c ∈ kidsK C L id ↔ c ∈ L ∧ upC C c = id := by
  unfold kidsK
  rw [if_neg hid, List.mem_filter]
  simp
theorem leafB_iff (hL : IdsOf C L) (hF : Forest (upC C) L) {id : Int} (hi : id ∈ L) : leafB (treeD C L rt V Lm) id = true ↔ isLeaf (upC C) L id := by
  have hp := hF.pos id hi
  have hs := ((hL.2 id).1 hi).2
  unfold leafB
  show ((C id).isSome && decide ((kidsK C L id).length = 0)) = true ↔ _
  rw [hs, Bool.true_and, decide_eq_true_eq]
  constructor
  · intro h
    refine ⟨hi, fun c hc hu => ?_⟩
    have : c ∈ kidsK C L id := (kid_mem (by omega)).2 ⟨hc, hu⟩
    rw [List.eq_nil_of_length_eq_zero h] at this
    cases this
  · intro h
    cases hk : kidsK C L id with
    | nil => rfl
    | cons c l =>
      have : c ∈ kidsK C L id := by rw [hk]; simp
      obtain ⟨h1, h2⟩ := (kid_mem (by omega)).1 this
      exact absurd h2 (h.2 c h1)
theorem leaves_mem (hL : IdsOf C L) (hF : Forest (upC C) L) (i : Int) : i ∈ leavesOf C L ↔ isLeaf (upC C) L i := by
  unfold leavesOf
  rw [List.mem_filter]
  constructor
  · rintro ⟨h1, h2⟩
    exact (leafB_iff (rt := 0) (V := fun _ => none) (Lm := fun _ => none) hL hF h1).1 h2
  · intro h
    exact ⟨h.1, (leafB_iff (rt := 0) (V := fun _ => none) (Lm := fun _ => none) hL hF h.1).2 h⟩
theorem filter_both (f : Int → Bool) : ∀ l : List Int, (l.filter f).length + (l.filter fun c => !f c).length = l.length
  | [] => rfl
  | x :: l => by
    have h := filter_both f l
    cases hx : f x with
    | true =>
      rw [List.filter_cons_of_pos hx, List.filter_cons_of_neg (by simp [hx]), List.length_cons, List.length_cons]
      omega
    | false =>
      rw [List.filter_cons_of_neg (by simp [hx]), List.filter_cons_of_pos (by simp [hx]), List.length_cons, List.length_cons]
      omega
/-- Met so far: the children of the first k. -/
def metK (C : Int → Option Cl) (L l : List Int) : Nat := (l.map fun i => (kidsK C L i).length).sum
theorem metK_snoc (l : List Int) (x : Int) : metK C L (l ++ [x]) = metK C L l + (kidsK C L x).length := by simp [metK]
theorem metK_all (hF : Forest (upC C) L) (hR : rootsN C L = 1) : metK C L L + 1 = L.length := by
  have h1 : metK C L L = (L.map fun i => (L.filter fun c => decide (upC C c = i)).length).sum := by
    unfold metK
    congr 1
    refine List.map_congr_left fun i hi => ?_
    have := hF.pos i hi
    unfold kidsK
    rw [if_neg (by omega)]
  rw [h1, sum_kids _ L L hF.nodup]
  have h2 : (L.filter fun c => decide (upC C c ∈ L)) = L.filter fun c => !decide (upC C c = 0) := by
    refine List.filter_congr fun c hc => ?_
    rcases hF.inn c hc with h | h
    · have hn : ¬ upC C c ∈ L := fun hm => by
        have := hF.pos _ hm
        omega
      simp [h, hn]
      intro h0
      have := hF.pos 0 h0
      omega
    · have hp := hF.pos _ h
      have hz : ¬ upC C c = 0 := by omega
      simp [h, hz]
  rw [h2]
  have h3 := filter_both (fun c => decide (upC C c = 0)) L
  unfold rootsN at hR
  omega
theorem metK_le (hL : L.length ≤ 64) : ∀ l : List Int, metK C L l ≤ 64 * l.length
  | [] => by simp [metK]
  | x :: l => by
    have h := metK_le hL l
    have h2 := kidsK_le C L x
    have e : metK C L (x :: l) = (kidsK C L x).length + metK C L l := by simp [metK]
    rw [e, List.length_cons]
    omega
end
end Go.Proofs.Ytcfogoepoghedaa
