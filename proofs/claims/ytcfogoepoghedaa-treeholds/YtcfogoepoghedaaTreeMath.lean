/-
  Hierarchies: ways up, leaves, levels.
-/
import Derived.Test.YtcfogoepoghedaaBase
namespace Go.Proofs.Ytcfogoepoghedaa
set_option linter.unusedVariables false
set_option linter.unusedSimpArgs false
/-- So many steps up. -/
def rise (up : Int → Int) : Nat → Int → Int
  | 0, i => i
  | k + 1, i => rise up k (up i)
theorem rise_succ (up : Int → Int) : ∀ k i, rise up (k + 1) i = up (rise up k i)
  | 0, i => rfl
  | k + 1, i => rise_succ up k (up i)
theorem rise_add (up : Int → Int) : ∀ a b i, rise up (a + b) i = rise up b (rise up a i)
  | 0, b, i => by rw [Nat.zero_add]; rfl
  | a + 1, b, i => by rw [Nat.succ_add]; exact rise_add up a b (up i)
theorem rise_zero {up : Int → Int} (h : up 0 = 0) : ∀ k, rise up k 0 = 0
  | 0 => rfl
  | k + 1 => by
    show rise up k (up 0) = 0
    rw [h]
    exact rise_zero h k
theorem rise_stays {up : Int → Int} (h : up 0 = 0) {k m : Nat} {i : Int} (hk : rise up k i = 0) (hm : k ≤ m) : rise up m i = 0 := by
  obtain ⟨d, rfl⟩ : ∃ d, m = k + d := ⟨m - k, by omega⟩
  rw [rise_add, hk, rise_zero h]
/-- The ids L, each with the one above it (0 above the root); whoever goes up leaves them. -/
structure Forest (up : Int → Int) (L : List Int) : Prop where
  nodup : L.Nodup
  pos : ∀ i ∈ L, 1 ≤ i
  zero : up 0 = 0
  inn : ∀ i ∈ L, up i = 0 ∨ up i ∈ L
  out : ∀ i ∈ L, rise up L.length i = 0
def isLeaf (up : Int → Int) (L : List Int) (i : Int) : Prop := i ∈ L ∧ ∀ c ∈ L, up c ≠ i
/-- The levels: how many there are on the longest way from a leaf. -/
structure LvOK (up : Int → Int) (P : Int → Nat → Prop) (Lv : Int → Int) : Prop where
  least : ∀ l d, P l d → (d : Int) + 1 ≤ Lv (rise up d l)
  most : ∀ i, Lv i = 0 ∨ ∃ l d, P l d ∧ rise up d l = i ∧ Lv i = (d : Int) + 1
theorem LvOK.start (up : Int → Int) : LvOK up (fun _ _ => False) (fun _ => 0) := ⟨fun _ _ h => h.elim, fun _ => .inl rfl⟩
theorem LvOK.congr {up : Int → Int} {P P' : Int → Nat → Prop} {Lv : Int → Int} (h : LvOK up P Lv) (e : ∀ l d, P l d ↔ P' l d) : LvOK up P' Lv :=
  ⟨fun l d hp => h.least l d ((e l d).2 hp), fun i => (h.most i).imp id fun ⟨l, d, hp, h2⟩ => ⟨l, d, (e l d).1 hp, h2⟩⟩
theorem LvOK.step {up : Int → Int} {P : Int → Nat → Prop} {Lv : Int → Int} (h : LvOK up P Lv) (l : Int) (d : Nat) :
    LvOK up (fun l' d' => P l' d' ∨ l' = l ∧ d' = d) (fun i => if i = rise up d l then max (Lv i) ((d : Int) + 1) else Lv i) := by
  refine ⟨fun l' d' hp => ?_, fun i => ?_⟩
  · rcases hp with hp | ⟨rfl, rfl⟩
    · have := h.least l' d' hp
      show _ ≤ if _ then _ else _
      split
      · exact Int.le_trans this (Int.le_max_left _ _)
      · exact this
    · show _ ≤ if _ then _ else _
      rw [if_pos rfl]
      exact Int.le_max_right _ _
  · show (if i = rise up d l then max (Lv i) ((d : Int) + 1) else Lv i) = 0 ∨ _
    by_cases hi : i = rise up d l
    · simp only [if_pos hi]
      rcases h.most i with h0 | ⟨l', d', hp, hr, hv⟩
      · exact .inr ⟨l, d, .inr ⟨rfl, rfl⟩, hi.symm, by omega⟩
      · rcases Int.lt_or_le (Lv i) ((d : Int) + 1) with hlt | hge
        · exact .inr ⟨l, d, .inr ⟨rfl, rfl⟩, hi.symm, by omega⟩
        · exact .inr ⟨l', d', .inl hp, hr, by omega⟩
    · simp only [if_neg hi]
      exact (h.most i).imp id fun ⟨l', d', hp, h2⟩ => ⟨l', d', .inl hp, h2⟩
theorem LvOK.unique {up : Int → Int} {P : Int → Nat → Prop} {Lv Lv' : Int → Int} (h : LvOK up P Lv) (h' : LvOK up P Lv') (i : Int) : Lv i = Lv' i := by
  have a : ∀ {A B : Int → Int}, LvOK up P A → LvOK up P B → A i ≤ B i := fun {A B} hA hB => by
    rcases hA.most i with h0 | ⟨l, d, hp, hr, hv⟩
    · rcases hB.most i with h1 | ⟨_, _, _, _, h1⟩ <;> omega
    · have := hB.least l d hp
      rw [hr] at this
      omega
  have h1 := a h h'
  have h2 := a h' h
  omega
/-- What the levels of all speak of: every way up from a leaf. -/
def onWay (up : Int → Int) (ls : List Int) (l : Int) (d : Nat) : Prop := l ∈ ls ∧ rise up d l ≠ 0
section
variable {up : Int → Int} {L : List Int}
theorem Forest.rise_in (h : Forest up L) : ∀ d {i : Int}, i ∈ L → rise up d i = 0 ∨ rise up d i ∈ L
  | 0, i, hi => .inr hi
  | d + 1, i, hi => by
    rcases h.inn i hi with h0 | h1
    · exact .inl (by show rise up d (up i) = 0; rw [h0, rise_zero h.zero])
    · exact h.rise_in d h1
theorem Forest.below (h : Forest up L) : ∀ (f : Nat) (i : Int), i ∈ L → (∀ j, rise up j i = 0 → L.length ≤ j + f) → ∃ l d, isLeaf up L l ∧ rise up d l = i := by
  intro f
  induction f with
  | zero =>
    intro i hi hj
    by_cases hl : ∃ c ∈ L, up c = i
    · obtain ⟨c, hc, hu⟩ := hl
      have ho := h.out c hc
      have hp : 0 < L.length := List.length_pos_of_mem hi
      obtain ⟨n, hn⟩ : ∃ n, L.length = n + 1 := ⟨L.length - 1, by omega⟩
      rw [hn] at ho
      have ho' : rise up n (up c) = 0 := ho
      rw [hu] at ho'
      have := hj n ho'
      omega
    · exact ⟨i, 0, ⟨hi, fun c hc hu => hl ⟨c, hc, hu⟩⟩, rfl⟩
  | succ f ih =>
    intro i hi hj
    by_cases hl : ∃ c ∈ L, up c = i
    · obtain ⟨c, hc, hu⟩ := hl
      obtain ⟨l, d, hlf, hr⟩ := ih c hc (fun j hz => by
        cases j with
        | zero =>
          have := h.pos c hc
          have hz' : c = 0 := hz
          omega
        | succ j =>
          have hz' : rise up j (up c) = 0 := hz
          rw [hu] at hz'
          have := hj j hz'
          omega)
      exact ⟨l, d + 1, hlf, by rw [rise_succ, hr, hu]⟩
    · exact ⟨i, 0, ⟨hi, fun c hc hu => hl ⟨c, hc, hu⟩⟩, rfl⟩
theorem Forest.leafBelow (h : Forest up L) {i : Int} (hi : i ∈ L) : ∃ l d, isLeaf up L l ∧ rise up d l = i := h.below L.length i hi fun j _ => by omega
section
variable {Lv : Int → Int} {ls : List Int} (h : Forest up L) (hls : ∀ i, i ∈ ls ↔ isLeaf up L i) (hv : LvOK up (onWay up ls) Lv)
include h hls hv
theorem Forest.lv_pos {i : Int} (hi : i ∈ L) : 1 ≤ Lv i := by
  obtain ⟨l, d, hl, hr⟩ := h.leafBelow hi
  have hp := h.pos i hi
  have := hv.least l d ⟨(hls l).2 hl, by rw [hr]; omega⟩
  rw [hr] at this
  omega
/-- The one above is higher. -/
theorem Forest.lv_up {c : Int} (hc : c ∈ L) (hu : up c ≠ 0) : Lv c < Lv (up c) := by
  have h1 := h.lv_pos hls hv hc
  rcases hv.most c with h0 | ⟨l, d, ⟨hl, hz⟩, hr, hd⟩
  · omega
  · have := hv.least l (d + 1) ⟨hl, by rw [rise_succ, hr]; exact hu⟩
    rw [rise_succ, hr] at this
    omega
theorem Forest.lv_leaf {i : Int} (hi : i ∈ L) : Lv i = 1 ↔ isLeaf up L i := by
  have h1 := h.lv_pos hls hv hi
  constructor
  · intro he
    refine ⟨hi, fun c hc hu => ?_⟩
    have hp := h.pos i hi
    have h2 := h.lv_up hls hv hc (by rw [hu]; omega)
    have h3 := h.lv_pos hls hv hc
    rw [hu] at h2
    omega
  · intro hl
    rcases hv.most i with h0 | ⟨l, d, ⟨hm, hz⟩, hr, hd⟩
    · omega
    · cases d with
      | zero => simpa using hd
      | succ d =>
        rw [rise_succ] at hr
        have hlL := ((hls l).1 hm).1
        rcases h.rise_in d hlL with h0 | h0
        · rw [h0, h.zero] at hr
          have := h.pos i hi
          omega
        · exact absurd hr (hl.2 _ h0)
end
theorem sum_zero : ∀ L : List Int, (L.map fun _ => 0).sum = 0
  | [] => rfl
  | x :: L => by simp [sum_zero L]
/-- Each id but the roots is the child of one. -/
theorem sum_kids (up : Int → Int) : ∀ (L' L : List Int), L.Nodup → (L.map fun i => (L'.filter fun c => decide (up c = i)).length).sum = (L'.filter fun c => decide (up c ∈ L)).length
  | [], L, _ => by
    simp only [List.filter_nil, List.length_nil]
    exact sum_zero L
  | c :: L', L, hn => by
    have ih := sum_kids up L' L hn
    have hs : ∀ (M : List Int), M.Nodup → (M.map fun i => ((c :: L').filter fun c => decide (up c = i)).length).sum = (M.map fun i => (L'.filter fun c => decide (up c = i)).length).sum + (if up c ∈ M then 1 else 0) := by
      intro M
      induction M with
      | nil => intro _; simp
      | cons x M ihM =>
        intro hM
        have h1 := ihM (List.nodup_cons.1 hM).2
        simp only [List.map_cons, List.sum_cons]
        rw [h1]
        by_cases hx : up c = x
        · have h2 : ¬ up c ∈ M := by rw [hx]; exact (List.nodup_cons.1 hM).1
          have h3 : up c ∈ x :: M := by simp [hx]
          rw [List.filter_cons_of_pos (by simpa using hx), if_pos h3, if_neg h2]
          simp only [List.length_cons]
          omega
        · rw [List.filter_cons_of_neg (by simpa using hx)]
          by_cases hm : up c ∈ M
          · have h3 : up c ∈ x :: M := by simp [hm]
            rw [if_pos hm, if_pos h3]
            omega
          · have h3 : ¬ up c ∈ x :: M := by simp [hm, hx]
            rw [if_neg hm, if_neg h3]
            omega
    rw [hs L hn, ih]
    by_cases hm : up c ∈ L
    · rw [if_pos hm, List.filter_cons_of_pos (by simpa using hm)]
      simp
    · rw [if_neg hm, List.filter_cons_of_neg (by simpa using hm)]
      simp
end
end Go.Proofs.Ytcfogoepoghedaa
