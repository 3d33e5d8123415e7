/-
  The reference of layer 31 (wrr): lists of integers and rings in slices that are read, never written; Prio, some, with, New.
-/
import Derived.Test.YtcggpgjnjfjfnaaWrr7
import Derived.Test.YtcggpgjnjfjfnaaCreditRef3
namespace Go.Proofs.Ytcggpgjnjfjfnaa
open Go.ChangeShapes Go.WideShapes Go.ChangeAt Go.RowKit Go.Deep Go.Maps
set_option linter.unusedVariables false
set_option linter.unusedSimpArgs false

/-- A slice that holds the list l, away from the blocks Z. -/
def LInts (Z : List Nat) (w : World) (v : Value) (l : List Int) : Prop :=
  ∃ A c, v = .slice A l.length c ∧ l.length ≤ c ∧ c ≤ maxLen ∧ ∀ i, i < l.length → ∃ b off, A = some ⟨b, off, none⟩ ∧ b < w.heap.size ∧ b ∉ Z ∧ w.cell? ⟨b, off + i, none⟩ = some (.int .i64 (at0 l i))
section
variable {Z Z' S : List Nat} {w w' : World} {v : Value} {l : List Int}
theorem LInts.carry (h : LInts Z w v l) (t : Touch S w w') (hS : ∀ b ∈ S, b ∈ Z ∨ w.heap.size ≤ b) : LInts Z w' v l := by
  obtain ⟨A, c, hv, h1, h2, h3⟩ := h
  refine ⟨A, c, hv, h1, h2, fun i hi => ?_⟩
  obtain ⟨b, off, hA, hb, hz, hc⟩ := h3 i hi
  refine ⟨b, off, hA, Nat.lt_of_lt_of_le hb t.size, hz, (t.cell (a := ⟨b, off + i, none⟩) hb (fun hm => ?_)).trans hc⟩
  rcases hS b hm with h | h
  · exact hz h
  · omega
theorem LInts.avoid (h : LInts Z w v l) (hZ : ∀ b ∈ Z', b ∈ Z ∨ w.heap.size ≤ b) : LInts Z' w v l := by
  obtain ⟨A, c, hv, h1, h2, h3⟩ := h
  refine ⟨A, c, hv, h1, h2, fun i hi => ?_⟩
  obtain ⟨b, off, hA, hb, hz, hc⟩ := h3 i hi
  refine ⟨b, off, hA, hb, fun hm => ?_, hc⟩
  rcases hZ b hm with h | h
  · exact hz h
  · omega
theorem LInts.nil (Z : List Nat) (w : World) : LInts Z w (.slice none 0 0) [] := ⟨none, 0, rfl, Nat.le_refl _, Nat.zero_le _, fun i hi => by simp at hi⟩
theorem LInts.own {base : Nat} (h : w.ownsRow base 3 1 v l.length (iv (at0 l) l.length)) (hZ : ∀ b ∈ Z, b < base) : LInts Z w v l := by
  obtain ⟨A, c, hv, h1, h2, h3⟩ := own_far h
  refine ⟨A, c, hv, h1, h2, fun i hi => ?_⟩
  obtain ⟨b, off, hA, hlo, hb, hc⟩ := h3 i hi
  exact ⟨b, off, hA, hb, fun hm => by have := hZ b hm; omega, hc⟩
theorem LInts.cells (h : LInts Z w v l) : ∃ A c, v = .slice A l.length c ∧ l.length ≤ c ∧ c ≤ maxLen ∧ IntCells w w.heap.size A l.length (at0 l) := by
  obtain ⟨A, c, hv, h1, h2, h3⟩ := h
  refine ⟨A, c, hv, h1, h2, fun i hi => ?_⟩
  obtain ⟨b, off, hA, hb, hz, hc⟩ := h3 i hi
  exact ⟨b, off, hA, hb, hc⟩
theorem LInts.has (h : LInts Z w v l) (id : Int) (hl : l.length ≤ 1000) : Calls Try.prog 30 #[v, .int .i64 id] w fun e w' => e = .returned (.bool (decide (id ∈ l))) ∧ Touch [] w w' := by
  obtain ⟨A, c, rfl, h1, h2, h3⟩ := h.cells
  refine (refHas29 (c := c) h3 id hl).mono ?_
  rintro e w' ⟨he, hb⟩
  exact ⟨he, Touch.ofBelow hb⟩
end
/-- Eight slices in a row: the reference's rings. -/
def RingsAt (Z : List Nat) (w : World) (v : Value) (L : Nat → List Int) : Prop :=
  ∃ g c, v = .slice (some ⟨g, 0, none⟩) 8 c ∧ 8 ≤ c ∧ c ≤ maxLen ∧ g < w.heap.size ∧ g ∉ Z ∧ ∀ k, k < 8 → ∃ u, w.cell? ⟨g, k, none⟩ = some u ∧ LInts Z w u (L k)
section
variable {Z Z' S : List Nat} {w w' : World} {v : Value} {L : Nat → List Int}
theorem RingsAt.carry (h : RingsAt Z w v L) (t : Touch S w w') (hS : ∀ b ∈ S, b ∈ Z ∨ w.heap.size ≤ b) : RingsAt Z w' v L := by
  obtain ⟨g, c, hv, h1, h2, h3, h4, h5⟩ := h
  refine ⟨g, c, hv, h1, h2, Nat.lt_of_lt_of_le h3 t.size, h4, fun k hk => ?_⟩
  obtain ⟨u, hu, hl⟩ := h5 k hk
  refine ⟨u, (t.cell (a := ⟨g, k, none⟩) h3 (fun hm => ?_)).trans hu, hl.carry t hS⟩
  rcases hS g hm with h | h
  · exact h4 h
  · omega
theorem RingsAt.avoid (h : RingsAt Z w v L) (hZ : ∀ b ∈ Z', b ∈ Z ∨ w.heap.size ≤ b) : RingsAt Z' w v L := by
  obtain ⟨g, c, hv, h1, h2, h3, h4, h5⟩ := h
  refine ⟨g, c, hv, h1, h2, h3, fun hm => ?_, fun k hk => ?_⟩
  · rcases hZ g hm with h | h
    · exact h4 h
    · omega
  · obtain ⟨u, hu, hl⟩ := h5 k hk
    exact ⟨u, hu, hl.avoid hZ⟩
theorem RingsAt.congr {L' : Nat → List Int} (h : RingsAt Z w v L) (he : ∀ k, k < 8 → L k = L' k) : RingsAt Z w v L' := by
  obtain ⟨g, c, hv, h1, h2, h3, h4, h5⟩ := h
  refine ⟨g, c, hv, h1, h2, h3, h4, fun k hk => ?_⟩
  rw [← he k hk]
  exact h5 k hk
end

/-- The ring that holds id: the first one. -/
def PrioIs (L : Nat → List Int) (id n : Int) (b : Bool) : Prop :=
  (b = true ∧ ∃ k : Nat, k < 8 ∧ n = (k : Int) ∧ id ∈ L k ∧ ∀ j, j < k → id ∉ L j) ∨ (b = false ∧ n = 0 ∧ ∀ k, k < 8 → id ∉ L k)
theorem prio_is (L : Nat → List Int) (id : Int) : ∃ n b, PrioIs L id n b := by
  have key : ∀ m, m ≤ 8 → (∀ k, k < m → id ∉ L k) ∨ ∃ k, k < m ∧ id ∈ L k ∧ ∀ j, j < k → id ∉ L j := by
    intro m
    induction m with
    | zero => intro _; exact .inl fun k hk => absurd hk (Nat.not_lt_zero _)
    | succ m ih =>
      intro hm
      rcases ih (by omega) with h | ⟨k, hk, h1, h2⟩
      · by_cases hin : id ∈ L m
        · exact .inr ⟨m, by omega, hin, h⟩
        · left
          intro k hk
          rcases Nat.lt_or_ge k m with h' | h'
          · exact h k h'
          · rw [show k = m by omega]; exact hin
      · exact .inr ⟨k, by omega, h1, h2⟩
  rcases key 8 (Nat.le_refl _) with h | ⟨k, hk, h1, h2⟩
  · exact ⟨0, false, .inr ⟨rfl, rfl, h⟩⟩
  · exact ⟨k, true, .inl ⟨rfl, k, hk, rfl, h1, h2⟩⟩
theorem prioW_any {w : World} {q c cb s : Nat} {R : Tri} {L : Nat → List Int} {C : Int → Option (Int × Int)} (h : WAt w q c cb s R L C) (id : Int) (hid : i64k id) {n : Int} {b : Bool} (hp : PrioIs L id n b) :
    Calls Try.prog 22 #[pt q, .int .i64 id] w fun e w' => e = .returned (.tuple #[.int .i64 n, .bool b]) ∧ w' = w := by
  rcases hp with ⟨rfl, k, hk, rfl, h1, h2⟩ | ⟨rfl, rfl, h1⟩
  · exact prioW_yes h id hid k hk h1 h2
  · exact prioW_none h id hid h1

set_option maxHeartbeats 1000000 in
set_option maxRecDepth 100000 in
theorem refPrio {Z : List Nat} {w : World} {rv lv : Value} {L : Nat → List Int} (h : RingsAt Z w rv L) (hl : ∀ k, k < 8 → (L k).length ≤ 1000) (id : Int) {n : Int} {b : Bool} (hp : PrioIs L id n b) :
    Calls Try.prog 10 #[.agg #[rv, lv], .int .i64 id] w fun e w' => e = .returned (.tuple #[.int .i64 n, .bool b]) ∧ Touch [] w w' := by
  obtain ⟨g, c, rfl, h1, h2, h3, h4, h5⟩ := h
  have t0 : Touch [] w (w.alloc (.cells #[.slice (some ⟨g, 0, none⟩) 8 c, lv] 29)) := (Touch.refl [] w).alloc _
  have HB := Lib.hid (BoxV.new w 29 #[.slice (some ⟨g, 0, none⟩) 8 c, lv])
  have HG := Lib.hid (fun (wr : World) (t : Touch [] w wr) (k : Nat) (hk : k < 8) => show ∃ u, wr.cell? ⟨g, k, none⟩ = some u ∧ LInts Z wr u (L k) by
    obtain ⟨u, hu, hlu⟩ := h5 k hk
    exact ⟨u, (t.cell (a := ⟨g, k, none⟩) h3 (by simp)).trans hu, hlu.carry t (by simp)⟩)
  have T0 := Lib.hid t0
  have HL := Lib.hid hl
  clear h5 h2 t0 hl
  go_enter Try.func10, Try.ntmps10
  go_wp2_with fail
  generalize hw1 : w.alloc (.cells #[.slice (some ⟨g, 0, none⟩) 8 c, lv] 29) = w1 at *
  have hsz : w.heap.size < w1.heap.size := by rw [← hw1]; simp
  clear hw1
  go_loopw [6] (fun x wr => ∃ j : Nat, j ≤ 8 ∧ x = .int .i64 (j : Int) ∧ (∀ i, i < j → id ∉ L i) ∧ Touch [] w1 wr) (fun x _ => 8 - (intOf x).toNat)
  case atStart => exact ⟨0, Nat.zero_le _, rfl, fun i hi => absurd hi (Nat.not_lt_zero _), Touch.refl _ _⟩
  case round =>
    obtain ⟨j, hj, rfl, hno, ht⟩ := hrel
    have hbx := HB.out.carry ht (by simp)
    have c0 := hbx.cell 0
    by_cases hlt : j < 8
    · obtain ⟨u, hu, hlu⟩ := HG.out wr (T0.out.trans ht (by simp)) j hlt
      have D := Lib.hid (hlu.has id (HL.out j hlt))
      have HT := Lib.hid ht
      have HNO := Lib.hid hno
      have hg := Nat.lt_of_lt_of_le h3 (T0.out.trans ht (by simp)).size
      clear hlu ht hno hbx
      go_wp2_with fail
      refine (D.out).mono ?_
      rintro e w2 ⟨rfl, t2⟩
      have T2 := Lib.hid (HT.out.trans t2 (by simp))
      clear t2 HT D
      by_cases hin : id ∈ L j
      · rw [decide_eq_true hin]
        have hn : n = (j : Int) ∧ b = true := by
          rcases hp with ⟨rfl, k, hk, rfl, g1, g2⟩ | ⟨rfl, rfl, g1⟩
          · rcases Nat.lt_trichotomy j k with h | h | h
            · exact absurd hin (g2 j h)
            · exact ⟨by rw [h], rfl⟩
            · exact absurd g1 (HNO.out k h)
          · exact absurd hin (g1 j hlt)
        obtain ⟨rfl, rfl⟩ := hn
        go_wp2_with fail
        refine bodyPost_ret (v := .tuple #[.int .i64 (j : Int), .bool true]) (by simp [results, Try.results10, go_sem]) rfl ⟨rfl, T0.out.trans T2.out (by simp)⟩
      · rw [decide_eq_false hin]
        go_wp2_with fail
        go_roundw
        case rel => exact ⟨j + 1, by omega, by go_num, fun i hi => by rcases Nat.lt_or_ge i j with h' | h'; (· exact HNO.out i h'); rw [show i = j by omega]; exact hin, T2.out⟩
        case measure => simp [intOf]; omega
    · obtain rfl : j = 8 := by omega
      have hn : n = 0 ∧ b = false := by
        rcases hp with ⟨rfl, k, hk, rfl, g1, g2⟩ | ⟨rfl, rfl, g1⟩
        · exact absurd g1 (hno k hk)
        · exact ⟨rfl, rfl⟩
      obtain ⟨rfl, rfl⟩ := hn
      have HT := Lib.hid ht
      clear ht hno hbx
      go_wp2_with fail
      refine bodyPost_ret (v := .tuple #[.int .i64 0, .bool false]) (by simp [results, Try.results10, go_sem]) rfl ⟨rfl, T0.out.trans HT.out (by simp)⟩

/-- Is one of the ring's able? -/
def someIn (L able : List Int) : Bool := L.any fun i => decide (i ∈ able)
set_option maxHeartbeats 1000000 in
theorem refSome {Z Z' : List Nat} {w : World} {v u : Value} {L M : List Int} (h : LInts Z w v L) (k : LInts Z' w u M) (hL : L.length ≤ 1000) (hM : M.length ≤ 1000) :
    Calls Try.prog 51 #[v, u] w fun e w' => e = .returned (.bool (someIn L M)) ∧ Touch [] w w' := by
  obtain ⟨A, c, rfl, h1, h2, h3⟩ := h.cells
  have H3 := Lib.hid h3
  have HK := Lib.hid k
  obtain ⟨A2, c2, rfl, k1, k2, k3⟩ := k
  clear h h3 k3
  go_enter Try.func51, Try.ntmps51
  go_wp2_with fail
  go_loopw [5] (fun x wr => ∃ j : Nat, j ≤ L.length ∧ x = .int .i64 (j : Int) ∧ (∀ i, i < j → at0 L i ∉ M) ∧ Touch [] w wr) (fun x _ => L.length - (intOf x).toNat)
  case atStart => exact ⟨0, Nat.zero_le _, rfl, fun i hi => absurd hi (Nat.not_lt_zero _), Touch.refl _ _⟩
  case round =>
    obtain ⟨j, hj, rfl, hno, ht⟩ := hrel
    by_cases hlt : j < L.length
    · obtain ⟨b, off, hA, hb, hc⟩ := H3.out j hlt
      have hc := (ht.cell (a := ⟨b, off + j, none⟩) hb (by simp)).trans hc
      have hb := Nat.lt_of_lt_of_le hb ht.size
      subst hA
      have D := Lib.hid ((HK.out.carry ht (by simp)).has (at0 L j) hM)
      have HT := Lib.hid ht
      have HNO := Lib.hid hno
      clear ht hno
      go_wp2_with fail
      refine (D.out).mono ?_
      rintro e w2 ⟨rfl, t2⟩
      have T2 := Lib.hid (HT.out.trans t2 (by simp))
      clear t2 HT D
      by_cases hin : at0 L j ∈ M
      · rw [decide_eq_true hin]
        have hs : someIn L M = true := by
          unfold someIn
          rw [List.any_eq_true]
          refine ⟨at0 L j, ?_, decide_eq_true hin⟩
          rw [at0, List.getElem?_eq_getElem hlt]
          exact List.getElem_mem hlt
        have HS := Lib.hid hs
        clear hs
        go_wp2_with fail
        go_ret
        exact ⟨by rw [HS.out]; rfl, T2.out⟩
      · rw [decide_eq_false hin]
        go_wp2_with fail
        go_roundw
        case rel => exact ⟨j + 1, by omega, by go_num, fun i hi => by rcases Nat.lt_or_ge i j with h' | h'; (· exact HNO.out i h'); rw [show i = j by omega]; exact hin, T2.out⟩
        case measure => simp [intOf]; omega
    · obtain rfl : j = L.length := by omega
      have hs : someIn L M = false := by
        unfold someIn
        rw [List.any_eq_false]
        intro x hx
        obtain ⟨i, hi, rfl⟩ := List.getElem_of_mem hx
        have := hno i hi
        rw [at0, List.getElem?_eq_getElem hi] at this
        simpa using this
      have HS := Lib.hid hs
      have HT := Lib.hid ht
      clear ht hno hs
      go_wp2_with fail
      go_ret
      exact ⟨by rw [HS.out]; rfl, HT.out⟩

theorem lists_info : (Try.prog.info? 31).map (fun i => (i.zero, i.size, i.bytes)) = some (some (.slice none 0 0), 1, 24) := by kernel_rfl
/-- What with has built up to ring j. -/
def Built (Z : List Nat) (w : World) (L : Nat → List Int) (j : Nat) (us : List Value) : Prop :=
  us.length = j ∧ (∀ u ∈ us, u.oneCell' = true) ∧ ∀ k, k < j → ∃ u, us[k]? = some u ∧ LInts Z w u (L k)
theorem Built.next {Z : List Nat} {w w' : World} {L : Nat → List Int} {j : Nat} {us : List Value} {u : Value} (h : Built Z w L j us) (t : Touch [] w w') (hu : LInts Z w' u (L j)) : Built Z w' L (j + 1) (us ++ [u]) := by
  obtain ⟨h1, h2, h3⟩ := h
  refine ⟨by simp [h1], fun x hx => ?_, fun k hk => ?_⟩
  · rw [List.mem_append] at hx
    rcases hx with hx | hx
    · exact h2 x hx
    · simp at hx
      subst hx
      obtain ⟨A, c, rfl, _⟩ := hu
      rfl
  · rcases Nat.lt_or_ge k j with hlt | hge
    · obtain ⟨x, hx, hl⟩ := h3 k hlt
      exact ⟨x, by rw [List.getElem?_append_left (by omega)]; exact hx, hl.carry t (by simp)⟩
    · obtain rfl : k = j := by omega
      exact ⟨u, by rw [← h1, List.getElem?_append_right (Nat.le_refl _)]; simp, hu⟩
theorem Built.rings {Z : List Nat} {w w0 : World} {base : Nat} {v : Value} {L : Nat → List Int} {us : List Value} (h : Built Z w0 L 8 us) (t : Touch [] w0 w) (ho : w.ownsRow base 31 1 v 8 us) (hZ : ∀ b ∈ Z, b < base) : RingsAt Z w v L := by
  obtain ⟨h1, h2, h3⟩ := h
  rcases ho.2 with ⟨rfl, hn⟩ | ⟨g, cap, cur, rfl, hg, hh, q2, q3, q4, q5⟩
  · exact absurd hn (by omega)
  · refine ⟨g, cap, rfl, q2, q3, (Array.getElem?_eq_some_iff.1 hh).1, fun hm => by have := hZ g hm; omega, fun k hk => ?_⟩
    obtain ⟨u, hu, hl⟩ := h3 k hk
    refine ⟨u, ?_, hl.carry t (by simp)⟩
    rw [← q5] at hu
    rw [World.cell?, hh]
    simpa [List.getElem?_take, hk] using hu

def WithPost (Z : List Nat) (L : Nat → List Int) (lv : Value) (w : World) (e : Ending) (w' : World) : Prop :=
  ∃ rv, e = .returned (.agg #[rv, lv]) ∧ RingsAt Z w' rv L ∧ Touch [] w w'
set_option maxHeartbeats 2000000 in
set_option maxRecDepth 100000 in
theorem refWith {Z : List Nat} {w : World} {rv lv u : Value} {L : Nat → List Int} {l : List Int} (h : RingsAt Z w rv L) (k : Nat) (hk : k < 8) (hu : LInts Z w u l) (hZ : ∀ b ∈ Z, b < w.heap.size) (hlv : ∃ A n c, lv = .slice A n c) :
    Calls Try.prog 45 #[.agg #[rv, lv], .int .i64 (k : Int), u] w (WithPost Z (updL L k l) lv w) := by
  obtain ⟨i0, hi0, hz0, hz1, hz2⟩ := info_parts lists_info
  obtain ⟨Al, nl, cl, rfl⟩ := hlv
  obtain ⟨g, c, rfl, h1, h2, h3, h4, h5⟩ := h
  obtain ⟨A, cu, rfl, k1, k2, k3⟩ := id hu
  have HU := Lib.hid hu
  have HG := Lib.hid (fun (j : Nat) (hj : j < 8) => show ∃ u, LInts Z w u (L j) ∧ ∀ wr, Touch [] w wr → wr.cell? ⟨g, j, none⟩ = some u by
    obtain ⟨u, hu, hlu⟩ := h5 j hj
    exact ⟨u, hlu, fun wr t => (t.cell (a := ⟨g, j, none⟩) h3 (by simp)).trans hu⟩)
  have HZ := Lib.hid hZ
  have HB := Lib.hid ((BoxV.new w 29 #[.slice (some ⟨g, 0, none⟩) 8 c, .slice Al nl cl]).carry ((Touch.refl [] _).alloc (.cells #[.slice none 0 0, .slice none 0 0] 29)) (by simp))
  have HB2 := Lib.hid (BoxV.new (w.alloc (.cells #[.slice (some ⟨g, 0, none⟩) 8 c, .slice Al nl cl] 29)) 29 #[.slice none 0 0, .slice none 0 0])
  have T0 := Lib.hid (((Touch.refl [] w).alloc (.cells #[.slice (some ⟨g, 0, none⟩) 8 c, .slice Al nl cl] 29)).alloc (.cells #[.slice none 0 0, .slice none 0 0] 29))
  have hZ2 : ∀ b ∈ (w.heap.size + 1) :: Z, b ∈ Z ∨ w.heap.size ≤ b := fun b hb => by
    rw [List.mem_cons] at hb
    rcases hb with rfl | hb
    · right; omega
    · exact .inl hb
  unfold WithPost
  generalize hn : l.length = n at *
  clear h5 h2 k3 hu hZ
  go_enter Try.func45, Try.ntmps45
  go_wp2_with fail
  generalize hw1 : (w.alloc (.cells #[.slice (some ⟨g, 0, none⟩) 8 c, .slice Al nl cl] 29)).alloc (.cells #[.slice none 0 0, .slice none 0 0] 29) = w1 at *
  have hsz : w.heap.size + 2 = w1.heap.size := by rw [← hw1]; simp
  have hb2 : (w.alloc (.cells #[.slice (some ⟨g, 0, none⟩) 8 c, .slice Al nl cl] 29)).heap.size = w.heap.size + 1 := by simp
  rw [hb2] at HB2
  clear hw1 hb2
  go_loopw [7, 8] (fun v x wr => ∃ (j : Nat) (us : List Value), j ≤ 8 ∧ x = .int .i64 (j : Int) ∧ wr.ownsRow w1.heap.size 31 1 v j us ∧ Built ((w.heap.size + 1) :: Z) w (updL L k l) j us ∧ Touch [] w1 wr) (fun _ x _ => 8 - (intOf x).toNat)
  case atStart => exact ⟨0, [], Nat.zero_le _, rfl, World.ownsRow_nil _ _ _ _, ⟨rfl, fun u hu => by simp at hu, fun k hk => absurd hk (Nat.not_lt_zero _)⟩, Touch.refl _ _⟩
  case round =>
    obtain ⟨j, us, hj, rfl, hown, hbu, ht⟩ := hrel
    have hbx := HB.out.carry ht (by simp)
    have c0 := hbx.cell 0
    have c1 := hbx.cell 1
    simp only [List.getElem?_toArray, List.getElem?_cons_zero, List.getElem?_cons_succ] at c0 c1
    have hwsz := ht.size
    by_cases hlt : j < 8
    · have hul := hbu.1
      by_cases hjk : j = k
      · subst hjk
        have HN := Lib.hid (hbu.next (u := .slice A n cu) (Touch.refl _ _) (by rw [updL_same]; exact HU.out.avoid hZ2))
        go_upto_region 4 with (at_builtin; refine wpList_append_own _ rfl (.tmp 19) (.tmp 21) 26 rfl w1.heap.size 31 i0 (.slice none 0 0) 1 24 Try.underlying26 hi0 hz0 hz1 hz2 rfl (by decide) u7 j us rfl (hown.alloc _) ⟨wr.heap.size, 0, none⟩ 1 1 [.slice A n cu] rfl rfl (cell_one_new _ _ _) (by intro u hu; simp at hu; subst hu; rfl) (by unfold maxLen; omega) (by omega) (by simp; omega) ?_; intro v' w2 hown' hgrow hnil)
        have t2 : Touch [] w1 w2 := (ht.alloc _).grown hgrow (fun g hg => .inr (hown.lt g hg).1)
        have HO := Lib.hid hown'
        have HT := Lib.hid t2
        clear hown hbu ht hbx hown' hgrow hnil t2
        go_wp2_with fail
        go_roundw
        case rel => exact ⟨j + 1, us ++ [.slice A n cu], by omega, by go_num, HO.out, HN.out, HT.out⟩
        case measure => simp [intOf]; omega
      · obtain ⟨u, hlu, hcu⟩ := HG.out j hlt
        have hcu := hcu wr (T0.out.trans ht (by simp))
        have HN := Lib.hid (hbu.next (u := u) (Touch.refl _ _) (by rw [updL_other _ _ hjk]; exact hlu.avoid hZ2))
        obtain ⟨A', c', rfl, _⟩ := hlu
        have bjk : ((j : Int) == (k : Int)) = false := by simp; omega
        have hg := Nat.lt_of_lt_of_le h3 (T0.out.trans ht (by simp)).size
        go_upto_region 4 with (at_builtin; refine wpList_append_own _ rfl (.tmp 23) (.tmp 29) 26 rfl w1.heap.size 31 i0 (.slice none 0 0) 1 24 Try.underlying26 hi0 hz0 hz1 hz2 rfl (by decide) u7 j us rfl (hown.alloc _) ⟨wr.heap.size, 0, none⟩ 1 1 [.slice A' (L j).length c'] rfl rfl (cell_one_new _ _ _) (by intro u hu; simp at hu; subst hu; rfl) (by unfold maxLen; omega) (by omega) (by simp; omega) ?_; intro v' w2 hown' hgrow hnil)
        have t2 : Touch [] w1 w2 := (ht.alloc _).grown hgrow (fun g hg => .inr (hown.lt g hg).1)
        have HO := Lib.hid hown'
        have HT := Lib.hid t2
        clear hown hbu ht hbx hown' hgrow hnil t2
        go_wp2_with fail
        go_roundw
        case rel => exact ⟨j + 1, us ++ [.slice A' (L j).length c'], by omega, by go_num, HO.out, HN.out, HT.out⟩
        case measure => simp [intOf]; omega
    · obtain rfl : j = 8 := by omega
      have hr := hbu.rings (T0.out.trans ht (by simp)) hown (fun b hb => by rw [List.mem_cons] at hb; rcases hb with rfl | hb; (· omega); have := HZ.out b hb; omega)
      obtain ⟨g2, cc2, rfl, hr2⟩ := id hr
      have HR := Lib.hid hr
      have HT := Lib.hid (T0.out.trans ht (by simp))
      have hb2 := HB2.out.carry ht (by simp)
      have hlt2 := hb2.lt
      have d0 := hb2.cell 0
      have f0 := hb2.fr 0
      have hb3 := hb2.set 0 (.slice (some ⟨g2, 0, none⟩) 8 cc2)
      have d1 := hb3.cell 1
      have f1 := hb3.fr 1
      have hb4 := hb3.set 1 (.slice Al nl cl)
      have HBB := Lib.hid hb4
      have HT4 := Lib.hid ((HT.out.setCell (a := ⟨w.heap.size + 1, 0, none⟩) (.inr (by simp)) (.slice (some ⟨g2, 0, none⟩) 8 cc2)).setCell (a := ⟨w.heap.size + 1, 1, none⟩) (.inr (by simp)) (.slice Al nl cl))
      have HR4 := Lib.hid ((HR.out.carry (((Touch.refl [w.heap.size + 1] wr).setCell (a := ⟨w.heap.size + 1, 0, none⟩) (.inl (by simp)) (.slice (some ⟨g2, 0, none⟩) 8 cc2)).setCell (a := ⟨w.heap.size + 1, 1, none⟩) (.inl (by simp)) (.slice Al nl cl)) (by simp)).avoid (Z' := Z) (fun b hb => .inl (by simp [hb])))
      simp only [List.getElem?_toArray, List.getElem?_cons_zero, List.getElem?_cons_succ] at d0 d1
      clear hb2 hb3 hb4
      clear hown hbu hbx hr hr2
      go_wp2_with fail
      exact bodyPost_ret (ret_box (t := 29) Try.results45 rfl HBB.out Try.underlying29 rfl (by kernel_rfl)) rfl ⟨_, rfl, HR4.out, HT4.out⟩
end Go.Proofs.Ytcggpgjnjfjfnaa
