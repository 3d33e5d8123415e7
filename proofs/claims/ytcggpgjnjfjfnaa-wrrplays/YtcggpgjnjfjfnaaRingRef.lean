/-
  Layer 29 (ring): Clear; the reference: Without, Has, Turn.
-/
import Derived.Test.YtcggpgjnjfjfnaaRingLaws
namespace Go.Proofs.Ytcggpgjnjfjfnaa
open Go.ChangeShapes Go.WideShapes Go.ChangeAt Go.RowKit Go.Deep Go.Maps
open Go.ChangeMaps (setBlock)
set_option linter.unusedVariables false

theorem IMap.clear {P : Program} {k t e : TypeId} {w : World} {b s : Nat} {M : Int → Option Value} (ht : P.underlying t = some (.map k e)) (h : IMap P k w b s M) (ty : TypeId) :
    ∃ w', (Builtin.clear_ #[t] ty #[.map (some b)]).run P w = .ok (.tuple #[]) w' ∧ IMap P k w' b 0 (fun _ => none) ∧ Touch [b] w w' := by
  obtain ⟨D, ⟨es, clock, hb, F, _, _⟩, _⟩ := h
  refine ⟨setBlock w b (.map #[] clock), ?_, ⟨.map [], ⟨#[], clock, Go.ChangeMaps.heap_setBlock_same hb _, ⟨by simp, ⟨by simp, by simp, by simp⟩, by simp⟩, by simp, rfl⟩, rfl, fun i _ => ⟨rfl, fun z => rfl⟩⟩, ?_⟩
  · simp [Builtin.clear_, run_underlying ht, MapKept.run_getObj_map hb, MapKept.run_setObj_map _ hb, Result.andThen, setBlock]
  · refine ⟨rfl, rfl, rfl, by simp [setBlock], fun i hi hn => ?_⟩
    simp [setBlock]
    rw [Array.getElem?_setIfInBounds_ne (by intro e; subst e; simp at hn)]

section
variable {w w' : World} {p b1 b2 n : Nat} {x : Nat → Int}
theorem Ringed.clear (h : Ringed w p b1 b2 n x) :
    Calls Try.prog 36 #[.pointer (some ⟨p, 0, none⟩)] w fun e w' => e = .returned (.tuple #[]) ∧ Ringed w' p b1 b2 0 (fun _ => 0) ∧ Touch [p, b1, b2] w w' := by
  obtain ⟨hd, N, Q, a, c⟩ := h
  obtain ⟨w1, r1, m1, t1⟩ := a.m1.clear Try.underlying87 0
  obtain ⟨w2, r2, m2, t2⟩ := (a.m2.carry t1 (by simpa using a.ne.symm)).clear Try.underlying87 0
  have c0 := a.box.c0
  have c1 := (a.box.carry t1 (by simpa using a.ne1)).c1
  have F := Lib.hid (show Ringed w2 p b1 b2 0 (fun _ => 0) ∧ Touch [p, b1, b2] w w2 from ⟨⟨hd, fun _ => none, fun _ => none, ⟨(a.box.carry t1 (by simpa using a.ne1)).carry t2 (by simpa using a.ne2), m1.carry t2 (by simpa using a.ne), m2, a.ne⟩, ⟨fun _ => rfl, fun _ _ h => by omega, fun h => by omega, fun h => by omega, fun _ _ => rfl, fun h => by omega, fun _ _ => rfl, fun h => by omega⟩⟩, (t1.mono (by simp)).trans t2 (by simp)⟩)
  clear a c m1 m2 t1 t2
  go_enter Try.func36, Try.ntmps36
  go_wp2
  go_end0
  exact ⟨rfl, F.out⟩
end

/-! ### Lists of integers in memory -/
def ints (L : List Int) : List Value := L.map fun y => .int .i64 y
def at0 (L : List Int) (i : Nat) : Int := L[i]?.getD 0
theorem ints_iv (L : List Int) : ints L = iv (at0 L) L.length := by
  apply List.ext_getElem?
  intro i
  by_cases hi : i < L.length
  · rw [iv_get _ hi]
    simp [ints, at0, hi]
  · rw [List.getElem?_eq_none (by simp [ints]; omega), List.getElem?_eq_none (by simp [iv_length]; omega)]
def without29 (i : Int) (L : List Int) : List Int := L.filter (fun y => y != i)
def IntsPost (w : World) (L : List Int) (e : Ending) (w' : World) : Prop := ∃ v, e = .returned v ∧ w'.ownsRow w.heap.size 3 1 v L.length (iv (at0 L) L.length) ∧ Below w.heap.size w w'

set_option maxHeartbeats 1000000 in
theorem refWithout29 {A : Option Addr} {c : Nat} {L : List Int} {w : World} (h : IntCells w w.heap.size A L.length (at0 L)) (i : Int) (hL : L.length ≤ 1000) :
    Calls Try.prog 32 #[.slice A L.length c, .int .i64 i] w (IntsPost w (without29 i L)) := by
  obtain ⟨i0, hi0, hz0, hz1, hz2⟩ := info_parts rg_int_info
  have H := Lib.hid h
  have hT : Hid (L.take L.length = L) := Lib.hid (List.take_length)
  have hS : Hid (∀ k, k < L.length → L.take (k + 1) = L.take k ++ [at0 L k]) := Lib.hid fun k hk => by rw [List.take_add_one, at0, List.getElem?_eq_getElem hk]; rfl
  have hW : Hid (∀ k, k ≤ L.length → (without29 i (L.take k)).length ≤ k) := Lib.hid fun k hk => by unfold without29; refine Nat.le_trans (List.length_filter_le _ _) ?_; rw [List.length_take]; omega
  unfold IntsPost
  rw [← ints_iv]
  generalize hn : L.length = n at *
  clear h hn
  go_enter Try.func32, Try.ntmps32
  go_wp2
  go_loopw [5, 6] (fun x y wr => ∃ k : Nat, k ≤ n ∧ y = .int .i64 k ∧ wr.ownsRow w.heap.size 3 1 x (without29 i (L.take k)).length (ints (without29 i (L.take k))) ∧ Below w.heap.size w wr) (fun _ y _ => n - (intOf y).toNat)
  case atStart => exact ⟨0, Nat.zero_le _, rfl, World.ownsRow_nil _ _ _ _, Below.refl _ _⟩
  case round =>
    obtain ⟨k, hk, rfl, hown, hbl⟩ := hrel
    by_cases hlt : k < n
    · obtain ⟨b, off, hA, hb, hc⟩ := H.out k hlt
      rw [← hbl.cell (p := ⟨b, _, none⟩) hb] at hc
      subst hA
      have hs := hS.out k hlt
      have hw : without29 i (L.take (k + 1)) = if at0 L k = i then without29 i (L.take k) else without29 i (L.take k) ++ [at0 L k] := by
        rw [hs]
        unfold without29
        rw [List.filter_append]
        by_cases h : at0 L k = i
        · rw [if_pos h, List.filter_cons_of_neg (by simp [h])]
          simp
        · rw [if_neg h, List.filter_cons_of_pos (by simp [h])]
          simp
      have HW := Lib.hid hw
      have hlen := hW.out k hk
      generalize at0 L k = y at *
      clear hs hw
      by_cases hi : y = i
      · have e : without29 i (L.take (k + 1)) = without29 i (L.take k) := by rw [HW.out, if_pos hi]
        have E := Lib.hid e
        have b1 : (y != i) = false := by simpa using hi
        clear e hi HW
        go_wp2
        go_roundw
        case rel => exact ⟨k + 1, by omega, by go_num, by rw [E.out]; exact hown, hbl⟩
        case measure => simp [intOf]; omega
      · have e : without29 i (L.take (k + 1)) = without29 i (L.take k) ++ [y] := by rw [HW.out, if_neg hi]
        have E := Lib.hid e
        have b1 : (y != i) = true := by simpa using hi
        have lb : b < wr.heap.size := Nat.lt_of_lt_of_le hb hbl.size
        have hsz := hbl.size
        clear e hi HW
        generalize without29 i (L.take k) = M at *
        go_wp2_with (at_builtin; refine wpList_append_own _ rfl (.tmp 19) (.tmp 24) 31 rfl w.heap.size 3 i0 (.int .i64 0) 1 8 Try.underlying31 hi0 hz0 hz1 hz2 rfl (by decide) u5 M.length (ints M) rfl (hown.alloc _) ⟨wr.heap.size, 0, none⟩ 1 1 [.int .i64 y] rfl rfl (cell_one_new _ _ _) (by intro u hu; simp at hu; subst hu; rfl) (by unfold maxLen; omega) (by omega) (by simp; omega) ?_; intro v' w1 hown' hgrow hnil)
        have hb2 : Below w.heap.size w w1 := by
          refine (hbl.alloc hsz _).grown hgrow (by simp; omega) ?_
          intro j hj
          rcases hown.2 with ⟨rfl, _⟩ | ⟨g, cap, cur, rfl, hg, _⟩
          · simp [Value.ownBlock] at hj
          · simp [Value.ownBlock] at hj
            omega
        go_roundw
        case rel => exact ⟨k + 1, by omega, by go_num, by rw [E.out, List.length_append, show ints (M ++ [y]) = ints M ++ [.int .i64 y] by simp [ints]]; exact hown', hb2⟩
        case measure => simp [intOf]; omega
    · obtain rfl : k = n := by omega
      rw [hT.out] at hown
      go_wp2
      go_ret
      exact ⟨_, rfl, hown, hbl⟩
theorem without29_lt (i : Int) (L : List Int) : (without29 i L).length < L.length ↔ i ∈ L := by
  unfold without29
  rw [List.length_filter_lt_length_iff_exists]
  simp
theorem refHas29 {A : Option Addr} {c : Nat} {L : List Int} {w : World} (h : IntCells w w.heap.size A L.length (at0 L)) (i : Int) (hL : L.length ≤ 1000) :
    Calls Try.prog 30 #[.slice A L.length c, .int .i64 i] w fun e w' => e = .returned (.bool (decide (i ∈ L))) ∧ Below w.heap.size w w' := by
  have W := Lib.hid (refWithout29 (c := c) h i hL)
  have hlt := without29_lt i L
  have hle : (without29 i L).length ≤ L.length := by unfold without29; exact List.length_filter_le _ _
  have b1 : decide ((without29 i L).length < L.length) = decide (i ∈ L) := by
    rw [Bool.eq_iff_iff]
    simp only [decide_eq_true_eq]
    exact hlt
  clear h hlt
  unfold IntsPost at W
  generalize without29 i L = M at *
  generalize decide (i ∈ L) = q at *
  generalize L.length = n at *
  go_enter Try.func30, Try.ntmps30
  go_wp2_with fail
  refine (W.out).mono ?_
  rintro e w1 ⟨v, rfl, ho, hb⟩
  obtain ⟨A', cap, rfl, _, _, _⟩ := own_cells ho
  have HB := Lib.hid hb
  clear ho hb
  go_wp2_with fail
  go_ret
  exact ⟨rfl, HB.out⟩
end Go.Proofs.Ytcggpgjnjfjfnaa
