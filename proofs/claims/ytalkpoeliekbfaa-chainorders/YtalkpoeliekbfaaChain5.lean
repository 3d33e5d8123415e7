/-
  Layer 7 (chain): All's function called with the law's function that gathers.
-/
import Derived.Test.YtalkpoeliekbfaaChain4
import Derived.Test.YtalkpoeliekbfaaBox
namespace Go.Proofs.Ytalkpoeliekbfaa
open Go.ChangeShapes Go.WideShapes Go.ChangeAt Go.RowKit Go.Deep
set_option linter.unusedVariables false
set_option linter.unusedSimpArgs false

/-- What has been gathered at block b, in a row of the call's own. -/
structure Out (w : World) (b base : Nat) (L : List Nat) (v : Value) : Prop where
  box : Box1 w b 40 v
  row : w.ownsRow base 3 1 v L.length (nv L)
  low : b < base
section
variable {w w' : World} {b base : Nat} {L : List Nat} {v : Value}
def Pushed (w : World) (b base : Nat) (L : List Nat) (x : Nat) (v : Value) (e : Ending) (w' : World) : Prop :=
  e = .returned (.bool true) ∧ ∃ v2, Out w' b base (L ++ [x]) v2 ∧ Touch (b :: v.ownBlock.toList) w w' ∧ (v2.ownBlock = v.ownBlock ∨ ∃ g, v2.ownBlock = some g ∧ w.heap.size ≤ g)
set_option maxHeartbeats 1600000 in
set_option maxRecDepth 100000 in
theorem allPush (h : Out w b base L v) (x : Nat) (hl : L.length ≤ 5000) (hb : base ≤ w.heap.size) :
    Calls Try.prog 48 #[.int .i64 (x : Int), .pointer (some ⟨b, 0, none⟩)] w (Pushed w b base L x v) := by
  obtain ⟨i0, hi0, hz0, hz1, hz2⟩ := info_parts cint_info
  obtain ⟨A, c, rfl⟩ := own_form h.row
  have hc : L.length ≤ c ∧ c ≤ maxLen := by
    rcases h.row.2 with ⟨h', _⟩ | ⟨g', cap', cur, h', h1, hh, h2, h3, h4, h5⟩
    · simp at h'
      omega
    · simp only [Value.slice.injEq, true_and] at h'
      omega
  unfold maxLen at hc
  have c0 := h.box.c0
  have lb := h.box.lt
  have HO := Lib.hid h.row
  have HB := Lib.hid h.box
  have HL := Lib.hid h.low
  have hlt : ((L.length : Int) + 1 < 9999) := by omega
  clear h
  unfold Pushed
  go_enter Try.func48, Try.ntmps48
  go_upto_region 2 with (at_builtin; refine wpList_append_own_at _ rfl (.tmp 4) (.tmp 6) 40 rfl base 3 i0 (.int .i64 0) 1 8 Try.underlying40 hi0 hz0 hz1 hz2 rfl (by decide) (.slice A L.length c) L.length (nv L) rfl (HO.out.alloc _) ⟨w.heap.size, 0, none⟩ 1 1 [.int .i64 (x : Int)] rfl rfl (World.news_of_block (cs := #[.int .i64 (x : Int)]) (t := 3) (fr := (0, 0)) (heap_alloc_new w _)) (by simp [Value.oneCell']) (by unfold maxLen; omega) (by omega) (by simp; omega) ?_; intro v2 w9 hown2 hgrow2 hnil2 hat2; obtain ⟨A2, c2, rfl⟩ := own_form hown2; have tr : Touch (Value.slice A L.length c).ownBlock.toList w w9 := ((Touch.refl (Value.slice A L.length c).ownBlock.toList w).alloc _).grown hgrow2 (by intro b hb; rw [hb]; simp); have hb9 := HB.out.carry tr (fun hm => by have h1 := own_base HO.out (by simpa using hm); have h2 := HL.out; omega); have d0 := hb9.c0; have f0 := hb9.fr 0; have l9 := hb9.lt; have HB9 := Lib.hid hb9; have TR := Lib.hid tr; have HO2 := Lib.hid hown2; have HAT := Lib.hid hat2; clear hb9 tr hown2 hgrow2 hnil2 hat2)
  have hb10 := HB9.out.set0 (.slice A2 (L.length + 1) c2)
  have t10 : Touch [b] w9 (w9.setCell ⟨b, 0, none⟩ (.slice A2 (L.length + 1) c2)) := (Touch.refl [b] w9).setCell (a := ⟨b, 0, none⟩) (.inl (by simp)) _
  obtain ⟨w10, hw10⟩ : ∃ w10, w10 = w9.setCell ⟨b, 0, none⟩ (.slice A2 (L.length + 1) c2) := ⟨_, rfl⟩
  rw [← hw10] at hb10 t10 ⊢
  clear hw10 d0 f0 l9
  have d0 := hb10.c0
  have l9 := hb10.lt
  have HOUT := Lib.hid (show Out w10 b base (L ++ [x]) (.slice A2 (L.length + 1) c2) from ⟨hb10, by
    rw [nv_append, List.length_append]
    exact t10.row HO2.out (fun g hg hm => by
      have h1 := own_base HO2.out hg
      have h2 := HL.out
      simp at hm
      omega), HL.out⟩)
  have HT := Lib.hid (show Touch (b :: (Value.slice A L.length c).ownBlock.toList) w w10 from (TR.out.mono (S' := b :: (Value.slice A L.length c).ownBlock.toList) (fun y hy => .inl (List.mem_cons_of_mem _ hy))).trans t10 (fun y hy => .inl (by simp at hy; simp [hy])))
  clear hb10 t10 HB9 TR HO2
  go_wp2_with fail
  go_ret
  exact ⟨rfl, _, HOUT.out, HT.out, HAT.out.imp_right fun h => ⟨_, h, by simp⟩⟩
/-- All's function hands the nodes of the list on, one by one. -/
def Gathered (w : World) (b : Nat) (L : List Nat) (e : Ending) (w' : World) : Prop := e = .returned (.tuple #[]) ∧ ∃ v, Out w' b w.heap.size L v ∧ Touch [b] w w'
set_option maxHeartbeats 3200000 in
set_option maxRecDepth 100000 in
theorem allNodes {p l : Value} {B2 B3 : Nat} (hl5 : L.length ≤ 5000) (hb : Box1 w b 40 (.slice none 0 0)) (h2 : w.cell? ⟨B2, 0, none⟩ = some p) (h3 : w.cell? ⟨B3, 0, none⟩ = some l)
    (hp : (∃ q, p = .pointer q) ∧ ∃ z, l = .int .i64 z) (D : Hid (Calls Try.prog 50 #[p, l] w (NodesPost w L))) :
    Calls Try.prog 49 #[.func (.func 48) #[] #[.pointer (some ⟨b, 0, none⟩)], .pointer (some ⟨B2, 0, none⟩), .pointer (some ⟨B3, 0, none⟩)] w (Gathered w b L) := by
  obtain ⟨⟨q, rfl⟩, z, rfl⟩ := hp
  unfold NodesPost at D
  have HB := Lib.hid hb
  have lb := hb.lt
  clear hb
  unfold Gathered
  go_enter Try.func49, Try.ntmps49
  go_wp2_with fail
  refine (D.out).mono ?_
  rintro e w2 ⟨v2, rfl, hrow, hbel⟩
  obtain ⟨An, cn, rfl⟩ := own_form hrow
  have t2 := Touch.ofBelow (S := []) hbel
  have HR := Lib.hid hrow
  have T2 := Lib.hid t2
  have HB2 := Lib.hid (HB.out.carry t2 (by simp))
  have hsz := t2.size
  have hcap : L.length ≤ cn ∧ cn ≤ maxLen := by
    rcases hrow.2 with ⟨h', _⟩ | ⟨g', cap', cur, h', h1, hh, h2, h3, h4, h5⟩
    · simp at h'
      omega
    · simp only [Value.slice.injEq, true_and] at h'
      omega
  unfold maxLen at hcap
  clear hrow hbel t2 D h2 h3
  go_wp2_with fail
  go_loopw [10] (fun i wr => ∃ (k : Nat) (v : Value), k ≤ L.length ∧ i = .int .i64 k ∧ Out wr b w.heap.size (L.take k) v ∧ Touch [b] w wr ∧ w.heap.size ≤ wr.heap.size ∧ wr.ownsRow w.heap.size 3 1 (.slice An L.length cn) L.length (nv L) ∧ (∀ g, (Value.slice An L.length cn).ownBlock = some g → v.ownBlock ≠ some g)) (fun i _ => L.length - (intOf i).toNat)
  case atStart => exact ⟨0, .slice none 0 0, Nat.zero_le _, rfl, ⟨HB2.out, World.ownsRow_nil _ _ _ _, lb⟩, T2.out.mono (by simp), hsz, HR.out, fun g hg => by simp [Value.ownBlock]⟩
  case round =>
    obtain ⟨k, v, hk, rfl, hout, ht, hs, hrow, hne⟩ := hrel
    by_cases hlt : k < L.length
    · obtain ⟨gn, cn', hAn, _, _⟩ := hrow.form (by omega)
      simp only [Value.slice.injEq, true_and] at hAn
      obtain ⟨rfl, rfl⟩ := hAn
      obtain ⟨x, hx⟩ : ∃ x, L[k]? = some x := ⟨L[k]'hlt, List.getElem?_eq_getElem _⟩
      have z0 := hrow.cellAt k (by omega)
      rw [nv_get hx] at z0
      have Y := Lib.hid (allPush hout x (by rw [List.length_take]; omega) hs)
      unfold Pushed at Y
      have HX := Lib.hid hx
      have HW := Lib.hid hrow
      have HNE := Lib.hid hne
      have HT := Lib.hid ht
      have HO := Lib.hid hout
      have lgn := own_lt hrow rfl
      clear hout ht hrow hne hx
      go_wp2_with fail
      refine (Y.out).mono ?_
      rintro e w3 ⟨rfl, v3, ho3, t3, hv3⟩
      have hlow : w.heap.size ≤ w3.heap.size := Nat.le_trans hs t3.size
      have T3 := Lib.hid (HT.out.trans t3 (fun y hy => by
        simp only [List.mem_cons, Option.mem_toList] at hy
        rcases hy with rfl | hy
        · exact .inl (by simp)
        · exact .inr (own_base HO.out.row hy)))
      have HO3 := Lib.hid (show Out w3 b w.heap.size (L.take (k + 1)) v3 by
        have e := List.take_add_one (l := L) (i := k)
        rw [HX.out] at e
        rw [e]
        exact ho3)
      have HW3 := Lib.hid (t3.row HW.out (fun g hg hm => by
        simp only [List.mem_cons, Option.mem_toList] at hm
        rcases hm with rfl | hm
        · have h1 := own_base HW.out hg
          omega
        · exact HNE.out g hg hm))
      have HN3 := Lib.hid (show ∀ g, (Value.slice (some ⟨gn, 0, none⟩) L.length cn).ownBlock = some g → v3.ownBlock ≠ some g from fun g hg => by
        rcases hv3 with e | ⟨g3, e, hg3⟩
        · rw [e]
          exact HNE.out g hg
        · rw [e]
          intro h
          simp [Value.ownBlock] at hg h
          omega)
      clear ho3 t3 hv3 Y HO HT HW HNE z0
      go_wp2_with fail
      go_roundw
      case rel => exact ⟨k + 1, v3, by omega, by go_num, HO3.out, T3.out, hlow, HW3.out, HN3.out⟩
      case measure => simp [intOf]; omega
    · obtain rfl : k = L.length := by omega
      rw [List.take_length] at hout
      have HO := Lib.hid hout
      have HT := Lib.hid ht
      clear hout ht hrow hne
      go_wp2
      go_end0
      exact ⟨rfl, v, HO.out, HT.out⟩
end
end Go.Proofs.Ytalkpoeliekbfaa
