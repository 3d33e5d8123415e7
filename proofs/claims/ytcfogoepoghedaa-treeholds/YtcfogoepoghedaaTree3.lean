/-
  Layer 18 (tree): Children, Leaves.
-/
import Derived.Test.YtcfogoepoghedaaTree2
import Derived.Test.YtcfogoepoghedaaCloneInts
namespace Go.Proofs.Ytcfogoepoghedaa
open Go.ChangeShapes Go.WideShapes Go.ChangeAt Go.RowKit Go.Deep Go.Maps
set_option linter.unusedVariables false
set_option linter.unusedSimpArgs false
section
variable {w w' : World} {b : TB} {d : TD} {sC sK sL : Nat}
/-- The ids are some list. -/
theorem tree_hasIds (h : TreeAt w b d sC sK sL) : ∃ L, IdsOf d.C L ∧ L.length = sC := by
  obtain ⟨D, hown, hsz, hD⟩ := h.cls
  obtain ⟨hn, hl, hm⟩ := key_mem Try.underlying3 hown (List.Perm.refl (intKeys D))
  refine ⟨(intKeys D).mergeSort leI, ids_sorted hn (fun i => ?_), by rw [List.length_mergeSort, hl, hsz]⟩
  rw [hm i]
  constructor
  · rintro ⟨h1, h2⟩
    refine ⟨h1, ?_⟩
    rw [(hD i h1).1] at h2
    unfold clsV at h2
    cases hc : d.C i <;> simp_all
  · rintro ⟨h1, h2⟩
    refine ⟨h1, ?_⟩
    rw [(hD i h1).1]
    unfold clsV
    cases hc : d.C i <;> simp_all
set_option maxRecDepth 100000 in
theorem tree_children (h : TreeAt w b d sC sK sL) (id : Int) (hi : i64k id) (hn : (d.K id).length ≤ 1000) : Calls Try.prog 19 #[.pointer (some ⟨b.p, 0, Option.none⟩), .int .i64 id] w fun e w' => ∃ A c, e = .returned (.slice A (d.K id).length c) ∧ IntCells w' w'.heap.size A (d.K id).length (fun i => (d.K id).getD i 0) ∧ Touch [] w w' := by
  obtain ⟨c0, c1, c2, c3⟩ := h.cells
  have lp := h.box.lt
  obtain ⟨A, c, _, hr, kl⟩ := h.lookK id hi
  have C := Lib.hid (clone_arg (c := c) (row_ints hr) (by omega))
  clear h hr
  go_enter Try.func19, Try.ntmps19
  go_wp2_with fail
  refine (C.out).mono ?_
  rintro e w2 ⟨A', c', rfl, hI, t, _⟩
  have HI := Lib.hid hI
  have T := Lib.hid t
  clear hI t C kl c0 c1 c2 c3
  go_wp2_with fail
  go_ret
  exact ⟨A', c', rfl, HI.out, T.out⟩
set_option maxRecDepth 100000 in
set_option maxHeartbeats 3200000 in
theorem tree_leaves (h : TreeAt w b d sC sK sL) (hs : sC ≤ 1000) {L : List Int} (hL : IdsOf d.C L) : Calls Try.prog 14 #[.pointer (some ⟨b.p, 0, Option.none⟩)] w fun e w' => ∃ A c, e = .returned (.slice A (L.filter (leafB d)).length c) ∧ w'.ownsRow w.heap.size 3 1 (.slice A (L.filter (leafB d)).length c) (L.filter (leafB d)).length (zv (L.filter (leafB d))) ∧ Touch [] w w' := by
  obtain ⟨i0, hi0, hz0, hz1, hz2⟩ := info_parts ids_info
  have I := Lib.hid (tree_ids h hs)
  have H := Lib.hid h
  have HL := Lib.hid hL
  clear h hL
  go_enter Try.func14, Try.ntmps14
  go_wp2_with fail
  refine (I.out).mono ?_
  rintro e w1 ⟨A1, c1, L1, rfl, hrow, hI, hlen, t1⟩
  obtain rfl : L = L1 := ids_unique HL.out hI
  have RW := Lib.hid hrow
  have H1 := Lib.hid (H.out.new t1)
  have T1 := Lib.hid t1
  clear hrow hI t1 I H
  go_wp2_with fail
  go_loopw [3, 9] (fun o v wr => ∃ k : Nat, k ≤ L.length ∧ v = .int .i64 (k : Int) ∧ wr.ownsRow w1.heap.size 3 1 o ((L.take k).filter (leafB d)).length (zv ((L.take k).filter (leafB d))) ∧ Touch [] w1 wr) (fun _ v _ => L.length - (intOf v).toNat)
  case atStart => exact ⟨0, by omega, rfl, ⟨rfl, .inl ⟨rfl, rfl⟩⟩, Touch.refl _ _⟩
  case round =>
    obtain ⟨k, hk, rfl, hown, ht⟩ := hrel
    obtain ⟨Ao, co, rfl⟩ := rowForm hown
    have OW := Lib.hid hown
    have TR := Lib.hid ht
    clear hown ht
    by_cases hlt : k < L.length
    · obtain ⟨x, hx⟩ : ∃ x, L[k]? = some x := ⟨_, List.getElem?_eq_getElem hlt⟩
      have hxi : i64k x := ((HL.out.2 x).1 (List.mem_of_getElem? hx)).1
      obtain ⟨gA, rfl, hbA, hlA, cA⟩ := row_cell (TR.out.row RW.out (by simp)) hx
      have hlt' : (k : Int) < (L.length : Int) := by omega
      have ek : (L.take (k + 1)).filter (leafB d) = (L.take k).filter (leafB d) ++ (if leafB d x = true then [x] else []) := by
        rw [List.take_add_one, hx, List.filter_append]
        congr 1
        cases hh : leafB d x <;> simp [hh]
      have EK := Lib.hid ek
      have LF := Lib.hid (tree_leaf (H1.out.new TR.out) x hxi)
      clear ek hx
      cases hlf : leafB d x with
      | false =>
        rw [hlf] at LF
        have E2 := Lib.hid (EK.out.trans (by rw [hlf]; simp : _ = (L.take k).filter (leafB d)))
        clear EK hlf
        go_wp2_with fail
        refine (LF.out).mono ?_
        rintro e w2 ⟨rfl, t2⟩
        have T2 := Lib.hid (TR.out.trans t2 (by simp))
        have O2 := Lib.hid (t2.row OW.out (by simp))
        clear t2 cA LF
        go_wp2_with fail
        go_roundw
        case rel => exact ⟨k + 1, by omega, by go_num, by rw [E2.out]; exact O2.out, T2.out⟩
        case measure => simp [intOf]; omega
      | true =>
        rw [hlf] at LF
        have E2 := Lib.hid (EK.out.trans (by rw [hlf]; rfl : _ = ((L.take k).filter (leafB d)) ++ [x]))
        have hcl : ((L.take k).filter (leafB d)).length ≤ 1000 := by
          have h1 := List.length_filter_le (leafB d) (L.take k)
          have h2 := List.length_take_le k L
          omega
        clear EK hlf
        generalize ((L.take k).filter (leafB d)) = Q at *
        go_wp2_with fail
        refine (LF.out).mono ?_
        rintro e w2 ⟨rfl, t2⟩
        have T2 := Lib.hid (TR.out.trans t2 (by simp))
        have O2 := Lib.hid (t2.row OW.out (by simp))
        have hcv : Q.length ≤ co ∧ co ≤ maxLen := by
          rcases OW.out.2 with ⟨h', _⟩ | ⟨g', cap', cur, h', h1, hh, h2, h3, h4, h5⟩
          · simp at h'
            omega
          · simp only [Value.slice.injEq, true_and] at h'
            omega
        have hsz := T2.out.size
        clear t2 cA LF OW
        go_wp2_with (at_builtin; refine wpList_append_own_at _ rfl _ _ 31 rfl w1.heap.size 3 i0 (.int .i64 0) 1 8 Try.underlying31 hi0 hz0 hz1 hz2 rfl (by decide) (.slice Ao Q.length co) Q.length (zv Q) rfl (O2.out.alloc _) ⟨w2.heap.size, 0, Option.none⟩ 1 1 [.int .i64 x] rfl rfl (World.news_of_block (cs := #[.int .i64 x]) (t := 3) (fr := (0, 0)) (heap_alloc_new w2 _)) (by simp [Value.oneCell']) (by unfold maxLen; omega) (by omega) (by simp; omega) ?_; intro v3 w3 hown3 hgrow3 hnil3 hat3)
        have tr : Touch (Value.slice Ao Q.length co).ownBlock.toList w2 w3 := ((Touch.refl (Value.slice Ao Q.length co).ownBlock.toList w2).alloc _).grown hgrow3 (by intro b hb; rw [hb]; simp)
        have T3 := Lib.hid (T2.out.trans tr (fun g hg => .inr (by have := rowBase O2.out (by simpa using hg); omega)))
        have HO3 := Lib.hid (show w3.ownsRow w1.heap.size 3 1 v3 (Q ++ [x]).length (zv (Q ++ [x])) by rw [zv_append, List.length_append]; exact hown3)
        clear tr hown3 hgrow3 hnil3 hat3
        go_wp2_with fail
        go_roundw
        case rel => exact ⟨k + 1, by omega, by go_num, by rw [E2.out]; exact HO3.out, T3.out⟩
        case measure => simp [intOf]; omega
    · obtain rfl : k = L.length := by omega
      have hlt' : ¬ (L.length : Int) < (L.length : Int) := by omega
      rw [List.take_length] at OW ⊢
      have T3 := Lib.hid (T1.out.trans TR.out (by simp))
      have O3 := Lib.hid (rowDown OW.out (show w.heap.size ≤ w1.heap.size from T1.out.size))
      clear hlt hk
      go_wp2_with fail
      go_ret
      exact ⟨Ao, co, rfl, O3.out, T3.out⟩
end
end Go.Proofs.Ytcfogoepoghedaa
