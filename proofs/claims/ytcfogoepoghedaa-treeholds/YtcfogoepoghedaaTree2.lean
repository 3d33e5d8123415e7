/-
  Layer 18 (tree): Leaf, Children, IDs, Leaves.
-/
import Derived.Test.YtcfogoepoghedaaTree1
import Derived.Shelf.SlIterI.Nil
import Derived.Shelf.SortM.Plain
import Derived.Shelf.SortM.SortNone
import Derived.Ground.GgzProg
import Derived.Ground.SlgmProg
namespace Go.Proofs
open Go.RowKit Go.Maps Go.Sort Go.Shelf
shelf_lay_g SlLaysZI.n7 Ggz 7 at Try 31 as Try.keysA
shelf_lay_g SlLaysZI.n6 Ggz 6 at Try 30 as Try.sortedA
shelf_lay_g SlLaysM.n5 Slgm 5 at Try 39 as Try.sortA
theorem Try.sortsA (m : Nat) : AnyZI.SortsIn Try.prog Try.sortedA_ren Fence.wide m :=
  ⟨fun blk off cap ss W hH hblk hsz => callsIn_wide.2 (AnyM.slices_Sort_int Try.sortA blk off cap ss W hH hblk hsz),
   fun p cap W => callsIn_wide.2 (AnyM.slices_Sort_int_none Try.sortA p cap W)⟩
end Go.Proofs
namespace Go.Proofs.Ytcfogoepoghedaa
open Go.ChangeShapes Go.WideShapes Go.ChangeAt Go.RowKit Go.Deep Go.Maps
set_option linter.unusedVariables false
set_option linter.unusedSimpArgs false
section
variable {w w' : World} {b : TB} {d : TD} {sC sK sL : Nat}
def leafB (d : TD) (id : Int) : Bool := (d.C id).isSome && decide ((d.K id).length = 0)
set_option maxRecDepth 100000 in
theorem tree_leaf (h : TreeAt w b d sC sK sL) (id : Int) (hi : i64k id) : Calls Try.prog 21 #[.pointer (some ⟨b.p, 0, Option.none⟩), .int .i64 id] w fun e w' => e = .returned (.bool (leafB d id)) ∧ Touch [] w w' := by
  have E := Lib.hid (tree_class h id hi)
  unfold leafB
  have H := Lib.hid h
  have AL := Lib.hid (cl_all (clsOf d.C id))
  generalize eC : clsOf d.C id = c at *
  have sf : ∀ (w : World) (a : Addr) (b : Nat), (store a (.float .f64 b)).run Try.prog w = stored Try.prog w a (.float .f64 b) .plain := fun w a b => run_store _ w a _ _ rfl
  obtain ⟨x0, x1, x2, x3, x4, x5, x6, x7, x8, x9, x10⟩ := c
  unfold Cl.cells at E AL
  simp only at E AL
  clear h eC
  go_enter Try.func21, Try.ntmps21
  go_wp2_with fail
  refine (E.out).mono ?_
  rintro e w2 ⟨rfl, t2⟩
  have H2 := Lib.hid ((H.out.new t2).new ((Touch.refl [] w2).alloc (.cells #[.int .i64 x0, .int .i64 x1, .float .f64 x2, .int .i64 x3, .int .i64 x4, .int .i64 x5, .int .i64 x6, .int .i64 x7, .int .i64 x8, .bool x9, .bool x10] 36)))
  have T2 := Lib.hid (t2.alloc (.cells #[.int .i64 x0, .int .i64 x1, .float .f64 x2, .int .i64 x3, .int .i64 x4, .int .i64 x5, .int .i64 x6, .int .i64 x7, .int .i64 x8, .bool x9, .bool x10] 36))
  clear t2 E H
  go_upto_region 2 with fail
  generalize w2.alloc (.cells #[.int .i64 x0, .int .i64 x1, .float .f64 x2, .int .i64 x3, .int .i64 x4, .int .i64 x5, .int .i64 x6, .int .i64 x7, .int .i64 x8, .bool x9, .bool x10] 36) = w3 at *
  cases hok : (d.C id).isSome with
  | false =>
    have HOK := Lib.hid hok
    clear hok
    go_wp2_with fail
    go_ret
    exact ⟨by rw [HOK.out]; rfl, T2.out⟩
  | true =>
    obtain ⟨c0, c1, c2, c3⟩ := H2.out.cells
    have lp := H2.out.box.lt
    obtain ⟨A, c, _, _, kl⟩ := H2.out.lookK id hi
    generalize hn : (d.K id).length = n at *
    have HN := Lib.hid hn
    have HOK := Lib.hid hok
    clear sf hn hok
    cases n with
    | zero =>
      go_wp2_with fail
      go_ret
      exact ⟨by rw [HOK.out, HN.out]; rfl, T2.out⟩
    | succ n =>
      have hn : ((n : Int) + 1 == 0) = false := by simp; omega
      go_wp2_with fail
      go_ret
      exact ⟨by rw [HOK.out, HN.out]; rfl, T2.out⟩
theorem key_mem {D : DataW Value} {b : Nat} {P : Program} {k : TypeId} {R : Value → Option (DataW Value × List MemPlace)} {n : Nat} (hk : P.underlying k = some (.int .i64)) (h : w.ownsMap P k R b n D) {X : List Int} (hp : X.Perm (intKeys D)) : X.Nodup ∧ X.length = Maps.size D ∧ ∀ i, i ∈ X ↔ i64k i ∧ has D (.int .i64 i) = true := by
  obtain ⟨es, hD, hpw, _⟩ := h.entries (int_keyed hk)
  obtain ⟨es', hD', hko⟩ := h.keysOf
  obtain rfl : es = es' := by rw [hD] at hD'; simpa using hD'
  subst hD
  have hk' : ∀ p ∈ es, ∃ x, p.1 = .int .i64 x ∧ i64k x := fun p hp => by
    obtain ⟨v, hv⟩ := hko p hp
    obtain ⟨x, _, hx, hw⟩ := Maps.keyOf_i64 hk hv
    exact ⟨x, hx, hw⟩
  have hnd : (intKeys (DataW.map es)).Nodup := by
    show (es.map fun p => Go.intOf p.1).Nodup
    refine List.pairwise_map.2 (hpw.imp_of_mem fun {p q} hp' hq' hne e => hne ?_)
    obtain ⟨a, ha, _⟩ := hk' p hp'
    obtain ⟨c, hc, _⟩ := hk' q hq'
    rw [ha, hc] at e ⊢
    exact congrArg _ e
  refine ⟨hp.nodup_iff.2 hnd, ?_, fun i => ?_⟩
  · rw [hp.length_eq]
    show (es.map fun p => Go.intOf p.1).length = es.length
    simp
  · rw [hp.mem_iff, has_eq, List.any_eq_true]
    show i ∈ es.map (fun p => Go.intOf p.1) ↔ _
    rw [List.mem_map]
    constructor
    · rintro ⟨p, hp', rfl⟩
      obtain ⟨a, ha, hw⟩ := hk' p hp'
      refine ⟨by rw [ha]; exact hw, p, hp', ?_⟩
      rw [ha]
      simp [Lit.sameKey, Go.intOf]
    · rintro ⟨hi, p, hp', hs⟩
      obtain ⟨a, ha, _⟩ := hk' p hp'
      rw [ha] at hs
      exact ⟨p, hp', by rw [ha]; simpa [Lit.sameKey, Go.intOf] using hs⟩
set_option maxRecDepth 100000 in
set_option maxHeartbeats 1600000 in
theorem tree_ids (h : TreeAt w b d sC sK sL) (hs : sC ≤ 1000) : Calls Try.prog 12 #[.pointer (some ⟨b.p, 0, Option.none⟩)] w fun e w' => ∃ A c X, e = .returned (.slice A X.length c) ∧ w'.ownsRow w.heap.size 3 1 (.slice A X.length c) X.length (zv X) ∧ IdsOf d.C X ∧ X.length = sC ∧ Touch [] w w' := by
  obtain ⟨c0, c1, c2, c3⟩ := h.cells
  have lp := h.box.lt
  obtain ⟨D, hown, hsz, hD⟩ := h.cls
  have hbl := hown.lt
  have hD' : ∀ i, i64k i → has D (.int .i64 i) = (d.C i).isSome := fun i hi => by
    rw [(hD i hi).1]
    unfold clsV
    cases d.C i <;> rfl
  have hseq : SeqGives Fence.wide 2 Try.prog 40 #[.pointer (some ⟨w.heap.size, 0, Option.none⟩)] encZ (fun ss => ss.Perm (intKeys D)) (Maps.size D) (w.alloc (.cells #[.map (some b.bC)] 47)) :=
    AnyZI.keys_gives (ρ := Try.keysA_ren) { Try.keysA with } Fence.wide _ trivial rfl (by omega) w.heap.size b.bC sC D _ (by simp) (by simp) (by
      obtain ⟨es, clock, hb, Ft, hs, hD⟩ := hown
      exact ⟨es, clock, (Below.heap_alloc _ _ b.bC hbl).trans hb, Ft, hs, hD⟩)
  have cK := Lib.hid (show Calls Try.prog 31 #[.map (some b.bC)] w fun e w' => e = .returned (.func (.func 40) #[] #[.pointer (some ⟨w.heap.size, 0, Option.none⟩)]) ∧ w' = w.alloc (.cells #[.map (some b.bC)] 47) from callsIn_wide.1 (AnyZI.keys_in Try.keysA Fence.wide 5 trivial rfl (some b.bC) w))
  have cS0 := AnyZI.sorted_in Try.sortedA Fence.wide 5 trivial trivial trivial trivial rfl (by omega) (Try.sortsA _) (enters_of Try.func39 (by kernel_rfl) rfl) 40 #[.pointer (some ⟨w.heap.size, 0, Option.none⟩)] trivial (enters_of Try.func40 (by kernel_rfl) rfl) _ _ (by rw [hsz]; unfold maxLen; omega) (by rw [hsz]; omega) _ hseq
  change CallsIn _ _ Try.prog 30 _ _ _ at cS0
  have cS := Lib.hid (callsIn_wide.1 cS0)
  have KM := Lib.hid (fun (X : List Int) (hp : X.Perm (intKeys D)) => key_mem Try.underlying3 hown hp)
  have T1 := Lib.hid ((Touch.refl [] w).alloc (.cells #[.map (some b.bC)] 47))
  have HD := Lib.hid hD'
  clear cS0 hseq hown hD hD' h
  go_enter Try.func12, Try.ntmps12
  go_wp2_with fail
  refine (cK.out).mono ?_
  rintro e w1 ⟨rfl, rfl⟩
  clear cK
  go_wp2_with fail
  refine (cS.out).mono ?_
  rintro e w2 ⟨v, ss, rfl, hS, hrow, hnil, hb⟩
  obtain ⟨hn, hl, hm⟩ := KM.out ss hS
  have HR := Lib.hid hrow
  have T2 := Lib.hid (T1.out.trans (Touch.ofBelow (S := []) hb) (by simp))
  have HL := Lib.hid (hl.trans hsz)
  have HI := Lib.hid (ids_sorted (M := d.C) hn (fun i => by
    rw [hm i]
    constructor
    · rintro ⟨h1, h2⟩
      exact ⟨h1, by rw [← HD.out i h1]; exact h2⟩
    · rintro ⟨h1, h2⟩
      exact ⟨h1, by rw [HD.out i h1]; exact h2⟩))
  obtain ⟨A, c, rfl⟩ := rowForm hrow
  clear hrow hnil hb hS cS T1 KM HD hm hn hl
  go_wp2_with fail
  go_ret
  refine ⟨A, c, ss.mergeSort leI, ?_, ?_, HI.out, ?_, T2.out⟩
  · rw [List.length_mergeSort]
    rfl
  · rw [List.length_mergeSort]
    exact rowDown HR.out (by simp)
  · rw [List.length_mergeSort]
    exact HL.out
end
end Go.Proofs.Ytcfogoepoghedaa
