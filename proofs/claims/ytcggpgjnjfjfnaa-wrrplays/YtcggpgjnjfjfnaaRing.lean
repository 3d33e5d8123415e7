/-
  Contracts of layer 29 (ring): entries of maps that are written in place, links, Len, Has.
-/
import Derived.Test.YtcggpgjnjfjfnaaBox
import Derived.Test.YtcggpgjnjfjfnaaIMap
import Derived.Test.YtcggpgjnjfjfnaaCls
import Derived.WideKeyEntry
import Derived.BigRegion
import Derived.RegionTactic
import Derived.WalkLawsBesides
import Derived.Deep.RegionWith
import Derived.Deep.DeepCutAuto
namespace Go.Proofs.Ytcggpgjnjfjfnaa
open Go.ChangeShapes Go.WideShapes Go.ChangeAt Go.RowKit Go.Deep Go.Maps
open Go.ChangeMaps (setBlock modify_eq_set)
set_option linter.unusedVariables false

theorem setBlock_twice (w : World) (b : Nat) (o o' : Obj) : setBlock (setBlock w b o) b o' = setBlock w b o' := by
  unfold setBlock
  simp

section
variable {P : Program} {k t e : TypeId} {w w' : World} {b s : Nat} {M M' : Int → Option Value} {i : Int} {z v : Value}
/-- An entry is found or made, and then written: as by an update. -/
theorem entry_store {H : Type} {R : Value → Option (DataW H × List MemPlace)} {es : Array MapEntry} {clock : Nat} (K : Maps.Keyed P k) (ht : P.underlying t = some (.map k e)) (hz : ∀ u : World, (zeroValue e).run P u = .ok z u) (hb : w.heap[b]? = some (.map es clock)) (F : WideElems.Fit P k R es clock)
    {key : Value} {kl : Lit} (hkey : keyOf P k key = some kl) (val : Value) :
    ∃ (v0 : Value) (st : Nat) (w1 w2 : World), (Instr.mapEntry t (.map (some b)) key).run P w = .ok (.tuple #[v0, .int .i64 st]) w1 ∧ (Instr.entryStore t (.map (some b)) (.int .i64 st) val).run P w1 = .ok () w2 ∧
      (Instr.mapUpdate t (.map (some b)) key val).run P w = .ok () w2 := by
  obtain ⟨s1, s2, _⟩ := F.stamped
  rcases K.find w hkey es.toList F.keys with ⟨h1, h2⟩ | ⟨j, e0, h1, h2, h3⟩
  · have hb1 : (setBlock w b (.map (es.push ⟨key, z, clock⟩) (clock + 1))).heap[b]? = some (.map (es.push ⟨key, z, clock⟩) (clock + 1)) := Go.ChangeMaps.heap_setBlock_same hb _
    refine ⟨z, clock, setBlock w b (.map (es.push ⟨key, z, clock⟩) (clock + 1)), setBlock w b (.map (es.push ⟨key, val, clock⟩) (clock + 1)), ?_, ?_, ?_⟩
    · simp [Instr.mapEntry, run_underlying ht, MapKept.run_getObj_map hb, K.check w false hkey, h1, hz, MapKept.run_setObj_map _ hb, Result.andThen, setBlock, goInt]
    · have hidx : (es.push ⟨key, z, clock⟩).findIdx? (fun e => ((e.born : Nat) : Int) == ((clock : Nat) : Int)) = some es.size := by
        rw [WideElems.findIdx_arr]
        refine WideElems.findIdx_born (l := (es.push ⟨key, z, clock⟩).toList) (j := es.size) (e0 := ⟨key, z, clock⟩) ?_ (by simp)
        simp only [Array.toList_push, List.map_append, List.map_cons, List.map_nil]
        refine List.nodup_append.2 ⟨s2, by simp, fun a ha c hc e1 => ?_⟩
        simp only [List.mem_singleton] at hc
        obtain ⟨x, hx, rfl⟩ := List.mem_map.1 ha
        have := s1 x hx
        omega
      have hmod : (es.push ⟨key, z, clock⟩).modify es.size (fun e => { e with val := val }) = es.push ⟨key, val, clock⟩ := by
        apply Array.ext'
        rw [Array.toList_modify, Array.toList_push, Array.toList_push, ← Array.length_toList, WideElems.modify_last]
      rw [← setBlock_twice w b (.map (es.push ⟨key, z, clock⟩) (clock + 1)) (.map (es.push ⟨key, val, clock⟩) (clock + 1))]
      generalize setBlock w b (.map (es.push ⟨key, z, clock⟩) (clock + 1)) = wx at *
      simp [Instr.entryStore, MapKept.run_getObj_map hb1, asInt, asIntOf, hidx, hmod, MapKept.run_setObj_map _ hb1, Result.andThen, setBlock]
    · simp [Instr.mapUpdate, run_underlying ht, MapKept.run_getObj_map hb, K.check w false hkey, h1, MapKept.run_setObj_map _ hb, Result.andThen, setBlock]
  · have hj : es[j]? = some e0 := by simpa using h2
    have hsame : es.modify j (fun e => { e with key := key }) = es := by
      apply Array.ext'
      rw [Array.toList_modify, modify_eq_set _ _ _ _ h2, show ({ e0 with key := key } : MapEntry) = e0 by rw [← h3]]
      exact WideElems.set_self _ _ _ h2
    have hb1 : (setBlock w b (.map es clock)).heap[b]? = some (.map es clock) := Go.ChangeMaps.heap_setBlock_same hb _
    refine ⟨e0.val, e0.born, setBlock w b (.map es clock), setBlock w b (.map (es.modify j (fun e' => { e' with key := key, val := val })) clock), ?_, ?_, ?_⟩
    · simp [Instr.mapEntry, run_underlying ht, MapKept.run_getObj_map hb, K.check w false hkey, h1, hj, h3, K.stays w hkey, hsame, MapKept.run_setObj_map _ hb, Result.andThen, setBlock, goInt]
    · have hidx : es.findIdx? (fun e => ((e.born : Nat) : Int) == ((e0.born : Nat) : Int)) = some j := by
        rw [WideElems.findIdx_arr]
        exact WideElems.findIdx_born s2 h2
      have hmod : es.modify j (fun e => { e with val := val }) = es.modify j (fun e' => { e' with key := key, val := val }) := by
        apply Array.ext'
        rw [Array.toList_modify, Array.toList_modify, modify_eq_set _ _ _ _ h2, modify_eq_set _ _ _ _ h2, ← h3]
      rw [← setBlock_twice w b (.map es clock) (.map (es.modify j (fun e' => { e' with key := key, val := val })) clock)]
      generalize setBlock w b (.map es clock) = wx at *
      simp [Instr.entryStore, MapKept.run_getObj_map hb1, asInt, asIntOf, hidx, hmod, MapKept.run_setObj_map _ hb1, Result.andThen, setBlock]
    · simp [Instr.mapUpdate, run_underlying ht, MapKept.run_getObj_map hb, K.check w false hkey, h1, hj, h3, K.stays w hkey, MapKept.run_setObj_map _ hb, Result.andThen, setBlock]

theorem IMap.entry (hk : P.underlying k = some (.int .i64)) (ht : P.underlying t = some (.map k e)) (hz : ∀ u : World, (zeroValue e).run P u = .ok z u) (h : IMap P k w b s M) (hs : s < maxLen) (hi : i64k i) (v : Value) :
    ∃ (v0 : Value) (st : Nat) (w1 w2 : World), (Instr.mapEntry t (.map (some b)) (.int .i64 i)).run P w = .ok (.tuple #[v0, .int .i64 st]) w1 ∧ (Instr.entryStore t (.map (some b)) (.int .i64 st) v).run P w1 = .ok () w2 ∧
      IMap P k w2 b (if (M i).isSome then s else s + 1) (put M i (some v)) ∧ Touch [b] w w2 := by
  obtain ⟨w', hu, hm, htt⟩ := h.store hk ht hs hi v
  obtain ⟨D, ⟨es, clock, hb, F, _, _⟩, _⟩ := h
  obtain ⟨v0, st, w1, w2, e1, e2, e3⟩ := entry_store (int_keyed hk) ht hz hb F (keyOf_int_mk hk hi) v
  obtain rfl : w' = w2 := by
    rw [e3] at hu
    injection hu with _ hu
    exact hu.symm
  exact ⟨v0, st, w1, w', e1, e2, hm, htt⟩
end

/-- Links from integers to integers. -/
def lnk (N : Int → Option Int) : Int → Option Value := fun i => (N i).map fun y => .int .i64 y
def upd2 (N : Int → Option Int) (i : Int) (y : Int) : Int → Option Int := fun j => if j = i then some y else N j
theorem upd2_same (N : Int → Option Int) (i y : Int) : upd2 N i y i = some y := if_pos rfl
theorem upd2_other (N : Int → Option Int) {i j : Int} (y : Int) (h : j ≠ i) : upd2 N i y j = N j := if_neg h
theorem lnk_upd (N : Int → Option Int) (i y : Int) : put (lnk N) i (some (.int .i64 y)) = lnk (upd2 N i y) := by
  funext j
  unfold put lnk upd2
  split <;> rfl
theorem lnk_get (N : Int → Option Int) (i : Int) : (lnk N i).getD (.int .i64 0) = .int .i64 ((N i).getD 0) := by
  unfold lnk
  cases N i <;> rfl
theorem lnk_some (N : Int → Option Int) (i : Int) : (lnk N i).isSome = (N i).isSome := by
  unfold lnk
  cases N i <;> rfl

theorem intZero (w : World) : (zeroValue 3).run Try.prog w = .ok (.int .i64 0) w := by kernel_rfl

/-- A ring in block p: its two maps in blocks b1 and b2. -/
structure RingAt (w : World) (p b1 b2 s1 s2 : Nat) (hd : Int) (N Q : Int → Option Int) : Prop where
  box : Box3C w p 89 (.map (some b1)) (.map (some b2)) (.int .i64 hd)
  m1 : IMap Try.prog 3 w b1 s1 (lnk N)
  m2 : IMap Try.prog 3 w b2 s2 (lnk Q)
  ne : b1 ≠ b2

namespace RingAt
variable {w w' : World} {p b1 b2 s1 s2 : Nat} {hd : Int} {N Q : Int → Option Int}
theorem ne1 (h : RingAt w p b1 b2 s1 s2 hd N Q) : p ≠ b1 := h.m1.notCell rfl h.box.c0
theorem ne2 (h : RingAt w p b1 b2 s1 s2 hd N Q) : p ≠ b2 := h.m2.notCell rfl h.box.c0
theorem carry {S : List Nat} (h : RingAt w p b1 b2 s1 s2 hd N Q) (t : Touch S w w') (hp : p ∉ S) (h1 : b1 ∉ S) (h2 : b2 ∉ S) : RingAt w' p b1 b2 s1 s2 hd N Q :=
  ⟨h.box.carry t hp, h.m1.carry t h1, h.m2.carry t h2, h.ne⟩
theorem head (h : RingAt w p b1 b2 s1 s2 hd N Q) (y : Int) : RingAt (w.setCell ⟨p, 2, none⟩ (.int .i64 y)) p b1 b2 s1 s2 y N Q ∧ Touch [p] w (w.setCell ⟨p, 2, none⟩ (.int .i64 y)) := by
  have t := (Touch.refl [p] w).setCell (a := ⟨p, 2, none⟩) (by simp) (.int .i64 y)
  exact ⟨⟨heap_setCell_same w p 2 _ 89 _ h.box, h.m1.carry t (by simpa using h.ne1.symm), h.m2.carry t (by simpa using h.ne2.symm), h.ne⟩, t⟩
end RingAt

section
variable {w : World} {p b1 b2 s1 s2 : Nat} {hd : Int} {N Q : Int → Option Int}
theorem ringNew_any (w : World) :
    Calls Try.prog 28 #[] w fun e w' => e = .returned (.pointer (some ⟨w.heap.size + 2, 0, none⟩)) ∧ RingAt w' (w.heap.size + 2) w.heap.size (w.heap.size + 1) 0 0 0 (fun _ => none) (fun _ => none) ∧ Touch [] w w' := by
  have hmm := @run_makeMap Try.prog
  have m1 := IMap.made (P := Try.prog) (k := 3) w
  have m2 := IMap.made (P := Try.prog) (k := 3) (w.alloc (.map #[] 0))
  rw [show (w.alloc (.map #[] 0)).heap.size = w.heap.size + 1 by simp] at m2
  have hb := heap_alloc_new ((w.alloc (.map #[] 0)).alloc (.map #[] 0)) (.cells #[.map (some w.heap.size), .map (some (w.heap.size + 1)), .int .i64 0] 89)
  rw [show ((w.alloc (.map #[] 0)).alloc (.map #[] 0)).heap.size = w.heap.size + 2 by simp] at hb
  have F := Lib.hid (show RingAt (((w.alloc (.map #[] 0)).alloc (.map #[] 0)).alloc (.cells #[.map (some w.heap.size), .map (some (w.heap.size + 1)), .int .i64 0] 89)) (w.heap.size + 2) w.heap.size (w.heap.size + 1) 0 0 0 (fun _ => none) (fun _ => none) from
    ⟨hb, (m1.carry ((Touch.refl [] _).alloc _) (by simp)).carry ((Touch.refl [] _).alloc _) (by simp), m2.carry ((Touch.refl [] _).alloc _) (by simp), by omega⟩)
  clear m1 m2 hb
  go_enter Try.func28, Try.ntmps28
  go_wp2
  go_ret
  exact ⟨rfl, F.out, (((Touch.refl _ _).alloc _).alloc _).alloc _⟩

theorem ringLen_any (h : RingAt w p b1 b2 s1 s2 hd N Q) :
    Calls Try.prog 38 #[.pointer (some ⟨p, 0, none⟩)] w fun e w' => e = .returned (.int .i64 s1) ∧ w' = w := by
  have c0 := h.box.c0
  have hl := h.m1.len Try.underlying87 3
  clear h
  go_enter Try.func38, Try.ntmps38
  go_wp2
  go_ret
  exact ⟨rfl, rfl⟩
theorem ringLen_nil (w : World) :
    Calls Try.prog 38 #[.pointer none] w fun e w' => e = .returned (.int .i64 0) ∧ w' = w := by
  go_enter Try.func38, Try.ntmps38
  go_wp2
  go_ret
  exact ⟨rfl, rfl⟩
theorem ringHas_any (h : RingAt w p b1 b2 s1 s2 hd N Q) (i : Int) (hi : i64k i) :
    Calls Try.prog 39 #[.pointer (some ⟨p, 0, none⟩), .int .i64 i] w fun e w' => e = .returned (.bool (N i).isSome) ∧ w' = w := by
  have c0 := h.box.c0
  have hl := h.m1.look_ok Try.underlying3 Try.underlying87 (intZero _) hi
  rw [lnk_some] at hl
  generalize (lnk N i).getD (.int .i64 0) = y at hl
  generalize (N i).isSome = q at *
  clear h
  go_enter Try.func39, Try.ntmps39
  go_wp2
  go_ret
  exact ⟨rfl, rfl⟩
theorem ringHas_nil (i : Int) (w : World) :
    Calls Try.prog 39 #[.pointer none, .int .i64 i] w fun e w' => e = .returned (.bool false) ∧ w' = w := by
  go_enter Try.func39, Try.ntmps39
  go_wp2
  go_ret
  exact ⟨rfl, rfl⟩

def LinkPost (p b1 b2 s1 s2 : Nat) (hd : Int) (N Q : Int → Option Int) (x y : Int) (w : World) (e : Ending) (w' : World) : Prop :=
  e = .returned (.tuple #[]) ∧ RingAt w' p b1 b2 (if (N x).isSome then s1 else s1 + 1) (if (Q y).isSome then s2 else s2 + 1) hd (upd2 N x y) (upd2 Q y x) ∧ Touch [b1, b2] w w'
theorem link_any (h : RingAt w p b1 b2 s1 s2 hd N Q) (x y : Int) (hx : i64k x) (hy : i64k y) (h1 : s1 ≤ 1000000) (h2 : s2 ≤ 1000000) :
    Calls Try.prog 61 #[.pointer (some ⟨p, 0, none⟩), .int .i64 x, .int .i64 y] w (LinkPost p b1 b2 s1 s2 hd N Q x y w) := by
  have t0 := (Touch.refl [] w).drew
  have h := h.carry t0 (by simp) (by simp) (by simp)
  have c0 := h.box.c0
  have c1 := h.box.c1
  obtain ⟨v0, st, w1, w2, r1, r2, m1, t1⟩ := h.m1.entry Try.underlying3 Try.underlying87 intZero (by unfold maxLen; omega) hx (.int .i64 y)
  obtain ⟨v3, st3, w3, w4, r3, r4, m2, t2⟩ := (h.m2.carry t1 (by simpa using h.ne.symm)).entry Try.underlying3 Try.underlying87 intZero (by unfold maxLen; omega) hy (.int .i64 x)
  rw [lnk_upd, lnk_some] at m1 m2
  have F := Lib.hid (show RingAt w4 p b1 b2 (if (N x).isSome then s1 else s1 + 1) (if (Q y).isSome then s2 else s2 + 1) hd (upd2 N x y) (upd2 Q y x) ∧ Touch [b1, b2] w w4 from
    ⟨⟨(h.box.carry t1 (by simpa using h.ne1)).carry t2 (by simpa using h.ne2), m1.carry t2 (by simpa using h.ne), m2, h.ne⟩, ((t0.mono (by simp)).trans t1 (by simp)).trans t2 (by simp)⟩)
  clear h m1 m2 t1 t2
  go_enter Try.func61, Try.ntmps61
  go_wp2
  go_region
  all_goals
    go_wp2
    exact bodyPost_ret (v := .tuple #[]) (by simp [results, Try.results61, go_sem]) rfl ⟨rfl, F.out⟩
end
end Go.Proofs.Ytcggpgjnjfjfnaa
