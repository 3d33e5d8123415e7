/-
  A whole block that is stored at once, and a result of a struct with words beside it.
-/
import Derived.Test.YtcfogoepoghedaaBoxV
namespace Go.Proofs.Ytcfogoepoghedaa
open Go.ChangeShapes Go.WideShapes Go.ChangeAt Go.RowKit Go.Deep
set_option linter.unusedVariables false

section
variable {w : World} {b : Nat} {T : TypeId}
def putAll (cs : Array Value) : Nat → List Value → Array Value
  | _, [] => cs
  | o, v :: r => putAll (cs.setIfInBounds o v) (o + 1) r
theorem BoxV.putW : ∀ (vs : List Value) (o : Nat) (w : World) (cs : Array Value), BoxV w b T cs → BoxV (w.setCells b o vs) b T (putAll cs o vs)
  | [], _, _, _, h => h
  | v :: r, o, w, cs, h => BoxV.putW r (o + 1) (w.setCell ⟨b, o, none⟩ v) _ (h.set o v)
theorem touch_cellsW : ∀ (vs : List Value) (o : Nat) (w : World), Touch [b] w (w.setCells b o vs)
  | [], _, w => Touch.refl _ _
  | v :: r, o, w => ((Touch.refl [b] w).setCell (a := ⟨b, o, none⟩) (.inl (List.mem_singleton.2 rfl)) v).trans (touch_cellsW r (o + 1) _) (fun q hq => .inl hq)
theorem putAll_get (i : Nat) : ∀ (vs : List Value) (o : Nat) (cs : Array Value), o + vs.length ≤ cs.size → (putAll cs o vs)[i]? = if o ≤ i ∧ i < o + vs.length then vs[i - o]? else cs[i]?
  | [], o, cs, _ => by
    rw [if_neg (by simp only [List.length_nil]; omega)]
    rfl
  | v :: r, o, cs, h => by
    simp only [List.length_cons] at h ⊢
    show (putAll (cs.setIfInBounds o v) (o + 1) r)[i]? = _
    rw [putAll_get i r (o + 1) _ (by simp; omega)]
    by_cases h1 : o = i
    · subst h1
      rw [if_neg (by omega), if_pos (by omega), Nat.sub_self, List.getElem?_cons_zero, Array.getElem?_setIfInBounds_self_of_lt (by omega)]
    · by_cases h2 : o + 1 ≤ i ∧ i < o + 1 + r.length
      · rw [if_pos h2, if_pos (by omega), show i - o = (i - (o + 1)) + 1 by omega, List.getElem?_cons_succ]
      · rw [if_neg h2, if_neg (by omega), Array.getElem?_setIfInBounds_ne h1]
theorem putAll_all (cs cs' : Array Value) (h : cs'.size = cs.size) : putAll cs 0 cs'.toList = cs' := by
  apply Array.ext_getElem?
  intro i
  rw [putAll_get i cs'.toList 0 cs (by simp; omega)]
  by_cases hi : i < cs'.size
  · rw [if_pos (by simp; omega)]
    simp
  · rw [if_neg (by simp; omega), Array.getElem?_eq_none (by omega), Array.getElem?_eq_none (by omega)]
theorem BoxV.wholeW {cs : Array Value} (h : BoxV w b T cs) (cs' : Array Value) (hs : cs'.size = cs.size) : BoxV (w.setCells b 0 cs'.toList) b T cs' := by
  have := BoxV.putW cs'.toList 0 w cs h
  rwa [putAll_all cs cs' hs] at this
theorem BoxV.thereW {cs : Array Value} (h : BoxV w b T cs) (o n : Nat) (hn : o + n ≤ cs.size) : w.there b o n := by
  intro j hj
  exact ⟨by rw [h.cell]; simp; omega, h.fr (o + j)⟩
theorem BoxV.rangeW {cs : Array Value} (h : BoxV w b T cs) (o : Nat) (l : List Value) (hl : ∀ j v, l[j]? = some v → cs[o + j]? = some v) : w.rangeAt b o l := fun j v hv => by
  rw [h.cell]
  exact hl j v hv
end
/-- A struct in a block of its own, and three words. -/
theorem ret_box3 {P : Program} {fn : Func} {s a b' c : Tmp} {t : TypeId} {tmps : Array Value} {w : World} {b : Nat} {T : TypeId} {cs : Array Value} {d : TypeDesc} {va vb vc : Value} (h : fn.results = #[.cell s t, .tmp a, .tmp b', .tmp c]) (hx : tmps.getD s undef = .pointer (some ⟨b, 0, none⟩)) (hB : BoxV w b T cs)
    (hu : P.underlying t = some d) (hd : d.isRow = true) (hi : (P.info? t).map (·.size) = some cs.size) (ha : tmps.getD a undef = va) (hb : tmps.getD b' undef = vb) (hc : tmps.getD c undef = vc) : (results fn tmps).run P w = .ok (.tuple #[.agg cs, va, vb, vc]) w := by
  have L := run_loadVar_mid (P := P) w b 0 t cs.toList d hB.range hu hd (by simpa using hi)
  rw [Array.toArray_toList] at L
  have hx' : tmps[s]?.getD undef = .pointer (some ⟨b, 0, none⟩) := by simpa using hx
  have ha' : tmps[a]?.getD undef = va := by simpa using ha
  have hb' : tmps[b']?.getD undef = vb := by simpa using hb
  have hc' : tmps[c]?.getD undef = vc := by simpa using hc
  simp [results, h, hx', ha', hb', hc', asAddr, L]
/-- Two structs in blocks of their own, and a word. -/
theorem ret_box2 {P : Program} {fn : Func} {s s' a : Tmp} {t t' : TypeId} {tmps : Array Value} {w : World} {b b' : Nat} {T T' : TypeId} {cs cs' : Array Value} {d d' : TypeDesc} {va : Value} (h : fn.results = #[.cell s t, .cell s' t', .tmp a]) (hx : tmps.getD s undef = .pointer (some ⟨b, 0, none⟩)) (hB : BoxV w b T cs)
    (hu : P.underlying t = some d) (hd : d.isRow = true) (hi : (P.info? t).map (·.size) = some cs.size) (hy : tmps.getD s' undef = .pointer (some ⟨b', 0, none⟩)) (hB' : BoxV w b' T' cs')
    (hu' : P.underlying t' = some d') (hd' : d'.isRow = true) (hi' : (P.info? t').map (·.size) = some cs'.size) (ha : tmps.getD a undef = va) : (results fn tmps).run P w = .ok (.tuple #[.agg cs, .agg cs', va]) w := by
  have L := run_loadVar_mid (P := P) w b 0 t cs.toList d hB.range hu hd (by simpa using hi)
  rw [Array.toArray_toList] at L
  have L' := run_loadVar_mid (P := P) w b' 0 t' cs'.toList d' hB'.range hu' hd' (by simpa using hi')
  rw [Array.toArray_toList] at L'
  have hx' : tmps[s]?.getD undef = .pointer (some ⟨b, 0, none⟩) := by simpa using hx
  have hy' : tmps[s']?.getD undef = .pointer (some ⟨b', 0, none⟩) := by simpa using hy
  have ha' : tmps[a]?.getD undef = va := by simpa using ha
  simp [results, h, hx', hy', ha', asAddr, L, L']
end Go.Proofs.Ytcfogoepoghedaa
