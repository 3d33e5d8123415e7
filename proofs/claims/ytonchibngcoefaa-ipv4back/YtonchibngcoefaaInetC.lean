/-
  inet (layer 10): spread.
-/
import Derived.Test.YtonchibngcoefaaInetB
import Derived.Test.YtonchibngcoefaaRefNum
import Derived.Deep.Cut
namespace Go.Proofs.Ytonchibngcoefaa
open Go.ChangeShapes Go.WideShapes Go.ChangeAt Go.RowKit Go.Deep
set_option linter.unusedVariables false
set_option linter.unusedSimpArgs false

section
variable {w : World} {b : Nat} {T : TypeId}
def place (cs : Array Value) : Nat → List Value → Array Value
  | _, [] => cs
  | o, v :: r => place (cs.setIfInBounds o v) (o + 1) r
theorem BoxV.cellsPut : ∀ (vs : List Value) (o : Nat) (w : World) (cs : Array Value), BoxV w b T cs → BoxV (w.setCells b o vs) b T (place cs o vs)
  | [], _, _, _, h => h
  | v :: r, o, w, cs, h => BoxV.cellsPut r (o + 1) (w.setCell ⟨b, o, none⟩ v) _ (h.set o v)
theorem touch_setCells : ∀ (vs : List Value) (o : Nat) (w : World), Touch [b] w (w.setCells b o vs)
  | [], _, w => Touch.refl _ _
  | v :: r, o, w => ((Touch.refl [b] w).setCell (a := ⟨b, o, none⟩) (.inl (List.mem_singleton.2 rfl)) v).trans (touch_setCells r (o + 1) _) (fun q hq => .inl hq)
theorem place_get (i : Nat) : ∀ (vs : List Value) (o : Nat) (cs : Array Value), o + vs.length ≤ cs.size → (place cs o vs)[i]? = if o ≤ i ∧ i < o + vs.length then vs[i - o]? else cs[i]?
  | [], o, cs, _ => by
    rw [if_neg (by simp only [List.length_nil]; omega)]
    rfl
  | v :: r, o, cs, h => by
    simp only [List.length_cons] at h ⊢
    show (place (cs.setIfInBounds o v) (o + 1) r)[i]? = _
    rw [place_get i r (o + 1) _ (by simp; omega)]
    by_cases h1 : o = i
    · subst h1
      rw [if_neg (by omega), if_pos (by omega), Nat.sub_self, List.getElem?_cons_zero, Array.getElem?_setIfInBounds_self_of_lt (by omega)]
    · by_cases h2 : o + 1 ≤ i ∧ i < o + 1 + r.length
      · rw [if_pos h2, if_pos (by omega), show i - o = (i - (o + 1)) + 1 by omega, List.getElem?_cons_succ]
      · rw [if_neg h2, if_neg (by omega), Array.getElem?_setIfInBounds_ne h1]
theorem place_all (cs cs' : Array Value) (h : cs'.size = cs.size) : place cs 0 cs'.toList = cs' := by
  apply Array.ext_getElem?
  intro i
  rw [place_get i cs'.toList 0 cs (by simp; omega)]
  by_cases hi : i < cs'.size
  · rw [if_pos (by simp; omega)]
    simp
  · rw [if_neg (by simp; omega), Array.getElem?_eq_none (by omega), Array.getElem?_eq_none (by omega)]
theorem BoxV.whole {cs : Array Value} (h : BoxV w b T cs) (cs' : Array Value) (hs : cs'.size = cs.size) : BoxV (w.setCells b 0 cs'.toList) b T cs' := by
  have := BoxV.cellsPut cs'.toList 0 w cs h
  rwa [place_all cs cs' hs] at this
theorem BoxV.there {cs : Array Value} (h : BoxV w b T cs) : w.there b 0 cs.size := by
  intro j hj
  rw [Nat.zero_add]
  exact ⟨by rw [h.cell]; simp [hj], h.fr j⟩
end

set_option maxRecDepth 100000 in
set_option maxHeartbeats 1000000 in
theorem spread10 (hi lo : Nat) (hhi : hi < 18446744073709551616) (hlo : lo < 18446744073709551616) (w : World) :
    Calls Try.prog 52 #[av hi lo] w fun e w' => e = .returned (.agg (byt (be hi 8 ++ be lo 8)).toArray) ∧ Touch [] w w' := by
  have P1 := Lib.hid (fun w => putU64_any (Bts.nil w) hi hhi (by simp))
  have HC := Lib.hid (show (byt (be hi 8 ++ be lo 8)).toArray.all (·.oneCell') = true from all_oneCell_toArray (byt_one _))
  unfold av
  go_enter Try.func52, Try.ntmps52
  go_upto_region 1 with fail
  have X0 := BoxV.of2 (w := w) (cs := #[.int .u64 (hi : Int), .int .u64 (lo : Int)]) (T := 44) (o := .cells (byt (List.replicate 16 (0 : UInt8))).toArray imgT)
  have X1 := BoxV.at1 (w := w) (o := .cells #[.int .u64 (hi : Int), .int .u64 (lo : Int)] 44) (cs := (byt (List.replicate 16 (0 : UInt8))).toArray) (T := imgT)
  have T := Lib.hid (((Touch.refl [] w).alloc (.cells #[.int .u64 (hi : Int), .int .u64 (lo : Int)] 44)).alloc (.cells (byt (List.replicate 16 (0 : UInt8))).toArray imgT))
  have h0 : (byt (List.replicate 16 (0 : UInt8))).toArray = #[.int .u8 0, .int .u8 0, .int .u8 0, .int .u8 0, .int .u8 0, .int .u8 0, .int .u8 0, .int .u8 0, .int .u8 0, .int .u8 0, .int .u8 0, .int .u8 0, .int .u8 0, .int .u8 0, .int .u8 0, .int .u8 0] := rfl
  rw [← h0]
  clear h0
  generalize (w.alloc (.cells #[.int .u64 (hi : Int), .int .u64 (lo : Int)] 44)).alloc (.cells (byt (List.replicate 16 (0 : UInt8))).toArray imgT) = w1 at *
  have c0 := X0.cell 0
  have c1 := X0.cell 1
  have lt0 := X0.lt
  have lt1 := X1.lt
  have H0 := Lib.hid (show BoxV w1.drew w.heap.size 44 #[.int .u64 (hi : Int), .int .u64 (lo : Int)] from X0)
  have H1 := Lib.hid (show BoxV w1.drew (w.heap.size + 1) imgT (byt (List.replicate 16 (0 : UInt8))).toArray from X1)
  have HL := Lib.hid hlo
  clear X0 X1
  go_region_with (go_at_call 71; first
    | (refine (putU64_any B1.out lo HL.out (by simp [be_length])).mono ?_; intro e w3 hf; obtain ⟨A3, n3, d3, rfl, b3, t3⟩ := fresh_bts hf; obtain ⟨w4, hcp, R4, T4⟩ := copy_img ((H1.out.carry T1.out (by simp)).carry t3 (by simp)) b3 0 16 16 (by simp); have HR4 := Lib.hid R4; have T5 := Lib.hid (((T.out.drew.trans T1.out (by simp)).trans t3 (by simp)).trans (S := []) T4 (by simp)); clear R4 T4 t3 b3 hf)
    | (refine (P1.out _).mono ?_; intro e w2 hf; obtain ⟨A2, n2, d2, rfl, b2, t2⟩ := fresh_bts hf; have z0 := (H0.out.carry t2 (by simp)).cell 1; have zl := (H0.out.carry t2 (by simp)).lt; have B1 := Lib.hid b2; have T1 := Lib.hid t2; clear t2 b2 hf))
  all_goals
    have e : splice (List.replicate 16 (0 : UInt8)) 0 (([] ++ be hi 8 ++ be lo 8).take 16) = be hi 8 ++ be lo 8 := by
      have hl : (be hi 8 ++ be lo 8).length = 16 := by simp [be_length]
      rw [List.nil_append, List.take_of_length_le (by omega)]
      simp [splice, be_length]
    have R5 := HR4.out
    rw [e] at R5
    have hz : (byt (be hi 8 ++ be lo 8)).toArray.size = 16 := by simp [byt_length, be_length]
    generalize hCe : (byt (be hi 8 ++ be lo 8)).toArray = C at *
    have HR := Lib.hid R5.range
    have HT := Lib.hid R5.there
    have HZ := Lib.hid (show (Try.prog.info? 88).map (·.size) = some C.toList.length by rw [Array.length_toList, hz]; kernel_rfl)
    have HZ' := Lib.hid (show (Try.prog.info? 88).map (·.size) = some C.size by rw [hz]; kernel_rfl)
    have B := Lib.hid (R5.whole C rfl)
    have TT := Lib.hid (T5.out.trans (touch_setCells (b := w.heap.size + 1) C.toList 0 w4) (by simp))
    have HCe := Lib.hid hCe
    clear e R5 HR4 hcp hz hCe
    go_wp2_with (first
      | (refine wpList_load_mid rfl 88 (.tmp 2) rfl (w.heap.size + 1) 0 rfl C.toList _ HR.out Try.underlying88 rfl HZ.out ?_)
      | (refine wpList_store_mid rfl 88 (.tmp 2) (.tmp 11) rfl (w.heap.size + 1) 0 C rfl rfl HT.out HZ'.out HC.out ?_))
    refine bodyPost_ret (ret_box rfl rfl B.out Try.underlying88 rfl HZ'.out) rfl ⟨by rw [HCe.out], TT.out⟩
end Go.Proofs.Ytonchibngcoefaa
