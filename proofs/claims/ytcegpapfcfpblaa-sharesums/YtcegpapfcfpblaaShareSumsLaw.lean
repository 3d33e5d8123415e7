/-
  ShareSums: for every list of floats, by their bits, the law on share.Total and Top returns true. No conditions.
-/
import Derived.Test.YtcegpapfcfpblaaShareTop
namespace Go.Proofs.Ytcegpapfcfpblaa
open Go.ChangeShapes Go.WideShapes Go.ChangeAt Go.RowKit Go.Joins
set_option linter.unusedVariables false

theorem FCells.drew {w : World} {B : Nat} {A : Option Addr} {n : Nat} {X : Nat → Nat} (h : FCells w B A n X) (m : Nat) : FCells (w.drewN m) B A n X := h

theorem same_tot {X : Nat → Nat} {n r s : Nat} (h1 : TotIs X n r) (h2 : TotIs X n s) : sameOf r s = true := by
  unfold sameOf
  rcases tot_same X n r s h1 h2 with h | ⟨h, g⟩
  · rw [decide_eq_true h, Bool.or_true]
  · rw [isNb_yes h, isNb_yes g]; rfl

set_option maxHeartbeats 2000000 in
theorem shareSums_walk (A : Option Addr) (n c : Nat) (X : Nat → Nat) (w : World) (hm : n ≤ 9223372036854775807) (hE : WCells w w.heap.size A n X) (hX : ∀ i, X i < 18446744073709551616) :
    Calls Try.prog 7 #[.slice A n c] w fun e w' => e = .returned (.bool true) ∧ Below w.heap.size w w' := by
  have HX := Lib.hid hX
  have HE := Lib.hid hE
  clear hX hE
  by_cases hn : 50 < n
  · go_enter Try.func7, Try.ntmps7
    go_wp2_with fail
    refine (shareLives_any _).mono ?_
    rintro e w1 ⟨rfl, hb1⟩
    go_wp2_with fail
    go_ret
    exact ⟨rfl, hb1⟩
  · go_enter Try.func7, Try.ntmps7
    go_wp2_with fail
    refine (floats_any A n c X w (by omega) HE.out).mono ?_
    rintro e w1 ⟨v, rfl, hown, hb1⟩
    obtain ⟨A', c', rfl, hF⟩ := own_cells hown
    obtain ⟨t, b, htv⟩ : ∃ (t : Int) (b : Bool), topV X n = .tuple #[.int .i64 t, .bool b] := ⟨_, _, rfl⟩
    have C1 := top_any A' n c' X w1 (by omega) _ hF HX.out
    have C2 := refTop_any A' n c' X w1 (by omega) _ hF HX.out
    rw [htv] at C1 C2
    have H1 := Lib.hid C1
    have H2 := Lib.hid C2
    have HF := Lib.hid hF
    clear hF hown C1 C2 htv
    go_wp2_with fail
    refine H1.out.mono ?_
    rintro e w1 ⟨rfl, rfl⟩
    go_wp2_with fail
    refine H2.out.mono ?_
    rintro e w2 ⟨rfl, m, rfl⟩
    have C3 := total_any A' n c' X (w1.drewN m) (by omega) _ (HF.out.drew m)
    have C4 := fun j => refTotal_any A' n c' X ((w1.drewN m).drewN j) (by omega) _ ((HF.out.drew m).drew j)
    have hb2 : Below w.heap.size w (w1.drewN m) := hb1.trans (below_draws _ _ _)
    have H3 := Lib.hid C3
    have H4 := Lib.hid C4
    clear C3 C4 HF
    generalize w1.drewN m = w2 at *
    go_wp2_with fail
    refine H3.out.mono ?_
    rintro e w3 ⟨r, d1, ht1, rfl, rfl⟩
    have HT1 := Lib.hid ht1
    clear ht1
    go_wp2_with fail
    refine (H4.out d1).mono ?_
    rintro e w4 ⟨s, d2, ht2, rfl, rfl⟩
    have hr := tot_lt X n r HT1.out
    have hs := tot_lt X n s ht2
    have C5 := fun w => refSame_any r s hr hs w
    rw [same_tot HT1.out ht2] at C5
    have H5 := Lib.hid C5
    have hb4 : Below w.heap.size w ((w2.drewN d1).drewN d2) := (hb2.trans (below_draws _ _ _)).trans (below_draws _ _ _)
    clear C5 ht2 hr hs
    generalize (w2.drewN d1).drewN d2 = w4 at *
    go_wp2_with fail
    refine (H5.out _).mono ?_
    rintro e w4 ⟨rfl, rfl⟩
    go_wp2_with fail
    refine (shareLives_any _).mono ?_
    rintro e w5 ⟨rfl, hb5⟩
    go_wp2_with fail
    go_ret
    exact ⟨rfl, hb4.trans (hb5.mono hb4.size)⟩

set_option maxRecDepth 100000 in
theorem shareSums_calls : LawCalls Try.prog 7 Try.f7 := by
  intro H enc W base args ds p hval hA hlt
  rw [Try.params7] at hA hval
  obtain ⟨v0, vs0, d0, ds0, p0, q0, hargs, rfl, rfl, h0, r0⟩ := trodAll_cons hA
  obtain ⟨rfl, rfl, rfl⟩ := trodAll_nil r0
  obtain rfl : args = #[v0] := by cases args; simp_all
  have k1 : Try.prog.cellsOf 30 = 1 := by kernel_rfl
  obtain ⟨A, len, cap, rfl, hl, hm, hi⟩ := slice_elems Try.underlying43 (by rw [k1]; exact Nat.zero_lt_one) (hval 0 43 v0 rfl rfl) h0
  haveI : Inhabited Nat := ⟨0⟩
  obtain ⟨X, hX⟩ := Deep.choose_lt (α := Nat) (n := len) (p := fun i x => (∃ b off, A = some ⟨b, off, none⟩ ∧ b < W.heap.size ∧ W.cell? ⟨b, off + i, none⟩ = some (.int .u64 x)) ∧ x < 18446744073709551616) (fun i hi' => by
    obtain ⟨b, off, n, cs, x, hA, hb, hlen, hat, hx⟩ := hi i hi'
    rw [k1] at hlen hat
    obtain ⟨u, rfl⟩ : ∃ u, cs = [u] := by
      match cs, hlen with
      | [u], _ => exact ⟨u, rfl⟩
    obtain ⟨y, rfl, wy⟩ := cell_int Try.underlying30 hx
    have by' := u64_in wy
    obtain ⟨z, rfl⟩ := Int.eq_ofNat_of_zero_le by'.1
    have hc := hat 0 (by omega)
    rw [Nat.mul_one, Nat.add_zero] at hc
    exact ⟨z, ⟨b, off, hA, hb, hc⟩, by omega⟩)
  refine shareSums_walk A len cap (fun i => if i < len then X i else 0) W (Nat.le_trans hl hm) (fun i hi' => ?_) (fun i => ?_)
  · have e : (fun i => if i < len then X i else 0) i = X i := if_pos hi'
    rw [e]
    exact (hX i hi').1
  · split
    · rename_i h
      exact (hX i h).2
    · omega

set_option maxRecDepth 100000 in
theorem shareSums_lifted (os : Os) (started : os.Started) (H : Type) (enc : TypeId × Value → H) :
    ReturnsInHanded {} Try.checked os 7 .any (Rows.shareSumsSpec.pre6 enc Try.prog Try.f7 Rows.shareSumsRow.domain false) (Rows.shareSumsSpec.post enc Try.prog Try.f7 false true false false) := by
  refine returnsInHanded_of_change (C := Try.checked) own started (by kernel_rfl) Try.func7
    (ChangeSpec.witness6 (enc := enc) (C := Try.checked) false ⟨#[], #[.slice none 0 0], []⟩ 8 (by kernel_rfl) (by kernel_rfl) (by kernel_rfl) (by kernel_rfl)) ?_
  intro W base args ds gs before hval hW _ _
  exact law_contract laidOut (by kernel_rfl) rfl rfl boolType (fun ds h => by match ds, h with | [_], _ => rfl) shareSums_calls W base args ds gs before hval hW

theorem shareSums_holds : Rows.ShareSumsSaid :=
  OpenClaim.holds_of_wide 7 Try.f7 rfl rfl rfl rfl rfl rfl rfl ⟨rfl, rfl, rfl, rfl, rfl⟩ rfl rfl rfl rfl rfl (by kernel_rfl) Try.func7 (by kernel_rfl)
    (of_decide_eq_true (by kernel_rfl)) (by unfold Func.isWrapper; first | (rw [if_pos (by decide +kernel)]; kernel_rfl) | (rw [if_neg (by decide +kernel)]; exact ⟨rfl, rfl⟩))
    (fun os started H enc _ => shareSums_lifted os started H enc)
#print axioms shareSums_holds
end Go.Proofs.Ytcegpapfcfpblaa
