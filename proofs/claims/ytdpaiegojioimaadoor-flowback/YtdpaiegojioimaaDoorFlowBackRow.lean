/-
  FlowBack: for any three keys and every size the law on flow's Less, Make and Of returns true, where ipv6.known holds what its initialiser lays. No other conditions.
-/
import Derived.Test.YtdpaiegojioimaaDoorAllH
import Derived.Test.YtdpaiegojioimaaDoorAllA
namespace Go.Proofs.YtdpaiegojioimaaDoor
open Go.ChangeShapes Go.WideShapes Go.ChangeAt Go.RowKit Go.Deep Go.Joins
set_option linter.unusedVariables false
set_option linter.unusedSimpArgs false

set_option maxRecDepth 100000 in
theorem open_keys {H : Type} {enc : TypeId × Value → H} {w : World} {base : Nat} {sp : Nat → Bool} {v : Value} {d : DataW H} {p : List MemPlace} {r : Reach} {b0 : Nat} (hv : Value.okWide Tryd.prog w r b0 52 v) (h : DataW.Trod enc Tryd.prog w base sp true 52 v d p) :
    ∃ a b c : Ky, v = .agg (a.cells ++ b.cells ++ c.cells) ∧ a.Ok ∧ b.Ok ∧ c.Ok := by
  have hC : Tryd.prog.cellsOf 52 = 24 := by kernel_rfl
  have hE : Tryd.prog.cellsOf 41 = 8 := by kernel_rfl
  obtain ⟨cs, rfl, hsz⟩ := okWide_array Tryd.underlying52 hv
  obtain ⟨fuel, hf⟩ := h
  have hcs : (Value.agg cs).cells.toList = cs.toList := rfl
  rw [hcs] at hf
  obtain ⟨xs, m, _, _, hl, hn, hel⟩ := DataW.trod_array Tryd.underlying52 hf
  rw [hC] at hl
  rw [hE] at hel
  have get : ∀ i, i < 3 → ∃ q : Ky, (cs.toList.drop (i * 8)).take 8 = q.cells.toList ∧ q.Ok := fun i hi => by
    have h := hel i hi
    rw [List.getElem?_eq_getElem (by omega)] at h
    exact key_cells (by rw [List.length_take, List.length_drop]; omega) h
  obtain ⟨a, ha, oka⟩ := get 0 (by omega)
  obtain ⟨b, hb, okb⟩ := get 1 (by omega)
  obtain ⟨c, hc, okc⟩ := get 2 (by omega)
  refine ⟨a, b, c, ?_, oka, okb, okc⟩
  congr 1
  apply Array.toList_inj.1
  rw [Array.toList_append, Array.toList_append, ← ha, ← hb, ← hc]
  generalize cs.toList = l at *
  simp only [Nat.zero_mul, List.drop_zero, Nat.one_mul]
  have e2 : (l.drop (2 * 8)).take 8 = l.drop 16 := List.take_of_length_le (by rw [List.length_drop]; omega)
  rw [e2]
  have e1 : l.drop 8 = (l.drop 8).take 8 ++ l.drop 16 := by
    have := List.take_append_drop 8 (l.drop 8)
    rw [List.drop_drop] at this
    exact this.symm
  rw [List.append_assoc, ← e1, List.take_append_drop]
theorem three_cells (a b c : Ky) : a.cells ++ b.cells ++ c.cells = #[.int .i64 a.ver, .int .u64 (a.sh : Int), .int .u64 (a.sl : Int), .int .u64 (a.dh : Int), .int .u64 (a.dl : Int), .int .i64 a.proto, .int .i64 a.sp, .int .i64 a.dp, .int .i64 b.ver, .int .u64 (b.sh : Int), .int .u64 (b.sl : Int), .int .u64 (b.dh : Int), .int .u64 (b.dl : Int), .int .i64 b.proto, .int .i64 b.sp, .int .i64 b.dp, .int .i64 c.ver, .int .u64 (c.sh : Int), .int .u64 (c.sl : Int), .int .u64 (c.dh : Int), .int .u64 (c.dl : Int), .int .i64 c.proto, .int .i64 c.sp, .int .i64 c.dp] := by simp [Ky.cells]
set_option maxHeartbeats 1000000 in
set_option maxRecDepth 100000 in
theorem flowBack_calls : LawCallsK Tryd.prog 8 Tryd.f8 := by
  intro H enc W base args ds p hK hval hA hlt
  rw [Tryd.params8] at hA hval
  obtain ⟨v0, vs0, d0, ds0, p0, q0, hargs, rfl, rfl, h0, r0⟩ := trodAll_cons hA
  obtain ⟨v1, vs1, d1, ds1, p1, q1, rfl, rfl, rfl, h1, r1⟩ := trodAll_cons r0
  obtain ⟨rfl, rfl, rfl⟩ := trodAll_nil r1
  obtain rfl : args = #[v0, v1] := by cases args; simp_all
  obtain ⟨a, b, c, rfl, oka, okb, okc⟩ := open_keys (hval 0 52 v0 rfl rfl) h0
  obtain ⟨sz, rfl, rfl, rfl, ws⟩ := open_int Tryd.underlying3 (hval 1 3 v1 rfl rfl) h1
  rw [three_cells]
  exact flowBack_walk a b c oka sz (i64_in ws) hK

set_option maxRecDepth 100000 in
theorem flowBack_lifted (os : Os) (started : os.Started) (H : Type) (enc : TypeId × Value → H) :
    ReturnsInHanded {} Tryd.checked os 8 .any (fun w args => (Rows.flowBackSpec.pre enc Tryd.prog Tryd.f8 [] false w args ∧ laidMetH Tryd.prog laid1 w) ∧ sizedMet enc Tryd.prog Tryd.f8 (OpenSpec.ofChange Rows.flowBackSpec) false w args)
      (Rows.flowBackSpec.post enc Tryd.prog Tryd.f8 false true false false) := by
  refine returnsInHanded_of_change_and (C := Tryd.checked) (X := fun w _ => laidMetH Tryd.prog laid1 w) (fun _ _ _ hh h => h.of_heap hh) own started (by kernel_rfl) Tryd.func8
    (ChangeSpec.witness_shaped (enc := enc) (C := Tryd.checked) (os := os) (X := fun w _ => laidMetH Tryd.prog laid1 w) false (World.doorLaid Tryd.prog 14 os) #[.agg #[.int .i64 0, .int .u64 0, .int .u64 0, .int .u64 0, .int .u64 0, .int .i64 0, .int .i64 0, .int .i64 0, .int .i64 0, .int .u64 0, .int .u64 0, .int .u64 0, .int .u64 0, .int .i64 0, .int .i64 0, .int .i64 0, .int .i64 0, .int .u64 0, .int .u64 0, .int .u64 0, .int .u64 0, .int .i64 0, .int .i64 0, .int .i64 0], .int .i64 0] 8 rfl (World.shaped_of_RefB (by kernel_rfl) (by kernel_rfl)) (by kernel_rfl) (by kernel_rfl) (by kernel_rfl) (door_met os _)) ?_
  intro W base args ds gs before hval hW _ _ hL _
  exact law_contractK laidOut (by kernel_rfl) rfl rfl boolType (fun ds h => by match ds, h with | [_, _], _ => rfl) flowBack_calls W (known_of_laid hL) base args ds gs before hval hW

theorem flowBack_over : Rows.FlowBackSaid :=
  OpenClaim.holds_of_wide 8 Tryd.f8 rfl rfl rfl rfl rfl rfl rfl ⟨rfl, rfl, rfl, rfl, rfl⟩ rfl rfl rfl rfl rfl (by kernel_rfl) Tryd.func8 (by kernel_rfl)
    (of_decide_eq_true (by kernel_rfl)) (by unfold Func.isWrapper; first | (rw [if_pos (by decide +kernel)]; kernel_rfl) | (rw [if_neg (by decide +kernel)]; exact ⟨rfl, rfl⟩))
    (fun os started H enc _ => flowBack_lifted os started H enc)

theorem flowBack_holds : Rows.FlowBackCardSaid :=
  Claim7.holds_tied_plain_at .later [] [.data] true Rows.flowBackCard.stood.harness true
    flowBack_over (fun _ h => by cases h) (by kernel_rfl) (fun _ h => by cases h) flowBack_row_tie rfl ⟨rfl, rfl⟩ (by kernel_rfl) rfl
    (fun f fn hf hfn => by
      obtain rfl : f = 8 := Option.some.inj ((show Tryd.prog.funcNamed "flashlock/flashlocklaw14.FlowBack" = some 8 by kernel_rfl).symm.trans hf) |>.symm
      obtain rfl : fn = Tryd.f8 := (Option.some.inj (Tryd.func8.symm.trans hfn)).symm
      exact ⟨by kernel_rfl, fun j t ht => by
        rw [Tryd.params8] at ht
        have hm := Array.mem_of_getElem? ht
        have hall : (Tryd.f8.params.toList.all fun u => !Tryd.prog.wantsStandIn u) = true := by kernel_rfl
        have hm' : t ∈ Tryd.f8.params.toList := by rw [Tryd.params8]; simpa using hm
        exact (show Tryd.prog.wantsStandIn t = false by simpa using List.all_eq_true.1 hall t hm')⟩)
    (by kernel_rfl)
#print axioms flowBack_holds
end Go.Proofs.YtdpaiegojioimaaDoor
