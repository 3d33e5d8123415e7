/-
  inet (layer 10): Of.
-/
import Derived.Test.YtonchibngcoefaaInetE
namespace Go.Proofs.Ytonchibngcoefaa
open Go.ChangeShapes Go.WideShapes Go.ChangeAt Go.RowKit Go.Deep
set_option linter.unusedVariables false
set_option linter.unusedSimpArgs false

def hiA (l : List UInt8) : Nat := if l.length = 16 then num (l.take 8) else 0
def loA (l : List UInt8) : Nat := if l.length = 4 then num l else if l.length = 16 then num (l.drop 8) else 0
def verA (l : List UInt8) : Int := if l.length = 4 then 4 else if l.length = 16 then 6 else 0
def okA (l : List UInt8) : Bool := decide (l.length = 4 ∨ l.length = 16)
theorem num_zeros (n : Nat) (l : List UInt8) : num (List.replicate n 0 ++ l) = num l := by
  unfold num
  rw [List.foldl_append]
  congr 1
  induction n with
  | zero => rfl
  | succ n ih => rw [List.replicate_succ, List.foldl_cons]; simpa using ih

set_option maxRecDepth 100000 in
set_option maxHeartbeats 2000000 in
theorem of10 (l : List UInt8) (hl : l.length ≤ 1000000000) (w : World) :
    Calls Try.prog 16 #[.string (S l)] w fun e w' => e = .returned (.tuple #[av (hiA l) (loA l), .int .i64 (verA l), .bool (okA l)]) ∧ Touch [] w w' := by
  have hss : (S l).size = l.length := S_size l
  have h0 : (byt (List.replicate 16 (0 : UInt8))).toArray = #[.int .u8 0, .int .u8 0, .int .u8 0, .int .u8 0, .int .u8 0, .int .u8 0, .int .u8 0, .int .u8 0, .int .u8 0, .int .u8 0, .int .u8 0, .int .u8 0, .int .u8 0, .int .u8 0, .int .u8 0, .int .u8 0] := rfl
  have BI := Lib.hid (show BoxV ((w.alloc (.cells #[.int .u64 0, .int .u64 0] 44)).alloc (.cells #[.int .u8 0, .int .u8 0, .int .u8 0, .int .u8 0, .int .u8 0, .int .u8 0, .int .u8 0, .int .u8 0, .int .u8 0, .int .u8 0, .int .u8 0, .int .u8 0, .int .u8 0, .int .u8 0, .int .u8 0, .int .u8 0] 88)) (w.heap.size + 1) imgT (byt (List.replicate 16 (0 : UInt8))).toArray from BoxV.at1)
  have BR := Lib.hid (show BoxV ((w.alloc (.cells #[.int .u64 0, .int .u64 0] 44)).alloc (.cells #[.int .u8 0, .int .u8 0, .int .u8 0, .int .u8 0, .int .u8 0, .int .u8 0, .int .u8 0, .int .u8 0, .int .u8 0, .int .u8 0, .int .u8 0, .int .u8 0, .int .u8 0, .int .u8 0, .int .u8 0, .int .u8 0] 88)) w.heap.size 44 #[.int .u64 0, .int .u64 0] from BoxV.of2)
  have T0 := Lib.hid (((Touch.refl [] w).alloc (.cells #[.int .u64 0, .int .u64 0] 44)).alloc (.cells #[.int .u8 0, .int .u8 0, .int .u8 0, .int .u8 0, .int .u8 0, .int .u8 0, .int .u8 0, .int .u8 0, .int .u8 0, .int .u8 0, .int .u8 0, .int .u8 0, .int .u8 0, .int .u8 0, .int .u8 0, .int .u8 0] 88))
  clear h0
  by_cases h4 : l.length = 4
  · obtain ⟨M, hM⟩ : ∃ M, splice (List.replicate 16 (0 : UInt8)) 12 l = M := ⟨_, rfl⟩
    have HSp := Lib.hid hM
    have hMe : M = List.replicate 12 0 ++ l := by
      rw [← hM]
      simp [splice, h4]
    have hML : M.length = 16 := by rw [hMe]; simp [h4]
    have G := Lib.hid (fun w => gather10 M hML w)
    have HZ := Lib.hid (show (Try.prog.info? 88).map (·.size) = some (byt M).toArray.toList.length by have := img_size (byt M).toArray (by simp [byt_length, hML]); rwa [← Array.length_toList] at this)
    have e1 : hiA l = num (M.take 8) := by
      unfold hiA
      rw [if_neg (by omega), hMe]
      have : (List.replicate 12 (0 : UInt8) ++ l).take 8 = List.replicate 8 0 ++ [] := by simp [List.take_append]
      rw [this, num_zeros]
      rfl
    have e2 : loA l = num (M.drop 8) := by
      unfold loA
      rw [if_pos h4, hMe]
      have : (List.replicate 12 (0 : UInt8) ++ l).drop 8 = List.replicate 4 0 ++ l := by simp [List.drop_append]
      rw [this, num_zeros]
    have e3 : verA l = 4 := by unfold verA; rw [if_pos h4]
    have e4 : okA l = true := by unfold okA; simp [h4]
    rw [e1, e2, e3, e4]
    rw [h4] at hss
    have hl12 : l.length ≤ 4 := by omega
    clear e1 e2 e3 e4 hM hMe hML
    unfold av
    go_enter Try.func16, Try.ntmps16
    go_wp2_with fail
    refine (own4 (BI.out)).mono ?_
    rintro e w2 ⟨rfl, t2⟩
    obtain ⟨w3, hcp, R3, T3⟩ := copy_img_str (BI.out.carry t2 (by simp)) l 12 4 4 (by omega) (by simp; omega)
    rw [HSp.out] at R3
    have X3 := (BR.out.carry t2 (by simp)).carry T3 (by simp)
    have TW := Lib.hid (((T0.out).trans t2 (by simp)).trans T3 (by simp))
    have HR := Lib.hid R3.range
    have HX := Lib.hid X3
    clear t2 R3 T3 X3
    go_wp2_with (refine wpList_load_mid rfl 88 (.tmp 6) rfl (w.heap.size + 1) 0 rfl (byt M).toArray.toList _ HR.out Try.underlying88 rfl HZ.out ?_)
    refine (G.out _).mono ?_
    rintro e w4 ⟨rfl, t4⟩
    have x4 := HX.out.carry t4 (by simp)
    have c0 := x4.cell 0
    have c1 := x4.cell 1
    have fz := x4.fr
    have lt4 := x4.lt
    have X4 := Lib.hid x4
    have TT := Lib.hid (TW.out.trans t4 (by simp))
    clear x4 t4 hcp
    unfold av
    go_wp2_with fail
    have D := (X4.out.set 0 (.int .u64 (num (M.take 8) : Nat))).set 1 (.int .u64 (num (M.drop 8) : Nat))
    have d0 := D.cell 0
    have d1 := D.cell 1
    refine bodyPost_ret (v := .tuple #[.agg #[.int .u64 (num (M.take 8) : Nat), .int .u64 (num (M.drop 8) : Nat)], .int .i64 4, .bool true]) (by simp [results, Try.results16, go_sem, d0, d1]) rfl ⟨rfl, ?_⟩
    exact (TT.out.setCell (by simp) _).setCell (by simp) _
  · by_cases h16 : l.length = 16
    · obtain ⟨M, hM⟩ : ∃ M, splice (List.replicate 16 (0 : UInt8)) 0 l = M := ⟨_, rfl⟩
      have HSp := Lib.hid hM
      have hMe : M = l := by
        rw [← hM]
        simp [splice, h16]
      have hML : M.length = 16 := by rw [hMe]; exact h16
      have G := Lib.hid (fun w => gather10 M hML w)
      have HZ := Lib.hid (show (Try.prog.info? 88).map (·.size) = some (byt M).toArray.toList.length by have := img_size (byt M).toArray (by simp [byt_length, hML]); rwa [← Array.length_toList] at this)
      have e1 : hiA l = num (M.take 8) := by unfold hiA; rw [if_pos h16, hMe]
      have e2 : loA l = num (M.drop 8) := by unfold loA; rw [if_neg h4, if_pos h16, hMe]
      have e3 : verA l = 6 := by unfold verA; rw [if_neg h4, if_pos h16]
      have e4 : okA l = true := by unfold okA; simp [h16]
      rw [e1, e2, e3, e4]
      rw [h16] at hss
      clear e1 e2 e3 e4 hM hMe hML h4
      unfold av
      go_enter Try.func16, Try.ntmps16
      go_wp2_with fail
      refine (own6 (BI.out)).mono ?_
      rintro e w2 ⟨rfl, t2⟩
      obtain ⟨w3, hcp, R3, T3⟩ := copy_img_str (BI.out.carry t2 (by simp)) l 0 16 16 (by omega) (by simp; omega)
      rw [HSp.out] at R3
      have X3 := (BR.out.carry t2 (by simp)).carry T3 (by simp)
      have TW := Lib.hid (((T0.out).trans t2 (by simp)).trans T3 (by simp))
      have HR := Lib.hid R3.range
      have HX := Lib.hid X3
      clear t2 R3 T3 X3
      go_wp2_with (refine wpList_load_mid rfl 88 (.tmp 6) rfl (w.heap.size + 1) 0 rfl (byt M).toArray.toList _ HR.out Try.underlying88 rfl HZ.out ?_)
      refine (G.out _).mono ?_
      rintro e w4 ⟨rfl, t4⟩
      have x4 := HX.out.carry t4 (by simp)
      have c0 := x4.cell 0
      have c1 := x4.cell 1
      have fz := x4.fr
      have lt4 := x4.lt
      have X4 := Lib.hid x4
      have TT := Lib.hid (TW.out.trans t4 (by simp))
      clear x4 t4 hcp
      unfold av
      go_wp2_with fail
      have D := (X4.out.set 0 (.int .u64 (num (M.take 8) : Nat))).set 1 (.int .u64 (num (M.drop 8) : Nat))
      have d0 := D.cell 0
      have d1 := D.cell 1
      refine bodyPost_ret (v := .tuple #[.agg #[.int .u64 (num (M.take 8) : Nat), .int .u64 (num (M.drop 8) : Nat)], .int .i64 6, .bool true]) (by simp [results, Try.results16, go_sem, d0, d1]) rfl ⟨rfl, ?_⟩
      exact (TT.out.setCell (by simp) _).setCell (by simp) _
    · have e1 : hiA l = 0 := by unfold hiA; rw [if_neg h16]
      have e2 : loA l = 0 := by unfold loA; rw [if_neg h4, if_neg h16]
      have e3 : verA l = 0 := by unfold verA; rw [if_neg h4, if_neg h16]
      have e4 : okA l = false := by unfold okA; simp [h4, h16]
      rw [e1, e2, e3, e4]
      have b4 : ((l.length : Int) == 4) = false := by simp; omega
      have b16 : ((l.length : Int) == 16) = false := by simp; omega
      clear e1 e2 e3 e4 BI BR T0 h4 h16
      unfold av
      go_enter Try.func16, Try.ntmps16
      go_wp2_with fail
      refine bodyPost_ret (v := .tuple #[.agg #[.int .u64 0, .int .u64 0], .int .i64 0, .bool false]) (by simp [results, Try.results16, go_sem]) rfl ⟨rfl, ?_⟩
      exact (Touch.refl _ _).alloc _
end Go.Proofs.Ytonchibngcoefaa
