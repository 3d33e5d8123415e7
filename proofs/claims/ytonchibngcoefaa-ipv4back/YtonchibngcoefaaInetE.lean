/-
  inet (layer 10): gather.
-/
import Derived.Test.YtonchibngcoefaaInetD
namespace Go.Proofs.Ytonchibngcoefaa
open Go.ChangeShapes Go.WideShapes Go.ChangeAt Go.RowKit Go.Deep
set_option linter.unusedVariables false
set_option linter.unusedSimpArgs false

set_option maxHeartbeats 1000000 in
theorem gather1 {w : World} {p q : Nat} {l : List UInt8} {x y : Value} (h : At w p l) (hq : BoxV w q 44 #[x, y]) (hne : p ≠ q) (hl : l.length = 16) :
    Calls Try.prog 70 #[.pointer (some ⟨p, 0, none⟩), .pointer (some ⟨q, 0, none⟩)] w fun e w' =>
      e = .returned (.tuple #[]) ∧ BoxV w' q 44 #[.int .u64 (num (l.take 8) : Nat), .int .u64 (num (l.drop 8) : Nat)] ∧ Touch [p, q] w w' := by
  have U := Lib.hid (u64_any h (by omega))
  have HL := Lib.hid hl
  have e8 : (l.drop 8).take 8 = l.drop 8 := List.take_of_length_le (by rw [List.length_drop]; omega)
  have HE := Lib.hid e8
  have HQ := Lib.hid hq
  have HN := Lib.hid hne
  clear h hq e8 hl hne
  go_enter Try.func70, Try.ntmps70
  go_wp2_with fail
  refine (U.out).mono ?_
  intro e w1 hu
  obtain ⟨rfl, a1, t1⟩ := hu.1 (by have := HL.out; omega)
  have q1 := HQ.out.carry t1 (by have := HN.out; simp; omega)
  have c0 := q1.cell 0
  have f0 := q1.fr
  have lt1 := q1.lt
  have q2 : BoxV (w1.setCell ⟨q, 0, none⟩ (.int .u64 (num (l.take 8) : Nat))) q 44 #[.int .u64 (num (l.take 8) : Nat), y] := q1.set 0 _
  have a2 : At (w1.setCell ⟨q, 0, none⟩ (.int .u64 (num (l.take 8) : Nat))) p (l.drop 8) := a1.carry ((Touch.refl [q] _).setCell (a := ⟨q, 0, none⟩) (by simp) _) (by have := HN.out; simp; omega)
  have V := Lib.hid (u64_any a2 (by rw [List.length_drop]; have := HL.out; omega))
  have Q2 := Lib.hid q2
  have T2 := Lib.hid ((t1.mono (S' := [p, q]) (by simp)).setCell (a := ⟨q, 0, none⟩) (by simp) (.int .u64 (num (l.take 8) : Nat)))
  clear hu a1 t1 q1 q2 a2
  go_wp2_with fail
  refine (V.out).mono ?_
  intro e w2 hv
  obtain ⟨rfl, a3, t3⟩ := hv.1 (by rw [List.length_drop]; have := HL.out; omega)
  rw [HE.out]
  have q3 := Q2.out.carry t3 (by have := HN.out; simp; omega)
  clear c0 f0 lt1
  have c1 := q3.cell 1
  have f1 := q3.fr
  have lt2 := q3.lt
  have Q3 : BoxV (w2.setCell ⟨q, 1, none⟩ (.int .u64 (num (l.drop 8) : Nat))) q 44 #[.int .u64 (num (l.take 8) : Nat), .int .u64 (num (l.drop 8) : Nat)] := q3.set 1 _
  have Q3 := Lib.hid Q3
  have T3 := Lib.hid ((T2.out.trans t3 (by simp)).setCell (a := ⟨q, 1, none⟩) (by simp) (.int .u64 (num (l.drop 8) : Nat)))
  clear hv a3 t3 q3
  go_wp2_with fail
  first | go_end0 | refine bodyPost_ret (results_none rfl _ _ _) rfl ?_
  exact ⟨rfl, Q3.out, T3.out⟩

theorem ent70 (args : Array Value) (w : World) : (callFunc 70 args).run Try.prog w = .ok (.enter 70 args) w := by
  simp [callFunc, Try.func70]
  rfl
def gatW (w : World) (C : Array Value) : World := (w.alloc (.cells C 88)).alloc (.cells #[.int .u64 0, .int .u64 0] 44)
set_option maxRecDepth 100000 in
set_option maxHeartbeats 1000000 in
theorem gather10 (L : List UInt8) (hL : L.length = 16) (w : World) :
    Calls Try.prog 50 #[.agg (byt L).toArray] w fun e w' => e = .returned (av (num (L.take 8)) (num (L.drop 8))) ∧ Touch [] w w' := by
  have hmf : ∀ (fn : Fn) (first cap : Array Value) (w : World), (Instr.makeFunc fn first cap).run Try.prog w = .ok (.func fn first cap) w := fun _ _ _ _ => rfl
  have hsz : (gatW w (byt L).toArray).heap.size = w.heap.size + 2 := by unfold gatW; simp
  have B0 : BoxV (gatW w (byt L).toArray) w.heap.size imgT (byt L).toArray := BoxV.of2
  have B1 : BoxV (gatW w (byt L).toArray) (w.heap.size + 1) 44 #[.int .u64 0, .int .u64 0] := BoxV.at1
  have hcv := str_of (img_bts B0 0 16 16 (by omega) (by omega) (by omega))
  rw [List.drop_zero, List.take_of_length_le (by omega)] at hcv
  have TW : Touch [] w (gatW w (byt L).toArray) := ((Touch.refl [] w).alloc _).alloc _
  have tt : Touch [] (gatW w (byt L).toArray) (tryW (gatW w (byt L).toArray) (S L)) := (((Touch.refl [] _).alloc _).alloc _).alloc _
  have hat : At (tryW (gatW w (byt L).toArray) (S L)) (w.heap.size + 3) L := by
    have := (Box1.new ((gatW w (byt L).toArray).alloc (.cells #[.int .i64 0] 26)) 67 (.string (S L))).carry ((Touch.refl [] _).alloc (.cells #[.pointer (some ⟨(gatW w (byt L).toArray).heap.size + 1, 0, none⟩)] 28)) (by simp)
    rwa [show ((gatW w (byt L).toArray).alloc (.cells #[.int .i64 0] 26)).heap.size = w.heap.size + 3 by simp [hsz]] at this
  have key := try_any (s := S L) (k := 70) (cap := #[.pointer (some ⟨w.heap.size + 1, 0, none⟩)]) (w := gatW w (byt L).toArray) (S := [w.heap.size + 3, w.heap.size + 1])
    (Q := fun er w' => BoxV w' (w.heap.size + 1) 44 #[.int .u64 (num (L.take 8) : Nat), .int .u64 (num (L.drop 8) : Nat)])
    (by rw [hsz]; intro b hb; simp at hb; omega) ent70 (by
      rw [hsz]
      refine (gather1 hat (B1.carry tt (by simp)) (by omega) hL).mono ?_
      rintro e w' ⟨rfl, q1, q2⟩
      exact ⟨q2, Or.inl ⟨rfl, q1⟩⟩)
  rw [hsz] at key
  have K := Lib.hid key
  have T0 := Lib.hid TW
  have HCs := Lib.hid (show (byt L).toArray.size = 16 by simp [byt_length, hL])
  clear key TW tt hat B0 B1 hsz
  unfold gatW at *
  generalize (byt L).toArray = C at *
  go_enter Try.func50, Try.ntmps50
  go_wp2_with fail
  refine (K.out).mono ?_
  rintro e w2 ⟨er, w3, rfl, q3, t3, t4⟩
  have q4 := q3.carry t4 (by simp)
  have c0 := q4.cell 0
  have c1 := q4.cell 1
  have fz := q4.fr
  have lt2 := q4.lt
  have Q4 := Lib.hid q4
  have TT := Lib.hid ((T0.out.trans t3 (by intro b hb; simp at hb; omega)).trans t4 (by intro b hb; simp at hb; omega))
  clear q3 q4 t3 t4 K
  go_wp2_with fail
  unfold av
  have Z : BoxV _ _ 44 #[.int .u64 (num (L.take 8) : Nat), .int .u64 (num (L.drop 8) : Nat)] := (Q4.out.set 0 (.int .u64 (num (L.take 8) : Nat))).set 1 (.int .u64 (num (L.drop 8) : Nat))
  refine bodyPost_ret (ret_box rfl rfl Z Try.underlying44 rfl (by kernel_rfl)) rfl ⟨rfl, ?_⟩
  exact (TT.out.setCell (by simp) _).setCell (by simp) _
end Go.Proofs.Ytonchibngcoefaa
