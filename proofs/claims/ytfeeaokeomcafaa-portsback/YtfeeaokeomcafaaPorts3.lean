/-
  ports (layer 13): Of, for all bytes.
-/
import Derived.Test.YtfeeaokeomcafaaPorts2
import Derived.Deep.RegionWith
namespace Go.Proofs.Ytfeeaokeomcafaa
open Go.ChangeShapes Go.WideShapes Go.ChangeAt Go.RowKit Go.Deep
set_option linter.unusedVariables false
set_option linter.unusedSimpArgs false

def tcpTold (l : List UInt8) : Nat := (l[12]?.getD 0).toNat / 16 * 4
def udpTold (l : List UInt8) : Nat := num ((l.drop 4).take 2)
def portsE (x : Int) (l : List UInt8) : Int :=
  if x = 6 then (if l.length < 20 then 5 else if 20 ≤ tcpTold l ∧ tcpTold l ≤ l.length then 0 else 23)
  else if x = 17 then (if l.length < 8 then 5 else if 8 ≤ udpTold l ∧ udpTold l ≤ l.length then 0 else 6) else 0
def portsA (x : Int) (l : List UInt8) : Nat := if 0 < leastV x ∧ portsE x l = 0 then num (l.take 2) else 0
def portsB (x : Int) (l : List UInt8) : Nat := if 0 < leastV x ∧ portsE x l = 0 then num ((l.drop 2).take 2) else 0

section
variable {w : World} {p b1 b2 b3 b4 : Nat} {l : List UInt8} {x : Int}
theorem of1_any (h : Seg w p b1 b2 b3 b4 l l x 0 0) (hl : l.length ≤ 1000000000) (hx : 0 < leastV x) :
    Calls Try.prog 91 #[.pointer (some ⟨p, 0, none⟩), .pointer (some ⟨b1, 0, none⟩), .pointer (some ⟨b2, 0, none⟩), .pointer (some ⟨b3, 0, none⟩), .pointer (some ⟨b4, 0, none⟩)] w fun e w' =>
      (portsE x l = 0 → e = .returned (.tuple #[]) ∧ Box1 w' b3 3 (.int .i64 (num (l.take 2) : Nat)) ∧ Box1 w' b4 3 (.int .i64 (num ((l.drop 2).take 2) : Nat)) ∧ Touch [p, b3, b4] w w') ∧
      (portsE x l ≠ 0 → Fails p w (portsE x l) e w') := by
  unfold portsE
  by_cases h6 : x = 6
  · subst h6
    have e20 : leastV 6 = 20 := rfl
    rw [if_pos rfl]
    by_cases hs : l.length < 20
    · rw [if_pos hs]
      exact (of1_short h hl (by rw [e20]; omega)).mono fun e w' hf => ⟨(fun h => absurd h (by decide)), fun _ => hf⟩
    · rw [if_neg hs]
      have ht : tcpTold l = (l[12]'(by omega)).toNat / 16 * 4 := by unfold tcpTold; rw [List.getElem?_eq_getElem (by omega)]; rfl
      have hb := (l[12]'(by omega)).toNat_lt
      refine (of1_go h hl (by rw [e20]; omega) (by omega) (tcpTold l) (by omega) 23 (by decide) (l.drop 13) (fun w1 a1 => ?_)).mono ?_
      · have := length_tcp a1 (by rw [List.length_drop]; omega) (by rw [List.length_drop]; omega)
        rw [ht]
        simpa using this
      · intro e w' ⟨q1, q2⟩
        rw [e20] at q1 q2
        by_cases c : 20 ≤ tcpTold l ∧ tcpTold l ≤ l.length
        · rw [if_pos c]
          exact ⟨fun _ => q1 (by omega), fun h => absurd rfl h⟩
        · rw [if_neg c]
          exact ⟨(fun h => absurd h (by decide)), fun _ => q2 (by omega)⟩
  · have h17 : x = 17 := by
      unfold leastV at hx
      rw [if_neg h6] at hx
      by_cases c : x = 17
      · exact c
      · rw [if_neg c] at hx; omega
    subst h17
    have e8 : leastV 17 = 8 := rfl
    rw [if_neg h6, if_pos rfl]
    by_cases hs : l.length < 8
    · rw [if_pos hs]
      exact (of1_short h hl (by rw [e8]; omega)).mono fun e w' hf => ⟨(fun h => absurd h (by decide)), fun _ => hf⟩
    · rw [if_neg hs]
      have hb : udpTold l < 65536 := Nat.lt_of_lt_of_le (num_lt _) (Nat.le_trans (Nat.pow_le_pow_right (by omega) (List.length_take_le 2 _)) (by decide))
      refine (of1_go h hl (by rw [e8]; omega) (by omega) (udpTold l) (by omega) 6 (by decide) _ (fun w1 a1 => length_udp 17 (by decide) a1 (by rw [List.length_drop]; omega) (by rw [List.length_drop]; omega))).mono ?_
      intro e w' ⟨q1, q2⟩
      rw [e8] at q1 q2
      by_cases c : 8 ≤ udpTold l ∧ udpTold l ≤ l.length
      · rw [if_pos c]
        exact ⟨fun _ => q1 (by omega), fun h => absurd rfl h⟩
      · rw [if_neg c]
        exact ⟨(fun h => absurd h (by decide)), fun _ => q2 (by omega)⟩
end

theorem ent83 (args : Array Value) (w : World) : (callFunc 91 args).run Try.prog w = .ok (.enter 91 args) w := by
  simp [callFunc, Try.func91]
  rfl
/-- The world that Of has made ahead of Try. -/
def ofW (w : World) (x : Int) (l : List UInt8) : World := (((w.alloc (.cells #[.int .i64 x] 3)).alloc (.cells #[.string (S l)] 9)).alloc (.cells #[.int .i64 0] 3)).alloc (.cells #[.int .i64 0] 3)
set_option maxHeartbeats 1000000 in
set_option maxRecDepth 100000 in
theorem portsOf (x : Int) (l : List UInt8) (hl : l.length ≤ 1000000000) (w : World) :
    Calls Try.prog 46 #[.int .i64 x, .string (S l)] w fun e w' => e = .returned (.tuple #[.int .i64 (portsA x l : Nat), .int .i64 (portsB x l : Nat), .int .i64 (portsE x l)]) ∧ Touch [] w w' := by
  have hmf : ∀ (fn : Fn) (first cap : Array Value) (w : World), (Instr.makeFunc fn first cap).run Try.prog w = .ok (.func fn first cap) w := fun _ _ _ _ => rfl
  have HH := Lib.hid (fun w => has_any x w)
  by_cases hx : 0 < leastV x
  · have hx' : decide (0 < leastV x) = true := by simpa using hx
    rw [hx'] at HH
    have hsz : (ofW w x l).heap.size = w.heap.size + 4 := by simp [ofW]
    have B2 : Box1 (ofW w x l) w.heap.size 3 (.int .i64 x) := (((Box1.new w _ _).carry ((Touch.refl [] _).alloc _) (by simp)).carry ((Touch.refl [] _).alloc _) (by simp)).carry ((Touch.refl [] _).alloc _) (by simp)
    have B1 : Box1 (ofW w x l) (w.heap.size + 1) 9 (.string (S l)) := by
      have := (((Box1.new (w.alloc (.cells #[.int .i64 x] 3)) 9 (.string (S l)))).carry ((Touch.refl [] _).alloc (.cells #[.int .i64 0] 3)) (by simp)).carry ((Touch.refl [] _).alloc (.cells #[.int .i64 0] 3)) (by simp)
      rwa [show (w.alloc (.cells #[.int .i64 x] 3)).heap.size = w.heap.size + 1 by simp] at this
    have B3 : Box1 (ofW w x l) (w.heap.size + 1 + 1) 3 (.int .i64 0) := by
      have := ((Box1.new ((w.alloc (.cells #[.int .i64 x] 3)).alloc (.cells #[.string (S l)] 9)) 3 (.int .i64 0))).carry ((Touch.refl [] _).alloc (.cells #[.int .i64 0] 3)) (by simp)
      rwa [show ((w.alloc (.cells #[.int .i64 x] 3)).alloc (.cells #[.string (S l)] 9)).heap.size = w.heap.size + 1 + 1 by simp] at this
    have B4 : Box1 (ofW w x l) (w.heap.size + 1 + 1 + 1) 3 (.int .i64 0) := by
      have := (Box1.new (((w.alloc (.cells #[.int .i64 x] 3)).alloc (.cells #[.string (S l)] 9)).alloc (.cells #[.int .i64 0] 3)) 3 (.int .i64 0))
      rwa [show (((w.alloc (.cells #[.int .i64 x] 3)).alloc (.cells #[.string (S l)] 9)).alloc (.cells #[.int .i64 0] 3)).heap.size = w.heap.size + 1 + 1 + 1 by simp] at this
    have TW : Touch [] w (ofW w x l) := ((((Touch.refl [] w).alloc _).alloc _).alloc _).alloc _
    have tt : Touch [] (ofW w x l) (tryW (ofW w x l) (S l)) := (((Touch.refl [] _).alloc _).alloc _).alloc _
    have hat : At (tryW (ofW w x l) (S l)) (w.heap.size + 5) l := by
      have := (Box1.new ((ofW w x l).alloc (.cells #[.int .i64 0] 26)) 102 (.string (S l))).carry ((Touch.refl [] _).alloc (.cells #[.pointer (some ⟨(ofW w x l).heap.size + 1, 0, none⟩)] 28)) (by simp)
      rwa [show ((ofW w x l).alloc (.cells #[.int .i64 0] 26)).heap.size = w.heap.size + 5 by simp [hsz]] at this
    have sg : Seg (tryW (ofW w x l) (S l)) (w.heap.size + 5) (w.heap.size + 1) w.heap.size (w.heap.size + 1 + 1) (w.heap.size + 1 + 1 + 1) l l x 0 0 := ⟨hat, B1.carry tt (by simp), B2.carry tt (by simp), B3.carry tt (by simp), B4.carry tt (by simp), by omega, by omega, by omega, by omega, by omega⟩
    have u3 := sg.u
    have u4 := sg.v
    have key := try_any (s := S l) (k := 91) (cap := #[.pointer (some ⟨w.heap.size + 1, 0, none⟩), .pointer (some ⟨w.heap.size, 0, none⟩), .pointer (some ⟨w.heap.size + 1 + 1, 0, none⟩), .pointer (some ⟨w.heap.size + 1 + 1 + 1, 0, none⟩)]) (w := ofW w x l) (S := [w.heap.size + 5, w.heap.size + 1 + 1, w.heap.size + 1 + 1 + 1])
      (Q := fun er w' => er = portsE x l ∧ Box1 w' (w.heap.size + 1 + 1) 3 (.int .i64 (portsA x l : Nat)) ∧ Box1 w' (w.heap.size + 1 + 1 + 1) 3 (.int .i64 (portsB x l : Nat)))
      (by rw [hsz]; intro b hb; simp at hb; omega) ent83 (by
        rw [hsz]
        refine (of1_any sg hl hx).mono ?_
        intro e w' ⟨q1, q2⟩
        by_cases hE : portsE x l = 0
        · obtain ⟨rfl, r3, r4, r5⟩ := q1 hE
          refine ⟨r5, Or.inl ⟨rfl, hE.symm, ?_, ?_⟩⟩
          · unfold portsA; rw [if_pos ⟨hx, hE⟩]; exact r3
          · unfold portsB; rw [if_pos ⟨hx, hE⟩]; exact r4
        · obtain ⟨rfl, r5⟩ := q2 hE
          refine ⟨r5.mono (by simp), Or.inr ⟨_, rfl, rfl, ?_, ?_⟩⟩
          · unfold portsA; rw [if_neg (fun h => hE h.2)]; exact u3.carry r5 (by simp)
          · unfold portsB; rw [if_neg (fun h => hE h.2)]; exact u4.carry r5 (by simp))
    rw [hsz] at key
    have K := Lib.hid key
    have T0 := Lib.hid TW
    clear key TW tt hat sg u3 u4 B1 B2 B3 B4 hsz
    unfold ofW at K T0
    go_enter Try.func46, Try.ntmps46
    go_wp2_with fail
    refine (HH.out _).mono ?_
    rintro e w1 ⟨rfl, rfl⟩
    go_wp2_with fail
    refine (K.out).mono ?_
    rintro e w2 ⟨er, w3, rfl, ⟨rfl, q3, q4⟩, t3, t4⟩
    have q3' := q3.carry t4 (by simp)
    have q4' := q4.carry t4 (by simp)
    have c3 := q3'.c0
    have c4 := q4'.c0
    have z3 := q3'.fr 0
    have z4 := q4'.fr 0
    have TT := Lib.hid ((T0.out.trans t3 (by intro b hb; simp at hb; omega)).trans t4 (by intro b hb; simp at hb; omega))
    clear q3 q4 t3 t4 K
    go_upto_region 4 with fail
    go_region
    go_wp2_with fail
    have v3 := (q3'.set0 (.int .i64 ((portsA x l : Nat) : Int))).carry ((Touch.refl [w.heap.size + 1 + 1 + 1] _).setCell (a := ⟨w.heap.size + 1 + 1 + 1, 0, none⟩) (Or.inl (by simp)) (.int .i64 ((portsB x l : Nat) : Int))) (by simp)
    have v4 := (q4'.carry ((Touch.refl [w.heap.size + 1 + 1] _).setCell (a := ⟨w.heap.size + 1 + 1, 0, none⟩) (Or.inl (by simp)) (.int .i64 ((portsA x l : Nat) : Int))) (by simp)).set0 (.int .i64 ((portsB x l : Nat) : Int))
    have d3 := v3.c0
    have d4 := v4.c0
    refine bodyPost_ret (v := .tuple #[.int .i64 (portsA x l : Nat), .int .i64 (portsB x l : Nat), .int .i64 (portsE x l)]) (by simp [results, Try.results46, go_sem, d3, d4]) rfl ⟨rfl, ?_⟩
    exact ((TT.out.setCell (Or.inr (show w.heap.size ≤ w.heap.size + 1 + 1 by omega)) _).setCell (Or.inr (show w.heap.size ≤ w.heap.size + 1 + 1 + 1 by omega)) _).drew
  · have hx' : decide (0 < leastV x) = false := by simpa using hx
    have x6 : x ≠ 6 := fun e => by subst e; exact hx (by decide)
    have x17 : x ≠ 17 := fun e => by subst e; exact hx (by decide)
    have hA : portsA x l = 0 := by unfold portsA; rw [if_neg (fun h => hx h.1)]
    have hB : portsB x l = 0 := by unfold portsB; rw [if_neg (fun h => hx h.1)]
    have hE : portsE x l = 0 := by unfold portsE; rw [if_neg x6, if_neg x17]
    rw [hA, hB, hE]
    rw [hx'] at HH
    go_enter Try.func46, Try.ntmps46
    go_wp2_with fail
    refine (HH.out _).mono ?_
    rintro e w1 ⟨rfl, rfl⟩
    go_wp2_with fail
    refine bodyPost_ret (v := .tuple #[.int .i64 0, .int .i64 0, .int .i64 0]) (by simp [results, Try.results46, go_sem]) rfl ⟨rfl, ?_⟩
    exact ((((Touch.refl [] w).alloc _).alloc _).alloc _).alloc _
end Go.Proofs.Ytfeeaokeomcafaa
