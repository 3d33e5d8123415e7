/-
  Layer 18 (tree): gather: the classes by their IDs, or the first error.
-/
import Derived.Test.YtcfogoepoghedaaTree3
import Derived.Test.YtcfogoepoghedaaLate
import Derived.Test.YtcfogoepoghedaaPhi7
import Derived.Deep.Cut
namespace Go.Proofs.Ytcfogoepoghedaa
open Go.ChangeShapes Go.WideShapes Go.ChangeAt Go.RowKit Go.Deep Go.Maps
set_option linter.unusedVariables false
set_option linter.unusedSimpArgs false
/-- Classes in a slice that came in. -/
def ClsCells (w : World) (A : Option Addr) (n : Nat) (X : Nat → Cl) : Prop := ∀ i, i < n → ∃ b off, A = some ⟨b, off, none⟩ ∧ b < w.heap.size ∧ w.rangeAt b (off + i * 11) (X i).cells.toList
theorem ClsCells.new {w w' : World} {A : Option Addr} {n : Nat} {X : Nat → Cl} (h : ClsCells w A n X) (t : Touch [] w w') : ClsCells w' A n X := fun i hi => by
  obtain ⟨b, off, hA, hb, hc⟩ := h i hi
  exact ⟨b, off, hA, Nat.lt_of_lt_of_le hb t.size, fun j u hu => (t.cell (a := ⟨b, off + i * 11 + j, none⟩) hb (by simp)).trans (hc j u hu)⟩
/-- A class is one whose numbers are numbers of their kinds. -/
def Cl.Fit (c : Cl) : Prop := In64 c.id ∧ In64 c.parent ∧ c.share < 18446744073709551616
/-- The classes of the first k, by their IDs; the first error among them. -/
def gC (X : Nat → Cl) : Nat → Int → Option Cl
  | 0 => fun _ => none
  | k + 1 => fun i => if i = (X k).id then some (X k) else gC X k i
def gE (X : Nat → Cl) : Nat → Int
  | 0 => 0
  | k + 1 => if gE X k ≠ 0 then gE X k else if rightV (X k) ≠ 0 then rightV (X k) else if (gC X k (X k).id).isSome = true then 9 else 0
def gatherE (X : Nat → Cl) (n : Nat) : Int := if n = 0 then 8 else if 64 < n then 3 else gE X n
theorem gE_stays (X : Nat → Cl) (k : Nat) (h : gE X k ≠ 0) : ∀ d, gE X (k + d) = gE X k
  | 0 => rfl
  | d + 1 => by
    have ih := gE_stays X k h d
    have e : gE X (k + (d + 1)) = if gE X (k + d) ≠ 0 then gE X (k + d) else if rightV (X (k + d)) ≠ 0 then rightV (X (k + d)) else if (gC X (k + d) (X (k + d)).id).isSome = true then 9 else 0 := rfl
    rw [e, if_pos (by rw [ih]; exact h), ih]
theorem gE_end (X : Nat → Cl) {k n : Nat} (h : gE X k ≠ 0) (hk : k ≤ n) : gE X n = gE X k := by
  obtain ⟨d, rfl⟩ : ∃ d, n = k + d := ⟨n - k, by omega⟩
  exact gE_stays X k h d
def bareT (C : Int → Option Cl) : TD := ⟨0, C, fun _ => none, fun _ => [], fun _ => none⟩
theorem clsV_put (X : Nat → Cl) (k : Nat) : put (clsV (gC X k)) (X k).id (some (.agg (X k).cells)) = clsV (gC X (k + 1)) := by
  funext j
  by_cases hj : j = (X k).id
  · show (if j = (X k).id then _ else _) = Option.map _ (if j = (X k).id then _ else _)
    rw [if_pos hj, if_pos hj]
    rfl
  · show (if j = (X k).id then _ else _) = Option.map _ (if j = (X k).id then _ else _)
    rw [if_neg hj, if_neg hj]
    rfl
section
variable {w w' : World} {b : TB} {d : TD} {sC sK sL : Nat}
/-- Blocks elsewhere may turn. -/
theorem tree_carry {S : List Nat} (h : TreeAt w b d sC sK sL) (t : Touch S w w') (hb : b.p ∉ S ∧ b.bC ∉ S ∧ b.bK ∉ S ∧ b.bL ∉ S) (hr : ∀ i v, d.V i = some v → ∀ g, v.ownBlock = some g → g ∉ S) : TreeAt w' b d sC sK sL :=
  ⟨h.box.carry t hb.1, h.cls.carry t hb.2.1, h.kids.carry t hb.2.2.1, h.lvs.carry t hb.2.2.2, fun i v hv => t.row (h.rows i v hv) (hr i v hv), h.none, h.apart, h.low, h.ne⟩
theorem store_flt (w : World) (a : Addr) (x : Nat) : (store a (.float .f64 x)).run Try.prog w = stored Try.prog w a (.float .f64 x) .plain := run_store _ w a _ _ rfl
set_option maxRecDepth 100000 in
set_option maxHeartbeats 3000000 in
theorem gather_any {A : Option Addr} {n c : Nat} {X : Nat → Cl} (hX : ClsCells w A n X) (hf : ∀ i, i < n → (X i).Fit) :
    Calls Try.prog 24 #[.slice A n c] w fun e w' => (gatherE X n ≠ 0 ∧ e = .returned (.tuple #[.pointer Option.none, .int .i64 (gatherE X n)]) ∨
      gatherE X n = 0 ∧ ∃ b, e = .returned (.tuple #[.pointer (some ⟨b.p, 0, Option.none⟩), .int .i64 0]) ∧ TreeAt w' b (bareT (gC X n)) n 0 0 ∧ w.heap.size ≤ b.p ∧ w.heap.size ≤ b.bC ∧ w.heap.size ≤ b.bK ∧ w.heap.size ≤ b.bL ∧ b.base = w.heap.size + 4) ∧ Touch [] w w' := by
  have HX := Lib.hid hX
  have HF := Lib.hid hf
  clear hX hf
  by_cases hn0 : n = 0
  · have ge : gatherE X n = 8 := if_pos hn0
    have GE := Lib.hid ge
    subst hn0
    clear ge
    go_enter Try.func24, Try.ntmps24
    go_wp2_with fail
    go_ret2
    exact ⟨.inl ⟨by rw [GE.out]; decide, by rw [GE.out]; rfl⟩, Touch.refl _ _⟩
  · have b0 : ((n : Int) == 0) = false := by simpa using hn0
    by_cases h64 : 64 < n
    · have ge : gatherE X n = 3 := by unfold gatherE; rw [if_neg hn0, if_pos h64]
      have GE := Lib.hid ge
      have h64' : (64 : Int) < (n : Int) := by omega
      clear ge
      go_enter Try.func24, Try.ntmps24
      go_wp2_with fail
      go_ret2
      exact ⟨.inl ⟨by rw [GE.out]; decide, by rw [GE.out]; rfl⟩, Touch.refl _ _⟩
    · have ge : gatherE X n = gE X n := by unfold gatherE; rw [if_neg hn0, if_neg h64]
      have GE := Lib.hid ge
      have h64' : ¬ (64 : Int) < (n : Int) := by omega
      have hmm := @run_makeMap Try.prog
      have t1 : Touch [] w ((((w.alloc (.map #[] 0)).alloc (.map #[] 0)).alloc (.map #[] 0)).alloc (.cells #[.int .i64 0, .map (some w.heap.size), .map (some (w.heap.size + 1)), .map (some (w.heap.size + 1 + 1))] 51)) := ((((Touch.refl [] w).alloc _).alloc _).alloc _).alloc _
      have T1 := Lib.hid t1
      clear ge t1
      go_enter Try.func24, Try.ntmps24
      go_upto_region 6 with fail
      have e1 : (w.alloc (.map #[] 0)).heap.size = w.heap.size + 1 := by simp
      have e2 : ((w.alloc (.map #[] 0)).alloc (.map #[] 0)).heap.size = w.heap.size + 1 + 1 := by simp
      have e3 : (((w.alloc (.map #[] 0)).alloc (.map #[] 0)).alloc (.map #[] 0)).heap.size = w.heap.size + 1 + 1 + 1 := by simp
      have m0 : IMap Try.prog 3 ((((w.alloc (.map #[] 0)).alloc (.map #[] 0)).alloc (.map #[] 0)).alloc (.cells #[.int .i64 0, .map (some w.heap.size), .map (some (w.heap.size + 1)), .map (some (w.heap.size + 1 + 1))] 51)) w.heap.size 0 (fun _ => Option.none) := (((IMap.made w).carry ((Touch.refl [] _).alloc _) (by simp)).carry ((Touch.refl [] _).alloc _) (by simp)).carry ((Touch.refl [] _).alloc _) (by simp)
      have m1 : IMap Try.prog 3 ((((w.alloc (.map #[] 0)).alloc (.map #[] 0)).alloc (.map #[] 0)).alloc (.cells #[.int .i64 0, .map (some w.heap.size), .map (some (w.heap.size + 1)), .map (some (w.heap.size + 1 + 1))] 51)) (w.heap.size + 1) 0 (fun _ => Option.none) := by
        have := ((IMap.made (P := Try.prog) (k := 3) (w.alloc (.map #[] 0))).carry ((Touch.refl [] _).alloc (.map #[] 0)) (by simp)).carry ((Touch.refl [] _).alloc (.cells #[.int .i64 0, .map (some w.heap.size), .map (some (w.heap.size + 1)), .map (some (w.heap.size + 1 + 1))] 51)) (by simp)
        rwa [e1] at this
      have m2 : IMap Try.prog 3 ((((w.alloc (.map #[] 0)).alloc (.map #[] 0)).alloc (.map #[] 0)).alloc (.cells #[.int .i64 0, .map (some w.heap.size), .map (some (w.heap.size + 1)), .map (some (w.heap.size + 1 + 1))] 51)) (w.heap.size + 1 + 1) 0 (fun _ => Option.none) := by
        have := (IMap.made (P := Try.prog) (k := 3) ((w.alloc (.map #[] 0)).alloc (.map #[] 0))).carry ((Touch.refl [] _).alloc (.cells #[.int .i64 0, .map (some w.heap.size), .map (some (w.heap.size + 1)), .map (some (w.heap.size + 1 + 1))] 51)) (by simp)
        rwa [e2] at this
      have hb := BoxV.new (((w.alloc (.map #[] 0)).alloc (.map #[] 0)).alloc (.map #[] 0)) 51 #[.int .i64 0, .map (some w.heap.size), .map (some (w.heap.size + 1)), .map (some (w.heap.size + 1 + 1))]
      rw [e3] at hb
      have H1 := Lib.hid (show TreeAt ((((w.alloc (.map #[] 0)).alloc (.map #[] 0)).alloc (.map #[] 0)).alloc (.cells #[.int .i64 0, .map (some w.heap.size), .map (some (w.heap.size + 1)), .map (some (w.heap.size + 1 + 1))] 51)) ⟨w.heap.size + 1 + 1 + 1, w.heap.size, w.heap.size + 1, w.heap.size + 1 + 1, w.heap.size + 4⟩ (bareT (gC X 0)) 0 0 0 from ⟨hb, m0, m1, m2, fun i v hv => (by cases hv), fun _ _ => rfl, fun i j u v _ hu => (by cases hu), ⟨by simp, by simp, by simp, by simp⟩, ⟨by show w.heap.size ≠ w.heap.size + 1; omega, by show w.heap.size ≠ w.heap.size + 1 + 1; omega, by show w.heap.size + 1 ≠ w.heap.size + 1 + 1; omega⟩⟩)
      obtain ⟨b, eb⟩ : ∃ b : TB, (⟨w.heap.size + 1 + 1 + 1, w.heap.size, w.heap.size + 1, w.heap.size + 1 + 1, w.heap.size + 4⟩ : TB) = b := ⟨_, rfl⟩
      have ep : w.heap.size + 1 + 1 + 1 = b.p := by rw [← eb]
      rw [eb] at H1
      rw [ep]
      have HB := Lib.hid (show w.heap.size ≤ b.p ∧ w.heap.size ≤ b.bC ∧ w.heap.size ≤ b.bK ∧ w.heap.size ≤ b.bL ∧ b.base = w.heap.size + 4 by rw [← eb]; exact ⟨by simp; omega, by simp, by simp, by simp; omega, rfl⟩)
      clear e1 e2 e3 m0 m1 m2 hb eb ep hmm
      generalize (((w.alloc (.map #[] 0)).alloc (.map #[] 0)).alloc (.map #[] 0)).alloc (.cells #[.int .i64 0, .map (some w.heap.size), .map (some (w.heap.size + 1)), .map (some (w.heap.size + 1 + 1))] 51) = w1 at *
      go_wp2_with fail
      go_loopw [23] (fun v wr => ∃ k : Nat, k ≤ n ∧ v = .int .i64 (k : Int) ∧ gE X k = 0 ∧ TreeAt wr b (bareT (gC X k)) k 0 0 ∧ Touch [] w wr) (fun v _ => n - (intOf v).toNat)
      case atStart => exact ⟨0, by omega, rfl, rfl, H1.out, T1.out⟩
      case round =>
        obtain ⟨k, hk, rfl, hg, ht, htw⟩ := hrel
        have H2 := Lib.hid ht
        have TR := Lib.hid htw
        have HG := Lib.hid hg
        clear ht htw hg
        by_cases hlt : k < n
        · obtain ⟨bA, off, rfl, hbA, hra⟩ := HX.out.new TR.out k hlt
          have RA := Lib.hid hra
          obtain ⟨f0, f1, f2⟩ := HF.out k hlt
          have hid : i64k (X k).id := i64k_of f0
          have RV := Lib.hid (fun w => right_any (X k) f2 w)
          have CP := Lib.hid (clsV_put X k)
          have gn : gE X (k + 1) = if gE X k ≠ 0 then gE X k else if rightV (X k) ≠ 0 then rightV (X k) else if (gC X k (X k).id).isSome = true then 9 else 0 := rfl
          rw [if_neg (by rw [HG.out]; decide)] at gn
          have GN := Lib.hid gn
          have lA : bA < wr.heap.size := hbA
          have hlt' : (k : Int) < (n : Int) := by omega
          have AL := Lib.hid (cl_all (X k))
          have LK := Lib.hid (fun w' (t : Touch [] wr w') => (H2.out.new t).look_ok (X k).id hid)
          have sf := store_flt
          clear hra f0 f1 f2 gn
          generalize rightV (X k) = rv at *
          generalize X k = x at *
          obtain ⟨x0, x1, x2, x3, x4, x5, x6, x7, x8, x9, x10⟩ := x
          unfold Cl.cells at RA RV AL CP
          simp only at RA RV AL CP LK hid GN
          have Q := Lib.hid (BoxV.new wr 36 #[.int .i64 x0, .int .i64 x1, .float .f64 x2, .int .i64 x3, .int .i64 x4, .int .i64 x5, .int .i64 x6, .int .i64 x7, .int .i64 x8, .bool x9, .bool x10])
          have H3 := Lib.hid (H2.out.new ((Touch.refl [] wr).alloc (.cells #[.int .i64 x0, .int .i64 x1, .float .f64 x2, .int .i64 x3, .int .i64 x4, .int .i64 x5, .int .i64 x6, .int .i64 x7, .int .i64 x8, .bool x9, .bool x10] 36)))
          have T3 := Lib.hid (TR.out.alloc (.cells #[.int .i64 x0, .int .i64 x1, .float .f64 x2, .int .i64 x3, .int .i64 x4, .int .i64 x5, .int .i64 x6, .int .i64 x7, .int .i64 x8, .bool x9, .bool x10] 36))
          have TN := Lib.hid ((Touch.refl [] wr).alloc (.cells #[.int .i64 x0, .int .i64 x1, .float .f64 x2, .int .i64 x3, .int .i64 x4, .int .i64 x5, .int .i64 x6, .int .i64 x7, .int .i64 x8, .bool x9, .bool x10] 36))
          go_upto_region 9 with (refine wpList_load_mid rfl 36 (.tmp 25) rfl bA (off + k * 11) rfl [.int .i64 x0, .int .i64 x1, .float .f64 x2, .int .i64 x3, .int .i64 x4, .int .i64 x5, .int .i64 x6, .int .i64 x7, .int .i64 x8, .bool x9, .bool x10] _ RA.out Try.underlying36 rfl (by kernel_rfl) ?_)
          have hq := Q.out
          have q0 := hq.cell 0
          have q1 := hq.cell 1
          have q2 := hq.cell 2
          have q3 := hq.cell 3
          have q4 := hq.cell 4
          have q5 := hq.cell 5
          have q6 := hq.cell 6
          have q7 := hq.cell 7
          have q8 := hq.cell 8
          have q9 := hq.cell 9
          have q10 := hq.cell 10
          have lq := hq.lt
          simp only [List.getElem?_toArray, List.getElem?_cons_zero, List.getElem?_cons_succ] at q0 q1 q2 q3 q4 q5 q6 q7 q8 q9 q10
          have gq : w.heap.size ≤ wr.heap.size := TR.out.size
          generalize wr.alloc (.cells #[.int .i64 x0, .int .i64 x1, .float .f64 x2, .int .i64 x3, .int .i64 x4, .int .i64 x5, .int .i64 x6, .int .i64 x7, .int .i64 x8, .bool x9, .bool x10] 36) = w3 at *
          generalize eq : wr.heap.size = q at *
          clear RA hq sf lA
          go_wp2_with fail
          refine (RV.out _).mono ?_
          rintro e w4 ⟨rfl, t4⟩
          have H4 := Lib.hid (H3.out.new t4)
          have T4 := Lib.hid (T3.out.trans t4 (by simp))
          have Q4 := Lib.hid (Q.out.carry t4 (by simp))
          have TN4 := Lib.hid (TN.out.trans t4 (by simp))
          have T34 := Lib.hid t4
          clear t4 q0 q1 q2 q3 q4 q5 q6 q7 q8 q9 q10 lq RV H3 T3 Q TN4
          by_cases hrv : rv = 0
          · subst hrv
            rw [if_neg (by decide)] at GN
            go_upto_region 12 with fail
            have LK2 := Lib.hid (show ∀ w', Touch [] w3 w' → (Instr.lookup 47 (.map (some b.bC)) (.int .i64 x0) true).run Try.prog w' = .ok (.tuple #[.agg (clsOf (gC X k) x0).cells, .bool (gC X k x0).isSome]) w' from fun w' t => LK.out w' (TN.out.trans t (by simp)))
            generalize clsOf (gC X k) x0 = cf at LK2
            obtain ⟨y0, y1, y2, y3, y4, y5, y6, y7, y8, y9, y10⟩ := cf
            unfold Cl.cells at LK2
            simp only at LK2
            have CA := Lib.hid (cl_all ⟨y0, y1, y2, y3, y4, y5, y6, y7, y8, y9, y10⟩)
            unfold Cl.cells at CA
            simp only at CA
            generalize htw : (gC X k x0).isSome = tw at LK2 GN
            have HTW := Lib.hid htw
            clear LK htw
            refine wp_region_late1 (wd := w4) 9 11 10 8 36 #[.int .i64 0, .int .i64 0, .float .f64 0, .int .i64 0, .int .i64 0, .int .i64 0, .int .i64 0, .int .i64 0, .int .i64 0, .bool false, .bool false] ?aF (by kernel_rfl) (by kernel_rfl) (by kernel_rfl) (by decide) ((Touch.refl _ _).drew) (fun _ _ _ _ _ h => h) ⟨_, rfl, rfl, fun a w => rfl⟩ ?hwalk ?hend
            case hwalk =>
              intro wd ht
              have k1 : ∀ x : Cls wd, x.val.cell? ⟨b.p, 1, Option.none⟩ = some (.map (some b.bC)) := fun x => ((H4.out.new ht).new x.property).cells.2.1
              have k0 : ∀ x : Cls wd, x.val.cell? ⟨q, 0, Option.none⟩ = some (.int .i64 x0) := fun x => ((Q4.out.carry ht (by simp)).carry x.property (by simp)).cell 0
              have kl : ∀ x : Cls wd, (Instr.lookup 47 (.map (some b.bC)) (.int .i64 x0) true).run Try.prog x.val = .ok (.tuple #[.agg #[.int .i64 y0, .int .i64 y1, .float .f64 y2, .int .i64 y3, .int .i64 y4, .int .i64 y5, .int .i64 y6, .int .i64 y7, .int .i64 y8, .bool y9, .bool y10], .bool tw]) x.val := fun x => LK2.out _ ((T34.out.trans ht (by simp)).trans x.property (by simp))
              simp only [List.take_succ_cons, List.take_zero]
              repeat (first | go_big_quiet_step (fail) | quiet_step (fail))
              refine wpQuiet_nil ?_
              rfl
            case hend =>
            intro b8 w5 t5 y ly
            simp only [List.drop_succ_cons, List.drop_zero, Act.put, List.setIfInBounds_toArray, List.set_cons_succ, List.set_cons_zero]
            have Y := Lib.hid y
            have tc := touch_cellsW (b := b8) #[.int .i64 y0, .int .i64 y1, .float .f64 y2, .int .i64 y3, .int .i64 y4, .int .i64 y5, .int .i64 y6, .int .i64 y7, .int .i64 y8, .bool y9, .bool y10].toList 0 w5
            have hq8 : q ≠ b8 := by have := Q4.out.lt; omega
            have H3 := Lib.hid (H4.out.new t5)
            have H5 := Lib.hid (tree_carry H3.out tc (by have := H4.out.box.lt; have := H4.out.cls.lt; have := H4.out.kids.lt; have := H4.out.lvs.lt; simp; omega) (by have := H4.out.low; intro i v hv; cases hv))
            have HQ := Lib.hid ((Q4.out.carry t5 (by simp)).carry tc (by simpa using hq8))
            have T5 := Lib.hid ((T4.out.trans t5 (by simp)).trans tc (fun x hx => .inr (by simp at hx; have := T4.out.size; omega)))
            clear t5 y H4 Q4 T4 tc H3 T34 TN
            have sf := store_flt
            have th : w5.there b8 0 11 := Y.out.thereW 0 11 (by simp)
            refine wpList_store_mid rfl 36 (.tmp 8) (.tmp 40) rfl b8 0 #[.int .i64 y0, .int .i64 y1, .float .f64 y2, .int .i64 y3, .int .i64 y4, .int .i64 y5, .int .i64 y6, .int .i64 y7, .int .i64 y8, .bool y9, .bool y10] rfl rfl th (by kernel_rfl) CA.out ?_
            go_upto_region 13 with fail
            generalize w5.setCells b8 0 #[.int .i64 y0, .int .i64 y1, .float .f64 y2, .int .i64 y3, .int .i64 y4, .int .i64 y5, .int .i64 y6, .int .i64 y7, .int .i64 y8, .bool y9, .bool y10].toList = w6 at *
            clear th sf Y CA
            cases tw with
            | true =>
              rw [if_pos rfl] at GN
              have ge9 : gE X n = 9 := by rw [gE_end X (k := k + 1) (by rw [GN.out]; decide) (by omega), GN.out]
              have G9 := Lib.hid ge9
              clear ge9
              go_wp2_with fail
              go_ret2
              exact ⟨.inl ⟨by rw [GE.out, G9.out]; decide, by rw [GE.out, G9.out]; rfl⟩, T5.out⟩
            | false =>
              rw [if_neg (by decide)] at GN
              go_upto_region 15 with fail
              refine wp_region_store (wd := w6) 7 (Leaf.const (.pointer (some ⟨b.p, 0, Option.none⟩)) :: Leaf.const ((.pointer (some ⟨b.p, 0, Option.none⟩))) :: Leaf.const (.pointer (some ⟨b.p, 1, Option.none⟩)) :: Leaf.const (.map (some b.bC)) :: Leaf.const (.pointer (some ⟨q, 0, Option.none⟩)) :: Leaf.const (.int .i64 x0) :: Leaf.const (.agg #[.int .i64 x0, .int .i64 x1, .float .f64 x2, .int .i64 x3, .int .i64 x4, .int .i64 x5, .int .i64 x6, .int .i64 x7, .int .i64 x8, .bool x9, .bool x10]) :: Leaf.const undef :: []) (by kernel_rfl) (by kernel_rfl) (by kernel_rfl) (by kernel_rfl) ((Touch.refl _ _).drew) (trivial) ?_ ?_
              · intro i o ho hin ac w ht hk hd
                match i, ho, hin with
                | 0, ho, hin =>
                  have ho' : some _ = some o := ho
                  cases ho'
                  clear ho
                  have e4 := known_slot hk 4 (by kernel_rfl) (v := .pointer (some ⟨b.p, 0, Option.none⟩)) rfl
                  exact do_value (wanted_none rfl) (by rw [BigFrame.run_move (.tmp 4) rfl, e4]) rfl
                | 1, ho, hin =>
                  have ho' : some _ = some o := ho
                  cases ho'
                  clear ho
                  have e43 := has_const (has_dep hd 0 (by kernel_rfl)) rfl rfl rfl (c := (.pointer (some ⟨b.p, 0, Option.none⟩)))
                  exact do_value (wanted_none rfl) (v := (.pointer (some ⟨b.p, 0, Option.none⟩))) (by unfold execOp; simp only [e43]; rfl) rfl
                | 2, ho, hin =>
                  have ho' : some _ = some o := ho
                  cases ho'
                  clear ho
                  have e44 := has_const (has_dep hd 1 (by kernel_rfl)) rfl rfl rfl (c := (.pointer (some ⟨b.p, 0, Option.none⟩)))
                  exact do_value (wanted_none rfl) (v := .pointer (some ⟨b.p, 1, Option.none⟩)) (run_value rfl (by rw [e44]; simp [go_sem])) rfl
                | 3, ho, hin =>
                  have ho' : some _ = some o := ho
                  cases ho'
                  clear ho
                  have e45 := has_const (has_dep hd 2 (by kernel_rfl)) rfl rfl rfl (c := (.pointer (some ⟨b.p, 1, Option.none⟩)))
                  obtain ⟨c0, c1, c2, c3⟩ := (H5.out.new ht).cells
                  exact do_value (wanted_none rfl) (v := .map (some b.bC)) (run_value rfl (by rw [e45]; simp [go_sem, c1])) rfl
                | 4, ho, hin =>
                  have ho' : some _ = some o := ho
                  cases ho'
                  clear ho
                  have e6 := known_slot hk 6 (by kernel_rfl) (v := .pointer (some ⟨q, 0, Option.none⟩)) rfl
                  exact do_value (wanted_none rfl) (v := .pointer (some ⟨q, 0, Option.none⟩)) (run_value rfl (by rw [e6]; simp [go_sem])) rfl
                | 5, ho, hin =>
                  have ho' : some _ = some o := ho
                  cases ho'
                  clear ho
                  have e47 := has_const (has_dep hd 4 (by kernel_rfl)) rfl rfl rfl (c := (.pointer (some ⟨q, 0, Option.none⟩)))
                  have hq := HQ.out.carry ht (by simp)
                  have q0 := hq.cell 0
                  have q1 := hq.cell 1
                  have q2 := hq.cell 2
                  have q3 := hq.cell 3
                  have q4 := hq.cell 4
                  have q5 := hq.cell 5
                  have q6 := hq.cell 6
                  have q7 := hq.cell 7
                  have q8 := hq.cell 8
                  have q9 := hq.cell 9
                  have q10 := hq.cell 10
                  simp only [List.getElem?_toArray, List.getElem?_cons_zero, List.getElem?_cons_succ] at q0 q1 q2 q3 q4 q5 q6 q7 q8 q9 q10
                  have lq := hq.lt
                  exact do_value (wanted_none rfl) (v := .int .i64 x0) (run_value rfl (by rw [e47]; simp [go_sem, q0])) rfl
                | 6, ho, hin =>
                  have ho' : some _ = some o := ho
                  cases ho'
                  clear ho
                  have e6 := known_slot hk 6 (by kernel_rfl) (v := .pointer (some ⟨q, 0, Option.none⟩)) rfl
                  have hq := HQ.out.carry ht (by simp)
                  have q0 := hq.cell 0
                  have q1 := hq.cell 1
                  have q2 := hq.cell 2
                  have q3 := hq.cell 3
                  have q4 := hq.cell 4
                  have q5 := hq.cell 5
                  have q6 := hq.cell 6
                  have q7 := hq.cell 7
                  have q8 := hq.cell 8
                  have q9 := hq.cell 9
                  have q10 := hq.cell 10
                  simp only [List.getElem?_toArray, List.getElem?_cons_zero, List.getElem?_cons_succ] at q0 q1 q2 q3 q4 q5 q6 q7 q8 q9 q10
                  have lq := hq.lt
                  exact do_value (wanted_none rfl) (v := .agg #[.int .i64 x0, .int .i64 x1, .float .f64 x2, .int .i64 x3, .int .i64 x4, .int .i64 x5, .int .i64 x6, .int .i64 x7, .int .i64 x8, .bool x9, .bool x10]) (run_value rfl (by rw [e6]; simp [go_sem, q0, q1, q2, q3, q4, q5, q6, q7, q8, q9, q10])) rfl
                | 7, ho, hin => exact absurd hin (by omega)
                | q + 8, ho, hin => exact absurd ho (by simp)
              · intro x' w7 t7 hkn
                simp only [putL, Act.put, List.setIfInBounds_toArray, List.set_cons_succ, List.set_cons_zero, List.drop]
                have H7 := H5.out.new t7
                obtain ⟨w8, hrun, hm, t8⟩ := (show IMap Try.prog 3 w7 b.bC k (clsV (gC X k)) from H7.cls).store Try.underlying3 Try.underlying47 (by unfold maxLen; omega) hid (.agg #[.int .i64 x0, .int .i64 x1, .float .f64 x2, .int .i64 x3, .int .i64 x4, .int .i64 x5, .int .i64 x6, .int .i64 x7, .int .i64 x8, .bool x9, .bool x10])
                rw [CP.out, show (clsV (gC X k) x0).isSome = false by have := HTW.out; unfold clsV; cases h : gC X k x0 <;> simp_all] at hm
                have hne := H7.ne
                have hnp := H7.cls.notCell rfl (H7.box.cell 0)
                have H8 := Lib.hid (show TreeAt w8 b (bareT (gC X (k + 1))) (k + 1) 0 0 from ⟨H7.box.carry t8 (by simpa using hnp), hm, H7.kids.carry t8 (by simp; exact fun e => hne.1 e.symm), H7.lvs.carry t8 (by simp; exact fun e => hne.2.1 e.symm), fun i v hv => (by cases hv), fun _ _ => rfl, fun i j u v _ hu => (by cases hu), H7.low, hne⟩)
                have T8 := Lib.hid ((T5.out.trans t7 (by simp)).trans t8 (fun x hx => .inr (by simp at hx; have := HB.out; omega)))
                clear hm t8 t7 H7 hkn H5 HQ T5 hne hnp
                go_wp2_with fail
                go_roundw
                case rel => exact ⟨k + 1, by omega, by go_num, GN.out, H8.out, T8.out⟩
                case measure => simp [intOf]; omega
          · rw [if_pos hrv] at GN
            have hb0 : (rv != 0) = true := by simpa using hrv
            have gev : gE X n = rv := by rw [gE_end X (k := k + 1) (by rw [GN.out]; exact hrv) (by omega), GN.out]
            have GV := Lib.hid gev
            clear gev
            go_wp2_with fail
            go_ret2
            exact ⟨.inl ⟨by rw [GE.out, GV.out]; exact hrv, by rw [GE.out, GV.out]; rfl⟩, T4.out⟩
        · obtain rfl : k = n := by omega
          have hlt' : ¬ (k : Int) < (k : Int) := by omega
          clear HX
          go_wp2_with fail
          go_ret2
          exact ⟨.inr ⟨by rw [GE.out]; exact HG.out, b, rfl, H2.out, HB.out⟩, TR.out⟩
end
end Go.Proofs.Ytcfogoepoghedaa
