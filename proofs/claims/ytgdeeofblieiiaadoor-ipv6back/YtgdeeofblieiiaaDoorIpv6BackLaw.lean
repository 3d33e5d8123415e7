/-
  Ipv6Back: for every header, every list of headers that follow and every payload the law that what ipv6's Make makes is read by Parse returns true, where ipv6.known holds what its initialiser lays. No other conditions.
-/
import Derived.Test.YtgdeeofblieiiaaDoorAllE
import Derived.Test.YtgdeeofblieiiaaDoorAllD
namespace Go.Proofs.YtgdeeofblieiiaaDoor
open Go.ChangeShapes Go.WideShapes Go.ChangeAt Go.RowKit Go.Deep Go.Joins
set_option linter.unusedVariables false
set_option linter.unusedSimpArgs false

def is44 (p : Int) : Bool := p == 44
theorem no44 (l : List Int) (h : (l.filter is44).length = 0) : ¬ 44 ∈ l := fun hm => by
  have : (44 : Int) ∈ l.filter is44 := List.mem_filter.2 ⟨hm, rfl⟩
  rw [List.length_eq_zero_iff.1 h] at this
  cases this
theorem some44 (l : List Int) (h : (l.filter is44).length ≠ 0) : 44 ∈ l := by
  cases hk : l.filter is44 with
  | nil => rw [hk] at h; exact absurd rfl h
  | cons a t =>
    have : a ∈ l.filter is44 := by rw [hk]; simp
    obtain ⟨h1, h2⟩ := List.mem_filter.1 this
    unfold is44 at h2
    have : a = 44 := by simpa using h2
    rwa [← this]

set_option maxHeartbeats 4000000 in
set_option maxRecDepth 100000 in
theorem ipv6Back_walk (h : Hd) (ok : h.Ok6) {A : Option Addr} {n cap : Nat} {X : Nat → Int} (pay : List UInt8) {w : World} (K : Tab6 w) (hX : IntCells w w.heap.size A n X) (hn : n ≤ 9223372036854775807) (hp : pay.length ≤ 9223372036854775807) :
    Calls Tryd.prog 5 #[.agg h.cells, .slice A n cap, .string (S pay)] w fun e w' => e = .returned (.bool true) ∧ Below w.heap.size w w' := by
  have hss : (S pay).size = pay.length := S_size pay
  have T0 := Lib.hid ((Touch.refl [] w).alloc (.cells h.cells 27))
  have B0 := Lib.hid (BoxV.new w 27 h.cells)
  have KK := Lib.hid (K.carry T0.out (by simp))
  have HX := Lib.hid (ints_touch hX T0.out)
  have LV := Lib.hid (fun (w : World) (K : Tab6 w) => ipv6Lives K)
  have K0 := Lib.hid K.lt
  have FW := Lib.hid (fun w => refFollows12 h.proto w)
  clear hX K
  by_cases g1 : 200 < pay.length
  · have d1 : decide (200 < (pay.length : Int)) = true := by simp; omega
    unfold Hd.cells at *
    go_enter Tryd.func5, Tryd.ntmps5
    go_wp2_with fail
    refine (LV.out _ KK.out).mono ?_
    rintro e w2 ⟨rfl, t2⟩
    have T2 := Lib.hid (T0.out.trans t2 (by simp))
    clear t2
    go_wp2_with fail
    go_ret
    exact ⟨rfl, T2.out.below (by simp) (Nat.le_refl _)⟩
  have d1 : decide (200 < (pay.length : Int)) = false := by simp; omega
  by_cases g2 : 8 < n
  · have d2 : decide (8 < (n : Int)) = true := by simp; omega
    unfold Hd.cells at *
    go_enter Tryd.func5, Tryd.ntmps5
    go_wp2_with fail
    refine (LV.out _ KK.out).mono ?_
    rintro e w2 ⟨rfl, t2⟩
    have T2 := Lib.hid (T0.out.trans t2 (by simp))
    clear t2
    go_wp2_with fail
    go_ret
    exact ⟨rfl, T2.out.below (by simp) (Nat.le_refl _)⟩
  have d2 : decide (8 < (n : Int)) = false := by simp; omega
  by_cases g3 : h.proto < 0
  · have d3 : decide (h.proto < 0) = true := by simpa using g3
    unfold Hd.cells at *
    go_enter Tryd.func5, Tryd.ntmps5
    go_wp2_with fail
    refine (LV.out _ KK.out).mono ?_
    rintro e w2 ⟨rfl, t2⟩
    have T2 := Lib.hid (T0.out.trans t2 (by simp))
    clear t2
    go_wp2_with fail
    go_ret
    exact ⟨rfl, T2.out.below (by simp) (Nat.le_refl _)⟩
  have d3 : decide (h.proto < 0) = false := by simpa using g3
  by_cases g4 : 255 < h.proto
  · have d4 : decide (255 < h.proto) = true := by simpa using g4
    unfold Hd.cells at *
    go_enter Tryd.func5, Tryd.ntmps5
    go_wp2_with fail
    refine (LV.out _ KK.out).mono ?_
    rintro e w2 ⟨rfl, t2⟩
    have T2 := Lib.hid (T0.out.trans t2 (by simp))
    clear t2
    go_wp2_with fail
    go_ret
    exact ⟨rfl, T2.out.below (by simp) (Nat.le_refl _)⟩
  have d4 : decide (255 < h.proto) = false := by simpa using g4
  by_cases g5 : fol h.proto = true
  · rw [g5] at FW
    unfold Hd.cells at *
    go_enter Tryd.func5, Tryd.ntmps5
    go_wp2_with fail
    refine (FW.out _).mono ?_
    rintro e w1 ⟨rfl, hq⟩
    subst hq
    go_wp2_with fail
    refine (LV.out _ KK.out).mono ?_
    rintro e w2 ⟨rfl, t2⟩
    have T2 := Lib.hid (T0.out.trans t2 (by simp))
    clear t2
    go_wp2_with fail
    go_ret
    exact ⟨rfl, T2.out.below (by simp) (Nat.le_refl _)⟩
  have g5' : fol h.proto = false := by simpa using g5
  rw [g5'] at FW
  by_cases g6 : h.off < 0
  · have d6 : decide (h.off < 0) = true := by simpa using g6
    unfold Hd.cells at *
    go_enter Tryd.func5, Tryd.ntmps5
    go_wp2_with fail
    refine (FW.out _).mono ?_
    rintro e w1 ⟨rfl, hq⟩
    subst hq
    go_wp2_with fail
    refine (LV.out _ KK.out).mono ?_
    rintro e w2 ⟨rfl, t2⟩
    have T2 := Lib.hid (T0.out.trans t2 (by simp))
    clear t2
    go_wp2_with fail
    go_ret
    exact ⟨rfl, T2.out.below (by simp) (Nat.le_refl _)⟩
  have d6 : decide (h.off < 0) = false := by simpa using g6
  by_cases g7 : 8191 < h.off
  · have d7 : decide (8191 < h.off) = true := by simpa using g7
    unfold Hd.cells at *
    go_enter Tryd.func5, Tryd.ntmps5
    go_wp2_with fail
    refine (FW.out _).mono ?_
    rintro e w1 ⟨rfl, hq⟩
    subst hq
    go_wp2_with fail
    refine (LV.out _ KK.out).mono ?_
    rintro e w2 ⟨rfl, t2⟩
    have T2 := Lib.hid (T0.out.trans t2 (by simp))
    clear t2
    go_wp2_with fail
    go_ret
    exact ⟨rfl, T2.out.below (by simp) (Nat.le_refl _)⟩
  have d7 : decide (8191 < h.off) = false := by simpa using g7
  have ft : h.Fit6 := ⟨ok, by omega, g5', by omega⟩
  have FTT := Lib.hid ft
  have O5 := Lib.hid (show 0 ≤ h.off ∧ h.off ≤ 8191 by omega)
  clear ok ft g3 g4 g5 g5' g6 g7
  unfold Hd.cells at *
  go_enter Tryd.func5, Tryd.ntmps5
  go_wp2_with fail
  refine (FW.out _).mono ?_
  rintro e w1 ⟨rfl, hq⟩
  subst hq
  go_wp2_with fail
  generalize w.alloc (.cells #[.int .u64 (h.sh : Int), .int .u64 (h.sl : Int), .int .u64 (h.dh : Int), .int .u64 (h.dl : Int), .int .i64 h.proto, .int .i64 h.start, .int .i64 h.size, .int .i64 h.off, .bool h.more] 27) = w1 at *
  go_loop [7, 8, 52] (fun a b i => ∃ k : Nat, k ≤ n ∧ i = .int .i64 (k : Int) ∧ a = .int .i64 (((upto X k).filter fol).length : Nat) ∧ b = .int .i64 (((upto X k).filter is44).length : Nat)) (fun _ _ i => n - (intOf i).toNat)
  case atStart => exact ⟨0, Nat.zero_le _, rfl, rfl, rfl⟩
  case round =>
    obtain ⟨k, hk, rfl, rfl, rfl⟩ := hrel
    have lf : ((upto X k).filter fol).length ≤ 8 := Nat.le_trans (List.length_filter_le _ _) (by rw [upto_length]; omega)
    have l4 : ((upto X k).filter is44).length ≤ 8 := Nat.le_trans (List.length_filter_le _ _) (by rw [upto_length]; omega)
    by_cases hlt : k < n
    · obtain ⟨b, off, rfl, hb, hc⟩ := HX.out k hlt
      have F1 := Lib.hid (fun w => refFollows12 (X k) w)
      have E1 : ((upto X (k + 1)).filter fol).length = ((upto X k).filter fol).length + (if fol (X k) = true then 1 else 0) := by
        rw [upto_succ, List.filter_append, List.length_append]
        by_cases hf : fol (X k) = true
        · simp [hf]
        · simp [hf]
      have E2 : ((upto X (k + 1)).filter is44).length = ((upto X k).filter is44).length + (if is44 (X k) = true then 1 else 0) := by
        rw [upto_succ, List.filter_append, List.length_append]
        by_cases hf : is44 (X k) = true
        · simp [hf]
        · simp [hf]
      have i44 : is44 (X k) = (X k == 44) := rfl
      by_cases hf : fol (X k) = true
      · rw [hf, if_pos rfl] at E1
        rw [hf] at F1
        by_cases h4 : X k = 44
        · have d44 : (X k == 44) = true := by simpa using h4
          rw [i44, d44, if_pos rfl] at E2
          have HE1 := Lib.hid E1
          have HE2 := Lib.hid E2
          generalize ((upto X k).filter fol).length = m1 at *
          generalize ((upto X k).filter is44).length = m2 at *
          generalize X k = xk at *
          clear E1 E2 i44 hf h4
          go_wp2_with fail
          refine (F1.out _).mono ?_
          rintro e w1 ⟨rfl, hq⟩
          subst hq
          go_wp2_with fail
          go_round
          case rel => exact ⟨k + 1, by omega, by go_num, by rw [HE1.out]; go_num, by rw [HE2.out]; go_num⟩
          case measure => simp [intOf]; omega
        · have d44 : (X k == 44) = false := by simpa using h4
          rw [i44, d44, if_neg (by decide)] at E2
          have HE1 := Lib.hid E1
          have HE2 := Lib.hid E2
          generalize ((upto X k).filter fol).length = m1 at *
          generalize ((upto X k).filter is44).length = m2 at *
          generalize X k = xk at *
          clear E1 E2 i44 hf h4
          go_wp2_with fail
          refine (F1.out _).mono ?_
          rintro e w1 ⟨rfl, hq⟩
          subst hq
          go_wp2_with fail
          go_round
          case rel => exact ⟨k + 1, by omega, by go_num, by rw [HE1.out]; go_num, by rw [HE2.out]; go_num⟩
          case measure => simp [intOf]; omega
      · have hf' : fol (X k) = false := by simpa using hf
        have h4 : is44 (X k) = false := by
          cases e : is44 (X k)
          · rfl
          · rw [i44] at e
            have : X k = 44 := by simpa using e
            rw [this] at hf'
            cases hf'
        rw [if_neg hf] at E1
        rw [h4, if_neg (by decide)] at E2
        rw [hf'] at F1
        have HE1 := Lib.hid E1
        have HE2 := Lib.hid E2
        generalize ((upto X k).filter fol).length = m1 at *
        generalize ((upto X k).filter is44).length = m2 at *
        generalize X k = xk at *
        clear E1 E2 i44 hf h4
        go_wp2_with fail
        refine (F1.out _).mono ?_
        rintro e w1 ⟨rfl, hq⟩
        subst hq
        go_wp2_with fail
        go_round
        case rel => exact ⟨k + 1, by omega, by go_num, by rw [HE1.out]; go_num, by rw [HE2.out]; go_num⟩
        case measure => simp [intOf]; omega
    · obtain rfl : k = n := by omega
      have ft := FTT.out
      have ho := O5.out
      obtain ⟨m, hm⟩ : ∃ m, ((upto X k).filter fol).length = m := ⟨_, rfl⟩
      obtain ⟨fr, hfr⟩ : ∃ fr, ((upto X k).filter is44).length = fr := ⟨_, rfl⟩
      rw [hm] at lf ⊢
      rw [hfr] at l4 ⊢
      have b7 : w1.cell? ⟨w.heap.size, 7, none⟩ = some (.int .i64 h.off) := B0.out.cell 7
      have blt := B0.out.lt
      by_cases hz : fr = 0
      · have h44 : ¬ 44 ∈ upto X k := no44 _ (by rw [hfr]; exact hz)
        have hh44 : 44 ∈ upto X k → h.off = 0 := fun x => absurd x h44
        subst hz
        rw [show ((0 : Nat) : Int) = 0 from rfl]
        clear hfr
        have PB := pack6_back h ft (upto X k) pay (by rw [upto_length]; omega) (by omega) hh44
        have PL := pack6_less h ft (upto X k) pay (by rw [upto_length]; omega) (by omega)
        have PN := pack6_length h (upto X k) pay (by rw [upto_length]; omega) (by omega)
        have hbk : back6 h (upto X k) pay = ⟨h.sh, h.sl, h.dh, h.dl, h.proto, (40 + 8 * (m : Int)), (40 + 8 * (m : Int) + (pay.length : Int)), 0, false⟩ := by unfold back6; rw [hm, if_neg h44]
        rw [hbk] at PB
        rw [hm] at PL PN
        have M := make12 (cap := cap) h ft.ok pay KK.out HX.out hn hp
        obtain ⟨P, hP⟩ : ∃ P, pack6 h (upto X k) pay = P := ⟨_, rfl⟩
        rw [hP] at PB PL PN M
        have P1 := fun (w : World) (K : Tab6 w) => parse12 P (by omega) K
        rw [PB.1, PB.2] at P1
        have P2 := Lib.hid (fun (w : World) (K : Tab6 w) => parse12 (P.take (39 + 8 * m + pay.length)) (by rw [List.length_take]; omega) K)
        have hsP : (S P).size = 40 + 8 * m + pay.length := by rw [S_size]; exact PN
        have sx : (S P).extract 0 (40 + 8 * m + pay.length - 1) = S (P.take (39 + 8 * m + pay.length)) := by rw [show 40 + 8 * m + pay.length - 1 = 39 + 8 * m + pay.length by omega]; exact S_take P _
        have dE : (err6 (P.take (39 + 8 * m + pay.length)) != 0) = true := by simpa using PL
        generalize hd6 (P.take (39 + 8 * m + pay.length)) = D2 at *
        generalize err6 (P.take (39 + 8 * m + pay.length)) = E2 at *
        generalize P.take (39 + 8 * m + pay.length) = Q at *
        unfold Hd.cells at *
        simp only at P1
        have P1 := Lib.hid P1
        have M := Lib.hid M
        clear PB PL hbk hP hh44 h44 ho
        have c0 := B0.out.cell 0
        have c1 := B0.out.cell 1
        have c2 := B0.out.cell 2
        have c3 := B0.out.cell 3
        have c4 := B0.out.cell 4
        have c5 := B0.out.cell 5
        have c6 := B0.out.cell 6
        have c8 := B0.out.cell 8
        go_wp2_with fail
        clear c0 c1 c2 c3 c4 c5 c6 c8
        refine (M.out).mono ?_
        rintro e w2 ⟨rfl, t2⟩
        have T2 := Lib.hid (T0.out.trans t2 (by simp))
        have K2 := Lib.hid (KK.out.carry t2 (by simp))
        have B2 := Lib.hid (B0.out.carry t2 (by simp))
        clear t2 M
        go_wp2_with fail
        refine (P1.out _ K2.out).mono ?_
        rintro e w3 ⟨rfl, t3⟩
        have C3 := BoxV.new w3 27 #[.int .u64 (h.sh : Int), .int .u64 (h.sl : Int), .int .u64 (h.dh : Int), .int .u64 (h.dl : Int), .int .i64 h.proto, .int .i64 (40 + 8 * (m : Int)), .int .i64 (40 + 8 * (m : Int) + (pay.length : Int)), .int .i64 0, .bool false]
        have TA : Touch [] w3 (w3.alloc (.cells #[.int .u64 (h.sh : Int), .int .u64 (h.sl : Int), .int .u64 (h.dh : Int), .int .u64 (h.dl : Int), .int .i64 h.proto, .int .i64 (40 + 8 * (m : Int)), .int .i64 (40 + 8 * (m : Int) + (pay.length : Int)), .int .i64 0, .bool false] 27)) := (Touch.refl [] w3).alloc _
        have B3 := (B2.out.carry t3 (by simp)).carry TA (by simp)
        have T3 := Lib.hid ((T2.out.trans t3 (by simp)).trans TA (by simp))
        have K3 := Lib.hid ((K2.out.carry t3 (by simp)).carry TA (by simp))
        have lw3 : w.heap.size < w3.heap.size := Nat.lt_of_lt_of_le B2.out.lt t3.size
        have hw3 : w3.heap.size ≠ w.heap.size := by omega
        go_upto_region 16 with fail
        generalize w3.alloc (.cells #[.int .u64 (h.sh : Int), .int .u64 (h.sl : Int), .int .u64 (h.dh : Int), .int .u64 (h.dl : Int), .int .i64 h.proto, .int .i64 (40 + 8 * (m : Int)), .int .i64 (40 + 8 * (m : Int) + (pay.length : Int)), .int .i64 0, .bool false] 27) = w3a at *
        have v3 := B3.cell 3
        have v4 := B3.cell 4
        have v5 := B3.cell 5
        have v6 := B3.cell 6
        have v7 := B3.cell 7
        have v8 := B3.cell 8
        have f3 := B3.fr
        have l3 := B3.lt
        have HB3 := Lib.hid B3
        have HC3 := Lib.hid C3
        clear B3 C3 TA t3 T2 K2 B2 P1
        go_upto_region 20 with fail
        have tw : Touch [w.heap.size] w3a ((((w3a.setCell ⟨w.heap.size, 5, none⟩ (.int .i64 (40 + 8 * (m : Int)))).setCell ⟨w.heap.size, 6, none⟩ (.int .i64 (40 + 8 * (m : Int) + (pay.length : Int)))).setCell ⟨w.heap.size, 7, none⟩ (.int .i64 0)).setCell ⟨w.heap.size, 8, none⟩ (.bool false)) := (((((Touch.refl [w.heap.size] w3a).setCell (a := ⟨w.heap.size, 5, none⟩) (by simp) (.int .i64 (40 + 8 * (m : Int)))).setCell (a := ⟨w.heap.size, 6, none⟩) (by simp) (.int .i64 (40 + 8 * (m : Int) + (pay.length : Int)))).setCell (a := ⟨w.heap.size, 7, none⟩) (by simp) (.int .i64 0)).setCell (a := ⟨w.heap.size, 8, none⟩) (by simp) (.bool false))
        have BW : BoxV ((((w3a.setCell ⟨w.heap.size, 5, none⟩ (.int .i64 (40 + 8 * (m : Int)))).setCell ⟨w.heap.size, 6, none⟩ (.int .i64 (40 + 8 * (m : Int) + (pay.length : Int)))).setCell ⟨w.heap.size, 7, none⟩ (.int .i64 0)).setCell ⟨w.heap.size, 8, none⟩ (.bool false)) w.heap.size 27 #[.int .u64 (h.sh : Int), .int .u64 (h.sl : Int), .int .u64 (h.dh : Int), .int .u64 (h.dl : Int), .int .i64 h.proto, .int .i64 (40 + 8 * (m : Int)), .int .i64 (40 + 8 * (m : Int) + (pay.length : Int)), .int .i64 0, .bool false] := ((((HB3.out.set 5 (.int .i64 (40 + 8 * (m : Int)))).set 6 (.int .i64 (40 + 8 * (m : Int) + (pay.length : Int)))).set 7 (.int .i64 0)).set 8 (.bool false))
        have CW : BoxV ((((w3a.setCell ⟨w.heap.size, 5, none⟩ (.int .i64 (40 + 8 * (m : Int)))).setCell ⟨w.heap.size, 6, none⟩ (.int .i64 (40 + 8 * (m : Int) + (pay.length : Int)))).setCell ⟨w.heap.size, 7, none⟩ (.int .i64 0)).setCell ⟨w.heap.size, 8, none⟩ (.bool false)) w3.heap.size 27 #[.int .u64 (h.sh : Int), .int .u64 (h.sl : Int), .int .u64 (h.dh : Int), .int .u64 (h.dl : Int), .int .i64 h.proto, .int .i64 (40 + 8 * (m : Int)), .int .i64 (40 + 8 * (m : Int) + (pay.length : Int)), .int .i64 0, .bool false] := HC3.out.carry tw (by simp; omega)
        have T4 := Lib.hid (T3.out.trans tw (by simp))
        have K4 := Lib.hid (K3.out.carry tw (by have := K0.out; simp; omega))
        generalize ((((w3a.setCell ⟨w.heap.size, 5, none⟩ (.int .i64 (40 + 8 * (m : Int)))).setCell ⟨w.heap.size, 6, none⟩ (.int .i64 (40 + 8 * (m : Int) + (pay.length : Int)))).setCell ⟨w.heap.size, 7, none⟩ (.int .i64 0)).setCell ⟨w.heap.size, 8, none⟩ (.bool false)) = w4 at *
        clear tw HB3 HC3 v3 v4 v5 v6 v7 v8 f3 l3 T3 K3
        have HBW := Lib.hid BW
        have HCW := Lib.hid CW
        clear BW CW
        go_wp2_with fail
        refine (P2.out _ K4.out).mono ?_
        rintro e w5 ⟨rfl, t5⟩
        have TA : Touch [] w5 (w5.alloc (.cells #[.int .u64 (D2.sh : Int), .int .u64 (D2.sl : Int), .int .u64 (D2.dh : Int), .int .u64 (D2.dl : Int), .int .i64 D2.proto, .int .i64 D2.start, .int .i64 D2.size, .int .i64 D2.off, .bool D2.more] 27)) := (Touch.refl [] w5).alloc _
        have B5 := (HBW.out.carry t5 (by simp)).carry TA (by simp)
        have C5 := (HCW.out.carry t5 (by simp)).carry TA (by simp)
        have T5 := Lib.hid ((T4.out.trans t5 (by simp)).trans TA (by simp))
        have K5 := Lib.hid ((K4.out.carry t5 (by simp)).carry TA (by simp))
        go_upto_region 21 with fail
        generalize w5.alloc (.cells #[.int .u64 (D2.sh : Int), .int .u64 (D2.sl : Int), .int .u64 (D2.dh : Int), .int .u64 (D2.dl : Int), .int .i64 D2.proto, .int .i64 D2.start, .int .i64 D2.size, .int .i64 D2.off, .bool D2.more] 27) = w6 at *
        have x0 := B5.cell 0
        have x1 := B5.cell 1
        have x2 := B5.cell 2
        have x3 := B5.cell 3
        have x4 := B5.cell 4
        have x5 := B5.cell 5
        have x6 := B5.cell 6
        have x7 := B5.cell 7
        have x8 := B5.cell 8
        have y0 := C5.cell 0
        have y1 := C5.cell 1
        have y2 := C5.cell 2
        have y3 := C5.cell 3
        have y4 := C5.cell 4
        have y5 := C5.cell 5
        have y6 := C5.cell 6
        have y7 := C5.cell 7
        have y8 := C5.cell 8
        clear B5 C5 TA t5
        go_wp2_with fail
        refine (LV.out _ K5.out).mono ?_
        rintro e w7 ⟨rfl, t7⟩
        have T7 := Lib.hid (T5.out.trans t7 (by simp))
        clear t7
        go_wp2_with fail
        go_ret
        exact ⟨rfl, T7.out.below (by simp) (Nat.le_refl _)⟩
      · have h44 : 44 ∈ upto X k := some44 _ (by rw [hfr]; exact hz)
        have dzn : decide (0 < fr) = true := by simp; omega
        have dz2 : ((fr : Int) == 0) = false := by simp; omega
        have dz3 : (fr == 0) = false := by simpa using hz
        by_cases ho0 : h.off = 0
        · have hh44 : 44 ∈ upto X k → h.off = 0 := fun _ => ho0
          have do0 : decide (0 < h.off) = false := by simp; omega
          clear hfr hz
          have PB := pack6_back h ft (upto X k) pay (by rw [upto_length]; omega) (by omega) hh44
          have PL := pack6_less h ft (upto X k) pay (by rw [upto_length]; omega) (by omega)
          have PN := pack6_length h (upto X k) pay (by rw [upto_length]; omega) (by omega)
          have hbk : back6 h (upto X k) pay = ⟨h.sh, h.sl, h.dh, h.dl, h.proto, (40 + 8 * (m : Int)), (40 + 8 * (m : Int) + (pay.length : Int)), h.off, h.more⟩ := by unfold back6; rw [hm, if_pos h44, ho0]
          rw [hbk] at PB
          rw [hm] at PL PN
          have M := make12 (cap := cap) h ft.ok pay KK.out HX.out hn hp
          obtain ⟨P, hP⟩ : ∃ P, pack6 h (upto X k) pay = P := ⟨_, rfl⟩
          rw [hP] at PB PL PN M
          have P1 := fun (w : World) (K : Tab6 w) => parse12 P (by omega) K
          rw [PB.1, PB.2] at P1
          have P2 := Lib.hid (fun (w : World) (K : Tab6 w) => parse12 (P.take (39 + 8 * m + pay.length)) (by rw [List.length_take]; omega) K)
          have hsP : (S P).size = 40 + 8 * m + pay.length := by rw [S_size]; exact PN
          have sx : (S P).extract 0 (40 + 8 * m + pay.length - 1) = S (P.take (39 + 8 * m + pay.length)) := by rw [show 40 + 8 * m + pay.length - 1 = 39 + 8 * m + pay.length by omega]; exact S_take P _
          have dE : (err6 (P.take (39 + 8 * m + pay.length)) != 0) = true := by simpa using PL
          generalize hd6 (P.take (39 + 8 * m + pay.length)) = D2 at *
          generalize err6 (P.take (39 + 8 * m + pay.length)) = E2 at *
          generalize P.take (39 + 8 * m + pay.length) = Q at *
          unfold Hd.cells at *
          simp only at P1
          have P1 := Lib.hid P1
          have M := Lib.hid M
          clear PB PL hbk hP hh44 h44 ho ho0
          have c0 := B0.out.cell 0
          have c1 := B0.out.cell 1
          have c2 := B0.out.cell 2
          have c3 := B0.out.cell 3
          have c4 := B0.out.cell 4
          have c5 := B0.out.cell 5
          have c6 := B0.out.cell 6
          have c8 := B0.out.cell 8
          go_wp2_with fail
          clear c0 c1 c2 c3 c4 c5 c6 c8
          refine (M.out).mono ?_
          rintro e w2 ⟨rfl, t2⟩
          have T2 := Lib.hid (T0.out.trans t2 (by simp))
          have K2 := Lib.hid (KK.out.carry t2 (by simp))
          have B2 := Lib.hid (B0.out.carry t2 (by simp))
          clear t2 M
          go_wp2_with fail
          refine (P1.out _ K2.out).mono ?_
          rintro e w3 ⟨rfl, t3⟩
          have C3 := BoxV.new w3 27 #[.int .u64 (h.sh : Int), .int .u64 (h.sl : Int), .int .u64 (h.dh : Int), .int .u64 (h.dl : Int), .int .i64 h.proto, .int .i64 (40 + 8 * (m : Int)), .int .i64 (40 + 8 * (m : Int) + (pay.length : Int)), .int .i64 h.off, .bool h.more]
          have TA : Touch [] w3 (w3.alloc (.cells #[.int .u64 (h.sh : Int), .int .u64 (h.sl : Int), .int .u64 (h.dh : Int), .int .u64 (h.dl : Int), .int .i64 h.proto, .int .i64 (40 + 8 * (m : Int)), .int .i64 (40 + 8 * (m : Int) + (pay.length : Int)), .int .i64 h.off, .bool h.more] 27)) := (Touch.refl [] w3).alloc _
          have B3 := (B2.out.carry t3 (by simp)).carry TA (by simp)
          have T3 := Lib.hid ((T2.out.trans t3 (by simp)).trans TA (by simp))
          have K3 := Lib.hid ((K2.out.carry t3 (by simp)).carry TA (by simp))
          have lw3 : w.heap.size < w3.heap.size := Nat.lt_of_lt_of_le B2.out.lt t3.size
          have hw3 : w3.heap.size ≠ w.heap.size := by omega
          go_upto_region 16 with fail
          generalize w3.alloc (.cells #[.int .u64 (h.sh : Int), .int .u64 (h.sl : Int), .int .u64 (h.dh : Int), .int .u64 (h.dl : Int), .int .i64 h.proto, .int .i64 (40 + 8 * (m : Int)), .int .i64 (40 + 8 * (m : Int) + (pay.length : Int)), .int .i64 h.off, .bool h.more] 27) = w3a at *
          have v3 := B3.cell 3
          have v4 := B3.cell 4
          have v5 := B3.cell 5
          have v6 := B3.cell 6
          have v7 := B3.cell 7
          have v8 := B3.cell 8
          have f3 := B3.fr
          have l3 := B3.lt
          have HB3 := Lib.hid B3
          have HC3 := Lib.hid C3
          clear B3 C3 TA t3 T2 K2 B2 P1
          go_upto_region 20 with fail
          have tw : Touch [w.heap.size] w3a ((w3a.setCell ⟨w.heap.size, 5, none⟩ (.int .i64 (40 + 8 * (m : Int)))).setCell ⟨w.heap.size, 6, none⟩ (.int .i64 (40 + 8 * (m : Int) + (pay.length : Int)))) := (((Touch.refl [w.heap.size] w3a).setCell (a := ⟨w.heap.size, 5, none⟩) (by simp) (.int .i64 (40 + 8 * (m : Int)))).setCell (a := ⟨w.heap.size, 6, none⟩) (by simp) (.int .i64 (40 + 8 * (m : Int) + (pay.length : Int))))
          have BW : BoxV ((w3a.setCell ⟨w.heap.size, 5, none⟩ (.int .i64 (40 + 8 * (m : Int)))).setCell ⟨w.heap.size, 6, none⟩ (.int .i64 (40 + 8 * (m : Int) + (pay.length : Int)))) w.heap.size 27 #[.int .u64 (h.sh : Int), .int .u64 (h.sl : Int), .int .u64 (h.dh : Int), .int .u64 (h.dl : Int), .int .i64 h.proto, .int .i64 (40 + 8 * (m : Int)), .int .i64 (40 + 8 * (m : Int) + (pay.length : Int)), .int .i64 h.off, .bool h.more] := ((HB3.out.set 5 (.int .i64 (40 + 8 * (m : Int)))).set 6 (.int .i64 (40 + 8 * (m : Int) + (pay.length : Int))))
          have CW : BoxV ((w3a.setCell ⟨w.heap.size, 5, none⟩ (.int .i64 (40 + 8 * (m : Int)))).setCell ⟨w.heap.size, 6, none⟩ (.int .i64 (40 + 8 * (m : Int) + (pay.length : Int)))) w3.heap.size 27 #[.int .u64 (h.sh : Int), .int .u64 (h.sl : Int), .int .u64 (h.dh : Int), .int .u64 (h.dl : Int), .int .i64 h.proto, .int .i64 (40 + 8 * (m : Int)), .int .i64 (40 + 8 * (m : Int) + (pay.length : Int)), .int .i64 h.off, .bool h.more] := HC3.out.carry tw (by simp; omega)
          have T4 := Lib.hid (T3.out.trans tw (by simp))
          have K4 := Lib.hid (K3.out.carry tw (by have := K0.out; simp; omega))
          generalize ((w3a.setCell ⟨w.heap.size, 5, none⟩ (.int .i64 (40 + 8 * (m : Int)))).setCell ⟨w.heap.size, 6, none⟩ (.int .i64 (40 + 8 * (m : Int) + (pay.length : Int)))) = w4 at *
          clear tw HB3 HC3 v3 v4 v5 v6 v7 v8 f3 l3 T3 K3
          have HBW := Lib.hid BW
          have HCW := Lib.hid CW
          clear BW CW
          go_wp2_with fail
          refine (P2.out _ K4.out).mono ?_
          rintro e w5 ⟨rfl, t5⟩
          have TA : Touch [] w5 (w5.alloc (.cells #[.int .u64 (D2.sh : Int), .int .u64 (D2.sl : Int), .int .u64 (D2.dh : Int), .int .u64 (D2.dl : Int), .int .i64 D2.proto, .int .i64 D2.start, .int .i64 D2.size, .int .i64 D2.off, .bool D2.more] 27)) := (Touch.refl [] w5).alloc _
          have B5 := (HBW.out.carry t5 (by simp)).carry TA (by simp)
          have C5 := (HCW.out.carry t5 (by simp)).carry TA (by simp)
          have T5 := Lib.hid ((T4.out.trans t5 (by simp)).trans TA (by simp))
          have K5 := Lib.hid ((K4.out.carry t5 (by simp)).carry TA (by simp))
          go_upto_region 21 with fail
          generalize w5.alloc (.cells #[.int .u64 (D2.sh : Int), .int .u64 (D2.sl : Int), .int .u64 (D2.dh : Int), .int .u64 (D2.dl : Int), .int .i64 D2.proto, .int .i64 D2.start, .int .i64 D2.size, .int .i64 D2.off, .bool D2.more] 27) = w6 at *
          have x0 := B5.cell 0
          have x1 := B5.cell 1
          have x2 := B5.cell 2
          have x3 := B5.cell 3
          have x4 := B5.cell 4
          have x5 := B5.cell 5
          have x6 := B5.cell 6
          have x7 := B5.cell 7
          have x8 := B5.cell 8
          have y0 := C5.cell 0
          have y1 := C5.cell 1
          have y2 := C5.cell 2
          have y3 := C5.cell 3
          have y4 := C5.cell 4
          have y5 := C5.cell 5
          have y6 := C5.cell 6
          have y7 := C5.cell 7
          have y8 := C5.cell 8
          clear B5 C5 TA t5
          go_wp2_with fail
          refine (LV.out _ K5.out).mono ?_
          rintro e w7 ⟨rfl, t7⟩
          have T7 := Lib.hid (T5.out.trans t7 (by simp))
          clear t7
          go_wp2_with fail
          go_ret
          exact ⟨rfl, T7.out.below (by simp) (Nat.le_refl _)⟩
        · have do0 : decide (0 < h.off) = true := by simp; omega
          clear hfr hz ft
          go_wp2_with fail
          refine (LV.out _ KK.out).mono ?_
          rintro e w2 ⟨rfl, t2⟩
          have T2 := Lib.hid (T0.out.trans t2 (by simp))
          clear t2
          go_wp2_with fail
          go_ret
          exact ⟨rfl, T2.out.below (by simp) (Nat.le_refl _)⟩

set_option maxRecDepth 100000 in
theorem ipv6Back_calls : LawCallsK Tryd.prog 5 Tryd.f5 := by
  intro H enc W base args ds p hK hval hA hlt
  rw [Tryd.params5] at hA hval
  obtain ⟨v0, vs0, d0, ds0, p0, q0, hargs, rfl, rfl, h0, r0⟩ := trodAll_cons hA
  obtain ⟨v1, vs1, d1, ds1, p1, q1, rfl, rfl, rfl, h1, r1⟩ := trodAll_cons r0
  obtain ⟨v2, vs2, d2, ds2, p2, q2, rfl, rfl, rfl, h2, r2⟩ := trodAll_cons r1
  obtain ⟨rfl, rfl, rfl⟩ := trodAll_nil r2
  obtain rfl : args = #[v0, v1, v2] := by cases args; simp_all
  obtain ⟨q, rfl, hq, _, _⟩ := open_header6 (hval 0 27 v0 rfl rfl) h0
  obtain ⟨A, n, cap, X, rfl, hnc, hcm, hX, _⟩ := int_cells (hval 1 36 v1 rfl rfl) h1
  obtain ⟨s, rfl, rfl, rfl, hs⟩ := Go.ChangeMaps.open_string Tryd.underlying9 (hval 2 9 v2 rfl rfl) h2
  have es : s = S s.data.toList := by unfold S; simp
  have hz : s.data.toList.length = s.size := by simp
  rw [es]
  exact ipv6Back_walk q hq s.data.toList hK hX (by omega) (by unfold maxLen at hs; omega)

set_option maxRecDepth 100000 in
theorem ipv6Back_lifted (os : Os) (started : os.Started) (H : Type) (enc : TypeId × Value → H) :
    ReturnsInHanded {} Tryd.checked os 5 .any (fun w args => (Rows.ipv6BackSpec.pre enc Tryd.prog Tryd.f5 [] false w args ∧ laidMetH Tryd.prog laid1 w) ∧ sizedMet enc Tryd.prog Tryd.f5 (OpenSpec.ofChange Rows.ipv6BackSpec) false w args)
      (Rows.ipv6BackSpec.post enc Tryd.prog Tryd.f5 false true false false) := by
  refine returnsInHanded_of_change_and (C := Tryd.checked) (X := fun w _ => laidMetH Tryd.prog laid1 w) (fun _ _ _ hh h => h.of_heap hh) own started (by kernel_rfl) Tryd.func5
    (ChangeSpec.witness_shaped (enc := enc) (C := Tryd.checked) (os := os) (X := fun w _ => laidMetH Tryd.prog laid1 w) false (World.doorLaid Tryd.prog 14 os) #[.agg #[.int .u64 0, .int .u64 0, .int .u64 0, .int .u64 0, .int .i64 0, .int .i64 0, .int .i64 0, .int .i64 0, .bool false], .slice none 0 0, .string ⟨#[]⟩] 8 rfl (World.shaped_of_RefB (by kernel_rfl) (by kernel_rfl)) (by kernel_rfl) (by kernel_rfl) (by kernel_rfl) (door_met os _)) ?_
  intro W base args ds gs before hval hW _ _ hL _
  exact law_contractK laidOut (by kernel_rfl) rfl rfl boolType (fun ds h => by match ds, h with | [_, _, _], _ => rfl) ipv6Back_calls W (known_of_laid hL) base args ds gs before hval hW

theorem ipv6Back_over : Rows.Ipv6BackSaid :=
  OpenClaim.holds_of_wide 5 Tryd.f5 rfl rfl rfl rfl rfl rfl rfl ⟨rfl, rfl, rfl, rfl, rfl⟩ rfl rfl rfl rfl rfl (by kernel_rfl) Tryd.func5 (by kernel_rfl)
    (of_decide_eq_true (by kernel_rfl)) (by unfold Func.isWrapper; first | (rw [if_pos (by decide +kernel)]; kernel_rfl) | (rw [if_neg (by decide +kernel)]; exact ⟨rfl, rfl⟩))
    (fun os started H enc _ => ipv6Back_lifted os started H enc)

theorem ipv6Back_holds : Rows.Ipv6BackCardSaid :=
  Claim7.holds_tied_plain_at .later [] [.data] true Rows.ipv6BackCard.stood.harness true
    ipv6Back_over (fun _ h => by cases h) (by kernel_rfl) (fun _ h => by cases h) ipv6Back_row_tie rfl ⟨rfl, rfl⟩ (by kernel_rfl) rfl
    (fun f fn hf hfn => by
      obtain rfl : f = 5 := Option.some.inj ((show Tryd.prog.funcNamed "flashlock/flashlocklaw12.Ipv6Back" = some 5 by kernel_rfl).symm.trans hf) |>.symm
      obtain rfl : fn = Tryd.f5 := (Option.some.inj (Tryd.func5.symm.trans hfn)).symm
      exact ⟨by kernel_rfl, fun j t ht => by
        rw [Tryd.params5] at ht
        have hm := Array.mem_of_getElem? ht
        have hall : (Tryd.f5.params.toList.all fun u => !Tryd.prog.wantsStandIn u) = true := by kernel_rfl
        have hm' : t ∈ Tryd.f5.params.toList := by rw [Tryd.params5]; simpa using hm
        exact (show Tryd.prog.wantsStandIn t = false by simpa using List.all_eq_true.1 hall t hm')⟩)
    (by kernel_rfl)
#print axioms ipv6Back_holds
end Go.Proofs.YtgdeeofblieiiaaDoor
