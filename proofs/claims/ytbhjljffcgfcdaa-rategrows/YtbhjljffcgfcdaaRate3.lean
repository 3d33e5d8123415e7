/-
  Contracts of layer 4 (rate) and of its reference: Bytes, by sort.Search; the laws' own example.
-/
import Derived.Test.YtbhjljffcgfcdaaRate2
namespace Go.Proofs.Ytbhjljffcgfcdaa
open Go.ChangeShapes Go.WideShapes Go.ChangeAt Go.RowKit Go.Deep
set_option linter.unusedVariables false

/-- What Bytes' function literal sees: the table's pointer and the ticks, each in a block of its own. -/
structure Sees4 (w : World) (p b1 b2 : Nat) (tpb units t : Int) : Prop where
  tab : TableAt w p tpb units
  c1 : w.cell? ⟨b1, 0, none⟩ = some (.pointer (some ⟨p, 0, none⟩))
  c2 : w.cell? ⟨b2, 0, none⟩ = some (.int .i64 t)
theorem Sees4.on {w w' : World} {p b1 b2 : Nat} {tpb units t : Int} (h : Sees4 w p b1 b2 tpb units t) (k : Touch [] w w') : Sees4 w' p b1 b2 tpb units t :=
  ⟨h.tab.carry k (by simp), (k.cell (a := ⟨b1, 0, none⟩) (cell_lt h.c1) (by simp)).trans h.c1, (k.cell (a := ⟨b2, 0, none⟩) (cell_lt h.c2) (by simp)).trans h.c2⟩

section
variable {w : World} {p b1 b2 : Nat} {tpb units t : Int}

set_option maxHeartbeats 1000000 in
theorem over_any (h : Sees4 w p b1 b2 tpb units t) (k : Nat) (hk : k < 257) :
    Calls Try.prog 52 #[.int .i64 k, .pointer (some ⟨b1, 0, none⟩), .pointer (some ⟨b2, 0, none⟩)] w fun e w' => e = .returned (.bool (decide (t < timeV tpb units k))) ∧ Touch [] w w' := by
  have k0 : ∀ x : Cls w, x.val.cell? ⟨p, k, none⟩ = some (.int .i64 (timeV tpb units k)) := fun x => (h.on x.property).tab.at hk
  have k1 : ∀ x : Cls w, x.val.cell? ⟨b1, 0, none⟩ = some (.pointer (some ⟨p, 0, none⟩)) := fun x => (h.on x.property).c1
  have k2 : ∀ x : Cls w, x.val.cell? ⟨b2, 0, none⟩ = some (.int .i64 t) := fun x => (h.on x.property).c2
  generalize timeV tpb units k = r at *
  clear h
  go_enter Try.func52, Try.ntmps52
  go_upto_region 1 with fail
  refine wp_region_cls (wd := w) (by kernel_rfl) (by kernel_rfl) ((Touch.refl _ _).drew) ?_
  repeat (first | go_big_quiet_step (fail) | quiet_step (fail))
  refine wpQuiet_nil ?_
  rintro _ ⟨y, rfl⟩
  have T := Lib.hid y.property
  generalize y.val = wy at *
  clear k0 k1 k2
  go_wp2_with fail
  go_ret
  exact ⟨rfl, T.out⟩

def overV (b1 b2 : Nat) : Value := .func (.func 52) #[] #[.pointer (some ⟨b1, 0, none⟩), .pointer (some ⟨b2, 0, none⟩)]

set_option maxHeartbeats 1000000 in
theorem search_any (h : Sees4 w p b1 b2 tpb units t) (hr : okRate tpb units) (ht : 0 ≤ t) :
    Calls Try.prog 51 #[.int .i64 257, overV b1 b2] w fun e w' => e = .returned (.int .i64 ((fitsV tpb units t 256 : Nat) + 1)) ∧ Touch [] w w' := by
  have hf := fitsV_le tpb units t 256
  have hsp := fitsV_spec hr ht 256 (Nat.le_refl _)
  have LO := Lib.hid (fun (k : Nat) (hk : k ≤ fitsV tpb units t 256) => Int.le_trans (timeV_mono hr (j := k) (k := (fitsV tpb units t 256 : Nat)) (by omega) (by omega) (by omega)) hsp.1)
  have HI := Lib.hid hsp.2
  clear hsp
  generalize fitsV tpb units t 256 = f at *
  have H := Lib.hid h
  clear h
  unfold overV
  go_enter Try.func51, Try.ntmps51
  go_wp2_with fail
  go_loopw [5, 6] (fun i j wr => ∃ k l : Nat, k ≤ f + 1 ∧ f + 1 ≤ l ∧ l ≤ 257 ∧ i = .int .i64 k ∧ j = .int .i64 l ∧ Touch [] w wr) (fun i j _ => (intOf j - intOf i).toNat)
  case atStart => exact ⟨0, 257, by omega, by omega, by omega, rfl, rfl, Touch.refl _ _⟩
  case round =>
    obtain ⟨k, l, hk, hl, hl', rfl, rfl, tw⟩ := hrel
    by_cases hlt : k < l
    · have hm : (k + l) / 2 < 257 := by omega
      obtain ⟨m, em⟩ : ∃ m : Nat, m = (k + l) / 2 := ⟨_, rfl⟩
      have ei : ((k : Int) + l) / 2 = m := by omega
      have D := Lib.hid (over_any (H.out.on tw) m (by omega))
      have TW := Lib.hid tw
      have m1 : k ≤ m := by omega
      have m2 : m < l := by omega
      by_cases hmf : m ≤ f
      · have b : decide (t < timeV tpb units m) = false := by have := LO.out m hmf; simp; omega
        rw [b] at D
        clear tw em b LO HI hm
        go_wp2_with fail
        refine (D.out).mono ?_
        rintro e w2 ⟨rfl, t2⟩
        have T2 := Lib.hid (TW.out.trans t2 (by simp))
        clear t2 ei
        go_wp2_with fail
        go_roundw
        case rel => exact ⟨m + 1, l, by omega, by omega, by omega, by go_num, rfl, T2.out⟩
        case measure => simp [intOf]; omega
      · have b : decide (t < timeV tpb units m) = true := by have := HI.out m (by omega) (by omega); simp; omega
        rw [b] at D
        clear tw em b LO HI hm
        go_wp2_with fail
        refine (D.out).mono ?_
        rintro e w2 ⟨rfl, t2⟩
        have T2 := Lib.hid (TW.out.trans t2 (by simp))
        clear t2 ei
        go_wp2_with fail
        go_roundw
        case rel => exact ⟨k, m, by omega, by omega, by omega, rfl, rfl, T2.out⟩
        case measure => simp [intOf]; omega
    · obtain rfl : k = l := by omega
      obtain rfl : k = f + 1 := by omega
      go_wp2_with fail
      go_ret
      exact ⟨ret_int (by omega), tw⟩

theorem bytes_nil (t : Int) (w : World) : Calls Try.prog 28 #[.pointer none, .int .i64 t] w fun e w' => e = .returned (.int .i64 0) ∧ Touch [] w w' := by
  go_enter Try.func28, Try.ntmps28
  go_wp2
  go_ret
  exact ⟨rfl, ((Touch.refl _ _).alloc _).alloc _⟩

def bytesV (tpb units t : Int) : Int := if t < 0 then 0 else 8 * (fitsV tpb units t 256 : Nat)
set_option maxHeartbeats 1000000 in
theorem bytes_any (h : TableAt w p tpb units) (hr : okRate tpb units) (t : Int) :
    Calls Try.prog 28 #[.pointer (some ⟨p, 0, none⟩), .int .i64 t] w fun e w' => e = .returned (.int .i64 (bytesV tpb units t)) ∧ Touch [] w w' := by
  have hmf : ∀ (fn : Fn) (first cap : Array Value) (w : World), (Instr.makeFunc fn first cap).run Try.prog w = .ok (.func fn first cap) w := fun _ _ _ _ => rfl
  by_cases ht : t < 0
  · rw [show bytesV tpb units t = 0 by unfold bytesV; rw [if_pos ht]]
    clear h
    go_enter Try.func28, Try.ntmps28
    go_wp2
    go_ret
    exact ⟨rfl, ((Touch.refl _ _).alloc _).alloc _⟩
  · rw [show bytesV tpb units t = 8 * (fitsV tpb units t 256 : Nat) by unfold bytesV; rw [if_neg ht]]
    have x1 := Box1.new w 34 (.pointer (some ⟨p, 0, none⟩))
    have x2 := Box1.new (w.alloc (.cells #[.pointer (some ⟨p, 0, none⟩)] 34)) 3 (.int .i64 t)
    have T := ((Touch.refl [] w).alloc (.cells #[.pointer (some ⟨p, 0, none⟩)] 34)).alloc (.cells #[.int .i64 t] 3)
    have S : Sees4 ((w.alloc (.cells #[.pointer (some ⟨p, 0, none⟩)] 34)).alloc (.cells #[.int .i64 t] 3)) p w.heap.size (w.heap.size + 1) tpb units t :=
      ⟨h.carry T (by simp), (x1.carry ((Touch.refl [] _).alloc _) (by simp)).c0, by simp⟩
    have D := Lib.hid (search_any S hr (by omega))
    have hf := fitsV_le tpb units t 256
    generalize fitsV tpb units t 256 = f at *
    unfold overV at D
    have TT := Lib.hid T
    clear S T x1 x2 h
    go_enter Try.func28, Try.ntmps28
    go_wp2_with fail
    refine (D.out).mono ?_
    rintro e w2 ⟨rfl, t2⟩
    have T2 := Lib.hid (TT.out.trans t2 (by simp))
    clear t2
    go_wp2_with fail
    go_ret
    exact ⟨ret_int (by omega), T2.out⟩

theorem cells8' (k : Nat) (h : k ≤ 256) : cellsV (8 * (k : Int)) = k := by rw [Int.mul_comm]; exact cells8 k h
theorem refBytes_no (t : Int) (w : World) (h : ¬ okRate tpb units) : Calls Try.prog 30 #[.int .i64 tpb, .int .i64 units, .int .i64 t] w fun e w' => e = .returned (.int .i64 0) ∧ w = w' := by
  have D1 := Lib.hid (fun w => right4_no w h)
  clear h
  go_enter Try.func30, Try.ntmps30
  go_wp2_with fail
  refine (D1.out _).mono ?_
  rintro e w' ⟨rfl, rfl⟩
  go_wp2_with fail
  go_ret
  exact ⟨rfl, rfl⟩
/-- What is left of the search from above: no number of cells above k comes within t. -/
theorem fits_from (tpb units t : Int) (k n : Nat) (h : ∀ j : Nat, k < j → j ≤ n → t < timeV tpb units j) (hk : k ≤ n) : fitsV tpb units t n = fitsV tpb units t k := by
  induction n with
  | zero => rw [show k = 0 by omega]
  | succ n ih =>
    by_cases e : k = n + 1
    · rw [e]
    · rw [← ih (fun j h1 h2 => h j h1 (by omega)) (by omega)]
      have := h (n + 1) (by omega) (by omega)
      conv => lhs; unfold fitsV
      rw [show ((n + 1 : Nat) : Int) = (n : Int) + 1 by omega] at this
      rw [if_neg (by omega)]
theorem fits_neg {tpb units t : Int} (h : okRate tpb units) (ht : t < 0) : ∀ k, k ≤ 256 → fitsV tpb units t k = 0
  | 0, _ => rfl
  | k + 1, hk => by
    unfold fitsV
    have := (timeV_in h (k := (k : Int) + 1) (by omega)).1
    rw [if_neg (by omega)]
    exact fits_neg h ht k (by omega)
def AllOver (tpb units t : Int) (k : Nat) : Prop := ∀ j : Nat, k < j → j ≤ 256 → t < timeV tpb units j
theorem bytes_from {t : Int} (h : okRate tpb units) (k : Nat) (hk : k ≤ 256) (hj : AllOver tpb units t k) : bytesV tpb units t = 8 * (fitsV tpb units t k : Nat) := by
  have e := fits_from tpb units t k 256 hj hk
  unfold bytesV
  split
  · rename_i hneg
    rw [fits_neg h hneg k hk]
    rfl
  · rw [e]
theorem fits_top {t : Int} (k : Nat) (h : timeV tpb units ((k + 1 : Nat) : Int) ≤ t) : fitsV tpb units t (k + 1) = k + 1 := by
  unfold fitsV
  rw [if_pos (by rw [show ((k + 1 : Nat) : Int) = (k : Int) + 1 by omega] at h; exact h)]

set_option maxHeartbeats 1000000 in
theorem refBytes_yes (t : Int) (w : World) (h : okRate tpb units) (hm : -9223372036854775808 ≤ t ∧ t ≤ 9223372036854775807) : Calls Try.prog 30 #[.int .i64 tpb, .int .i64 units, .int .i64 t] w fun e w' => e = .returned (.int .i64 (bytesV tpb units t)) ∧ w = w' := by
  have D1 := Lib.hid (fun w => right4_yes w h)
  have E := Lib.hid (fun n w hn => refExact_yes (tpb := tpb) (units := units) n w h hn)
  have HO := Lib.hid h
  clear h
  generalize hB : bytesV tpb units t = B at *
  have HB := Lib.hid hB
  clear hB
  go_enter Try.func30, Try.ntmps30
  go_wp2_with fail
  refine (D1.out _).mono ?_
  rintro e w' ⟨rfl, rfl⟩
  go_wp2_with fail
  go_loop [7] (fun i => ∃ k : Nat, k ≤ 256 ∧ i = .int .i64 k ∧ AllOver tpb units t k) (fun i => (intOf i).toNat)
  case atStart => exact ⟨256, Nat.le_refl _, rfl, fun j h1 h2 => by omega⟩
  case round =>
    obtain ⟨k, hk, rfl, hall⟩ := hrel
    have HA := Lib.hid hall
    clear hall
    cases k with
    | zero =>
      have hz := bytes_from HO.out 0 hk HA.out
      rw [HB.out] at hz
      have HZ := Lib.hid hz
      clear hz
      go_wp2_with fail
      go_ret
      exact ⟨ret_int HZ.out.symm, rfl⟩
    | succ k =>
      have D := E.out (8 * ((k + 1 : Nat) : Int)) w (by omega)
      rw [cells8' (k + 1) hk] at D
      have F := Lib.hid (fits_top (tpb := tpb) (units := units) (t := t) k)
      have hz := bytes_from HO.out (k + 1) hk HA.out
      rw [HB.out] at hz
      have HZ := Lib.hid hz
      have HN := Lib.hid (show t < timeV tpb units ((k + 1 : Nat) : Int) → AllOver tpb units t k from fun hlt j h1 h2 => by
        by_cases e : j = k + 1
        · rw [e]; exact hlt
        · exact HA.out j (by omega) h2)
      generalize timeV tpb units ((k + 1 : Nat) : Int) = r at *
      have D := Lib.hid D
      obtain ⟨K, hK⟩ : ∃ K : Nat, K = k + 1 := ⟨_, rfl⟩
      rw [← hK] at D HZ ⊢
      have k1 : 1 ≤ K := by omega
      have k2 : K ≤ 256 := by omega
      have HK := Lib.hid hK
      clear hz hK hk
      by_cases hle : r ≤ t
      · have hf := F.out hle
        have HR : Hid (B = 8 * (K : Int)) := Lib.hid (by rw [HZ.out, HK.out, hf])
        clear hf F HN
        go_wp2_with fail
        refine (D.out).mono ?_
        rintro e w' ⟨rfl, rfl⟩
        go_wp2_with fail
        go_ret
        exact ⟨ret_int HR.out.symm, rfl⟩
      · have b : decide (r ≤ t) = false := by simp; omega
        have N := Lib.hid (HN.out (by omega))
        clear F HN hle
        go_wp2_with fail
        refine (D.out).mono ?_
        rintro e w' ⟨rfl, rfl⟩
        go_wp2_with fail
        go_round
        case rel => exact ⟨k, by have := HK.out; omega, congrArg (Value.int .i64) (by have := HK.out; omega), N.out⟩
        case measure => simp [intOf]; omega
end

set_option maxHeartbeats 1000000 in
theorem rateLives_any (w : World) : Calls Try.prog 29 #[] w fun e w' => e = .returned (.bool true) ∧ Below w.heap.size w w' := by
  have hr : okRate 10 1048576 := by unfold okRate; omega
  have e1 : timeV 10 1048576 (cellsV 1) = 80 := by decide +kernel
  have e2 : timeV 10 1048576 (cellsV 9) = 160 := by decide +kernel
  have e3 : bytesV 10 1048576 159 = 8 := by decide +kernel
  have E1 := Lib.hid e1
  have E2 := Lib.hid e2
  have E3 := Lib.hid e3
  have N := Lib.hid (new4_yes w hr)
  clear e1 e2 e3
  go_enter Try.func29, Try.ntmps29
  go_wp2_with fail
  refine (N.out).mono ?_
  rintro e w1 ⟨rfl, h1, b1⟩
  have D1 := time_any h1 1
  rw [E1.out] at D1
  have D1 := Lib.hid D1
  have H1 := Lib.hid h1
  have B1 := Lib.hid b1
  clear h1 b1
  go_wp2_with fail
  refine (D1.out).mono ?_
  rintro e w2 ⟨rfl, t2⟩
  have h2 := H1.out.carry t2 (by simp)
  have D2 := time_any h2 9
  rw [E2.out] at D2
  have D2 := Lib.hid D2
  have H2 := Lib.hid h2
  have B2 := Lib.hid (B1.out.trans (t2.below (B := w.heap.size) (by simp) B1.out.size))
  clear h2 t2
  go_wp2_with fail
  refine (D2.out).mono ?_
  rintro e w3 ⟨rfl, t3⟩
  have h3 := H2.out.carry t3 (by simp)
  have D3 := bytes_any h3 hr 159
  rw [E3.out] at D3
  have D3 := Lib.hid D3
  have B3 := Lib.hid (B2.out.trans (t3.below (B := w.heap.size) (by simp) B2.out.size))
  clear h3 t3
  go_wp2_with fail
  refine (D3.out).mono ?_
  rintro e w4 ⟨rfl, t4⟩
  have B4 := Lib.hid (B3.out.trans (t4.below (B := w.heap.size) (by simp) B3.out.size))
  clear t4
  go_wp2_with fail
  go_ret
  exact ⟨rfl, B4.out⟩
end Go.Proofs.Ytbhjljffcgfcdaa
