/-
  Layer 34 (ledger): what a list of notes makes of a ledger; the law's play.
-/
import Derived.Test.YtbppccmkmpgibaaLedger10
namespace Go.Proofs.Ytbppccmkmpgibaa
open Go.ChangeShapes Go.WideShapes Go.ChangeAt Go.RowKit Go.Deep Go.Maps
set_option linter.unusedVariables false
set_option linter.unusedSimpArgs false
structure Nt where
  k : Int
  i : Int
  n : Int
/-- Notes in memory that came in. -/
def NtCells (w : World) (A : Option Addr) (m : Nat) (X : Nat → Nt) : Prop :=
  ∀ j, j < m → ∃ b off, A = some ⟨b, off, none⟩ ∧ b < w.heap.size ∧ w.cell? ⟨b, off + j * 3, none⟩ = some (.int .i64 (X j).k) ∧ w.cell? ⟨b, off + j * 3 + 1, none⟩ = some (.int .i64 (X j).i) ∧ w.cell? ⟨b, off + j * 3 + 2, none⟩ = some (.int .i64 (X j).n)
theorem NtCells.new {w w' : World} {A : Option Addr} {m : Nat} {X : Nat → Nt} (h : NtCells w A m X) (t : Touch [] w w') : NtCells w' A m X := fun j hj => by
  obtain ⟨b, off, hA, hb, c0, c1, c2⟩ := h j hj
  exact ⟨b, off, hA, Nat.lt_of_lt_of_le hb t.size, (t.cell (a := ⟨b, _, none⟩) hb (by simp)).trans c0, (t.cell (a := ⟨b, _, none⟩) hb (by simp)).trans c1, (t.cell (a := ⟨b, _, none⟩) hb (by simp)).trans c2⟩
/-- Is it counted? -/
def cntd (x : Nt) : Prop := x.k = 0 ∨ x.k = 1 ∨ x.k = 2 ∧ 1 ≤ x.n ∧ x.n ≤ 5
instance (x : Nt) : Decidable (cntd x) := by unfold cntd; infer_instance
/-- What a note makes of a book. -/
def noteB (B : Bk) (x : Nt) : Bk := if x.k = 0 then tally B 0 x.n else if x.k = 1 then tally B 2 x.n else lostB B (4 + x.n.toNat)
def stepM (M : Int → Option Bk) (x : Nt) : Int → Option Bk := if cntd x then putB M x.i (noteB (bookOf M x.i) x) else M
def playM (X : Nat → Nt) : Nat → Int → Option Bk
  | 0 => fun _ => none
  | k + 1 => stepM (playM X k) (X k)
theorem bookOf_put (M : Int → Option Bk) (i : Int) (B : Bk) (j : Int) : bookOf (putB M i B) j = if j = i then B else bookOf M j := by
  unfold bookOf putB
  split <;> rfl
theorem bookOf_step (M : Int → Option Bk) (x : Nt) (j : Int) : bookOf (stepM M x) j = if j = x.i ∧ cntd x then noteB (bookOf M x.i) x else bookOf M j := by
  unfold stepM
  by_cases hc : cntd x
  · rw [if_pos hc, bookOf_put]
    simp [hc]
  · rw [if_neg hc]
    simp [hc]
theorem noteB_few {B : Bk} {m : Int} (hB : Few B m) (hm : 0 ≤ m) (x : Nt) : Few (noteB B x) (m + 2048) := by
  intro i hi
  have h := hB i hi
  have hs := sizeC_le x.n
  unfold noteB
  split
  · unfold tally
    split
    · have := hB 0 (by omega)
      omega
    · split
      · have := hB (0 + 1) (by omega)
        omega
      · omega
  · split
    · unfold tally
      split
      · have := hB 2 (by omega)
        omega
      · split
        · have := hB (2 + 1) (by omega)
          omega
        · omega
    · unfold lostB
      split
      · rename_i e
        rw [← e]
        omega
      · omega
theorem few_play (X : Nat → Nt) : ∀ k i, Few (bookOf (playM X k) i) (2048 * (k : Int))
  | 0, i => by
    intro j hj
    simp [playM, bookOf]
  | k + 1, i => by
    have e : (2048 * ((k + 1 : Nat) : Int)) = 2048 * (k : Int) + 2048 := by omega
    rw [e]
    show Few (bookOf (stepM (playM X k) (X k)) i) _
    rw [bookOf_step]
    split
    · exact noteB_few (few_play X k (X k).i) (by omega) _
    · intro j hj
      have := few_play X k i j hj
      omega
theorem few_mono {B : Bk} {a c : Int} (h : Few B a) (hac : a ≤ c) : Few B c := fun i hi => by
  have := h i hi
  omega
section
variable {w w' : World} {p b s : Nat} {M : Int → Option Bk}
theorem grown_le (M : Int → Option Bk) (i : Int) (s : Nat) : grown M i s ≤ s + 1 := by unfold grown; split <;> omega
set_option maxRecDepth 100000 in
set_option maxHeartbeats 3200000 in
theorem play_any {A : Option Addr} {m c : Nat} {X : Nat → Nt} (hX : NtCells w A m X) (hm : m ≤ 80) (hf : ∀ j, j < m → fit64 (X j).i) :
    Calls Try.prog 6 #[.slice A m c] w fun e w' => ∃ p, e = .returned (.pointer (some ⟨p, 0, none⟩)) ∧ ∃ b s, LgAt w' p b s (playM X m) ∧ s ≤ m ∧ Touch [] w w' ∧ w.heap.size ≤ p ∧ w.heap.size ≤ b := by
  have NW := Lib.hid (newL w)
  have HX := Lib.hid hX
  have HF := Lib.hid hf
  clear hX hf
  go_enter Try.func6, Try.ntmps6
  go_wp2_with fail
  refine (NW.out).mono ?_
  rintro e w1 ⟨p, b, rfl, h2, t1, hp, hb⟩
  have HH := Lib.hid h2
  have T1 := Lib.hid t1
  clear h2 t1 NW
  go_wp2_with fail
  go_loopw [9] (fun v wr => ∃ k s : Nat, k ≤ m ∧ v = .int .i64 (k : Int) ∧ LgAt wr p b s (playM X k) ∧ s ≤ k ∧ Touch [] w wr) (fun v _ => m - (intOf v).toNat)
  case atStart => exact ⟨0, 0, by omega, rfl, HH.out, by omega, T1.out⟩
  case round =>
    obtain ⟨k, s, hk, rfl, h2, hs2, ht⟩ := hrel
    by_cases hlt : k < m
    · obtain ⟨bA, off, rfl, hbA, c0, c1, c2⟩ := HX.out.new ht k hlt
      have hfi := i64k_of (HF.out k hlt)
      have ek : playM X (k + 1) = stepM (playM X k) (X k) := rfl
      have EK := Lib.hid ek
      have FB := Lib.hid (few_mono (few_play X k (X k).i) (show 2048 * (k : Int) ≤ 100000000 by omega))
      clear ek
      generalize X k = x at *
      obtain ⟨a, i, n⟩ := x
      simp only at c0 c1 c2 hfi FB
      have hlt' : (k : Int) < (m : Int) := by omega
      have T2 := Lib.hid (ht.trans ((Touch.refl [] wr).alloc (.cells #[.int .i64 a, .int .i64 i, .int .i64 n] 44)) (by simp))
      have H2 := Lib.hid (h2.new ((Touch.refl [] wr).alloc (.cells #[.int .i64 a, .int .i64 i, .int .i64 n] 44)))
      have lA : bA < wr.heap.size := hbA
      have hg := grown_le (playM X k) i s
      clear ht h2 HH
      by_cases h0 : a = 0
      · subst h0
        have es : stepM (playM X k) ⟨0, i, n⟩ = putB (playM X k) i (tally (bookOf (playM X k) i) 0 n) := by simp [stepM, cntd, noteB]
        have ES := Lib.hid es
        have G := Lib.hid (got_any H2.out (by omega) i hfi n FB.out)
        clear es
        go_wp2_with fail
        refine (G.out).mono ?_
        rintro e w3 ⟨rfl, h3, t3⟩
        have H3 := Lib.hid h3
        have T3 := Lib.hid (T2.out.trans t3 (fun x hx => .inr (by simp at hx; omega)))
        clear h3 t3 c0 c1 c2
        go_wp2_with fail
        go_roundw
        case rel => exact ⟨k + 1, _, by omega, by go_num, by rw [EK.out, ES.out]; exact H3.out, by omega, T3.out⟩
        case measure => simp [intOf]; omega
      · have b0 : (a == 0) = false := by simpa using h0
        by_cases h1 : a = 1
        · subst h1
          have es : stepM (playM X k) ⟨1, i, n⟩ = putB (playM X k) i (tally (bookOf (playM X k) i) 2 n) := by simp [stepM, cntd, noteB]
          have ES := Lib.hid es
          have G := Lib.hid (sent_any H2.out (by omega) i hfi n FB.out)
          clear es
          go_wp2_with fail
          refine (G.out).mono ?_
          rintro e w3 ⟨rfl, h3, t3⟩
          have H3 := Lib.hid h3
          have T3 := Lib.hid (T2.out.trans t3 (fun x hx => .inr (by simp at hx; omega)))
          clear h3 t3 c0 c1 c2
          go_wp2_with fail
          go_roundw
          case rel => exact ⟨k + 1, _, by omega, by go_num, by rw [EK.out, ES.out]; exact H3.out, by omega, T3.out⟩
          case measure => simp [intOf]; omega
        · have b1 : (a == 1) = false := by simpa using h1
          by_cases h2 : a = 2
          · subst h2
            by_cases hn : 1 ≤ n ∧ n ≤ 5
            · obtain ⟨r, rfl⟩ : ∃ r : Nat, n = (r : Int) := ⟨n.toNat, by omega⟩
              have es : stepM (playM X k) ⟨2, i, r⟩ = putB (playM X k) i (lostB (bookOf (playM X k) i) (4 + r)) := by simp [stepM, cntd, noteB]; intro h; omega
              have ES := Lib.hid es
              have G := Lib.hid (lost_yes H2.out (by omega) i hfi r (by omega) (by omega) FB.out)
              clear es
              go_wp2_with fail
              refine (G.out).mono ?_
              rintro e w3 ⟨rfl, h3, t3⟩
              have H3 := Lib.hid h3
              have T3 := Lib.hid (T2.out.trans t3 (fun x hx => .inr (by simp at hx; omega)))
              clear h3 t3 c0 c1 c2
              go_wp2_with fail
              go_roundw
              case rel => exact ⟨k + 1, _, by omega, by go_num, by rw [EK.out, ES.out]; exact H3.out, by omega, T3.out⟩
              case measure => simp [intOf]; omega
            · have es : stepM (playM X k) ⟨2, i, n⟩ = playM X k := by
                unfold stepM
                rw [if_neg (by unfold cntd; simp; omega)]
              have ES := Lib.hid es
              have G := Lib.hid (fun w => lost_no (some ⟨p, 0, none⟩) i n (by omega) w)
              clear es
              go_wp2_with fail
              refine (G.out _).mono ?_
              rintro e w3 ⟨rfl, t3⟩
              have H3 := Lib.hid (H2.out.new t3)
              have T3 := Lib.hid (T2.out.trans t3 (by simp))
              clear t3 c0 c1 c2
              go_wp2_with fail
              go_roundw
              case rel => exact ⟨k + 1, s, by omega, by go_num, by rw [EK.out, ES.out]; exact H3.out, by omega, T3.out⟩
              case measure => simp [intOf]; omega
          · have b2 : (a == 2) = false := by simpa using h2
            have es : stepM (playM X k) ⟨a, i, n⟩ = playM X k := by
              unfold stepM
              rw [if_neg (by unfold cntd; simp; omega)]
            have ES := Lib.hid es
            clear es
            go_wp2_with fail
            go_roundw
            case rel => exact ⟨k + 1, s, by omega, by go_num, by rw [EK.out, ES.out]; exact H2.out, by omega, T2.out⟩
            case measure => simp [intOf]; omega
    · obtain rfl : k = m := by omega
      have hlt' : ¬ (k : Int) < (k : Int) := by omega
      have H2 := Lib.hid h2
      have HT := Lib.hid ht
      clear HH h2 ht
      go_wp2_with fail
      go_ret
      exact ⟨p, rfl, b, s, H2.out, hs2, HT.out, hp, hb⟩
end
end Go.Proofs.Ytbppccmkmpgibaa
