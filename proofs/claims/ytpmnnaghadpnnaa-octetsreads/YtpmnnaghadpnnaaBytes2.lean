/-
  append of bytes, and slices.Concat.
-/
import Derived.Test.YtpmnnaghadpnnaaBytes
namespace Go.Proofs.Ytpmnnaghadpnnaa
open Go.ChangeShapes Go.WideShapes Go.ChangeAt Go.RowKit Go.Deep
set_option linter.unusedVariables false

theorem own_shape {w : World} {base : Nat} {e : TypeId} {size : Nat} {v : Value} {n : Nat} {xs : List Value} (h : w.ownsRow base e size v n xs) : ∃ A cap, v = .slice A n cap ∧ n ≤ cap ∧ cap ≤ maxLen ∧ ∀ g, v.ownBlock = some g → base ≤ g := by
  rcases h.2 with ⟨rfl, hn⟩ | ⟨g, cap, cur, rfl, hg, hh, h2, h3, h4, h5⟩
  · refine ⟨none, 0, ?_, ?_, by unfold maxLen; omega, fun g hg => by simp [Value.ownBlock] at hg⟩
    · simp [hn]
    · omega
  · refine ⟨some ⟨g, 0, none⟩, cap, rfl, h2, h3, fun g' hg' => ?_⟩
    simp [Value.ownBlock] at hg'
    omega
theorem own_touch {W w w' : World} {e : TypeId} {size : Nat} {v : Value} {n : Nat} {xs : List Value} (h : w.ownsRow W.heap.size e size v n xs) (t : Touch [] W w) (hg : w.grownBy w' v.ownBlock) : Touch [] W w' :=
  t.grown hg fun k hk => by
    obtain ⟨_, _, _, _, _, h1⟩ := own_shape h
    exact Or.inr (h1 k hk)

/-- append of bytes onto a row of the call's own. -/
theorem run_append_bts {w : World} {base : Nat} {v : Value} {m : List UInt8} (ty : TypeId) (hown : w.ownsRow base 5 1 v m.length (byt m)) {vx : Value} {l : List UInt8} (hb : Bts w vx l) (hlen : m.length + l.length ≤ 1000000000) (hbase : base ≤ w.heap.size) :
    ∃ v' w', (Builtin.append_ #[43, 43] ty #[v, vx]).run Try.prog w = .ok v' w' ∧ w'.ownsRow base 5 1 v' (m ++ l).length (byt (m ++ l)) ∧ w.grownBy w' v.ownBlock := by
  obtain ⟨i0, hi0, hz0, hz1, hz2⟩ := info_parts byte_info
  obtain ⟨A, c, rfl, h1, h2, h3, h4⟩ := hb
  rw [List.length_append, byt_append]
  cases A with
  | none =>
    obtain rfl := h3 rfl
    obtain ⟨A', c', hv, hle, _, _⟩ := own_shape hown
    subst hv
    refine ⟨.slice A' m.length c', w, run_append_nothing w 43 43 ty 5 i0 Try.underlying43 hi0 A' m.length c' hle (.slice none 0 c) (by rw [hz1]; exact Src.ofNil _ Try.underlying43 c), ?_, ?_⟩
    · simpa [byt] using hown
    · exact ⟨rfl, rfl, rfl, Nat.le_refl _, fun _ _ _ => rfl⟩
  | some ad =>
    obtain ⟨v', w', hr, q1, q2, q3⟩ := run_append_own (P := Try.prog) w base 43 ty 5 i0 (.int .u8 0) 1 1 Try.underlying43 hi0 hz0 hz1 hz2 rfl (by decide) v m.length (byt m) hown ad l.length c (byt l) (by simp [byt]) (h4 ad rfl) (byt_one l) (by unfold maxLen; omega) (by omega) hbase
    exact ⟨v', w', hr, q1, q2⟩

theorem wpList_append_bts {w : World} {ops : Array Oper} {rest : List Oper} {o : Oper} {a : Act} {Q : Exit → Act → World → Prop} (hgd : o.guard = none) (s x : Operand) (ho : o.op = .call { callee := .builtin .append, args := #[s, x], argTypes := #[43, 43] })
    {base : Nat} (v : Value) (m : List UInt8) (hs : a.eval s = v) (hown : w.ownsRow base 5 1 v m.length (byt m)) (vx : Value) (l : List UInt8) (hx : a.eval x = vx) (hb : Bts w vx l) (hlen : m.length + l.length ≤ 1000000000) (hbase : base ≤ w.heap.size)
    (h : ∀ v' w', w'.ownsRow base 5 1 v' (m ++ l).length (byt (m ++ l)) → w.grownBy w' v.ownBlock → wpList Try.prog ops Q rest (a.put o.dst v') w') : wpList Try.prog ops Q (o :: rest) a w := by
  obtain ⟨v', w', hr, q1, q2⟩ := run_append_bts o.type hown hb hlen hbase
  exact Lib.wpList_append_run w hgd s x 43 43 ho v vx hs hx v' w' hr (h v' w' q1 q2)

set_option maxHeartbeats 1000000 in
set_option maxRecDepth 100000 in
theorem concat_bytes {w : World} {g n c : Nat} {vs : Nat → Value} {ls : Nat → List UInt8} {F : Nat → List UInt8} (hc : n ≤ c) (hn : n ≤ 10) (hrow : ∀ i, i < n → w.cell? ⟨g, i, none⟩ = some (vs i)) (hB : ∀ i, i < n → Bts w (vs i) (ls i))
    (hF0 : F 0 = []) (hF : ∀ k, k < n → F (k + 1) = F k ++ ls k) (hsum : ∀ k, k ≤ n → (F k).length ≤ 100000000) :
    Calls Try.prog 32 #[.slice (some ⟨g, 0, none⟩) n c] w (Fresh w (F n)) := by
  have HR := Lib.hid hrow
  have HB := Lib.hid hB
  have HF := Lib.hid hF
  have HS := Lib.hid hsum
  have H0 := Lib.hid hF0
  have G := Lib.hid (grow_bytes (F n).length (by have := hsum n (Nat.le_refl _); omega) w)
  clear hrow hB hF hsum hF0
  go_enter Try.func32, Try.ntmps32
  go_wp2_with fail
  go_loop [3, 11] (fun x y => ∃ k : Nat, k ≤ n ∧ y = .int .i64 k ∧ x = .int .i64 ((F k).length : Nat)) (fun _ y => n - (intOf y).toNat)
  case atStart => exact ⟨0, Nat.zero_le _, rfl, by rw [H0.out]; rfl⟩
  case round =>
    obtain ⟨k, hk, rfl, rfl⟩ := hrel
    by_cases hlt : k < n
    · have hcell := HR.out k hlt
      obtain ⟨A, c', hv, b1, b2, _, _⟩ := HB.out k hlt
      rw [hv] at hcell
      have hs := HS.out (k + 1) (by omega)
      have hf := HF.out k hlt
      rw [hf, List.length_append] at hs
      have E : Hid (((F (k + 1)).length : Int) = (F k).length + (ls k).length) := Lib.hid (by rw [hf, List.length_append]; omega)
      clear hf hv
      generalize (F k).length = a at *
      generalize hl : (ls k).length = b at *
      have z : ¬ ((a : Int) + (b : Int) < 0) := by omega
      go_wp2_with fail
      refine ⟨⟨k + 1, by omega, by go_num, by rw [E.out]⟩, ?_⟩
      simp [intOf]; omega
    · obtain rfl : k = n := by omega
      go_wp2_with fail
      refine (G.out).mono ?_
      rintro e w1 ⟨v, rfl, hown, ht⟩
      have S1 : w.heap.size ≤ w1.heap.size := ht.size
      clear G
      go_wp2_with fail
      go_loopw [6, 27] (fun x y wr => ∃ j : Nat, j ≤ k ∧ y = .int .i64 j ∧ wr.ownsRow w.heap.size 5 1 x (F j).length (byt (F j)) ∧ Touch [] w wr) (fun _ y _ => k - (intOf y).toNat)
      case atStart => exact ⟨0, Nat.zero_le _, rfl, by rw [H0.out]; exact hown, ht⟩
      case round =>
        obtain ⟨j, hj, rfl, hown', ht'⟩ := hrel
        by_cases hlt' : j < k
        · have hcell := HR.out j hlt'
          have hb := HB.out j hlt'
          have hcell' := (ht'.cell (cell_lt hcell) (by simp)).trans hcell
          have hb' := hb.carry ht' (by simp)
          have hs := HS.out (j + 1) (by omega)
          have hf := HF.out j hlt'
          rw [hf, List.length_append] at hs
          have E := Lib.hid hf
          have HO := Lib.hid hown'
          have HT := Lib.hid ht'
          have lb : g < wr.heap.size := cell_lt hcell'
          have S2 : w.heap.size ≤ wr.heap.size := ht'.size
          clear hf hcell hb hown' ht' hown ht
          generalize F j = m at *
          generalize ls j = l at *
          generalize vs j = vx at *
          go_wp2_with (at_builtin; refine wpList_append_bts rfl (.tmp 31) (.tmp 32) rfl u6 m rfl HO.out vx l rfl hb' (by omega) S2 ?_; intro v' w2 hown2 hgrow)
          have t2 := own_touch HO.out HT.out hgrow
          go_roundw
          case rel => exact ⟨j + 1, by omega, by go_num, by rw [E.out]; exact hown2, t2⟩
          case measure => simp [intOf]; omega
        · obtain rfl : j = k := by omega
          go_wp2_with fail
          go_ret
          exact ⟨_, rfl, hown', ht'⟩
end Go.Proofs.Ytpmnnaghadpnnaa
