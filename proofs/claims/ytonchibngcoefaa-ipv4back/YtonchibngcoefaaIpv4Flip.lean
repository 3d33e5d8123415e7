/-
  Layer 11 (ipv4): what is made is read, and what has bits turned is not: the numbers.
-/
import Derived.Test.YtonchibngcoefaaIpv4Parse2
import Derived.Lib.ConvBytes
namespace Go.Proofs.Ytonchibngcoefaa
open Go.ChangeShapes Go.WideShapes Go.ChangeAt Go.RowKit Go.Deep
set_option linter.unusedVariables false
set_option linter.unusedSimpArgs false

theorem tot_take (L : List UInt8) (n : Nat) : ∀ k, k ≤ n → tot (L.take n) k = tot L k
  | 0, _ => rfl
  | k + 1, h => by
    simp only [tot]
    rw [tot_take L n k (by omega)]
    have : byteAt (L.take n) k = byteAt L k := by unfold byteAt; rw [List.getElem?_take, if_pos (by omega)]
    rw [this]
theorem sumA_head (L : List UInt8) (n : Nat) (h : n ≤ L.length) : sumA (L.take n) = 65535 - (can (tot L n) : Int) := by
  unfold sumA
  rw [List.length_take, Nat.min_eq_left h, tot_take L n n (Nat.le_refl _)]
theorem can_full (t : Nat) : can t = 65535 ↔ 0 < t ∧ t % 65535 = 0 := by
  unfold can
  split
  · omega
  · constructor
    · intro h
      refine ⟨by omega, ?_⟩
      have := Nat.div_add_mod (t - 1) 65535
      omega
    · rintro ⟨h1, h2⟩
      have := Nat.div_add_mod t 65535
      have e : t - 1 = 65534 + 65535 * (t / 65535 - 1) := by omega
      rw [e, Nat.add_mul_mod_self_left]
def wgt (i : Nat) : Nat := if i % 2 = 0 then 256 else 1
theorem byteAt_set (L : List UInt8) (i : Nat) (b : UInt8) (h : i < L.length) (k : Nat) : byteAt (L.set i b) k = if k = i then b.toNat else byteAt L k := by
  unfold byteAt
  rw [List.getElem?_set]
  by_cases e : i = k
  · subst e; simp [h]
  · rw [if_neg e, if_neg (Ne.symm e)]
theorem tot_set_out (L : List UInt8) (i : Nat) (b : UInt8) (h : i < L.length) : ∀ n, n ≤ i → tot (L.set i b) n = tot L n
  | 0, _ => rfl
  | n + 1, hn => by
    have ih := tot_set_out L i b h n (by omega)
    have e := byteAt_set L i b h n
    rw [if_neg (by omega)] at e
    simp only [tot]
    rw [e, ih]
theorem tot_set (L : List UInt8) (i : Nat) (b : UInt8) (h : i < L.length) : ∀ n, i < n → tot (L.set i b) n + wgt i * byteAt L i = tot L n + wgt i * b.toNat
  | 0, hn => by omega
  | n + 1, hn => by
    have e := byteAt_set L i b h n
    simp only [tot]
    by_cases c : n = i
    · subst c
      rw [if_pos rfl] at e
      rw [e, tot_set_out L n b h n (Nat.le_refl _)]
      unfold wgt
      split <;> omega
    · rw [if_neg c] at e
      have ih := tot_set L i b h n (by omega)
      rw [e]
      omega
def flipB (x : UInt8) (k : Nat) : UInt8 := x ^^^ UInt8.ofNat (128 / 2 ^ k)
theorem flipB_fin : ∀ x : Fin 256, ∀ k : Fin 8, (flipB (UInt8.ofNat x.val) k.val).toNat = x.val + 128 / 2 ^ k.val ∨ (flipB (UInt8.ofNat x.val) k.val).toNat + 128 / 2 ^ k.val = x.val := by decide +kernel
theorem flipB_num (x : UInt8) (k : Nat) (h : k < 8) : (flipB x k).toNat = x.toNat + 128 / 2 ^ k ∨ (flipB x k).toNat + 128 / 2 ^ k = x.toNat := by
  have := flipB_fin ⟨x.toNat, x.toNat_lt⟩ ⟨k, h⟩
  simpa using this
/-- One bit turned. -/
def flipL (L : List UInt8) (f : Nat) : List UInt8 := L.set (f / 8) (flipB (L[f / 8]?.getD 0) (f % 8))
theorem flipL_length (L : List UInt8) (f : Nat) : (flipL L f).length = L.length := by simp [flipL]
def bit (f : Nat) : Nat := 2 ^ (15 - f % 16)
theorem bit_fin : ∀ r : Fin 16, (if r.val / 8 % 2 = 0 then 256 else 1) * (128 / 2 ^ (r.val % 8)) = 2 ^ (15 - r.val) := by decide
theorem bit_wgt (f : Nat) : wgt (f / 8) * (128 / 2 ^ (f % 8)) = bit f := by
  have := bit_fin ⟨f % 16, by omega⟩
  unfold wgt bit
  rw [← this]
  simp only
  rw [show f % 16 % 8 = f % 8 by omega, show f % 16 / 8 % 2 = f / 8 % 2 by omega]
theorem tot_flip (L : List UInt8) (f n : Nat) (h : f / 8 < n) (hn : n ≤ L.length) : tot (flipL L f) n = tot L n + bit f ∨ tot (flipL L f) n + bit f = tot L n := by
  have t := tot_set L (f / 8) (flipB (L[f / 8]?.getD 0) (f % 8)) (by omega) n h
  have hb : byteAt L (f / 8) = (L[f / 8]?.getD 0).toNat := rfl
  rw [hb] at t
  have w := bit_wgt f
  unfold flipL
  rcases flipB_num (L[f / 8]?.getD 0) (f % 8) (by omega) with e | e
  · left
    rw [e, Nat.mul_add, w] at t
    omega
  · right
    rw [← e, Nat.mul_add, w] at t
    omega
theorem bit_two : ∀ a b : Fin 16, a ≠ b → 2 ^ a.val ≠ 2 ^ b.val ∧ 2 ^ a.val + 2 ^ b.val < 65535 ∧ 0 < 2 ^ a.val ∧ 0 < 2 ^ b.val := by decide
theorem bit_one (f : Nat) : 0 < bit f ∧ bit f < 65535 := by
  unfold bit
  have : ∀ r : Fin 16, 0 < 2 ^ (15 - r.val) ∧ 2 ^ (15 - r.val) < 65535 := by decide
  exact this ⟨f % 16, by omega⟩
theorem bits_apart (f s : Nat) (h1 : f < s) (h2 : s ≤ f + 15) : bit f ≠ bit s ∧ bit f + bit s < 65535 := by
  have := bit_two ⟨15 - f % 16, by omega⟩ ⟨15 - s % 16, by omega⟩ (by simp; omega)
  exact ⟨this.1, this.2.1⟩
theorem errP_sum (L : List UInt8) (h0 : byteAt L 0 = 69) (he : errP L = 0) : 20 ≤ L.length ∧ can (tot L 20) = 65535 := by
  have hs : startP L = 20 := by unfold startP; rw [h0]
  unfold errP at he
  rw [hs] at he
  by_cases h1 : L.length < 20
  · rw [if_pos h1] at he; cases he
  · rw [if_neg h1, if_neg (by rw [h0]; decide), if_neg (by omega)] at he
    split at he
    · cases he
    · split at he
      · cases he
      · rename_i h
        have : sumA (L.take 20) = 0 := by omega
        rw [sumA_head L 20 (by omega)] at this
        exact ⟨by omega, by omega⟩
theorem flip_first (L : List UInt8) (f : Nat) (h : 8 ≤ f) : byteAt (flipL L f) 0 = byteAt L 0 := by
  unfold flipL byteAt
  rw [List.getElem?_set_ne (by omega)]
/-- With one bit, or two that stand near one another, turned, there is no header. -/
theorem flip_one (L : List UInt8) (f : Nat) (h0 : byteAt L 0 = 69) (he : errP L = 0) (h1 : 8 ≤ f) (h2 : f < 160) : errP (flipL L f) ≠ 0 := by
  intro e
  obtain ⟨k1, k2⟩ := errP_sum L h0 he
  obtain ⟨_, k4⟩ := errP_sum _ ((flip_first L f h1).trans h0) e
  have t := tot_flip L f 20 (by omega) k1
  have b := bit_one f
  rw [can_full] at k2 k4
  omega
theorem flip_two (L : List UInt8) (f s : Nat) (h0 : byteAt L 0 = 69) (he : errP L = 0) (h1 : 8 ≤ f) (h2 : f < s) (h3 : s ≤ f + 15) (h4 : s < 160) : errP (flipL (flipL L f) s) ≠ 0 := by
  intro e
  obtain ⟨k1, k2⟩ := errP_sum L h0 he
  obtain ⟨_, k4⟩ := errP_sum _ (((flip_first _ s (by omega)).trans (flip_first L f h1)).trans h0) e
  have t := tot_flip L f 20 (by omega) k1
  have u := tot_flip (flipL L f) s 20 (by omega) (by rw [flipL_length]; omega)
  have b := bits_apart f s h2 h3
  have b1 := bit_one f
  have b2 := bit_one s
  rw [can_full] at k2 k4
  omega

/-- What the bytes of a number are, one by one. -/
theorem be1 (x : Nat) : be x 1 = [UInt8.ofNat x] := by simp [be]
theorem be2 (x : Nat) : be x 2 = [UInt8.ofNat (x / 256), UInt8.ofNat x] := by simp [be]
theorem byteAt_app (a b : List UInt8) (k j : Nat) (h : k = a.length + j) : byteAt (a ++ b) k = byteAt b j := by
  subst h
  unfold byteAt
  rw [List.getElem?_append_right (by omega), Nat.add_sub_cancel_left]
theorem byteAt_left (a b : List UInt8) (k : Nat) (h : k < a.length) : byteAt (a ++ b) k = byteAt a k := by
  unfold byteAt
  rw [List.getElem?_append_left h]
theorem two_be (x : Nat) (h : x < 65536) (b : List UInt8) : twoA (be x 2 ++ b) 0 = x := by
  unfold twoA byteAt
  rw [be2]
  simp
  omega
theorem twoA_app (a b : List UInt8) (k j : Nat) (h : k = a.length + j) : twoA (a ++ b) k = twoA b j := by
  unfold twoA
  rw [byteAt_app a b k j h, byteAt_app a b (k + 1) (j + 1) (by omega)]
theorem tot_be (x : Nat) (h : x < 65536) : tot (be x 2) 2 = x := by
  rw [be2]
  simp [tot, byteAt]
  omega
/-- A header that fits its fields. -/
structure Hd.Fit (h : Hd) : Prop where
  sh : h.sh = 0
  dh : h.dh = 0
  sl : h.sl < 4294967296
  dl : h.dl < 4294967296
  proto : 0 ≤ h.proto ∧ h.proto ≤ 255
  off : 0 ≤ h.off ∧ h.off ≤ 8191
theorem head_sum (h : Hd) (size : Int) : can (tot (headA h size) 20) = 65535 := by
  unfold headA
  obtain ⟨X, hX⟩ : ∃ X, aA h size = X := ⟨_, rfl⟩
  obtain ⟨Y, hY⟩ : ∃ Y, bA h = Y := ⟨_, rfl⟩
  have lx : X.length = 10 := by rw [← hX]; simp [aA, be_length]
  have ly : Y.length = 8 := by rw [← hY]; simp [bA, be_length]
  rw [hX, hY]
  have e2 := tot_app X Y (by omega) 8
  have q := sumA_in (X ++ Y)
  have e0 : sumA (X ++ Y) = 65535 - (can (tot X 10 + tot Y 8) : Int) := by
    unfold sumA
    rw [show (X ++ Y).length = X.length + 8 by rw [List.length_append, ly], e2, lx]
  obtain ⟨n, hn⟩ : ∃ n : Nat, sumA (X ++ Y) = n := ⟨(sumA (X ++ Y)).toNat, by omega⟩
  rw [hn, u64n_nat n (by omega)]
  have e1 := tot_app (X ++ be n 2) Y (by rw [List.length_append, be_length]; omega) 8
  have e3 := tot_app X (be n 2) (by omega) 2
  rw [show (X ++ be n 2).length = X.length + 2 by rw [List.length_append, be_length], e3, tot_be n (by omega), lx] at e1
  rw [show (20 : Nat) = 10 + 2 + 8 from rfl, e1, show tot X 10 + n + tot Y 8 = (tot X 10 + tot Y 8) + n by omega, can_add _ n (by omega)]
  have c := can_le (tot X 10 + tot Y 8)
  rw [if_neg (by omega)]
  omega
theorem pack_length (h : Hd) (l : List UInt8) (hl : l.length ≤ 200) : (packA h l).length = 20 + l.length := by
  unfold packA
  rw [if_neg (by omega), List.length_append, headA_length]
theorem pack_facts (h : Hd) (ft : h.Fit) (l : List UInt8) (hl : l.length ≤ 200) :
    byteAt (packA h l) 0 = 69 ∧ twoA (packA h l) 2 = 20 + l.length ∧ twoA (packA h l) 6 = flagsA h ∧ ((byteAt (packA h l) 9 : Nat) : Int) = h.proto ∧ can (tot (packA h l) 20) = 65535 ∧ num (((packA h l).drop 12).take 4) = h.sl ∧ num (((packA h l).drop 16).take 4) = h.dl := by
  have hs := head_sum h (20 + l.length)
  have hlen := headA_length h (20 + l.length)
  have fl : flagsA h < 65536 := by unfold flagsA; split <;> omega
  have up : u64n h.proto = h.proto.toNat := by have := ft.proto; unfold u64n; omega
  have us : u64n (20 + (l.length : Int)) = 20 + l.length := by unfold u64n; omega
  unfold packA
  rw [if_neg (by omega)]
  refine ⟨?_, ?_, ?_, ?_, ?_, ?_, ?_⟩
  · unfold headA aA
    simp only [List.append_assoc]
    rfl
  · unfold headA aA
    simp only [List.append_assoc]
    rw [twoA_app [69, 0] _ 2 0 (by simp), us, two_be _ (by omega)]
  · unfold headA aA
    simp only [List.append_assoc]
    rw [twoA_app [69, 0] _ 6 4 (by simp), twoA_app (be _ 2) _ 4 2 (by simp [be_length]), twoA_app [0, 0] _ 2 0 (by simp), two_be _ fl]
  · unfold headA aA
    simp only [List.append_assoc]
    rw [byteAt_app [69, 0] _ 9 7 (by simp), byteAt_app (be _ 2) _ 7 5 (by simp [be_length]), byteAt_app [0, 0] _ 5 3 (by simp), byteAt_app (be _ 2) _ 3 1 (by simp [be_length]), byteAt_app [0] _ 1 0 (by simp), up, be1]
    have := ft.proto
    simp [byteAt]
    omega
  · have := tot_take (headA h (20 + l.length) ++ l) 20 20 (Nat.le_refl _)
    rw [List.take_append_of_le_length (by omega), List.take_of_length_le (by omega)] at this
    rw [← this]
    exact hs
  · have e : ((headA h (20 + l.length) ++ l).drop 12).take 4 = be h.sl 4 := by
      unfold headA bA
      simp only [List.append_assoc]
      rw [← List.append_assoc, List.drop_append_of_le_length (by simp [aA, be_length]), List.drop_of_length_le (by simp [aA, be_length]), List.nil_append, List.take_append_of_le_length (by simp [be_length]), List.take_of_length_le (by simp [be_length])]
    rw [e, num_be _ _ (by have := ft.sl; simpa using this)]
  · have e : ((headA h (20 + l.length) ++ l).drop 16).take 4 = be h.dl 4 := by
      unfold headA bA
      simp only [List.append_assoc]
      rw [← List.append_assoc, ← List.append_assoc, List.drop_append_of_le_length (by simp [aA, be_length]), List.drop_of_length_le (by simp [aA, be_length]), List.nil_append, List.take_append_of_le_length (by simp [be_length]), List.take_of_length_le (by simp [be_length])]
    rw [e, num_be _ _ (by have := ft.dl; simpa using this)]
/-- What is made is read. -/
theorem pack_back (h : Hd) (ft : h.Fit) (l : List UInt8) (hl : l.length ≤ 200) : errP (packA h l) = 0 ∧ hdP (packA h l) = { h with start := 20, size := ((20 + l.length : Nat) : Int) } := by
  obtain ⟨f0, f2, f6, f9, fs, f12, f16⟩ := pack_facts h ft l hl
  have ln := pack_length h l hl
  have st : startP (packA h l) = 20 := by unfold startP; rw [f0]
  have e : errP (packA h l) = 0 := by
    unfold errP
    rw [st, f2, f0, ln, if_neg (by omega), if_neg (by decide), if_neg (by omega), if_neg (by omega), sumA_head _ 20 (by omega), fs]
    rfl
  refine ⟨e, ?_⟩
  unfold hdP
  rw [if_pos e]
  unfold wholeP
  rw [st, f2, f6, f9, f12, f16]
  have uo : u64n h.off = h.off.toNat := by have := ft.off; unfold u64n; omega
  have ho := ft.off
  have g1 : ((flagsA h % 8192 : Nat) : Int) = h.off := by unfold flagsA; rw [uo]; split <;> omega
  have g2 : decide (flagsA h / 8192 % 2 = 1) = h.more := by
    unfold flagsA
    rw [uo]
    cases h.more
    · rw [if_neg (by decide)]
      exact decide_eq_false (by omega)
    · rw [if_pos rfl]
      exact decide_eq_true (by omega)
  rw [g1, g2, ft.sh, ft.dh]
  rfl
/-- With a byte less there is no packet. -/
theorem pack_less (h : Hd) (ft : h.Fit) (l : List UInt8) (hl : l.length ≤ 200) : errP ((packA h l).take (19 + l.length)) ≠ 0 := by
  obtain ⟨f0, f2, f6, f9, fs, f12, f16⟩ := pack_facts h ft l hl
  have ln := pack_length h l hl
  have lt : ((packA h l).take (19 + l.length)).length = 19 + l.length := by rw [List.length_take]; omega
  by_cases c : l.length = 0
  · unfold errP
    rw [lt, if_pos (by omega)]
    decide
  · have b : ∀ k, k < 10 → byteAt ((packA h l).take (19 + l.length)) k = byteAt (packA h l) k := by
      intro k hk
      unfold byteAt
      rw [List.getElem?_take, if_pos (by omega)]
    have t2 : twoA ((packA h l).take (19 + l.length)) 2 = 20 + l.length := by
      rw [← f2]
      unfold twoA
      rw [b 2 (by omega), b 3 (by omega)]
    have s0 : startP ((packA h l).take (19 + l.length)) = 20 := by unfold startP; rw [b 0 (by omega), f0]
    unfold errP
    rw [lt, t2, s0, if_neg (by omega), b 0 (by omega), f0, if_neg (by decide), if_neg (by omega), if_pos (by omega)]
    decide

/-- The block g begins with the bytes L, and behind its cells is the mark of a conversion. -/
def RowF (w : World) (g : Nat) (L : List UInt8) : Prop := ∃ C : Array Value, w.heap[g]? = some (.cells C 5 (C.size, C.size + 1)) ∧ L.length ≤ C.size ∧ ∀ i (h : i < L.length), C[i]? = some (.int .u8 ((L[i]).toNat : Int))
section
variable {w w' : World} {g : Nat} {L : List UInt8}
theorem RowF.lt (h : RowF w g L) : g < w.heap.size := by
  obtain ⟨C, h1, _⟩ := h
  exact (Array.getElem?_eq_some_iff.1 h1).1
theorem RowF.carry {S : List Nat} (h : RowF w g L) (t : Touch S w w') (hg : g ∉ S) : RowF w' g L := by
  have lt := h.lt
  obtain ⟨C, h1, h2⟩ := h
  exact ⟨C, (t.block g lt hg).trans h1, h2⟩
theorem RowF.cell (h : RowF w g L) {i : Nat} (hi : i < L.length) : w.cell? ⟨g, i, none⟩ = some (.int .u8 ((L[i]).toNat : Int)) := by
  obtain ⟨C, h1, h2, h3⟩ := h
  rw [cell_of_row w g i _ _ _ h1]
  exact h3 i hi
theorem RowF.fr (h : RowF w g L) (i : Nat) (hi : i < L.length) : w.frozen? ⟨g, i, none⟩ = false := by
  obtain ⟨C, h1, h2, h3⟩ := h
  simp [World.frozen?, h1]
  omega
theorem RowF.set (h : RowF w g L) (i : Nat) (b : UInt8) (x : Int) (hx : x = (b.toNat : Int)) : RowF (w.setCell ⟨g, i, none⟩ (.int .u8 x)) g (L.set i b) := by
  obtain ⟨C, h1, h2, h3⟩ := h
  refine ⟨C.setIfInBounds i (.int .u8 x), ?_, by simpa using h2, fun j hj => ?_⟩
  · rw [setCell_eq_setRow w g i C _ _ _ h1, setRow_heap w g C _ _ _ h1]
    simp
  · rw [Array.getElem?_setIfInBounds]
    rw [List.length_set] at hj
    by_cases e : i = j
    · subst e
      simp [hx, show i < C.size by omega]
    · rw [if_neg e, h3 j hj, List.getElem_set_ne e]
theorem RowF.bts (h : RowF w g L) (c : Nat) (hc : L.length ≤ c) (hm : c ≤ maxLen) : Bts w (.slice (some ⟨g, 0, none⟩) L.length c) L := by
  refine ⟨_, c, rfl, hc, hm, fun e => by simp at e, fun ad ha j u hu => ?_⟩
  obtain rfl : ⟨g, 0, none⟩ = ad := by simpa using ha
  have hj : j < L.length := by have := (List.getElem?_eq_some_iff.1 hu).1; rwa [byt_length] at this
  rw [show (⟨g, 0, none⟩ : Addr).add j = ⟨g, j, none⟩ by unfold Addr.add; split <;> simp_all, h.cell hj]
  simpa [byt, hj] using hu
end
theorem conv_bytes (L : List UInt8) (hL : L.length ≤ 100000) (w : World) : ∃ c, L.length ≤ c ∧ c ≤ maxLen ∧ (convert 9 63 (.string (S L))).run Try.prog w = .ok (.slice (some ⟨w.heap.size, 0, none⟩) L.length c) (Lib.bytesWorld w 5 (S L)) ∧ RowF (Lib.bytesWorld w 5 (S L)) w.heap.size L ∧ Touch [] w (Lib.bytesWorld w 5 (S L)) := by
  have hs : (S L).size = L.length := S_size L
  have k := Lib.run_convert_string_bytes (P := Try.prog) w 9 63 5 (S L) Try.underlying9 Try.underlying63 Try.underlying5
  rw [hs] at k
  refine ⟨grownCap w L.length 0 5, grownCap_ge w _ _ _, grownCap_le_maxLen w _ _ _ (by unfold maxLen; omega), k, ?_, ?_⟩
  · refine ⟨Lib.bytesCells w 5 (S L), Lib.bytesWorld_at_new w _ _, ?_, fun i hi => ?_⟩
    · simp [Lib.bytesCells, hs]
    · simp [Lib.bytesCells, Array.getElem?_append, S, hi]
  · exact ⟨rfl, rfl, rfl, by rw [Lib.bytesWorld_size]; omega, fun b hb _ => Lib.bytesWorld_at_old w _ _ b hb⟩
theorem xor_fin : ∀ x : Fin 256, ∀ k : Fin 8, bits .xor .u8 (x.val : Int) ((128 / 2 ^ k.val : Nat) : Int) = ((flipB (UInt8.ofNat x.val) k.val).toNat : Int) := by decide +kernel
theorem xor_bit (x : UInt8) (k : Nat) (h : k < 8) : bits .xor .u8 (x.toNat : Int) ((128 / 2 ^ k : Nat) : Int) = ((flipB x k).toNat : Int) := by
  have := xor_fin ⟨x.toNat, x.toNat_lt⟩ ⟨k, h⟩
  simpa using this
end Go.Proofs.Ytonchibngcoefaa
