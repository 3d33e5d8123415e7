/-
  The contracts on which the law's proof rests, bound together in build order: Ipv6Math.
-/
import Derived.Test.YtgdeeofblieiiaaDoorAllD
/-
  Layer 12 (ipv6): what is made is read; with a byte less there is no packet.
-/
namespace Go.Proofs.YtgdeeofblieiiaaDoor
open Go.ChangeShapes Go.WideShapes Go.ChangeAt Go.RowKit Go.Deep
set_option linter.unusedVariables false
set_option linter.unusedSimpArgs false

theorem byteAt_left (x y : List UInt8) (k : Nat) (h : k < x.length) : byteAt (x ++ y) k = byteAt x k := by unfold byteAt; rw [List.getElem?_append_left h]
theorem twoA_left (x y : List UInt8) (k : Nat) (h : k + 1 < x.length) : twoA (x ++ y) k = twoA x k := by unfold twoA; rw [byteAt_left x y k (by omega), byteAt_left x y (k + 1) h]
theorem mid_of (A B C : List UInt8) (a b : Nat) (hA : A.length = a) (hB : B.length = b) : ((A ++ (B ++ C)).drop a).take b = B := by
  subst hA hB
  simp
theorem u64n_small {p : Int} (h : 0 ≤ p ∧ p ≤ 255) : u64n p = p.toNat := by unfold u64n; omega

theorem ext_byte0 (h : Hd) (p q : Int) (r : List UInt8) : byteAt (extA h p q ++ r) 0 = u64n q % 256 := by
  have : byteAt (extA h p q ++ r) 0 = (UInt8.ofNat (u64n q / 256 ^ 0)).toNat := rfl
  rw [this]
  simp
theorem ext_byte1 (h : Hd) (p q : Int) (r : List UInt8) : byteAt (extA h p q ++ r) 1 = 0 := rfl
theorem ext_two (h : Hd) (q : Int) (r : List UInt8) (ho : 0 ≤ h.off ∧ h.off ≤ 8191) : twoA (extA h 44 q ++ r) 2 = flags6 h := by
  have e : twoA (extA h 44 q ++ r) 2 = (UInt8.ofNat (flags6 h / 256 ^ 1)).toNat * 256 + (UInt8.ofNat (flags6 h / 256 ^ 0)).toNat := rfl
  rw [e]
  have hf : flags6 h < 65536 := by unfold flags6; split <;> omega
  simp
  omega

theorem walk_exts (h : Hd) (pay : List UInt8) (hp : 0 ≤ h.proto ∧ h.proto ≤ 255) (hnf : fol h.proto = false) (ho : 0 ≤ h.off ∧ h.off ≤ 8191) : ∀ (ks : List Int) (fuel : Nat) (g : Hd), (∀ p ∈ ks, fol p = true) → ks.length ≤ fuel → (44 ∈ ks → h.off = 0) → g.proto = nextOf h ks → g.off = 0 →
    walkE fuel g (extsA h ks ++ pay) = 0 ∧ walkH fuel g (extsA h ks ++ pay) = { g with proto := h.proto, start := g.start + 8 * (ks.length : Int), more := if 44 ∈ ks then h.more else g.more }
  | [], fuel, g, _, _, _, hg, ho0 => by
    have hst : stop6 g = true := by
      have : g.proto = h.proto := hg
      simp [stop6, this, hnf]
    obtain ⟨w1, w2⟩ := walk_stop fuel g (extsA h [] ++ pay) hst
    refine ⟨w1, ?_⟩
    rw [w2]
    have : g.proto = h.proto := hg
    obtain ⟨a, b, c, d, e, f, i, j, k⟩ := g
    simp only at this
    subst this
    simp
  | p :: ks, 0, g, _, hl, _, _, _ => by simp at hl
  | p :: ks, fuel + 1, g, hall, hl, h44, hg, ho0 => by
    have hpf : fol p = true := hall p (by simp)
    have hgp : g.proto = p := hg
    have hst : stop6 g = false := by simp [stop6, hgp, hpf, ho0]
    have es : extsA h (p :: ks) ++ pay = extA h p (nextOf h ks) ++ (extsA h ks ++ pay) := by simp [extsA]
    rw [es]
    have hq : 0 ≤ nextOf h ks ∧ nextOf h ks ≤ 255 := by
      cases ks with
      | nil => exact hp
      | cons k' ks' =>
        have := fol_in (hall k' (by simp))
        show 0 ≤ k' ∧ k' ≤ 255
        omega
    have b0 := ext_byte0 h p (nextOf h ks) (extsA h ks ++ pay)
    have b1 := ext_byte1 h p (nextOf h ks) (extsA h ks ++ pay)
    have hln : (extA h p (nextOf h ks) ++ (extsA h ks ++ pay)).length = 8 + (extsA h ks ++ pay).length := by rw [List.length_append, extA_length]
    have hdr : (extA h p (nextOf h ks) ++ (extsA h ks ++ pay)).drop 8 = extsA h ks ++ pay := List.drop_left' (extA_length h p _)
    have hl6 : len6 g.proto (extA h p (nextOf h ks) ++ (extsA h ks ++ pay)) = 8 := by
      unfold len6
      rw [b1]
      split <;> rfl
    have t2 : p = 44 → twoA (extA h p (nextOf h ks) ++ (extsA h ks ++ pay)) 2 = flags6 h := fun e => by subst e; exact ext_two h _ _ ho
    generalize extA h p (nextOf h ks) ++ (extsA h ks ++ pay) = s at *
    obtain ⟨w1, w2⟩ := walk_next fuel g s hst (by omega) (by rw [hl6]; omega)
    rw [hl6, hdr] at w1 w2
    have hb0 : ((byteAt s 0 : Nat) : Int) = nextOf h ks := by
      rw [b0, u64n_small hq]
      omega
    have hgo : (step6 g s).off = 0 := by
      unfold step6 frag
      by_cases e : g.proto = 44
      · rw [if_pos e]
        have h0 : h.off = 0 := h44 (by rw [← e, hgp]; simp)
        rw [t2 (hgp.symm.trans e)]
        show ((flags6 h / 8 : Nat) : Int) = 0
        have hu : u64n h.off = 0 := by rw [h0]; rfl
        unfold flags6
        rw [hu]
        split <;> simp
      · rw [if_neg e]
        exact ho0
    have hgm : (step6 g s).more = if p = 44 then h.more else g.more := by
      unfold step6 frag
      by_cases e : g.proto = 44
      · rw [if_pos e, if_pos (hgp.symm.trans e), t2 (hgp.symm.trans e)]
        show decide (flags6 h % 2 = 1) = h.more
        unfold flags6
        cases h.more
        · rw [if_neg (by decide)]
          exact decide_eq_false (by omega)
        · rw [if_pos rfl]
          exact decide_eq_true (by omega)
      · rw [if_neg e, if_neg (fun e' => e (hgp.trans e'))]
    have hgr : (step6 g s).sh = g.sh ∧ (step6 g s).sl = g.sl ∧ (step6 g s).dh = g.dh ∧ (step6 g s).dl = g.dl ∧ (step6 g s).size = g.size ∧ (step6 g s).start = g.start + 8 := by
      unfold step6 frag
      rw [hl6]
      split <;> exact ⟨rfl, rfl, rfl, rfl, rfl, rfl⟩
    have hgq : (step6 g s).proto = nextOf h ks := hb0
    obtain ⟨i1, i2⟩ := walk_exts h pay hp hnf ho ks fuel (step6 g s) (fun q hq => hall q (by simp [hq])) (by simpa using hl) (fun hm => h44 (by simp [hm])) hgq hgo
    refine ⟨w1.trans i1, (w2.trans i2).trans ?_⟩
    generalize step6 g s = g' at *
    obtain ⟨a', b', c', d', e', f', i', j', k'⟩ := g'
    obtain ⟨a, b, c, d, e, f, i, j, k⟩ := g
    simp only at hgr hgm hgo ho0 hgq
    obtain ⟨rfl, rfl, rfl, rfl, rfl, rfl⟩ := hgr
    subst hgo ho0 hgm
    simp only [List.mem_cons, List.length_cons]
    congr 1
    · push_cast
      omega
    · by_cases m44 : 44 ∈ ks
      · simp [m44]
      · by_cases e : p = 44
        · simp [e]
        · have e' : ¬ 44 = p := fun x => e x.symm
          simp [m44, e, e']

structure Hd.Fit6 (h : Hd) : Prop where
  ok : h.Ok6
  proto : 0 ≤ h.proto ∧ h.proto ≤ 255
  nf : fol h.proto = false
  off : 0 ≤ h.off ∧ h.off ≤ 8191
theorem pack6_eq (h : Hd) (l : List Int) (pay : List UInt8) (hl : l.length ≤ 8) (hp : pay.length ≤ 200) : pack6 h l pay = headA6 h (nextOf h (l.filter fol)) (8 * (l.filter fol).length + pay.length) ++ (extsA h (l.filter fol) ++ pay) := by
  unfold pack6
  rw [if_neg (by omega)]
theorem pack6_length (h : Hd) (l : List Int) (pay : List UInt8) (hl : l.length ≤ 8) (hp : pay.length ≤ 200) : (pack6 h l pay).length = 40 + 8 * (l.filter fol).length + pay.length := by
  rw [pack6_eq h l pay hl hp, List.length_append, List.length_append, headA6_length, extsA_length]
  omega
theorem next_in (h : Hd) (ft : h.Fit6) (l : List Int) : 0 ≤ nextOf h (l.filter fol) ∧ nextOf h (l.filter fol) ≤ 255 := by
  cases hk : l.filter fol with
  | nil => exact ft.proto
  | cons k ks =>
    have : k ∈ l.filter fol := by rw [hk]; simp
    have := fol_in (List.mem_filter.1 this).2
    show 0 ≤ k ∧ k ≤ 255
    omega
/-- The places of a packet that Parse reads. -/
theorem pack6_facts (h : Hd) (ft : h.Fit6) (l : List Int) (pay : List UInt8) (hl : l.length ≤ 8) (hp : pay.length ≤ 200) :
    byteAt (pack6 h l pay) 0 = 96 ∧ twoA (pack6 h l pay) 4 = 8 * (l.filter fol).length + pay.length ∧ ((byteAt (pack6 h l pay) 6 : Nat) : Int) = nextOf h (l.filter fol) ∧
    num (((pack6 h l pay).drop 8).take 8) = h.sh ∧ num (((pack6 h l pay).drop 16).take 8) = h.sl ∧ num (((pack6 h l pay).drop 24).take 8) = h.dh ∧ num (((pack6 h l pay).drop 32).take 8) = h.dl ∧
    body6 (pack6 h l pay) = extsA h (l.filter fol) ++ pay := by
  have hfl : (l.filter fol).length ≤ 8 := Nat.le_trans (List.length_filter_le _ _) hl
  have hnx := next_in h ft l
  have e := pack6_eq h l pay hl hp
  have hel := extsA_length h (l.filter fol)
  rw [e]
  generalize l.filter fol = ks at *
  have h2 : twoA (headA6 h (nextOf h ks) (8 * ks.length + pay.length) ++ (extsA h ks ++ pay)) 4 = 8 * ks.length + pay.length := by
    rw [twoA_left _ _ 4 (by rw [headA6_length]; omega)]
    have e1 : twoA (headA6 h (nextOf h ks) (8 * ks.length + pay.length)) 4 = (UInt8.ofNat (u64n (8 * ks.length + pay.length) / 256 ^ 1)).toNat * 256 + (UInt8.ofNat (u64n (8 * ks.length + pay.length) / 256 ^ 0)).toNat := rfl
    have e2 : u64n (8 * (ks.length : Int) + (pay.length : Int)) = 8 * ks.length + pay.length := by unfold u64n; omega
    rw [e1, e2]
    simp
    omega
  refine ⟨?_, h2, ?_, ?_, ?_, ?_, ?_, ?_⟩
  · rw [byteAt_left _ _ 0 (by rw [headA6_length]; omega)]
    rfl
  · rw [byteAt_left _ _ 6 (by rw [headA6_length]; omega)]
    have e1 : byteAt (headA6 h (nextOf h ks) (8 * ks.length + pay.length)) 6 = (UInt8.ofNat (u64n (nextOf h ks) / 256 ^ 0)).toNat := rfl
    rw [e1, u64n_small hnx]
    simp
    omega
  · rw [show headA6 h (nextOf h ks) (8 * ks.length + pay.length) ++ (extsA h ks ++ pay) = ([96, 0, 0, 0] ++ be (u64n (8 * ks.length + pay.length)) 2 ++ be (u64n (nextOf h ks)) 1 ++ [0]) ++ (be h.sh 8 ++ (be h.sl 8 ++ (be h.dh 8 ++ be h.dl 8) ++ (extsA h ks ++ pay))) by simp only [headA6, List.append_assoc]]
    rw [mid_of _ (be h.sh 8) _ 8 8 (by simp [be_length]) (be_length _ _), num_be _ _ ft.ok.sh]
  · rw [show headA6 h (nextOf h ks) (8 * ks.length + pay.length) ++ (extsA h ks ++ pay) = ([96, 0, 0, 0] ++ be (u64n (8 * ks.length + pay.length)) 2 ++ be (u64n (nextOf h ks)) 1 ++ [0] ++ be h.sh 8) ++ (be h.sl 8 ++ ((be h.dh 8 ++ be h.dl 8) ++ (extsA h ks ++ pay))) by simp only [headA6, List.append_assoc]]
    rw [mid_of _ (be h.sl 8) _ 16 8 (by simp [be_length]) (be_length _ _), num_be _ _ ft.ok.sl]
  · rw [show headA6 h (nextOf h ks) (8 * ks.length + pay.length) ++ (extsA h ks ++ pay) = ([96, 0, 0, 0] ++ be (u64n (8 * ks.length + pay.length)) 2 ++ be (u64n (nextOf h ks)) 1 ++ [0] ++ be h.sh 8 ++ be h.sl 8) ++ (be h.dh 8 ++ (be h.dl 8 ++ (extsA h ks ++ pay))) by simp only [headA6, List.append_assoc]]
    rw [mid_of _ (be h.dh 8) _ 24 8 (by simp [be_length]) (be_length _ _), num_be _ _ ft.ok.dh]
  · rw [show headA6 h (nextOf h ks) (8 * ks.length + pay.length) ++ (extsA h ks ++ pay) = ([96, 0, 0, 0] ++ be (u64n (8 * ks.length + pay.length)) 2 ++ be (u64n (nextOf h ks)) 1 ++ [0] ++ be h.sh 8 ++ be h.sl 8 ++ be h.dh 8) ++ (be h.dl 8 ++ (extsA h ks ++ pay)) by simp only [headA6, List.append_assoc]]
    rw [mid_of _ (be h.dl 8) _ 32 8 (by simp [be_length]) (be_length _ _), num_be _ _ ft.ok.dl]
  · unfold body6
    rw [h2]
    have := mid_of (headA6 h (nextOf h ks) (8 * ks.length + pay.length)) (extsA h ks ++ pay) [] 40 (8 * ks.length + pay.length) (headA6_length _ _ _) (by rw [List.length_append, hel])
    rwa [List.append_nil] at this

def back6 (h : Hd) (l : List Int) (pay : List UInt8) : Hd :=
  ⟨h.sh, h.sl, h.dh, h.dl, h.proto, 40 + 8 * ((l.filter fol).length : Int), 40 + 8 * ((l.filter fol).length : Int) + (pay.length : Int), 0, if 44 ∈ l then h.more else false⟩
theorem pack6_back (h : Hd) (ft : h.Fit6) (l : List Int) (pay : List UInt8) (hl : l.length ≤ 8) (hp : pay.length ≤ 200) (h44 : 44 ∈ l → h.off = 0) : err6 (pack6 h l pay) = 0 ∧ hd6 (pack6 h l pay) = back6 h l pay := by
  obtain ⟨f0, f4, f6, n1, n2, n3, n4, fb⟩ := pack6_facts h ft l pay hl hp
  have ln := pack6_length h l pay hl hp
  have hfl : (l.filter fol).length ≤ 8 := Nat.le_trans (List.length_filter_le _ _) hl
  have eB : errB (pack6 h l pay) = 0 := by
    unfold errB
    rw [ln, f0, f4, if_neg (by omega), if_neg (by decide), if_neg (by omega)]
  have hB : hdB (pack6 h l pay) = ⟨h.sh, h.sl, h.dh, h.dl, nextOf h (l.filter fol), 40, 40 + ((8 * (l.filter fol).length + pay.length : Nat) : Int), 0, false⟩ := by
    unfold hdB
    rw [n1, n2, n3, n4, f6, f4]
  have m44 : (44 ∈ l.filter fol) = (44 ∈ l) := by
    apply propext
    rw [List.mem_filter]
    exact ⟨fun x => x.1, fun x => ⟨x, by decide⟩⟩
  obtain ⟨w1, w2⟩ := walk_exts h pay ft.proto ft.nf ft.off (l.filter fol) 8 (hdB (pack6 h l pay)) (fun p hp => (List.mem_filter.1 hp).2) hfl (fun hm => h44 (by rwa [m44] at hm)) (by rw [hB]) (by rw [hB])
  have e6 : err6 (pack6 h l pay) = 0 := by unfold err6; rw [if_pos eB, fb, w1]
  refine ⟨e6, ?_⟩
  unfold hd6
  rw [if_pos e6, fb, w2, hB]
  unfold back6
  simp only [m44]
  congr 1
  omega
theorem pack6_less (h : Hd) (ft : h.Fit6) (l : List Int) (pay : List UInt8) (hl : l.length ≤ 8) (hp : pay.length ≤ 200) : err6 ((pack6 h l pay).take (39 + 8 * (l.filter fol).length + pay.length)) ≠ 0 := by
  obtain ⟨f0, f4, _⟩ := pack6_facts h ft l pay hl hp
  have ln := pack6_length h l pay hl hp
  have lt : ((pack6 h l pay).take (39 + 8 * (l.filter fol).length + pay.length)).length = 39 + 8 * (l.filter fol).length + pay.length := by rw [List.length_take]; omega
  have eB : errB ((pack6 h l pay).take (39 + 8 * (l.filter fol).length + pay.length)) = 5 ∨ errB ((pack6 h l pay).take (39 + 8 * (l.filter fol).length + pay.length)) = 6 := by
    by_cases c : 8 * (l.filter fol).length + pay.length = 0
    · left
      unfold errB
      rw [lt, if_pos (by omega)]
    · right
      have b : ∀ k, k < 10 → byteAt ((pack6 h l pay).take (39 + 8 * (l.filter fol).length + pay.length)) k = byteAt (pack6 h l pay) k := by
        intro k hk
        unfold byteAt
        rw [List.getElem?_take, if_pos (by omega)]
      have t4 : twoA ((pack6 h l pay).take (39 + 8 * (l.filter fol).length + pay.length)) 4 = 8 * (l.filter fol).length + pay.length := by
        rw [← f4]
        unfold twoA
        rw [b 4 (by omega), b (4 + 1) (by omega)]
      unfold errB
      rw [lt, t4, b 0 (by omega), f0, if_neg (by omega), if_neg (by decide), if_pos (by omega)]
  unfold err6
  rcases eB with e | e <;> rw [e, if_neg (by decide)] <;> decide
end Go.Proofs.YtgdeeofblieiiaaDoor
