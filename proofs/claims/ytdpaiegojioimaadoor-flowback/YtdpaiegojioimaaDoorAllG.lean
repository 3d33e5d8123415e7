/-
  The contracts on which the law's proof rests, bound together in build order: FlowPack, Flow11, Phi2, Phi3.
-/
import Derived.Test.YtdpaiegojioimaaDoorAllF
import Derived.Test.YtdpaiegojioimaaDoorAllC
import Derived.BigFrame
import Derived.BigRegion
import Derived.BigCall
/-
  Layer 14 (flow): what Make built is read, for greater payloads than the laws of ipv4 and ipv6 look at.
-/
namespace Go.Proofs.YtdpaiegojioimaaDoor
open Go.ChangeShapes Go.WideShapes Go.ChangeAt Go.RowKit Go.Deep
set_option linter.unusedVariables false
set_option linter.unusedSimpArgs false

theorem tot_take (L : List UInt8) (n : Nat) : ∀ k, k ≤ n → tot (L.take n) k = tot L k
  | 0, _ => rfl
  | k + 1, h => by
    simp only [tot]
    rw [tot_take L n k (by omega)]
    have : byteAt (L.take n) k = byteAt L k := by unfold byteAt; rw [List.getElem?_take, if_pos (by omega)]
    rw [this]
theorem sumA_head (L : List UInt8) (n : Nat) (h : n ≤ L.length) : sumA (L.take n) = 65535 - (can (tot L n) : Int) := by
  unfold sumA
  rw [List.length_take, Nat.min_eq_left h, tot_take L n n (Nat.le_refl _)]
theorem be1 (x : Nat) : be x 1 = [UInt8.ofNat x] := by simp [be]
theorem be2 (x : Nat) : be x 2 = [UInt8.ofNat (x / 256), UInt8.ofNat x] := by simp [be]
theorem byteAt_app (a b : List UInt8) (k j : Nat) (h : k = a.length + j) : byteAt (a ++ b) k = byteAt b j := by
  subst h
  unfold byteAt
  rw [List.getElem?_append_right (by omega), Nat.add_sub_cancel_left]
theorem two_be (x : Nat) (h : x < 65536) (b : List UInt8) : twoA (be x 2 ++ b) 0 = x := by
  unfold twoA byteAt
  rw [be2]
  simp
  omega
theorem twoA_app (a b : List UInt8) (k j : Nat) (h : k = a.length + j) : twoA (a ++ b) k = twoA b j := by
  unfold twoA
  rw [byteAt_app a b k j h, byteAt_app a b (k + 1) (j + 1) (by omega)]
theorem tot_be (x : Nat) (h : x < 65536) : tot (be x 2) 2 = x := by
  rw [be2]
  simp [tot, byteAt]
  omega
structure Hd.Fit (h : Hd) : Prop where
  sh : h.sh = 0
  dh : h.dh = 0
  sl : h.sl < 4294967296
  dl : h.dl < 4294967296
  proto : 0 ≤ h.proto ∧ h.proto ≤ 255
  off : 0 ≤ h.off ∧ h.off ≤ 8191
theorem head_sum (h : Hd) (size : Int) : can (tot (headA h size) 20) = 65535 := by
  unfold headA
  obtain ⟨X, hX⟩ : ∃ X, aA h size = X := ⟨_, rfl⟩
  obtain ⟨Y, hY⟩ : ∃ Y, bA h = Y := ⟨_, rfl⟩
  have lx : X.length = 10 := by rw [← hX]; simp [aA, be_length]
  have ly : Y.length = 8 := by rw [← hY]; simp [bA, be_length]
  rw [hX, hY]
  have e2 := tot_app X Y (by omega) 8
  have q := sumA_in (X ++ Y)
  have e0 : sumA (X ++ Y) = 65535 - (can (tot X 10 + tot Y 8) : Int) := by
    unfold sumA
    rw [show (X ++ Y).length = X.length + 8 by rw [List.length_append, ly], e2, lx]
  obtain ⟨n, hn⟩ : ∃ n : Nat, sumA (X ++ Y) = n := ⟨(sumA (X ++ Y)).toNat, by omega⟩
  rw [hn, u64n_nat n (by omega)]
  have e1 := tot_app (X ++ be n 2) Y (by rw [List.length_append, be_length]; omega) 8
  have e3 := tot_app X (be n 2) (by omega) 2
  rw [show (X ++ be n 2).length = X.length + 2 by rw [List.length_append, be_length], e3, tot_be n (by omega), lx] at e1
  rw [show (20 : Nat) = 10 + 2 + 8 from rfl, e1, show tot X 10 + n + tot Y 8 = (tot X 10 + tot Y 8) + n by omega, can_add _ n (by omega)]
  have c := can_le (tot X 10 + tot Y 8)
  rw [if_neg (by omega)]
  omega
theorem pack_length (h : Hd) (l : List UInt8) (hl : l.length ≤ 60000) : (packA h l).length = 20 + l.length := by
  unfold packA
  rw [if_neg (by omega), List.length_append, headA_length]
theorem pack_facts (h : Hd) (ft : h.Fit) (l : List UInt8) (hl : l.length ≤ 60000) :
    byteAt (packA h l) 0 = 69 ∧ twoA (packA h l) 2 = 20 + l.length ∧ twoA (packA h l) 6 = flagsA h ∧ ((byteAt (packA h l) 9 : Nat) : Int) = h.proto ∧ can (tot (packA h l) 20) = 65535 ∧ num (((packA h l).drop 12).take 4) = h.sl ∧ num (((packA h l).drop 16).take 4) = h.dl := by
  have hs := head_sum h (20 + l.length)
  have hlen := headA_length h (20 + l.length)
  have fl : flagsA h < 65536 := by unfold flagsA; split <;> omega
  have up : u64n h.proto = h.proto.toNat := by have := ft.proto; unfold u64n; omega
  have us : u64n (20 + (l.length : Int)) = 20 + l.length := by unfold u64n; omega
  unfold packA
  rw [if_neg (by omega)]
  refine ⟨?_, ?_, ?_, ?_, ?_, ?_, ?_⟩
  · unfold headA aA
    simp only [List.append_assoc]
    rfl
  · unfold headA aA
    simp only [List.append_assoc]
    rw [twoA_app [69, 0] _ 2 0 (by simp), us, two_be _ (by omega)]
  · unfold headA aA
    simp only [List.append_assoc]
    rw [twoA_app [69, 0] _ 6 4 (by simp), twoA_app (be _ 2) _ 4 2 (by simp [be_length]), twoA_app [0, 0] _ 2 0 (by simp), two_be _ fl]
  · unfold headA aA
    simp only [List.append_assoc]
    rw [byteAt_app [69, 0] _ 9 7 (by simp), byteAt_app (be _ 2) _ 7 5 (by simp [be_length]), byteAt_app [0, 0] _ 5 3 (by simp), byteAt_app (be _ 2) _ 3 1 (by simp [be_length]), byteAt_app [0] _ 1 0 (by simp), up, be1]
    have := ft.proto
    simp [byteAt]
    omega
  · have := tot_take (headA h (20 + l.length) ++ l) 20 20 (Nat.le_refl _)
    rw [List.take_append_of_le_length (by omega), List.take_of_length_le (by omega)] at this
    rw [← this]
    exact hs
  · have e : ((headA h (20 + l.length) ++ l).drop 12).take 4 = be h.sl 4 := by
      unfold headA bA
      simp only [List.append_assoc]
      rw [← List.append_assoc, List.drop_append_of_le_length (by simp [aA, be_length]), List.drop_of_length_le (by simp [aA, be_length]), List.nil_append, List.take_append_of_le_length (by simp [be_length]), List.take_of_length_le (by simp [be_length])]
    rw [e, num_be _ _ (by have := ft.sl; simpa using this)]
  · have e : ((headA h (20 + l.length) ++ l).drop 16).take 4 = be h.dl 4 := by
      unfold headA bA
      simp only [List.append_assoc]
      rw [← List.append_assoc, ← List.append_assoc, List.drop_append_of_le_length (by simp [aA, be_length]), List.drop_of_length_le (by simp [aA, be_length]), List.nil_append, List.take_append_of_le_length (by simp [be_length]), List.take_of_length_le (by simp [be_length])]
    rw [e, num_be _ _ (by have := ft.dl; simpa using this)]
theorem pack_back (h : Hd) (ft : h.Fit) (l : List UInt8) (hl : l.length ≤ 60000) : errP (packA h l) = 0 ∧ hdP (packA h l) = { h with start := 20, size := ((20 + l.length : Nat) : Int) } := by
  obtain ⟨f0, f2, f6, f9, fs, f12, f16⟩ := pack_facts h ft l hl
  have ln := pack_length h l hl
  have st : startP (packA h l) = 20 := by unfold startP; rw [f0]
  have e : errP (packA h l) = 0 := by
    unfold errP
    rw [st, f2, f0, ln, if_neg (by omega), if_neg (by decide), if_neg (by omega), if_neg (by omega), sumA_head _ 20 (by omega), fs]
    rfl
  refine ⟨e, ?_⟩
  unfold hdP
  rw [if_pos e]
  unfold wholeP
  rw [st, f2, f6, f9, f12, f16]
  have uo : u64n h.off = h.off.toNat := by have := ft.off; unfold u64n; omega
  have ho := ft.off
  have g1 : ((flagsA h % 8192 : Nat) : Int) = h.off := by unfold flagsA; rw [uo]; split <;> omega
  have g2 : decide (flagsA h / 8192 % 2 = 1) = h.more := by
    unfold flagsA
    rw [uo]
    cases h.more
    · rw [if_neg (by decide)]
      exact decide_eq_false (by omega)
    · rw [if_pos rfl]
      exact decide_eq_true (by omega)
  rw [g1, g2, ft.sh, ft.dh]
  rfl
theorem pack6_eqW (h : Hd) (l : List Int) (pay : List UInt8) (hl : l.length ≤ 8) (hp : pay.length ≤ 60000) : pack6 h l pay = headA6 h (nextOf h (l.filter fol)) (8 * (l.filter fol).length + pay.length) ++ (extsA h (l.filter fol) ++ pay) := by
  unfold pack6
  rw [if_neg (by omega)]
theorem pack6_lengthW (h : Hd) (l : List Int) (pay : List UInt8) (hl : l.length ≤ 8) (hp : pay.length ≤ 60000) : (pack6 h l pay).length = 40 + 8 * (l.filter fol).length + pay.length := by
  rw [pack6_eqW h l pay hl hp, List.length_append, List.length_append, headA6_length, extsA_length]
  omega
theorem pack6_factsW (h : Hd) (ft : h.Fit6) (l : List Int) (pay : List UInt8) (hl : l.length ≤ 8) (hp : pay.length ≤ 60000) :
    byteAt (pack6 h l pay) 0 = 96 ∧ twoA (pack6 h l pay) 4 = 8 * (l.filter fol).length + pay.length ∧ ((byteAt (pack6 h l pay) 6 : Nat) : Int) = nextOf h (l.filter fol) ∧
    num (((pack6 h l pay).drop 8).take 8) = h.sh ∧ num (((pack6 h l pay).drop 16).take 8) = h.sl ∧ num (((pack6 h l pay).drop 24).take 8) = h.dh ∧ num (((pack6 h l pay).drop 32).take 8) = h.dl ∧
    body6 (pack6 h l pay) = extsA h (l.filter fol) ++ pay := by
  have hfl : (l.filter fol).length ≤ 8 := Nat.le_trans (List.length_filter_le _ _) hl
  have hnx := next_in h ft l
  have e := pack6_eqW h l pay hl hp
  have hel := extsA_length h (l.filter fol)
  rw [e]
  generalize l.filter fol = ks at *
  have h2 : twoA (headA6 h (nextOf h ks) (8 * ks.length + pay.length) ++ (extsA h ks ++ pay)) 4 = 8 * ks.length + pay.length := by
    rw [twoA_left _ _ 4 (by rw [headA6_length]; omega)]
    have e1 : twoA (headA6 h (nextOf h ks) (8 * ks.length + pay.length)) 4 = (UInt8.ofNat (u64n (8 * ks.length + pay.length) / 256 ^ 1)).toNat * 256 + (UInt8.ofNat (u64n (8 * ks.length + pay.length) / 256 ^ 0)).toNat := rfl
    have e2 : u64n (8 * (ks.length : Int) + (pay.length : Int)) = 8 * ks.length + pay.length := by unfold u64n; omega
    rw [e1, e2]
    simp
    omega
  refine ⟨?_, h2, ?_, ?_, ?_, ?_, ?_, ?_⟩
  · rw [byteAt_left _ _ 0 (by rw [headA6_length]; omega)]
    rfl
  · rw [byteAt_left _ _ 6 (by rw [headA6_length]; omega)]
    have e1 : byteAt (headA6 h (nextOf h ks) (8 * ks.length + pay.length)) 6 = (UInt8.ofNat (u64n (nextOf h ks) / 256 ^ 0)).toNat := rfl
    rw [e1, u64n_small hnx]
    simp
    omega
  · rw [show headA6 h (nextOf h ks) (8 * ks.length + pay.length) ++ (extsA h ks ++ pay) = ([96, 0, 0, 0] ++ be (u64n (8 * ks.length + pay.length)) 2 ++ be (u64n (nextOf h ks)) 1 ++ [0]) ++ (be h.sh 8 ++ (be h.sl 8 ++ (be h.dh 8 ++ be h.dl 8) ++ (extsA h ks ++ pay))) by simp only [headA6, List.append_assoc]]
    rw [mid_of _ (be h.sh 8) _ 8 8 (by simp [be_length]) (be_length _ _), num_be _ _ ft.ok.sh]
  · rw [show headA6 h (nextOf h ks) (8 * ks.length + pay.length) ++ (extsA h ks ++ pay) = ([96, 0, 0, 0] ++ be (u64n (8 * ks.length + pay.length)) 2 ++ be (u64n (nextOf h ks)) 1 ++ [0] ++ be h.sh 8) ++ (be h.sl 8 ++ ((be h.dh 8 ++ be h.dl 8) ++ (extsA h ks ++ pay))) by simp only [headA6, List.append_assoc]]
    rw [mid_of _ (be h.sl 8) _ 16 8 (by simp [be_length]) (be_length _ _), num_be _ _ ft.ok.sl]
  · rw [show headA6 h (nextOf h ks) (8 * ks.length + pay.length) ++ (extsA h ks ++ pay) = ([96, 0, 0, 0] ++ be (u64n (8 * ks.length + pay.length)) 2 ++ be (u64n (nextOf h ks)) 1 ++ [0] ++ be h.sh 8 ++ be h.sl 8) ++ (be h.dh 8 ++ (be h.dl 8 ++ (extsA h ks ++ pay))) by simp only [headA6, List.append_assoc]]
    rw [mid_of _ (be h.dh 8) _ 24 8 (by simp [be_length]) (be_length _ _), num_be _ _ ft.ok.dh]
  · rw [show headA6 h (nextOf h ks) (8 * ks.length + pay.length) ++ (extsA h ks ++ pay) = ([96, 0, 0, 0] ++ be (u64n (8 * ks.length + pay.length)) 2 ++ be (u64n (nextOf h ks)) 1 ++ [0] ++ be h.sh 8 ++ be h.sl 8 ++ be h.dh 8) ++ (be h.dl 8 ++ (extsA h ks ++ pay)) by simp only [headA6, List.append_assoc]]
    rw [mid_of _ (be h.dl 8) _ 32 8 (by simp [be_length]) (be_length _ _), num_be _ _ ft.ok.dl]
  · unfold body6
    rw [h2]
    have := mid_of (headA6 h (nextOf h ks) (8 * ks.length + pay.length)) (extsA h ks ++ pay) [] 40 (8 * ks.length + pay.length) (headA6_length _ _ _) (by rw [List.length_append, hel])
    rwa [List.append_nil] at this

theorem pack6_backW (h : Hd) (ft : h.Fit6) (l : List Int) (pay : List UInt8) (hl : l.length ≤ 8) (hp : pay.length ≤ 60000) (h44 : 44 ∈ l → h.off = 0) : err6 (pack6 h l pay) = 0 ∧ hd6 (pack6 h l pay) = back6 h l pay := by
  obtain ⟨f0, f4, f6, n1, n2, n3, n4, fb⟩ := pack6_factsW h ft l pay hl hp
  have ln := pack6_lengthW h l pay hl hp
  have hfl : (l.filter fol).length ≤ 8 := Nat.le_trans (List.length_filter_le _ _) hl
  have eB : errB (pack6 h l pay) = 0 := by
    unfold errB
    rw [ln, f0, f4, if_neg (by omega), if_neg (by decide), if_neg (by omega)]
  have hB : hdB (pack6 h l pay) = ⟨h.sh, h.sl, h.dh, h.dl, nextOf h (l.filter fol), 40, 40 + ((8 * (l.filter fol).length + pay.length : Nat) : Int), 0, false⟩ := by
    unfold hdB
    rw [n1, n2, n3, n4, f6, f4]
  have m44 : (44 ∈ l.filter fol) = (44 ∈ l) := by
    apply propext
    rw [List.mem_filter]
    exact ⟨fun x => x.1, fun x => ⟨x, by decide⟩⟩
  obtain ⟨w1, w2⟩ := walk_exts h pay ft.proto ft.nf ft.off (l.filter fol) 8 (hdB (pack6 h l pay)) (fun p hp => (List.mem_filter.1 hp).2) hfl (fun hm => h44 (by rwa [m44] at hm)) (by rw [hB]) (by rw [hB])
  have e6 : err6 (pack6 h l pay) = 0 := by unfold err6; rw [if_pos eB, fb, w1]
  refine ⟨e6, ?_⟩
  unfold hd6
  rw [if_pos e6, fb, w2, hB]
  unfold back6
  simp only [m44]
  congr 1
  omega
theorem num_be2 (u : Nat) : num (be u 2) = u % 65536 := by
  rw [be_two, num_pair]
  simp
  omega
theorem back_of (x a b : Int) (l : List UInt8) (h : l.length ≤ 60000) :
    portsE x (makeB x a b l) = 0 ∧ (x = 6 ∨ x = 17 → portsA x (makeB x a b l) = u64n a % 65536 ∧ portsB x (makeB x a b l) = u64n b % 65536) ∧ (¬ (x = 6 ∨ x = 17) → portsA x (makeB x a b l) = 0 ∧ portsB x (makeB x a b l) = 0 ∧ makeB x a b l = l) := by
  have hm : makeB x a b l = headB x a b l.length ++ l := by unfold makeB; rw [if_neg (by omega)]
  rw [hm]
  by_cases h6 : x = 6
  · subst h6
    have hh : headB 6 a b l.length = be (u64n a) 2 ++ be (u64n b) 2 ++ [0, 0, 0, 0, 0, 0, 0, 0, 80, 0, 0, 0, 0, 0, 0, 0] := by unfold headB; rw [if_pos rfl]
    rw [hh]
    have e : portsE 6 (be (u64n a) 2 ++ be (u64n b) 2 ++ [0, 0, 0, 0, 0, 0, 0, 0, 80, 0, 0, 0, 0, 0, 0, 0] ++ l) = 0 := by
      have ht : tcpTold (be (u64n a) 2 ++ be (u64n b) 2 ++ [0, 0, 0, 0, 0, 0, 0, 0, 80, 0, 0, 0, 0, 0, 0, 0] ++ l) = 20 := by rw [be_two, be_two]; simp [tcpTold]
      have hL : (be (u64n a) 2 ++ be (u64n b) 2 ++ [0, 0, 0, 0, 0, 0, 0, 0, 80, 0, 0, 0, 0, 0, 0, 0] ++ l).length = 20 + l.length := by simp [be_length]; omega
      unfold portsE
      rw [if_pos rfl, ht, hL, if_neg (by omega), if_pos ⟨by omega, by omega⟩]
    refine ⟨e, fun _ => ⟨?_, ?_⟩, fun hn => absurd (Or.inl rfl) hn⟩
    · unfold portsA
      rw [if_pos ⟨by decide, e⟩, ← num_be2, be_two, be_two]
      rfl
    · unfold portsB
      rw [if_pos ⟨by decide, e⟩, ← num_be2, be_two, be_two]
      rfl
  · by_cases h17 : x = 17
    · subst h17
      have hh : headB 17 a b l.length = be (u64n a) 2 ++ be (u64n b) 2 ++ be (u64n (8 + (l.length : Int))) 2 ++ [0, 0] := by unfold headB; rw [if_neg h6, if_pos rfl]
      rw [hh]
      have e : portsE 17 (be (u64n a) 2 ++ be (u64n b) 2 ++ be (u64n (8 + (l.length : Int))) 2 ++ [0, 0] ++ l) = 0 := by
        have ht : udpTold (be (u64n a) 2 ++ be (u64n b) 2 ++ be (u64n (8 + (l.length : Int))) 2 ++ [0, 0] ++ l) = 8 + l.length := by
          have e1 : udpTold (be (u64n a) 2 ++ be (u64n b) 2 ++ be (u64n (8 + (l.length : Int))) 2 ++ [0, 0] ++ l) = num (be (u64n (8 + (l.length : Int))) 2) := by rw [be_two, be_two, be_two]; rfl
          rw [e1, num_be2]
          unfold u64n
          omega
        have hL : (be (u64n a) 2 ++ be (u64n b) 2 ++ be (u64n (8 + (l.length : Int))) 2 ++ [0, 0] ++ l).length = 8 + l.length := by simp [be_length]; omega
        unfold portsE
        rw [if_neg h6, if_pos rfl, ht, hL, if_neg (by omega), if_pos ⟨by omega, by omega⟩]
      refine ⟨e, fun _ => ⟨?_, ?_⟩, fun hn => absurd (Or.inr rfl) hn⟩
      · unfold portsA
        rw [if_pos ⟨by decide, e⟩, ← num_be2, be_two, be_two]
        rfl
      · unfold portsB
        rw [if_pos ⟨by decide, e⟩, ← num_be2, be_two, be_two]
        rfl
    · have hh : headB x a b l.length = [] := by unfold headB; rw [if_neg h6, if_neg h17]
      rw [hh, List.nil_append]
      have hx : ¬ 0 < leastV x := by unfold leastV; rw [if_neg h6, if_neg h17]; omega
      refine ⟨?_, fun hor => absurd hor (by omega), fun _ => ⟨?_, ?_, rfl⟩⟩
      · unfold portsE; rw [if_neg h6, if_neg h17]
      · unfold portsA; rw [if_neg (fun h => hx h.1)]
      · unfold portsB; rw [if_neg (fun h => hx h.1)]
end Go.Proofs.YtdpaiegojioimaaDoor

/-
  Layer 14 (flow): the order of keys; what Make built is of its flow.
-/
namespace Go.Proofs.YtdpaiegojioimaaDoor
open Go.ChangeShapes Go.WideShapes Go.ChangeAt Go.RowKit Go.Deep
set_option linter.unusedVariables false
set_option linter.unusedSimpArgs false

def lex : List Int → List Int → Bool
  | x :: xs, y :: ys => bif x != y then decide (x < y) else lex xs ys
  | _, _ => false
theorem lex_trans : ∀ {a b c : List Int}, lex a b = true → lex b c = true → lex a c = true
  | [], _, _, h, _ => by simp [lex] at h
  | _ :: _, [], _, h, _ => by simp [lex] at h
  | _ :: _, _ :: _, [], _, h => by simp [lex] at h
  | x :: xs, y :: ys, z :: zs, h1, h2 => by
    unfold lex at h1 h2 ⊢
    by_cases e1 : x = y
    · subst e1
      by_cases e2 : x = z
      · subst e2
        simp at h1 h2 ⊢
        exact lex_trans h1 h2
      · simp [e2] at h1 h2 ⊢
        exact h2
    · by_cases e2 : y = z
      · subst e2
        simp [e1] at h1 h2 ⊢
        exact h1
      · simp [e1] at h1
        simp [e2] at h2
        rw [show (x != z) = true by simp; omega]
        simp
        omega
theorem lex_asymm : ∀ {a b : List Int}, lex a b = true → lex b a = false
  | [], _, h => by simp [lex] at h
  | _ :: _, [], h => by simp [lex] at h
  | x :: xs, y :: ys, h => by
    unfold lex at h ⊢
    by_cases e1 : x = y
    · subst e1
      simp at h ⊢
      exact lex_asymm h
    · simp [e1] at h
      rw [show (y != x) = true by simp; omega]
      simp
      omega
theorem lex_total : ∀ {a b : List Int}, a.length = b.length → lex a b = false → lex b a = false → a = b
  | [], [], _, _, _ => rfl
  | [], _ :: _, h, _, _ => by simp at h
  | _ :: _, [], h, _, _ => by simp at h
  | x :: xs, y :: ys, hl, h1, h2 => by
    unfold lex at h1 h2
    by_cases e1 : x = y
    · subst e1
      simp at h1 h2 hl
      rw [lex_total hl h1 h2]
    · simp [e1] at h1
      rw [show (y != x) = true by simp; omega] at h2
      simp at h2
      omega
theorem lex_self : ∀ a : List Int, lex a a = false
  | [] => rfl
  | x :: xs => by unfold lex; simp [lex_self xs]
def Ky.nums (k : Ky) : List Int := [k.ver, k.sh, k.sl, k.dh, k.dl, k.proto, k.sp, k.dp]
theorem cast_ne (a b : Nat) : ((a : Int) != (b : Int)) = (a != b) := by
  by_cases h : a = b
  · subst h; simp
  · rw [show (a != b) = true by simpa using h]; simp; omega
theorem less_lex (a b : Ky) : lessK a b = lex a.nums b.nums := by
  unfold lessK lessW neA lessA Ky.nums
  simp only [lex, cast_ne]
  have q : ∀ x y : Nat, decide ((x : Int) < (y : Int)) = decide (x < y) := fun x y => by rw [decide_eq_decide]; omega
  rw [q, q, q, q]
  have e : ∀ x y : Nat, (x == y) = !(x != y) := fun x y => by simp [bne]
  rw [e, e, e, e]
  generalize (a.ver != b.ver) = b0
  generalize (a.sh != b.sh) = b1
  generalize (a.sl != b.sl) = b2
  generalize (a.dh != b.dh) = b3
  generalize (a.dl != b.dl) = b4
  generalize (a.proto != b.proto) = b5
  generalize (a.sp != b.sp) = b6
  by_cases e7 : a.dp = b.dp
  · rw [show (a.dp != b.dp) = false by simpa using e7, show decide (a.dp < b.dp) = false by simp; omega]
    cases b0 <;> cases b1 <;> cases b2 <;> cases b3 <;> cases b4 <;> cases b5 <;> cases b6 <;> rfl
  · rw [show (a.dp != b.dp) = true by simpa using e7]
    generalize decide (a.dp < b.dp) = z
    cases b0 <;> cases b1 <;> cases b2 <;> cases b3 <;> cases b4 <;> cases b5 <;> cases b6 <;> rfl
def eqK (a b : Ky) : Bool := a.ver == b.ver && a.sh == b.sh && a.sl == b.sl && a.dh == b.dh && a.dl == b.dl && a.proto == b.proto && a.sp == b.sp && a.dp == b.dp
theorem eqK_iff {a b : Ky} : eqK a b = true ↔ a = b := by
  obtain ⟨v, sh, sl, dh, dl, p, sp, dp⟩ := a
  obtain ⟨v', sh', sl', dh', dl', p', sp', dp'⟩ := b
  simp [eqK]
  constructor
  · rintro ⟨⟨⟨⟨⟨⟨⟨h1, h2⟩, h3⟩, h4⟩, h5⟩, h6⟩, h7⟩, h8⟩
    exact ⟨h1, h2, h3, h4, h5, h6, h7, h8⟩
  · rintro ⟨h1, h2, h3, h4, h5, h6, h7, h8⟩
    exact ⟨⟨⟨⟨⟨⟨⟨h1, h2⟩, h3⟩, h4⟩, h5⟩, h6⟩, h7⟩, h8⟩
theorem key_eq (a b : Ky) (w : World) : (binOp .eql 41 (.agg #[.int .i64 a.ver, .int .u64 (a.sh : Int), .int .u64 (a.sl : Int), .int .u64 (a.dh : Int), .int .u64 (a.dl : Int), .int .i64 a.proto, .int .i64 a.sp, .int .i64 a.dp]) (.agg #[.int .i64 b.ver, .int .u64 (b.sh : Int), .int .u64 (b.sl : Int), .int .u64 (b.dh : Int), .int .u64 (b.dl : Int), .int .i64 b.proto, .int .i64 b.sp, .int .i64 b.dp])).run Tryd.prog w = .ok (.bool (eqK a b)) w := by
  simp [go_sem, eqK]
  have q : ∀ x y : Nat, ((x : Int) = (y : Int)) = (x = y) := fun x y => by apply propext; constructor <;> intro h <;> omega
  simp only [q]
  split <;> (try split) <;> (try split) <;> (try split) <;> (try split) <;> (try split) <;> (try split) <;> (try split) <;> simp_all
theorem nums_inj {a b : Ky} (h : a.nums = b.nums) : a = b := by
  obtain ⟨v, sh, sl, dh, dl, p, sp, dp⟩ := a
  obtain ⟨v', sh', sl', dh', dl', p', sp', dp'⟩ := b
  simp [Ky.nums] at h
  obtain ⟨h1, h2, h3, h4, h5, h6, h7, h8⟩ := h
  obtain rfl : sh = sh' := by omega
  obtain rfl : sl = sl' := by omega
  obtain rfl : dh = dh' := by omega
  obtain rfl : dl = dl' := by omega
  subst h1 h6 h7 h8
  rfl
theorem less_trans {a b c : Ky} (h1 : lessK a b = true) (h2 : lessK b c = true) : lessK a c = true := by
  rw [less_lex] at *
  exact lex_trans h1 h2
theorem less_asymm {a b : Ky} (h : lessK a b = true) : lessK b a = false := by
  rw [less_lex] at *
  exact lex_asymm h
theorem less_eq (a b : Ky) : eqK a b = (!lessK a b && !lessK b a) := by
  by_cases h : a = b
  · subst h
    rw [eqK_iff.2 rfl, less_lex, lex_self]
    rfl
  · have h1 : eqK a b = false := by
      cases he : eqK a b
      · rfl
      · exact absurd (eqK_iff.1 he) h
    rw [h1]
    cases h2 : lessK a b
    · cases h3 : lessK b a
      · rw [less_lex] at h2 h3
        exact absurd (nums_inj (lex_total (a := a.nums) (b := b.nums) rfl h2 h3)) h
      · rfl
    · rfl

theorem rightA_four {hi lo : Nat} (h : rightA 4 hi lo = true) : hi = 0 ∧ lo ≤ 4294967295 := by
  unfold rightA at h
  rw [if_pos rfl] at h
  simpa using h
theorem within_iff {n h : Int} : within14 n h = true ↔ 0 ≤ n ∧ n ≤ h := by unfold within14; simp
theorem rightK_parts {k : Ky} (h : rightK k = true) : restK k = true ∧ (k.ver = 6 → fol k.proto = false) := by
  unfold rightK at h
  by_cases h6 : (k.ver == 6) = true
  · rw [if_pos h6] at h
    simp at h
    exact ⟨h.2, fun _ => h.1⟩
  · rw [if_neg h6] at h
    by_cases h4 : (k.ver == 4) = true
    · rw [if_pos h4] at h
      exact ⟨h, fun h' => absurd (by simpa using h') h6⟩
    · rw [if_neg h4] at h; cases h
theorem port_mod {n : Int} (h : 0 ≤ n ∧ n ≤ 65535) : ((u64n n % 65536 : Nat) : Int) = n := by unfold u64n; omega
theorem port_back (k : Ky) (h : portsK k = true) (l : List UInt8) (hl : l.length ≤ 60000) :
    portsE k.proto (makeB k.proto k.sp k.dp l) = 0 ∧ ((portsA k.proto (makeB k.proto k.sp k.dp l) : Nat) : Int) = k.sp ∧ ((portsB k.proto (makeB k.proto k.sp k.dp l) : Nat) : Int) = k.dp := by
  obtain ⟨e, h1, h2⟩ := back_of k.proto k.sp k.dp l hl
  unfold portsK at h
  by_cases hp : 0 < leastV k.proto
  · rw [if_pos hp] at h
    simp only [Bool.and_eq_true, within_iff] at h
    obtain ⟨a, b⟩ := h1 ((hasV _).1 hp)
    exact ⟨e, by rw [a]; exact port_mod h.1, by rw [b]; exact port_mod h.2⟩
  · rw [if_neg hp] at h
    simp at h
    obtain ⟨a, b, _⟩ := h2 (fun h' => hp ((hasV _).2 h'))
    exact ⟨e, by rw [a, h.1]; rfl, by rw [b, h.2]; rfl⟩
theorem seg_length (k : Ky) (sz : Int) (h1 : leastK k ≤ sz) (h2 : sz ≤ 2048) (h0 : 0 ≤ leastK k) : ((segK k sz).length : Int) = leastV k.proto + (sz - leastK k) := by
  unfold segK makeB
  rw [if_neg (by simp; omega), List.length_append, List.length_replicate]
  have : ((headB k.proto k.sp k.dp ((sz.toNat - (leastK k).toNat : Nat) : Int)).length : Int) = leastV k.proto := by
    unfold headB leastV
    split
    · simp [be_length]
    · split <;> simp [be_length]
  omega
theorem make_back (k : Ky) (ok : k.Ok) (sz : Int) (hr : rightK k = true) (h1 : leastK k ≤ sz) (h2 : sz ≤ 2048) : ((makeK k sz).length : Int) = sz ∧ errO (makeK k sz) = 0 ∧ keyO (makeK k sz) = k := by
  have hle : leastK k = headL k.ver + leastV k.proto := by unfold leastK; rw [if_pos hr]
  have hlv := leastV_in k.proto
  have hhl := headL_in k.ver
  have hsl := seg_length k sz h1 h2 (by omega)
  obtain ⟨hrest, hfol⟩ := rightK_parts hr
  unfold restK at hrest
  simp only [Bool.and_eq_true, within_iff] at hrest
  obtain ⟨ra, rb, hpr, hpo⟩ := hrest
  have hpb := port_back k hpo (List.replicate (sz.toNat - (leastK k).toNat) 0) (by simp; omega)
  have hseg : makeB k.proto k.sp k.dp (List.replicate (sz.toNat - (leastK k).toNat) 0) = segK k sz := rfl
  rw [hseg] at hpb
  unfold makeK
  rw [if_pos ⟨hr, h1, h2⟩]
  generalize segK k sz = l at *
  rcases rightK_ver hr with h6 | h4
  · rw [if_neg (by omega)]
    have ft : (hdK k).Fit6 := ⟨ok.six, hpr, hfol h6, by show (0 : Int) ≤ 0 ∧ (0 : Int) ≤ 8191; omega⟩
    have hh : headL k.ver = 40 := by rw [h6]; rfl
    have pl := pack6_lengthW (hdK k) [] l (by simp) (by omega)
    obtain ⟨pe, ph⟩ := pack6_backW (hdK k) ft [] l (by simp) (by omega) (by simp)
    obtain ⟨f0, _⟩ := pack6_factsW (hdK k) ft [] l (by simp) (by omega)
    simp at pl
    have hb : back6 (hdK k) [] l = ⟨k.sh, k.sl, k.dh, k.dl, k.proto, 40, 40 + (l.length : Int), 0, false⟩ := by unfold back6 hdK; simp
    have hv : verF (pack6 (hdK k) [] l) = 6 := by unfold verF; rw [f0]
    have hE : errF 6 (pack6 (hdK k) [] l) = 0 := by unfold errF; rw [if_neg (by decide), if_pos rfl, pe]
    have hH : hdF 6 (pack6 (hdK k) [] l) = ⟨k.sh, k.sl, k.dh, k.dl, k.proto, 40, 40 + (l.length : Int), 0, false⟩ := by unfold hdF; rw [if_neg (by decide), if_pos rfl, ph, hb]
    have hsg : segF (hdF 6 (pack6 (hdK k) [] l)) (pack6 (hdK k) [] l) = l := by
      rw [hH]
      unfold segF
      simp only
      rw [pack6_eqW (hdK k) [] l (by simp) (by omega)]
      have := mid_of (headA6 (hdK k) (nextOf (hdK k) (List.filter fol [])) (8 * ((List.filter fol ([] : List Int)).length : Int) + (l.length : Int))) l [] 40 l.length (headA6_length _ _ _) rfl
      rw [List.append_nil] at this
      rw [show (40 + (l.length : Int)).toNat - (40 : Int).toNat = l.length by omega, show (40 : Int).toNat = 40 from rfl, show extsA (hdK k) (List.filter fol []) ++ l = l from rfl]
      exact this
    have hO : errO (pack6 (hdK k) [] l) = 0 := by
      unfold errO
      rw [if_neg (by omega), hv, if_neg (by rw [hE]; decide), hsg, hH]
      unfold isFrag
      simp only
      rw [if_neg (by decide)]
      exact hpb.1
    refine ⟨by rw [pl]; omega, hO, ?_⟩
    unfold keyO
    rw [hO, if_neg (by decide), hv, hsg, hH]
    unfold isFrag bareK
    simp only
    rw [if_neg (by decide), hpb.2.1, hpb.2.2]
    obtain ⟨v, sh, sl, dh, dl, p, sp, dp⟩ := k
    simp only at h6
    rw [h6]
    rfl
  · rw [if_pos h4]
    have hh : headL k.ver = 20 := by rw [h4]; rfl
    rw [h4] at ra rb
    obtain ⟨s0, s1⟩ := rightA_four ra
    obtain ⟨t0, t1⟩ := rightA_four rb
    have ft : (hdK k).Fit := ⟨s0, t0, by show k.sl < 4294967296; omega, by show k.dl < 4294967296; omega, hpr, by show (0 : Int) ≤ 0 ∧ (0 : Int) ≤ 8191; omega⟩
    have pl := pack_length (hdK k) l (by omega)
    obtain ⟨pe, ph⟩ := pack_back (hdK k) ft l (by omega)
    obtain ⟨f0, _⟩ := pack_facts (hdK k) ft l (by omega)
    have hv : verF (packA (hdK k) l) = 4 := by unfold verF; rw [f0]
    have hE : errF 4 (packA (hdK k) l) = 0 := by unfold errF; rw [if_pos rfl, pe]
    have hH : hdF 4 (packA (hdK k) l) = ⟨k.sh, k.sl, k.dh, k.dl, k.proto, 20, ((20 + l.length : Nat) : Int), 0, false⟩ := by unfold hdF; rw [if_pos rfl, ph]; rfl
    have hsg : segF (hdF 4 (packA (hdK k) l)) (packA (hdK k) l) = l := by
      rw [hH]
      unfold segF packA
      simp only
      rw [if_neg (by omega)]
      have := mid_of (headA (hdK k) (20 + (l.length : Int))) l [] 20 l.length (headA_length _ _) rfl
      rw [List.append_nil] at this
      rw [show (((20 + l.length : Nat) : Int)).toNat - (20 : Int).toNat = l.length by omega, show (20 : Int).toNat = 20 from rfl]
      exact this
    have hO : errO (packA (hdK k) l) = 0 := by
      unfold errO
      rw [if_neg (by omega), hv, if_neg (by rw [hE]; decide), hsg, hH]
      unfold isFrag
      simp only
      rw [if_neg (by decide)]
      exact hpb.1
    refine ⟨by rw [pl]; omega, hO, ?_⟩
    unfold keyO
    rw [hO, if_neg (by decide), hv, hsg, hH]
    unfold isFrag bareK
    simp only
    rw [if_neg (by decide), hpb.2.1, hpb.2.2]
    obtain ⟨v, sh, sl, dh, dl, p, sp, dp⟩ := k
    simp only at h4
    rw [h4]
    rfl
end Go.Proofs.YtdpaiegojioimaaDoor

/-
  Single operations of a region, for wp_region_phi.
-/
namespace Go.Proofs.YtdpaiegojioimaaDoor
open Go.ChangeShapes Go.WideShapes Go.ChangeAt Go.RowKit Go.Deep
set_option linter.unusedVariables false

section
variable {P : Program} {ops : Array Oper} {a a0 : Act} {w : World} {φ : Value → World → Prop} {o : Oper}
theorem known_slot (hk : Known ops a0 a) (t : Nat) (hn : (ops.all fun o => o.dst != some t) = true) {v : Value} (h0 : a0.tmps[t]? = some v) : a.eval (.tmp t) = v := by
  have h := hk.2.2 t (fun j o ho hd => by
    have := Array.all_eq_true'.1 hn o (Array.mem_of_getElem? ho)
    simp [hd] at this)
  simp [Act.eval, h, h0]
theorem has_slot {Φ : Nat → Value → World → Prop} {j : Nat} (h : Has ops Φ a w j) {o : Oper} {d : Tmp} (ho : ops[j]? = some o) (hd : o.dst = some d) : ∃ v, a.eval (.tmp d) = v ∧ Φ j v w := by
  obtain ⟨v, h1, h2⟩ := h o d ho hd
  exact ⟨v, by simp [Act.eval, h1], h2⟩
theorem wanted_none (h : o.guard = none) : Region.wanted o (yielded ops a.tmps) = true := by unfold Region.wanted; rw [h]
theorem wanted_some {g : Nat} {b : Bool} {og : Oper} {d : Tmp} (h : o.guard = some (g, b)) (hg : ops[g]? = some og) (hd : og.dst = some d) (hv : a.eval (.tmp d) = .bool b) : Region.wanted o (yielded ops a.tmps) = true := by
  unfold Region.wanted
  rw [h]
  simp only [yielded, hg, Option.bind_some, hd]
  simp only [Act.eval, Array.getD_eq_getD_getElem?] at hv
  cases hx : a.tmps[d]? with
  | none => rw [hx] at hv; simp [undef] at hv
  | some u =>
    rw [hx] at hv
    simp at hv
    subst hv
    simp
theorem does_value (hw : Region.wanted o (yielded ops a.tmps) = true) {v : Value} (hrun : (execOp a.eval o).run P w = .ok (.value v) w) (h : φ v w) : Does P ops φ o a w := ⟨hw, by rw [hrun]; exact ⟨h, Touch.refl _ _⟩⟩
theorem does_enter (hw : Region.wanted o (yielded ops a.tmps) = true) {f : FuncId} {args : Array Value} (hrun : (execOp a.eval o).run P w = .ok (.enter f args) w)
    (h : Calls P f args w fun e w'' => ∃ v, e = .returned v ∧ φ v w'' ∧ Touch [] w w'') : Does P ops φ o a w := ⟨hw, by rw [hrun]; exact ⟨Touch.refl _ _, h⟩⟩
end
end Go.Proofs.YtdpaiegojioimaaDoor

/-
  Regions that draw their order, whose operations make new memory alone: what each leaves is a value, or whatever meets a predicate that new memory does not disturb; guarded operations may be passed by; the rest goes on with the slots written out.
-/
namespace Go.Proofs.YtdpaiegojioimaaDoor
open Go.ChangeShapes Go.WideShapes Go.ChangeAt Go.RowKit Go.Deep
set_option linter.unusedVariables false

/-- What an operation leaves. -/
inductive Leaf where
  | const (c : Value)
  | pred (φ : Value → World → Prop)
def Leaf.ok : Leaf → Value → World → Prop
  | .const c, v, _ => v = c
  | .pred φ, v, w => φ v w
def StabL : List Leaf → Prop
  | [] => True
  | .const _ :: L => StabL L
  | .pred φ :: L => Stab φ ∧ StabL L
def okL (L : List Leaf) (j : Nat) (v : Value) (w : World) : Prop := match L[j]? with | some l => l.ok v w | none => True
theorem okL_stab : ∀ {L : List Leaf}, StabL L → ∀ j, Stab (okL L j)
  | [], _, j, v, w, w', h, t => by simp [okL]
  | .const c :: L, hs, 0, v, w, w', h, t => by simpa [okL, Leaf.ok] using h
  | .pred φ :: L, hs, 0, v, w, w', h, t => by
    have : φ v w' := hs.1 v w w' (by simpa [okL, Leaf.ok] using h) t
    simpa [okL, Leaf.ok] using this
  | .const c :: L, hs, j + 1, v, w, w', h, t => okL_stab (L := L) hs j v w w' h t
  | .pred φ :: L, hs, j + 1, v, w, w', h, t => okL_stab (L := L) hs.2 j v w w' h t
/-- The slots behind the region. -/
def putL (x : Nat → Value) : List Leaf → List Oper → Nat → Act → Act
  | .const c :: L, o :: ops, k, a => putL x L ops (k + 1) (a.put o.dst c)
  | .pred _ :: L, o :: ops, k, a => putL x L ops (k + 1) (a.put o.dst (x k))
  | _, _, _, a => a
/-- What is known of the values that are not written out. -/
def KnowL (x : Nat → Value) (w : World) : List Leaf → Nat → Prop
  | [], _ => True
  | .const _ :: L, k => KnowL x w L (k + 1)
  | .pred φ :: L, k => φ (x k) w ∧ KnowL x w L (k + 1)

def DoesG (P : Program) (ops : Array Oper) (φ : Value → World → Prop) (o : Oper) (a : Act) (w : World) : Prop :=
  (Region.wanted o (yielded ops a.tmps) = true ∧ RunsTo P φ w ((execOp a.eval o).run P w)) ∨ (Region.wanted o (yielded ops a.tmps) = false ∧ φ undef w)

section
variable {P : Program} {ops : Array Oper} {Q : Exit → Act → World → Prop}
theorem DoesG.wpOp {i : Nat} {o : Oper} {a : Act} {w : World} {φ : Value → World → Prop} {K : Act → World → Prop} (hi : ops[i]? = some o) (h : DoesG P ops φ o a w) (hK : ∀ v w', φ v w' → Touch [] w w' → K (a.put o.dst v) w') :
    wpOp P ops Q i K a w := by
  rcases h with h | ⟨h1, h2⟩
  · exact Does.wpOp hi h hK
  · unfold Go.wpOp
    simp only [hi]
    rw [if_neg (by rw [h1]; decide)]
    exact hK _ _ h2 (Touch.refl _ _)

theorem wpAny_phi3 {a0 : Act} {wd : World} {Φ : Nat → Value → World → Prop} (hst : ∀ j, Stab (Φ j)) (hdst : ∀ (i j : Nat) (o o' : Oper) (d : Tmp), ops[i]? = some o → ops[j]? = some o' → o.dst = some d → o'.dst = some d → i = j)
    (hin : ∀ (i : Nat) (o : Oper) (d : Tmp), ops[i]? = some o → o.dst = some d → d < a0.tmps.size) (hacy : ∀ (i : Nat) (o : Oper) (e : Edge), ops[i]? = some o → e ∈ o.after → Region.binds .any e = true → e.on < i)
    (hop : ∀ (i : Nat) (o : Oper), ops[i]? = some o → ∀ a w, Touch [] wd w → Known ops a0 a → (∀ e ∈ o.after, Region.binds .any e = true → Has ops Φ a w e.on) → DoesG P ops (Φ i) o a w)
    (hend : ∀ a w, Touch [] wd w → Known ops a0 a → (∀ j, j < ops.size → Has ops Φ a w j) → Q .normal a w) :
    ∀ (fuel : Nat) (listed : Array Bool) (a : Act) (w : World), listed.size = ops.size → listed.toList.count false ≤ fuel → Touch [] wd w → Known ops a0 a → (∀ j, listed.getD j false = true → Has ops Φ a w j) → wpAny P .any ops Q fuel listed a w := by
  intro fuel
  induction fuel with
  | zero =>
    intro listed a w hs hc ht hk hh
    have hall : ∀ i, i < ops.size → listed.getD i false = true := by
      intro i hi
      have hil : i < listed.size := by omega
      have h0 : listed.toList.count false = 0 := by omega
      rw [List.count_eq_zero] at h0
      simp only [Array.getD_eq_getD_getElem?, Array.getElem?_eq_getElem hil, Option.getD_some]
      cases hx : listed[i]
      · exact absurd (by rw [← hx]; simp) h0
      · rfl
    exact ⟨none_ready hall, hend a w ht hk fun j hj => hh j (hall j hj)⟩
  | succ fuel ih =>
    intro listed a w hs hc ht hk hh
    refine ⟨fun h0 => hend a w ht hk fun j hj => hh j (all_listed hacy hs h0 j hj), fun i hi => ?_⟩
    obtain ⟨hun, o, ho, hall⟩ := mem_ready.1 hi
    have hlt : i < ops.size := (Array.getElem?_eq_some_iff.1 ho).1
    have hil : i < listed.size := by omega
    have hif : listed[i] = false := by simpa [Array.getD_eq_getD_getElem?, Array.getElem?_eq_getElem hil] using hun
    refine DoesG.wpOp ho (hop i o ho a w ht hk fun e he hb => hh e.on (hall e he hb)) fun v w' hφ t => ?_
    refine ih _ _ _ (by simpa using hs) ?_ (ht.trans t (by simp)) ?_ ?_
    · rw [Array.toList_setIfInBounds, List.count_set (by simpa using hil)]
      have : listed.toList[i]'(by simpa using hil) = false := by simpa using hif
      rw [this]
      have hpos : 0 < listed.toList.count false := List.count_pos_iff.2 (by rw [← this]; simp)
      have e1 : (if (false == false) = true then 1 else 0 : Nat) = 1 := rfl
      have e2 : (if (true == false) = true then 1 else 0 : Nat) = 0 := rfl
      rw [e1, e2]
      omega
    · obtain ⟨k1, k2, k3⟩ := hk
      cases hd : o.dst with
      | none => exact ⟨k1, k2, k3⟩
      | some d =>
        refine ⟨k1, by simp [Act.put, k2], fun q hq => ?_⟩
        have hne : d ≠ q := fun e => hq i o ho (by rw [hd, e])
        simp only [Act.put]
        rw [Array.getElem?_setIfInBounds_ne hne]
        exact k3 q hq
    · intro j hj o' d' ho' hd'
      by_cases e : j = i
      · subst e
        obtain rfl : o = o' := by rw [ho] at ho'; simpa using ho'
        refine ⟨v, ?_, hφ⟩
        rw [hd']
        have := hin j o d' ho hd'
        simp [Act.put, hk.2.1, this]
      · have hjl : listed.getD j false = true := by
          simp only [Array.getD_eq_getD_getElem?] at hj ⊢
          rwa [Array.getElem?_setIfInBounds_ne (fun h => e h.symm)] at hj
        obtain ⟨u, hu, hΦ⟩ := hh j hjl o' d' ho' hd'
        refine ⟨u, ?_, hst j u w w' hΦ t⟩
        cases hd : o.dst with
        | none => exact hu
        | some d =>
          have hne : d ≠ d' := fun e2 => e (hdst j i o' o d' ho' ho hd' (by rw [hd, e2]))
          simp only [Act.put]
          rw [Array.getElem?_setIfInBounds_ne hne]
          exact hu

theorem actPut_same {a : Act} {t : Nat} (h : t < a.tmps.size) (v : Value) : (a.put (some t) v).tmps[t]? = some v := by simp [Act.put, h]
theorem actPut_other {a : Act} {o : Oper} {t : Nat} (v : Value) (h : o.dst ≠ some t) : (a.put o.dst v).tmps[t]? = a.tmps[t]? := by
  cases hd : o.dst with
  | none => rfl
  | some d => exact Array.getElem?_setIfInBounds_ne (fun e => h (by rw [hd, e]))
theorem actPut_size (a : Act) (d : Option Tmp) (v : Value) : (a.put d v).tmps.size = a.tmps.size := by cases d <;> simp [Act.put]
theorem actPut_defers (a : Act) (d : Option Tmp) (v : Value) : (a.put d v).defers = a.defers := by cases d <;> rfl

theorem putL_all {a : Act} {w : World} {L0 : List Leaf} (x : Nat → Value) (hx : ∀ (j : Nat) (o : Oper) (d : Tmp), ops[j]? = some o → o.dst = some d → x j = a.tmps.getD d undef) (hh : ∀ j, j < ops.size → Has ops (okL L0) a w j) :
    ∀ (L : List Leaf) (l : List Oper) (k : Nat) (b : Act), (∀ j, L[j]? = L0[k + j]?) → (∀ j, l[j]? = ops[k + j]?) → L.length = l.length → b.defers = a.defers → b.tmps.size = a.tmps.size →
      (∀ t : Nat, (∀ (j : Nat) (o : Oper), k ≤ j → ops[j]? = some o → o.dst ≠ some t) → b.tmps[t]? = a.tmps[t]?) → putL x L l k b = a
  | [], [], k, b, hL, hl, _, hd, hs, ht => by
    have : b.tmps = a.tmps := Array.ext_getElem? fun t => ht t fun j o hkj ho => by
      have := hl (j - k)
      rw [show k + (j - k) = j by omega, ho] at this
      simp at this
    obtain ⟨bt, bd⟩ := b
    obtain ⟨at', ad⟩ := a
    simp only at this hd
    subst this hd
    rfl
  | lf :: L, o :: l, k, b, hL, hl, hlen, hd, hs, ht => by
    have ho : ops[k]? = some o := by simpa using (hl 0).symm
    have hlf : L0[k]? = some lf := by simpa using (hL 0).symm
    have hks : k < ops.size := (Array.getElem?_eq_some_iff.1 ho).1
    have step : ∀ v, (∀ d, o.dst = some d → a.tmps[d]? = some v) → putL x L l (k + 1) (b.put o.dst v) = a := fun v hv => by
      refine putL_all x hx hh L l (k + 1) _ (fun j => ?_) (fun j => ?_) (by simpa using hlen) (by rw [actPut_defers, hd]) (by rw [actPut_size, hs]) fun t hn => ?_
      · have := hL (j + 1)
        rw [show k + 1 + j = k + (j + 1) by omega, ← this]
        rfl
      · have := hl (j + 1)
        rw [show k + 1 + j = k + (j + 1) by omega, ← this]
        rfl
      · by_cases e : o.dst = some t
        · have h1 := hv t e
          rw [h1, e]
          have : t < a.tmps.size := (Array.getElem?_eq_some_iff.1 h1).1
          exact actPut_same (by omega) v
        · rw [actPut_other v e]
          refine ht t fun j o' hkj ho' => ?_
          by_cases ej : j = k
          · subst ej
            rw [ho] at ho'
            obtain rfl := Option.some.inj ho'
            exact e
          · exact hn j o' (by omega) ho'
    cases lf with
    | const c =>
      refine step c fun d hd' => ?_
      obtain ⟨v, h1, h2⟩ := hh k hks o d ho hd'
      unfold okL at h2
      rw [hlf] at h2
      rw [h1]
      exact congrArg some h2
    | pred φ =>
      refine step (x k) fun d hd' => ?_
      obtain ⟨v, h1, h2⟩ := hh k hks o d ho hd'
      rw [hx k o d ho hd', h1]
      simp [Array.getD_eq_getD_getElem?, h1]
  | [], _ :: _, _, _, _, _, hlen, _, _, _ => by simp at hlen
  | _ :: _, [], _, _, _, _, hlen, _, _, _ => by simp at hlen

/-- Every predicate stands at an operation that has a slot. -/
def slotsB : List Leaf → List Oper → Bool
  | .pred _ :: L, o :: ops => o.dst.isSome && slotsB L ops
  | .const _ :: L, _ :: ops => slotsB L ops
  | [], [] => true
  | _, _ => false
theorem slotsB_length : ∀ {L : List Leaf} {l : List Oper}, slotsB L l = true → L.length = l.length
  | [], [], _ => rfl
  | .pred _ :: L, o :: l, h => by simp only [slotsB, Bool.and_eq_true] at h; simp [slotsB_length h.2]
  | .const _ :: L, o :: l, h => by simp only [slotsB] at h; simp [slotsB_length h]
  | [], _ :: _, h => by simp [slotsB] at h
  | .pred _ :: _, [], h => by simp [slotsB] at h
  | .const _ :: _, [], h => by simp [slotsB] at h
theorem knowL_of {a : Act} {w : World} {L0 : List Leaf} (x : Nat → Value) (hx : ∀ (j : Nat) (o : Oper) (d : Tmp), ops[j]? = some o → o.dst = some d → x j = a.tmps.getD d undef) (hh : ∀ j, j < ops.size → Has ops (okL L0) a w j) :
    ∀ (L : List Leaf) (l : List Oper) (k : Nat), (∀ j, L[j]? = L0[k + j]?) → (∀ j, l[j]? = ops[k + j]?) → slotsB L l = true → KnowL x w L k
  | [], [], k, _, _, _ => trivial
  | .const c :: L, o :: l, k, hL, hl, hb => by
    refine knowL_of x hx hh L l (k + 1) (fun j => ?_) (fun j => ?_) hb
    · have := hL (j + 1)
      rw [show k + 1 + j = k + (j + 1) by omega, ← this]
      rfl
    · have := hl (j + 1)
      rw [show k + 1 + j = k + (j + 1) by omega, ← this]
      rfl
  | .pred φ :: L, o :: l, k, hL, hl, hb => by
    simp only [slotsB, Bool.and_eq_true] at hb
    have ho : ops[k]? = some o := by simpa using (hl 0).symm
    have hlf : L0[k]? = some (.pred φ) := by simpa using (hL 0).symm
    have hks : k < ops.size := (Array.getElem?_eq_some_iff.1 ho).1
    obtain ⟨d, hd⟩ := Option.isSome_iff_exists.1 hb.1
    obtain ⟨v, h1, h2⟩ := hh k hks o d ho hd
    refine ⟨?_, knowL_of x hx hh L l (k + 1) (fun j => ?_) (fun j => ?_) hb.2⟩
    · rw [hx k o d ho hd]
      simp only [Array.getD_eq_getD_getElem?, h1, Option.getD_some]
      unfold okL at h2
      rw [hlf] at h2
      exact h2
    · have := hL (j + 1)
      rw [show k + 1 + j = k + (j + 1) by omega, ← this]
      rfl
    · have := hl (j + 1)
      rw [show k + 1 + j = k + (j + 1) by omega, ← this]
      rfl
  | [], _ :: _, _, _, _, h => by simp [slotsB] at h
  | .pred _ :: _, [], _, _, _, h => by simp [slotsB] at h
  | .const _ :: _, [], _, _, _, h => by simp [slotsB] at h

/-- The same with the state behind it written out. -/
theorem wp_region_leaves {id : Nat} {a0 : Act} {w wd : World} {l : List Oper} (L : List Leaf) (hm : P.follows .mixedOrders = true) (hB : phiB l.toArray a0.tmps.size = true) (hL : slotsB L l = true) (hw : Touch [] wd w.drew) (hst : StabL L)
    (hop : ∀ (i : Nat) (o : Oper), l[i]? = some o → ∀ a w, Touch [] wd w → Known l.toArray a0 a → (∀ e ∈ o.after, Region.binds .any e = true → Has l.toArray (okL L) a w e.on) → DoesG P l.toArray (okL L i) o a w)
    (hend : ∀ (x : Nat → Value) (w : World), Touch [] wd w → KnowL x w L 0 → Q .normal (putL x L l 0 a0) w) : (Code.region id l.toArray true).wp P Q a0 w := by
  obtain ⟨h1, h2, h3⟩ := phiB_spec hB
  refine wp_region_any hm (wpAny_phi3 (okL_stab hst) h1 h2 h3 (fun i o ho => hop i o (by simpa using ho)) (fun a w ht hk hh => ?_) l.toArray.size (Array.replicate l.toArray.size false) a0 _ (by simp) (by simp) hw ⟨rfl, rfl, fun _ _ => rfl⟩ (fun j hj => ?_))
  · have hx : ∀ (j : Nat) (o : Oper) (d : Tmp), l.toArray[j]? = some o → o.dst = some d → (fun j => a.tmps.getD (((l[j]?).bind (·.dst)).getD 0) undef) j = a.tmps.getD d undef := fun j o d ho hd => by
      have ho' : l[j]? = some o := by simpa using ho
      simp [ho', hd]
    have e := putL_all (a := a) (w := w) (L0 := L) (fun j => a.tmps.getD (((l[j]?).bind (·.dst)).getD 0) undef) hx hh L l 0 a0 (fun j => by rw [Nat.zero_add]) (fun j => by rw [Nat.zero_add]; simp) (slotsB_length hL) hk.1.symm hk.2.1.symm
      (fun t hn => (hk.2.2 t fun j o ho => hn j o (Nat.zero_le _) ho).symm)
    have k := knowL_of (a := a) (w := w) (L0 := L) _ hx hh L l 0 (fun j => by rw [Nat.zero_add]) (fun j => by rw [Nat.zero_add]; simp) hL
    have := hend _ w ht k
    rwa [e] at this
  · simp only [Array.getD_eq_getD_getElem?] at hj
    rcases Nat.lt_or_ge j l.toArray.size with hlt | hge
    · simp [show j < l.length by simpa using hlt] at hj
    · simp only [List.size_toArray] at hj hge
      rw [Array.getElem?_eq_none (by simpa using hge)] at hj
      simp at hj
end

section
variable {P : Program} {ops : Array Oper} {a a0 : Act} {w : World} {φ : Value → World → Prop} {o : Oper} {L : List Leaf}
theorem has_const {j : Nat} (h : Has ops (okL L) a w j) {o : Oper} {d : Tmp} {c : Value} (ho : ops[j]? = some o) (hd : o.dst = some d) (hl : L[j]? = some (.const c)) : a.eval (.tmp d) = c := by
  obtain ⟨v, h1, h2⟩ := h o d ho hd
  unfold okL at h2
  rw [hl] at h2
  simp only [Act.eval, Array.getD_eq_getD_getElem?, h1, Option.getD_some]
  exact h2
theorem has_pred {j : Nat} {φ : Value → World → Prop} (h : Has ops (okL L) a w j) {o : Oper} {d : Tmp} (ho : ops[j]? = some o) (hd : o.dst = some d) (hl : L[j]? = some (.pred φ)) : ∃ v, a.eval (.tmp d) = v ∧ φ v w := by
  obtain ⟨v, h1, h2⟩ := h o d ho hd
  unfold okL at h2
  rw [hl] at h2
  exact ⟨v, by simp [Act.eval, Array.getD_eq_getD_getElem?, h1], h2⟩
theorem has_dep {Φ : Nat → Value → World → Prop} (hd : ∀ e ∈ o.after, Region.binds .any e = true → Has ops Φ a w e.on) (j : Nat) (hb : (o.after.any fun e => (e.on == j) && Region.binds .any e) = true) : Has ops Φ a w j := by
  rw [Array.any_eq_true'] at hb
  obtain ⟨e, he, h⟩ := hb
  simp only [Bool.and_eq_true, beq_iff_eq] at h
  have := hd e he h.2
  rwa [h.1] at this
theorem wanted_not {g : Nat} {b : Bool} {og : Oper} {d : Tmp} (h : o.guard = some (g, b)) (hg : ops[g]? = some og) (hd : og.dst = some d) (hv : a.eval (.tmp d) = .bool (!b)) : Region.wanted o (yielded ops a.tmps) = false := by
  unfold Region.wanted
  rw [h]
  simp only [yielded, hg, Option.bind_some, hd]
  simp only [Act.eval, Array.getD_eq_getD_getElem?] at hv
  cases hx : a.tmps[d]? with
  | none => rw [hx] at hv; simp [undef] at hv
  | some u =>
    rw [hx] at hv
    simp at hv
    subst hv
    cases b <;> simp
theorem wanted_undef {g : Nat} {b : Bool} {og : Oper} {d : Tmp} (h : o.guard = some (g, b)) (hg : ops[g]? = some og) (hd : og.dst = some d) (hv : a.eval (.tmp d) = undef) : Region.wanted o (yielded ops a.tmps) = false := by
  unfold Region.wanted
  rw [h]
  simp only [yielded, hg, Option.bind_some, hd]
  simp only [Act.eval, Array.getD_eq_getD_getElem?] at hv
  cases hx : a.tmps[d]? with
  | none => simp
  | some u =>
    rw [hx] at hv
    simp at hv
    subst hv
    simp [undef]
theorem do_value (hw : Region.wanted o (yielded ops a.tmps) = true) {v : Value} (hrun : (execOp a.eval o).run P w = .ok (.value v) w) (h : φ v w) : DoesG P ops φ o a w := .inl ⟨hw, by rw [hrun]; exact ⟨h, Touch.refl _ _⟩⟩
theorem do_enter (hw : Region.wanted o (yielded ops a.tmps) = true) {f : FuncId} {args : Array Value} (hrun : (execOp a.eval o).run P w = .ok (.enter f args) w)
    (h : Calls P f args w fun e w'' => ∃ v, e = .returned v ∧ φ v w'' ∧ Touch [] w w'') : DoesG P ops φ o a w := .inl ⟨hw, by rw [hrun]; exact ⟨Touch.refl _ _, h⟩⟩
theorem do_skip (hw : Region.wanted o (yielded ops a.tmps) = false) (h : φ undef w) : DoesG P ops φ o a w := .inr ⟨hw, h⟩
theorem run_value {ρ : Operand → Value} {s : Sem Value} {v : Value} (h : execOp ρ o = (do pure (.value (← s)))) (hs : s.run P w = .ok v w) : (execOp ρ o).run P w = .ok (.value v) w := by
  rw [h]
  simp [hs]
theorem run_go3 (f : FuncId) (xs : Array Operand) (ats : Array TypeId) (h : o.op = .call { callee := .value (.func f), args := xs, argTypes := ats }) : (execOp a.eval o).run P w = (callFunc f (#[] ++ xs.map a.eval ++ #[])).run P w := by
  obtain ⟨dst, op, ty, pos, after, guard⟩ := o
  simp only at h
  subst h
  rfl
theorem run_pickT {ρ : Operand → Value} {c x y : Operand} (h : o.op = .pick c x y) (hc : ρ c = .bool true) : (execOp ρ o).run P w = .ok (.value (ρ x)) w := by
  obtain ⟨dst, op, ty, pos, after, guard⟩ := o
  simp only at h
  subst h
  simp [execOp, hc, asBool]
theorem run_pickF {ρ : Operand → Value} {c x y : Operand} (h : o.op = .pick c x y) (hc : ρ c = .bool false) : (execOp ρ o).run P w = .ok (.value (ρ y)) w := by
  obtain ⟨dst, op, ty, pos, after, guard⟩ := o
  simp only at h
  subst h
  simp [execOp, hc, asBool]
theorem run_len3 {ρ : Operand → Value} {x : Operand} {t e : TypeId} {A : Option Addr} {n c : Nat} (h : o.op = .call { callee := .builtin .len, args := #[x], argTypes := #[t] }) (ht : P.underlying t = some (.slice e)) (hx : ρ x = .slice A n c) :
    (execOp ρ o).run P w = .ok (.value (.int .i64 (n : Int))) w := by
  obtain ⟨dst, op, ty, pos, after, guard⟩ := o
  simp only at h
  subst h
  have e : execOp ρ { dst, op := .call { callee := .builtin .len, args := #[x], argTypes := #[t] }, type := ty, pos, after, guard } = (do pure (.value (← Builtin.len_ #[t] ty #[ρ x]))) := by rw [BigFrame.execOp_builtin, BigFrame.builtin_len]; simp
  rw [e, hx]
  simp [Builtin.len_, ht, underlying, goInt]
theorem eval_c (a : Act) (v : Value) : a.eval (.const v) = v := rfl
end
/-- A contract with one value. -/
theorem Calls.leaf {P : Program} {f : FuncId} {args : Array Value} {w : World} {v : Value} (h : Calls P f args w fun e w' => e = .returned v ∧ Touch [] w w') : Calls P f args w fun e w'' => ∃ u, e = .returned u ∧ u = v ∧ Touch [] w w'' :=
  h.mono fun e w' ⟨h1, h2⟩ => ⟨_, h1, rfl, h2⟩
theorem Calls.leafSame {P : Program} {f : FuncId} {args : Array Value} {w : World} {v : Value} (h : Calls P f args w fun e w' => e = .returned v ∧ w' = w) : Calls P f args w fun e w'' => ∃ u, e = .returned u ∧ u = v ∧ Touch [] w w'' :=
  h.mono fun e w' ⟨h1, h2⟩ => ⟨_, h1, rfl, by rw [h2]; exact Touch.refl _ _⟩
end Go.Proofs.YtdpaiegojioimaaDoor
