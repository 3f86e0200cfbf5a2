/-
  For every text and texts (of which the first 200 are looked at), Clean of Clean is Clean and says the same, no longer than the text, Split of Join are the names, and live holds.
-/
import Derived.Test.YtdbllggcomllgacPRefs
import Derived.ChangeOld
import Derived.Below
namespace Go.Proofs.Ytdbllggcomllgac
open Go.ChangeShapes Go.WideShapes Go.ChangeAt Go.RowKit
open Go.ChangeMaps (open_string shut_string)
set_option linter.unusedVariables false
set_option maxHeartbeats 1000000 in
theorem pathClean_000 (s : ByteArray) (hs : s.size ≤ maxLen) (a : Option Addr) (cap : Nat) (ss : List (List UInt8)) (w : World) (hI : IsS w (.slice a ss.length cap) ss) (h : ss.length ≤ 200) (hj : Pa.joinF ss = none) (hc : Pa.cleanF s.data.toList = none) :
    Calls Try.prog 4 #[.string s, .slice a ss.length cap] w fun e w' => e = .returned (.bool true) ∧ Below w.heap.size w w' := by
  have hI' := hI
  obtain ⟨a', cap', he, r1, r2, r3, r4⟩ := hI'
  cases he
  unfold maxLen at r2
  have H0 := hid' hI
  have h' : (ss.length : Int) ≤ 200 := by omega
  have HJ := hid' hj
  have HC := hid' hc
  clear hI r3 r4 hj hc
  go_enter Try.func4, Try.ntmps4
  go_wp2_with fail
  refine (join_not _ _ _ H0.out HJ.out).mono ?_
  rintro e w1 ⟨rfl, hb1⟩
  go_wp2_with fail
  refine ((clean_c s _ hs).mono fun e w' hp => text_not HC.out hp).mono ?_
  rintro e w4 ⟨rfl, hb4⟩
  go_wp2_with fail
  refine (plive_c _).mono ?_
  rintro e w8 ⟨rfl, hb8⟩
  go_wp2
  go_ret
  have s1 := hb1.size
  have s4 := hb4.size
  have s8 := hb8.size
  exact ⟨ret_bool' (by first | rfl | exact n6), ((hb1).trans (hb4.mono (by omega))).trans (hb8.mono (by omega))⟩
set_option maxHeartbeats 1000000 in
theorem pathClean_001 (s : ByteArray) (hs : s.size ≤ maxLen) (a : Option Addr) (cap : Nat) (ss : List (List UInt8)) (w : World) (hI : IsS w (.slice a ss.length cap) ss) (h : ss.length ≤ 200) (hj : Pa.joinF ss = none) (c : List UInt8) (hc : Pa.cleanF s.data.toList = some c) :
    Calls Try.prog 4 #[.string s, .slice a ss.length cap] w fun e w' => e = .returned (.bool true) ∧ Below w.heap.size w w' := by
  have hI' := hI
  obtain ⟨a', cap', he, r1, r2, r3, r4⟩ := hI'
  cases he
  unfold maxLen at r2
  have H0 := hid' hI
  have h' : (ss.length : Int) ≤ 200 := by omega
  obtain ⟨ns, n1, n2, n3, n4, n5⟩ := Pa.clean_clean hc
  have N1 := hid' n1
  have N2 := hid' n2
  have N4 := hid' n4
  have hcl : (⟨c.toArray⟩ : ByteArray).size ≤ maxLen := Nat.le_trans n5 hs
  have n6 : decide (c.length ≤ s.size) = true := decide_eq_true n5
  clear n1 n2 n3 n4 n5
  have HJ := hid' hj
  have HC := hid' hc
  clear hI r3 r4 hj hc
  go_enter Try.func4, Try.ntmps4
  go_wp2_with fail
  refine (join_not _ _ _ H0.out HJ.out).mono ?_
  rintro e w1 ⟨rfl, hb1⟩
  go_wp2_with fail
  refine ((clean_c s _ hs).mono fun e w' hp => text_yes HC.out hp).mono ?_
  rintro e w4 ⟨rfl, hb4⟩
  go_wp2_with fail
  refine ((clean_c ⟨c.toArray⟩ _ hcl).mono fun e w' hp => text_yes N4.out hp).mono ?_
  rintro e w5 ⟨rfl, hb5⟩
  go_wp2_with fail
  refine (split_yes _ _ hs _ N1.out).mono ?_
  rintro e w6 ⟨u1, rfl, hu1, -, hb6⟩
  have HU1 := hid' hu1
  clear hu1
  go_wp2_with fail
  refine (split_yes _ _ hcl _ N2.out).mono ?_
  rintro e w7 ⟨u2, rfl, hu2, -, hb7⟩
  have HU2 := hid' hu2
  clear hu2
  go_wp2_with fail
  refine (plive_c _).mono ?_
  rintro e w8 ⟨rfl, hb8⟩
  have HSm := hid' (same_c u1 u2 ns ns w8 ((HU1.out.later hb7).later hb8) (HU2.out.later hb8))
  have hs2 : decide (ns = ns) = true := decide_eq_true rfl
  go_wp2_with fail
  refine HSm.out.mono ?_
  rintro e w9 ⟨rfl, rfl⟩
  rw [hs2]
  go_wp2
  go_ret
  have s1 := hb1.size
  have s4 := hb4.size
  have s5 := hb5.size
  have s6 := hb6.size
  have s7 := hb7.size
  have s8 := hb8.size
  exact ⟨ret_bool' (by first | rfl | exact n6), (((((hb1).trans (hb4.mono (by omega))).trans (hb5.mono (by omega))).trans (hb6.mono (by omega))).trans (hb7.mono (by omega))).trans (hb8.mono (by omega))⟩
set_option maxHeartbeats 1000000 in
theorem pathClean_010 (s : ByteArray) (hs : s.size ≤ maxLen) (a : Option Addr) (cap : Nat) (ss : List (List UInt8)) (w : World) (hI : IsS w (.slice a ss.length cap) ss) (h : ss.length ≤ 200) (t : List UInt8) (hj : Pa.joinF ss = some t) (hc : Pa.cleanF s.data.toList = none) :
    Calls Try.prog 4 #[.string s, .slice a ss.length cap] w fun e w' => e = .returned (.bool true) ∧ Below w.heap.size w w' := by
  have hI' := hI
  obtain ⟨a', cap', he, r1, r2, r3, r4⟩ := hI'
  cases he
  unfold maxLen at r2
  have H0 := hid' hI
  have h' : (ss.length : Int) ≤ 200 := by omega
  have H1 := hid' (Pa.split_join hj)
  have htl : (⟨t.toArray⟩ : ByteArray).size ≤ maxLen := by
    obtain ⟨_, _, h9, _⟩ := Pa.split_slashed (Pa.split_join hj)
    show t.length ≤ maxLen
    unfold maxLen; omega
  have HJ := hid' hj
  have HC := hid' hc
  clear hI r3 r4 hj hc
  go_enter Try.func4, Try.ntmps4
  go_wp2_with fail
  refine (join_yes _ _ _ H0.out _ HJ.out).mono ?_
  rintro e w1 ⟨rfl, hb1⟩
  go_wp2_with fail
  refine (split_yes _ _ htl _ H1.out).mono ?_
  rintro e w2 ⟨v, rfl, hv, -, hb2⟩
  have HS := hid' (same_c v _ _ _ w2 hv ((H0.out.later hb1).later hb2))
  have hsm : decide (ss = ss) = true := decide_eq_true rfl
  clear hv
  go_wp2_with fail
  refine HS.out.mono ?_
  rintro e w3 ⟨rfl, rfl⟩
  rw [hsm]
  go_wp2_with fail
  refine ((clean_c s _ hs).mono fun e w' hp => text_not HC.out hp).mono ?_
  rintro e w4 ⟨rfl, hb4⟩
  go_wp2_with fail
  refine (plive_c _).mono ?_
  rintro e w8 ⟨rfl, hb8⟩
  go_wp2
  go_ret
  have s1 := hb1.size
  have s2 := hb2.size
  have s4 := hb4.size
  have s8 := hb8.size
  exact ⟨ret_bool' (by first | rfl | exact n6), (((hb1).trans (hb2.mono (by omega))).trans (hb4.mono (by omega))).trans (hb8.mono (by omega))⟩
set_option maxHeartbeats 1000000 in
theorem pathClean_011 (s : ByteArray) (hs : s.size ≤ maxLen) (a : Option Addr) (cap : Nat) (ss : List (List UInt8)) (w : World) (hI : IsS w (.slice a ss.length cap) ss) (h : ss.length ≤ 200) (t : List UInt8) (hj : Pa.joinF ss = some t) (c : List UInt8) (hc : Pa.cleanF s.data.toList = some c) :
    Calls Try.prog 4 #[.string s, .slice a ss.length cap] w fun e w' => e = .returned (.bool true) ∧ Below w.heap.size w w' := by
  have hI' := hI
  obtain ⟨a', cap', he, r1, r2, r3, r4⟩ := hI'
  cases he
  unfold maxLen at r2
  have H0 := hid' hI
  have h' : (ss.length : Int) ≤ 200 := by omega
  have H1 := hid' (Pa.split_join hj)
  have htl : (⟨t.toArray⟩ : ByteArray).size ≤ maxLen := by
    obtain ⟨_, _, h9, _⟩ := Pa.split_slashed (Pa.split_join hj)
    show t.length ≤ maxLen
    unfold maxLen; omega
  obtain ⟨ns, n1, n2, n3, n4, n5⟩ := Pa.clean_clean hc
  have N1 := hid' n1
  have N2 := hid' n2
  have N4 := hid' n4
  have hcl : (⟨c.toArray⟩ : ByteArray).size ≤ maxLen := Nat.le_trans n5 hs
  have n6 : decide (c.length ≤ s.size) = true := decide_eq_true n5
  clear n1 n2 n3 n4 n5
  have HJ := hid' hj
  have HC := hid' hc
  clear hI r3 r4 hj hc
  go_enter Try.func4, Try.ntmps4
  go_wp2_with fail
  refine (join_yes _ _ _ H0.out _ HJ.out).mono ?_
  rintro e w1 ⟨rfl, hb1⟩
  go_wp2_with fail
  refine (split_yes _ _ htl _ H1.out).mono ?_
  rintro e w2 ⟨v, rfl, hv, -, hb2⟩
  have HS := hid' (same_c v _ _ _ w2 hv ((H0.out.later hb1).later hb2))
  have hsm : decide (ss = ss) = true := decide_eq_true rfl
  clear hv
  go_wp2_with fail
  refine HS.out.mono ?_
  rintro e w3 ⟨rfl, rfl⟩
  rw [hsm]
  go_wp2_with fail
  refine ((clean_c s _ hs).mono fun e w' hp => text_yes HC.out hp).mono ?_
  rintro e w4 ⟨rfl, hb4⟩
  go_wp2_with fail
  refine ((clean_c ⟨c.toArray⟩ _ hcl).mono fun e w' hp => text_yes N4.out hp).mono ?_
  rintro e w5 ⟨rfl, hb5⟩
  go_wp2_with fail
  refine (split_yes _ _ hs _ N1.out).mono ?_
  rintro e w6 ⟨u1, rfl, hu1, -, hb6⟩
  have HU1 := hid' hu1
  clear hu1
  go_wp2_with fail
  refine (split_yes _ _ hcl _ N2.out).mono ?_
  rintro e w7 ⟨u2, rfl, hu2, -, hb7⟩
  have HU2 := hid' hu2
  clear hu2
  go_wp2_with fail
  refine (plive_c _).mono ?_
  rintro e w8 ⟨rfl, hb8⟩
  have HSm := hid' (same_c u1 u2 ns ns w8 ((HU1.out.later hb7).later hb8) (HU2.out.later hb8))
  have hs2 : decide (ns = ns) = true := decide_eq_true rfl
  go_wp2_with fail
  refine HSm.out.mono ?_
  rintro e w9 ⟨rfl, rfl⟩
  rw [hs2]
  go_wp2
  go_ret
  have s1 := hb1.size
  have s2 := hb2.size
  have s4 := hb4.size
  have s5 := hb5.size
  have s6 := hb6.size
  have s7 := hb7.size
  have s8 := hb8.size
  exact ⟨ret_bool' (by first | rfl | exact n6), ((((((hb1).trans (hb2.mono (by omega))).trans (hb4.mono (by omega))).trans (hb5.mono (by omega))).trans (hb6.mono (by omega))).trans (hb7.mono (by omega))).trans (hb8.mono (by omega))⟩
set_option maxHeartbeats 1000000 in
theorem pathClean_100 (s : ByteArray) (hs : s.size ≤ maxLen) (a : Option Addr) (cap : Nat) (ss : List (List UInt8)) (w : World) (hI : IsS w (.slice a ss.length cap) ss) (h : 200 < ss.length) (hj : Pa.joinF (ss.take 200) = none) (hc : Pa.cleanF s.data.toList = none) :
    Calls Try.prog 4 #[.string s, .slice a ss.length cap] w fun e w' => e = .returned (.bool true) ∧ Below w.heap.size w w' := by
  have hI' := hI
  obtain ⟨a', cap', he, r1, r2, r3, r4⟩ := hI'
  cases he
  unfold maxLen at r2
  have H0 := hid' (hI.front 200 (by omega))
  obtain ⟨b, off, rfl, -⟩ := r3 (by omega)
  have h' : (200 : Int) < ss.length := by omega
  have HJ := hid' hj
  have HC := hid' hc
  clear hI r3 r4 hj hc
  go_enter Try.func4, Try.ntmps4
  go_wp2_with fail
  refine (join_not _ _ _ H0.out HJ.out).mono ?_
  rintro e w1 ⟨rfl, hb1⟩
  go_wp2_with fail
  refine ((clean_c s _ hs).mono fun e w' hp => text_not HC.out hp).mono ?_
  rintro e w4 ⟨rfl, hb4⟩
  go_wp2_with fail
  refine (plive_c _).mono ?_
  rintro e w8 ⟨rfl, hb8⟩
  go_wp2
  go_ret
  have s1 := hb1.size
  have s4 := hb4.size
  have s8 := hb8.size
  exact ⟨ret_bool' (by first | rfl | exact n6), ((hb1).trans (hb4.mono (by omega))).trans (hb8.mono (by omega))⟩
set_option maxHeartbeats 1000000 in
theorem pathClean_101 (s : ByteArray) (hs : s.size ≤ maxLen) (a : Option Addr) (cap : Nat) (ss : List (List UInt8)) (w : World) (hI : IsS w (.slice a ss.length cap) ss) (h : 200 < ss.length) (hj : Pa.joinF (ss.take 200) = none) (c : List UInt8) (hc : Pa.cleanF s.data.toList = some c) :
    Calls Try.prog 4 #[.string s, .slice a ss.length cap] w fun e w' => e = .returned (.bool true) ∧ Below w.heap.size w w' := by
  have hI' := hI
  obtain ⟨a', cap', he, r1, r2, r3, r4⟩ := hI'
  cases he
  unfold maxLen at r2
  have H0 := hid' (hI.front 200 (by omega))
  obtain ⟨b, off, rfl, -⟩ := r3 (by omega)
  have h' : (200 : Int) < ss.length := by omega
  obtain ⟨ns, n1, n2, n3, n4, n5⟩ := Pa.clean_clean hc
  have N1 := hid' n1
  have N2 := hid' n2
  have N4 := hid' n4
  have hcl : (⟨c.toArray⟩ : ByteArray).size ≤ maxLen := Nat.le_trans n5 hs
  have n6 : decide (c.length ≤ s.size) = true := decide_eq_true n5
  clear n1 n2 n3 n4 n5
  have HJ := hid' hj
  have HC := hid' hc
  clear hI r3 r4 hj hc
  go_enter Try.func4, Try.ntmps4
  go_wp2_with fail
  refine (join_not _ _ _ H0.out HJ.out).mono ?_
  rintro e w1 ⟨rfl, hb1⟩
  go_wp2_with fail
  refine ((clean_c s _ hs).mono fun e w' hp => text_yes HC.out hp).mono ?_
  rintro e w4 ⟨rfl, hb4⟩
  go_wp2_with fail
  refine ((clean_c ⟨c.toArray⟩ _ hcl).mono fun e w' hp => text_yes N4.out hp).mono ?_
  rintro e w5 ⟨rfl, hb5⟩
  go_wp2_with fail
  refine (split_yes _ _ hs _ N1.out).mono ?_
  rintro e w6 ⟨u1, rfl, hu1, -, hb6⟩
  have HU1 := hid' hu1
  clear hu1
  go_wp2_with fail
  refine (split_yes _ _ hcl _ N2.out).mono ?_
  rintro e w7 ⟨u2, rfl, hu2, -, hb7⟩
  have HU2 := hid' hu2
  clear hu2
  go_wp2_with fail
  refine (plive_c _).mono ?_
  rintro e w8 ⟨rfl, hb8⟩
  have HSm := hid' (same_c u1 u2 ns ns w8 ((HU1.out.later hb7).later hb8) (HU2.out.later hb8))
  have hs2 : decide (ns = ns) = true := decide_eq_true rfl
  go_wp2_with fail
  refine HSm.out.mono ?_
  rintro e w9 ⟨rfl, rfl⟩
  rw [hs2]
  go_wp2
  go_ret
  have s1 := hb1.size
  have s4 := hb4.size
  have s5 := hb5.size
  have s6 := hb6.size
  have s7 := hb7.size
  have s8 := hb8.size
  exact ⟨ret_bool' (by first | rfl | exact n6), (((((hb1).trans (hb4.mono (by omega))).trans (hb5.mono (by omega))).trans (hb6.mono (by omega))).trans (hb7.mono (by omega))).trans (hb8.mono (by omega))⟩
set_option maxHeartbeats 1000000 in
theorem pathClean_110 (s : ByteArray) (hs : s.size ≤ maxLen) (a : Option Addr) (cap : Nat) (ss : List (List UInt8)) (w : World) (hI : IsS w (.slice a ss.length cap) ss) (h : 200 < ss.length) (t : List UInt8) (hj : Pa.joinF (ss.take 200) = some t) (hc : Pa.cleanF s.data.toList = none) :
    Calls Try.prog 4 #[.string s, .slice a ss.length cap] w fun e w' => e = .returned (.bool true) ∧ Below w.heap.size w w' := by
  have hI' := hI
  obtain ⟨a', cap', he, r1, r2, r3, r4⟩ := hI'
  cases he
  unfold maxLen at r2
  have H0 := hid' (hI.front 200 (by omega))
  obtain ⟨b, off, rfl, -⟩ := r3 (by omega)
  have h' : (200 : Int) < ss.length := by omega
  have H1 := hid' (Pa.split_join hj)
  have htl : (⟨t.toArray⟩ : ByteArray).size ≤ maxLen := by
    obtain ⟨_, _, h9, _⟩ := Pa.split_slashed (Pa.split_join hj)
    show t.length ≤ maxLen
    unfold maxLen; omega
  have HJ := hid' hj
  have HC := hid' hc
  clear hI r3 r4 hj hc
  go_enter Try.func4, Try.ntmps4
  go_wp2_with fail
  refine (join_yes _ _ _ H0.out _ HJ.out).mono ?_
  rintro e w1 ⟨rfl, hb1⟩
  go_wp2_with fail
  refine (split_yes _ _ htl _ H1.out).mono ?_
  rintro e w2 ⟨v, rfl, hv, -, hb2⟩
  have HS := hid' (same_c v _ _ _ w2 hv ((H0.out.later hb1).later hb2))
  have hsm : decide ((ss.take 200) = (ss.take 200)) = true := decide_eq_true rfl
  clear hv
  go_wp2_with fail
  refine HS.out.mono ?_
  rintro e w3 ⟨rfl, rfl⟩
  rw [hsm]
  go_wp2_with fail
  refine ((clean_c s _ hs).mono fun e w' hp => text_not HC.out hp).mono ?_
  rintro e w4 ⟨rfl, hb4⟩
  go_wp2_with fail
  refine (plive_c _).mono ?_
  rintro e w8 ⟨rfl, hb8⟩
  go_wp2
  go_ret
  have s1 := hb1.size
  have s2 := hb2.size
  have s4 := hb4.size
  have s8 := hb8.size
  exact ⟨ret_bool' (by first | rfl | exact n6), (((hb1).trans (hb2.mono (by omega))).trans (hb4.mono (by omega))).trans (hb8.mono (by omega))⟩
set_option maxHeartbeats 1000000 in
theorem pathClean_111 (s : ByteArray) (hs : s.size ≤ maxLen) (a : Option Addr) (cap : Nat) (ss : List (List UInt8)) (w : World) (hI : IsS w (.slice a ss.length cap) ss) (h : 200 < ss.length) (t : List UInt8) (hj : Pa.joinF (ss.take 200) = some t) (c : List UInt8) (hc : Pa.cleanF s.data.toList = some c) :
    Calls Try.prog 4 #[.string s, .slice a ss.length cap] w fun e w' => e = .returned (.bool true) ∧ Below w.heap.size w w' := by
  have hI' := hI
  obtain ⟨a', cap', he, r1, r2, r3, r4⟩ := hI'
  cases he
  unfold maxLen at r2
  have H0 := hid' (hI.front 200 (by omega))
  obtain ⟨b, off, rfl, -⟩ := r3 (by omega)
  have h' : (200 : Int) < ss.length := by omega
  have H1 := hid' (Pa.split_join hj)
  have htl : (⟨t.toArray⟩ : ByteArray).size ≤ maxLen := by
    obtain ⟨_, _, h9, _⟩ := Pa.split_slashed (Pa.split_join hj)
    show t.length ≤ maxLen
    unfold maxLen; omega
  obtain ⟨ns, n1, n2, n3, n4, n5⟩ := Pa.clean_clean hc
  have N1 := hid' n1
  have N2 := hid' n2
  have N4 := hid' n4
  have hcl : (⟨c.toArray⟩ : ByteArray).size ≤ maxLen := Nat.le_trans n5 hs
  have n6 : decide (c.length ≤ s.size) = true := decide_eq_true n5
  clear n1 n2 n3 n4 n5
  have HJ := hid' hj
  have HC := hid' hc
  clear hI r3 r4 hj hc
  go_enter Try.func4, Try.ntmps4
  go_wp2_with fail
  refine (join_yes _ _ _ H0.out _ HJ.out).mono ?_
  rintro e w1 ⟨rfl, hb1⟩
  go_wp2_with fail
  refine (split_yes _ _ htl _ H1.out).mono ?_
  rintro e w2 ⟨v, rfl, hv, -, hb2⟩
  have HS := hid' (same_c v _ _ _ w2 hv ((H0.out.later hb1).later hb2))
  have hsm : decide ((ss.take 200) = (ss.take 200)) = true := decide_eq_true rfl
  clear hv
  go_wp2_with fail
  refine HS.out.mono ?_
  rintro e w3 ⟨rfl, rfl⟩
  rw [hsm]
  go_wp2_with fail
  refine ((clean_c s _ hs).mono fun e w' hp => text_yes HC.out hp).mono ?_
  rintro e w4 ⟨rfl, hb4⟩
  go_wp2_with fail
  refine ((clean_c ⟨c.toArray⟩ _ hcl).mono fun e w' hp => text_yes N4.out hp).mono ?_
  rintro e w5 ⟨rfl, hb5⟩
  go_wp2_with fail
  refine (split_yes _ _ hs _ N1.out).mono ?_
  rintro e w6 ⟨u1, rfl, hu1, -, hb6⟩
  have HU1 := hid' hu1
  clear hu1
  go_wp2_with fail
  refine (split_yes _ _ hcl _ N2.out).mono ?_
  rintro e w7 ⟨u2, rfl, hu2, -, hb7⟩
  have HU2 := hid' hu2
  clear hu2
  go_wp2_with fail
  refine (plive_c _).mono ?_
  rintro e w8 ⟨rfl, hb8⟩
  have HSm := hid' (same_c u1 u2 ns ns w8 ((HU1.out.later hb7).later hb8) (HU2.out.later hb8))
  have hs2 : decide (ns = ns) = true := decide_eq_true rfl
  go_wp2_with fail
  refine HSm.out.mono ?_
  rintro e w9 ⟨rfl, rfl⟩
  rw [hs2]
  go_wp2
  go_ret
  have s1 := hb1.size
  have s2 := hb2.size
  have s4 := hb4.size
  have s5 := hb5.size
  have s6 := hb6.size
  have s7 := hb7.size
  have s8 := hb8.size
  exact ⟨ret_bool' (by first | rfl | exact n6), ((((((hb1).trans (hb2.mono (by omega))).trans (hb4.mono (by omega))).trans (hb5.mono (by omega))).trans (hb6.mono (by omega))).trans (hb7.mono (by omega))).trans (hb8.mono (by omega))⟩
theorem pathClean_walk (s : ByteArray) (hs : s.size ≤ maxLen) (a : Option Addr) (len cap : Nat) (ss : List (List UInt8)) (hl : ss.length = len) (w : World) (hI : IsS w (.slice a len cap) ss) :
    Calls Try.prog 4 #[.string s, .slice a len cap] w fun e w' => e = .returned (.bool true) ∧ Below w.heap.size w w' := by
  subst hl
  by_cases h : 200 < ss.length
  · cases hj : Pa.joinF (ss.take 200) with
    | none =>
      cases hc : Pa.cleanF s.data.toList with
      | none => exact pathClean_100 s hs a cap ss w hI (by omega) hj hc
      | some c => exact pathClean_101 s hs a cap ss w hI (by omega) hj c hc
    | some t =>
      cases hc : Pa.cleanF s.data.toList with
      | none => exact pathClean_110 s hs a cap ss w hI (by omega) t hj hc
      | some c => exact pathClean_111 s hs a cap ss w hI (by omega) t hj c hc
  · cases hj : Pa.joinF ss with
    | none =>
      cases hc : Pa.cleanF s.data.toList with
      | none => exact pathClean_000 s hs a cap ss w hI (by omega) hj hc
      | some c => exact pathClean_001 s hs a cap ss w hI (by omega) hj c hc
    | some t =>
      cases hc : Pa.cleanF s.data.toList with
      | none => exact pathClean_010 s hs a cap ss w hI (by omega) t hj hc
      | some c => exact pathClean_011 s hs a cap ss w hI (by omega) t hj c hc
/-! ### The row of PathClean -/
theorem pathClean_own : ownKnob Try.prog.godebug = none := by kernel_rfl
theorem pathClean_laidOut : laidOutB Try.prog = true := by kernel_rfl
set_option maxRecDepth 100000 in
theorem pathClean_lifted (os : Os) (started : os.Started) (H : Type) (enc : TypeId × Value → H) :
    ReturnsInHanded {} Try.checked os 4 .any (Rows.pathCleanSpec.pre6 enc Try.prog Try.f4 Rows.pathCleanRow.domain false) (Rows.pathCleanSpec.post enc Try.prog Try.f4 false true false false) := by
  refine returnsInHanded_of_change (C := Try.checked) pathClean_own started (by kernel_rfl) Try.func4
    (ChangeSpec.witness6 (enc := enc) (C := Try.checked) false ⟨#[], #[.string ByteArray.empty, .slice none 0 0], []⟩ 8 (by kernel_rfl) (by kernel_rfl) (by kernel_rfl) (by kernel_rfl)) ?_
  intro W base args ds gs before hval0 hW hcnd _
  have hval : ∀ (j : Nat) t v, Try.f4.params[j]? = some t → args[j]? = some v → Value.okWide Try.prog W .any base t v := hval0
  have hW' := hW
  obtain ⟨p, q, hA0, hV, rfl, hfz, hnd⟩ := hW
  have hA : DataW.TrodAll enc Try.prog W 0 (fun _ => true) true Try.f4.params.toList args.toList ds p := hA0
  rw [Try.params4] at hA hval
  obtain ⟨v0, vs0, d0, ds0, p0, q0, hargs, rfl, rfl, h0, r0⟩ := trodAll_cons hA
  obtain ⟨v1, vs1, d1, ds1, p1, q1, rfl, rfl, rfl, h1, r1⟩ := trodAll_cons r0
  obtain ⟨rfl, rfl, rfl⟩ := trodAll_nil r1
  obtain rfl : args = #[v0, v1] := by cases args; simp_all
  obtain ⟨rfl, rfl⟩ := trodVars_none hV
  obtain ⟨a0, rfl, rfl, rfl, w0⟩ := open_string Try.underlying9 (hval 0 9 v0 rfl rfl) h0
  have k1 := h1
  have lt1 : ∀ x ∈ p1, x.block < W.heap.size := by obtain ⟨m, hm⟩ := k1; exact DataW.trod_lt m _ _ _ hm
  obtain ⟨a1, len1, cap1, rfl⟩ := okWide_slice Try.underlying22 (hval 1 22 v1 rfl rfl)
  obtain ⟨z1, lz1, w1⟩ := isS_of Try.underlying22 Try.underlying9 (by kernel_rfl) h1
  clear hA0 hval0
  refine (pathClean_walk a0 w0 a1 len1 cap1 z1 lz1 W w1).mono fun e W' ⟨he, bel⟩ => ?_
  subst he
  exact ⟨_, rfl, _, _, _, [], _, [], hW', trodAll_mk1 (shut_bool Try.underlying4 _), (trodAll_cons_mk (shut_string Try.underlying9 w0) (trodAll_cons_mk (Below.trod pathClean_laidOut (by kernel_rfl) (of_decide_eq_true (by kernel_rfl)) k1 bel lt1) trodAll_mk0)), rfl, bel.frame _, fun h => by cases h⟩
theorem pathClean_over : Rows.pathCleanRow.holds Try.pinned (OpenSpec.ofChange Rows.pathCleanSpec) :=
  OpenClaim.holds_of_wide 4 Try.f4 rfl rfl rfl rfl rfl rfl rfl ⟨rfl, rfl, rfl, rfl, rfl⟩ rfl rfl rfl rfl rfl (by kernel_rfl) Try.func4 (by kernel_rfl)
    (of_decide_eq_true (by kernel_rfl)) (by unfold Func.isWrapper; first | (rw [if_pos (by decide +kernel)]; kernel_rfl) | (rw [if_neg (by decide +kernel)]; exact ⟨rfl, rfl⟩))
    (fun os started H enc _ => pathClean_lifted os started H enc)
/-- The statement. -/
theorem pathClean_holds : Rows.PathCleanSaid := pathClean_over
#print axioms pathClean_holds
end Go.Proofs.Ytdbllggcomllgac
