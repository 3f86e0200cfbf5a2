/-
  Plain laws on numbers for the package bits: what Zig, Zag, Pack, Make, Turn, Low come to as arithmetic on integers; no program is named here.
  What each function of the package bits, and of the document's answer for it, returns: one contract a function.
  Plain laws on packets as bytes: which bytes a packet has, when bytes begin with a right packet's, and that they tell which; no program is named here.
  Plain laws on groups as sectors: which sectors a group has, when sectors begin with a group's, and that they tell which; no program is named here.
  Sectors, maps of sectors by their numbers, and what they are behind a look, a store, a deletion.
  What a look, a store, a deletion does to a map of sectors; a sector out of and into a variable; what a disk is.
  What New, fault, Size, Write, Read of the package disk return: one contract a function.
-/
import Derived.WalkKit
import Derived.ProofKit
import Derived.Test.YtfmkgflhgapeoabRows
import Derived.OpenShut
import Derived.ShutString
import Derived.WalkSpells
import Derived.WalkLawsBesides
import Derived.Lib.SlBytesConst
import Derived.Deep.QuietTactic
import Derived.BigQuiet
import Derived.Maps.RangeWalk
import Derived.Maps.OwnSet
import Derived.Stop.BytesEq
import Derived.Laws.Rows
import Derived.Deep.RegionHeld3
import Derived.Deep.MidRow
import Derived.Deep.WholeRow
namespace Go.Proofs.Ytfmkgflhgapeoab.M
set_option linter.unusedVariables false
open Go.RowKit

theorem ofInt64 (x : Int) : (BitVec.ofInt 64 x).toNat = (x % 18446744073709551616).toNat := by
  rw [BitVec.toNat_ofInt]; rfl
theorem xor_u64 (x y : Int) : bits .xor .u64 x y = IntKind.u64.wrap ((BitVec.ofInt 64 x ^^^ BitVec.ofInt 64 y).toNat : Int) := rfl
theorem xor_i64 (x y : Int) : bits .xor .i64 x y = IntKind.i64.wrap ((BitVec.ofInt 64 x ^^^ BitVec.ofInt 64 y).toNat : Int) := rfl
theorem wrap_i64 (n : Int) : IntKind.i64.wrap n = wrap64 n := by
  rw [IntKind.wrap_i64]; unfold wrap64; omega
theorem ones64 : BitVec.ofInt 64 18446744073709551615 = BitVec.allOnes 64 := by decide
theorem ones64' : BitVec.ofInt 64 (-1) = BitVec.allOnes 64 := by decide
theorem zero64 : BitVec.ofInt 64 0 = 0#64 := by decide

/-- What Zig comes to. -/
def zigF (a : Int) : Int := if 0 ≤ a then 2 * a else -2 * a - 1
/-- What Zag comes to. -/
def zagF (u : Int) : Int := if u % 2 = 0 then u / 2 else -(u / 2) - 1

theorem zig_eq (a : Int) (h0 : -9223372036854775808 ≤ a) (h1 : a < 9223372036854775808) :
    bits .xor .u64 (IntKind.u64.wrap (IntKind.u64.wrap a * 2)) (IntKind.u64.wrap (a / 9223372036854775808)) = zigF a := by
  rw [IntKind.wrap_u64, IntKind.wrap_u64, IntKind.wrap_u64, xor_u64, IntKind.wrap_u64]
  unfold zigF
  by_cases h : 0 ≤ a
  · have e : a / 9223372036854775808 = 0 := by omega
    rw [e, if_pos h]
    have e2 : (0 : Int) % 18446744073709551616 = 0 := rfl
    rw [e2, zero64, BitVec.xor_zero, ofInt64]
    omega
  · have e : a / 9223372036854775808 = -1 := by omega
    rw [e, if_neg h]
    have e2 : (-1 : Int) % 18446744073709551616 = 18446744073709551615 := rfl
    rw [e2, ones64, BitVec.xor_allOnes, BitVec.toNat_not, ofInt64]
    omega

theorem zag_eq (a : Int) (h0 : 0 ≤ a) (h1 : a < 18446744073709551616) :
    bits .xor .i64 (a / 2) (wrap64 (-wrap64 (bits .and .u64 a 1))) = zagF a := by
  have e1 : bits .and .u64 a 1 = a % 2 := by
    rw [u64_and a 1 h0 h1 (by omega) (by omega)]
    have : (1 : Int).toNat = 1 := rfl
    rw [this, nat_mask1]; omega
  rw [e1, xor_i64, wrap_i64]
  unfold zagF
  by_cases h : a % 2 = 0
  · have e2 : wrap64 (-wrap64 (a % 2)) = 0 := by rw [h]; unfold wrap64; omega
    rw [e2, if_pos h, zero64, BitVec.xor_zero, ofInt64]
    unfold wrap64; omega
  · have e3 : a % 2 = 1 := by omega
    have e2 : wrap64 (-wrap64 (a % 2)) = -1 := by rw [e3]; unfold wrap64; omega
    rw [e2, if_neg h, ones64', BitVec.xor_allOnes, BitVec.toNat_not, ofInt64]
    unfold wrap64; omega

/-! ### Make -/
def makeF (c n : Int) : Int := c * 16777216 + n
theorem make_eq (c n : Int) (h0 : 0 ≤ c) (h1 : c ≤ 3) (h2 : 0 ≤ n) (h3 : n ≤ 16777215) :
    bits .or .u32 (c * 16777216) n = makeF c n := by
  rw [u32_or _ _ (by omega) (by omega) (by omega) (by omega)]
  rw [nat_join 24 _ _ (by omega) (by omega)]
  unfold makeF; omega
theorem number_eq (f : Int) (h0 : 0 ≤ f) (h1 : f < 4294967296) : bits .and .u32 f 16777215 = f % 16777216 := by
  rw [u32_and _ _ h0 h1 (by omega) (by omega)]
  have : (16777215 : Int).toNat = 16777215 := rfl
  rw [this, nat_mask24]; omega

/-! ### Turn -/
def turnF (u k : Nat) : Nat := (u * 2 ^ k) % 4294967296 + u / 2 ^ (32 - k)
theorem turn_zero (u : Nat) (h : u < 4294967296) : turnF u 0 = u := by unfold turnF; simp; omega
/-- One step to the left, written with the upper bits q, the bit b that comes over, and the rest r: A is 2^k, B is 2^(31-k). -/
theorem turn_gen (u k A B : Nat) (h : u < 4294967296) (hA : 2 ^ k = A) (hA' : 2 ^ (k + 1) = 2 * A) (hB : 2 ^ (32 - k) = 2 * B) (hB' : 2 ^ (32 - (k + 1)) = B) (hAB : B * A = 2147483648) :
    turnF u k < 4294967296 ∧ turnF u k * 2 % 4294967296 + turnF u k / 2147483648 = turnF u (k + 1) := by
  unfold turnF
  rw [hA, hA', hB, hB']
  have hB0 : 0 < B := by rcases Nat.eq_zero_or_pos B with hz | hz; (subst hz; omega); exact hz
  have hA0 : 0 < A := by rcases Nat.eq_zero_or_pos A with hz | hz; (subst hz; omega); exact hz
  have d1 : u / (2 * B) = u / B / 2 := by rw [Nat.mul_comm 2 B, Nat.div_div_eq_div_mul]
  have d2 : B * (u / B) + u % B = u := Nat.div_add_mod u B
  have hr : u % B < B := Nat.mod_lt _ hB0
  have hm : u / B < 2 * A := by
    apply Nat.div_lt_of_lt_mul
    have : B * (2 * A) = 4294967296 := by rw [Nat.mul_left_comm, hAB]
    omega
  rw [d1]
  generalize u / B = m at *
  generalize u % B = r at *
  have hrA : r * A + A ≤ 2147483648 := by
    have : (r + 1) * A ≤ B * A := Nat.mul_le_mul_right A hr
    rw [hAB, Nat.add_mul] at this; omega
  have e1 : u * A = m * 2147483648 + r * A := by
    rw [← d2, Nat.add_mul, Nat.mul_comm B m, Nat.mul_assoc, hAB]
  have e2 : u * (2 * A) = m * 4294967296 + 2 * (r * A) := by
    rw [Nat.mul_left_comm, e1]; omega
  rw [e1, e2]
  generalize r * A = ra at *
  clear e1 e2 d1 d2 hB hB' hA hA' hAB h
  have f1 : (m * 2147483648 + ra) % 4294967296 = m % 2 * 2147483648 + ra := by omega
  have f2 : (m * 4294967296 + 2 * ra) % 4294967296 = 2 * ra := by
    rw [Nat.mul_comm m, Nat.mul_add_mod]; exact Nat.mod_eq_of_lt (by omega)
  have f3 : m = 2 * (m / 2) + m % 2 := by omega
  have f4 : m % 2 < 2 := by omega
  rw [f1, f2]
  have f5 : m / 2 + 1 ≤ A := by omega
  generalize m / 2 = q at *
  generalize m % 2 = b at *
  have g1 : (b * 2147483648 + ra + q) * 2 % 4294967296 = 2 * (ra + q) := by omega
  have g2 : (b * 2147483648 + ra + q) / 2147483648 = b := by omega
  rw [g1, g2]
  omega
theorem turn_step (u k : Nat) (h : u < 4294967296) (hk : k < 32) :
    turnF u k < 4294967296 ∧ turnF u k * 2 % 4294967296 + turnF u k / 2147483648 = turnF u (k + 1) := by
  refine turn_gen u k (2 ^ k) (2 ^ (31 - k)) h rfl (by rw [Nat.pow_succ, Nat.mul_comm]) ?_ ?_ ?_
  · rw [show 32 - k = (31 - k) + 1 from by omega, Nat.pow_succ, Nat.mul_comm]
  · rw [show 32 - (k + 1) = 31 - k from by omega]
  · rw [← Nat.pow_add, show 31 - k + k = 31 from by omega]
theorem turn_lt (u k : Nat) (h : u < 4294967296) (hk : k < 32) : turnF u k < 4294967296 := (turn_step u k h hk).1

theorem turn_eq (u k : Int) (h0 : 0 ≤ u) (h1 : u < 4294967296) (k0 : 0 ≤ k) (k1 : k < 32) :
    bits .or .u32 (IntKind.u32.wrap (u * 2 ^ k.toNat)) (u / 2 ^ (32 - k).toNat) = turnF u.toNat k.toNat := by
  obtain ⟨m, rfl⟩ := Int.eq_ofNat_of_zero_le h0
  obtain ⟨j, rfl⟩ := Int.eq_ofNat_of_zero_le k0
  rw [IntKind.wrap_u32']
  have e1 : (m : Int) * 2 ^ (j : Int).toNat % 4294967296 = ((m * 2 ^ j % 4294967296 : Nat) : Int) := by simp
  have e2 : (m : Int) / 2 ^ (32 - (j : Int)).toNat = ((m / 2 ^ (32 - j) : Nat) : Int) := by
    rw [show (32 - (j : Int)).toNat = 32 - j from by omega]; simp
  have hp : 2 ^ j * 2 ^ (32 - j) = 4294967296 := by rw [← Nat.pow_add, show j + (32 - j) = 32 from by omega]
  have hq : m / 2 ^ (32 - j) < 2 ^ j := by
    apply Nat.div_lt_of_lt_mul; rw [Nat.mul_comm, hp]; omega
  have hj : 2 ^ j ≤ 2 ^ 31 := Nat.pow_le_pow_right (by omega) (by omega)
  have hd : 2 ^ j ∣ 4294967296 := ⟨2 ^ (32 - j), hp.symm⟩
  rw [e1, e2, u32_or_nat _ _ (Nat.mod_lt _ (by omega)) (by omega), nat_join j _ _ ?_ hq]
  · rfl
  · rw [Nat.mod_mod_of_dvd _ hd]; exact Nat.mul_mod_left _ _

theorem tmod_neg (n : Int) (h : n.tmod 32 < 0) : n.tmod 32 + 32 = n % 32 := by
  have h1 := Int.mul_tdiv_add_tmod n 32
  have h2 : -32 < n.tmod 32 := by
    have := Int.tmod_lt_of_pos (-n) (b := 32) (by omega)
    rw [Int.neg_tmod] at this; omega
  generalize n.tmod 32 = r at *
  generalize n.tdiv 32 = q at *
  omega
theorem tmod_pos (n : Int) (h : 0 ≤ n.tmod 32) : n.tmod 32 = n % 32 := by
  have h1 := Int.mul_tdiv_add_tmod n 32
  have h2 : n.tmod 32 < 32 := Int.tmod_lt_of_pos n (by omega)
  generalize n.tmod 32 = r at *
  generalize n.tdiv 32 = q at *
  omega

/-! ### Low -/
def lowF (u n : Int) : Int := if n ≤ 0 then 0 else if 64 ≤ n then u else u % 2 ^ n.toNat
theorem low_eq (u : Int) (n : Nat) (h0 : 0 ≤ u) (h1 : u < 18446744073709551616) (hn : n < 64) :
    bits .and .u64 u (2 ^ n - 1) = u % 2 ^ n := by
  have hp : 2 ^ n < 18446744073709551616 := Nat.pow_lt_pow_right (by omega) hn
  have hp0 : 0 < 2 ^ n := Nat.pow_pos (by omega)
  have e : ((2 : Int) ^ n - 1) = ((2 ^ n - 1 : Nat) : Int) := by
    rw [Int.ofNat_sub hp0]; simp
  obtain ⟨m, rfl⟩ := Int.eq_ofNat_of_zero_le h0
  rw [e, u64_and_nat m (2 ^ n - 1) (by omega) (by omega), Nat.and_two_pow_sub_one_eq_mod]
  simp
theorem low_eq' (u n : Int) (h0 : 0 ≤ u) (h1 : u < 18446744073709551616) (hn0 : 0 < n) (hn : n < 64) :
    bits .and .u64 u (IntKind.u64.wrap (IntKind.u64.wrap (2 ^ n.toNat) - 1)) = lowF u n := by
  obtain ⟨m, rfl⟩ := Int.eq_ofNat_of_zero_le (show 0 ≤ n by omega)
  have hp : 2 ^ m < 18446744073709551616 := Nat.pow_lt_pow_right (by omega) (by omega : m < 64)
  have hp0 : 0 < 2 ^ m := Nat.pow_pos (by omega)
  have e : (2 : Int) ^ (m : Int).toNat = ((2 ^ m : Nat) : Int) := by simp
  have e1 : IntKind.u64.wrap (IntKind.u64.wrap (2 ^ (m : Int).toNat) - 1) = 2 ^ m - 1 := by
    rw [IntKind.wrap_u64, IntKind.wrap_u64, e]
    have e' : (2 : Int) ^ m = ((2 ^ m : Nat) : Int) := by simp
    rw [e']
    omega
  rw [e1, low_eq u m h0 h1 (by omega)]
  unfold lowF
  rw [if_neg (by omega), if_neg (by omega)]
  simp
theorem low_step (u i : Nat) : u % 2 ^ i + u / 2 ^ i % 2 * 2 ^ i = u % 2 ^ (i + 1) := by
  rw [Nat.mod_pow_succ, Nat.mul_comm]

theorem low_round (v P X : Nat) (hv : v < 18446744073709551616) (hP0 : 0 < P) (hP : P ≤ 4611686018427387904) (hX : X < P) :
    IntKind.u64.wrap ((X : Int) + IntKind.u64.wrap ((IntKind.u64.wrap ((v : Int) / (P : Int))).tmod 2 * (P : Int))) = ((X + v / P % 2 * P : Nat) : Int) := by
  have hd : v / P ≤ v := Nat.div_le_self v P
  have e0 : ((v : Int) / (P : Int)) = ((v / P : Nat) : Int) := by simp
  rw [e0, IntKind.wrap_u64, IntKind.wrap_u64, IntKind.wrap_u64]
  generalize v / P = q at *
  have e1 : ((q : Int) % 18446744073709551616) = (q : Int) := by omega
  rw [e1, Int.tmod_eq_emod_of_nonneg (by omega)]
  rcases Nat.mod_two_eq_zero_or_one q with h | h
  · have e2 : (q : Int) % 2 = 0 := by omega
    rw [e2, h]; simp; omega
  · have e2 : (q : Int) % 2 = 1 := by omega
    rw [e2, h]; simp; omega
theorem low_bit (P : Nat) (j : Nat) (h : 2 ^ j = P) : (P : Int) * 2 = ((2 ^ (j + 1) : Nat) : Int) := by
  rw [Nat.pow_succ, h]; omega
theorem low_zero (u : Nat) : u % 2 ^ 0 = 0 := by simp [Nat.mod_one]
theorem lowF_nat (u : Nat) (n : Nat) (h : n < 64) : lowF u n = ((u % 2 ^ n : Nat) : Int) := by
  unfold lowF
  by_cases hz : n = 0
  · subst hz; simp [Nat.mod_one]
  · rw [if_neg (by omega), if_neg (by omega)]; simp
theorem lowF_neg (u n : Int) (h : n ≤ 0) : lowF u n = 0 := by unfold lowF; rw [if_pos h]

theorem lowF_end (v : Nat) (n : Int) (j : Nat) (h : n < 64) (h1 : (v : Int) < 18446744073709551616) (hj : (j : Int) ≤ max n 0) (hn : ¬ (j : Int) < n) : lowF v n = ((v % 2 ^ j : Nat) : Int) := by
  by_cases h0 : n ≤ 0
  · have : j = 0 := by omega
    subst this
    rw [lowF_neg _ _ h0]; simp [Nat.mod_one]
  · have : n = (j : Int) := by omega
    subst this
    exact lowF_nat v j (by omega)

/-! ### Fold -/
def foldS (s b : Int) : Int := IntKind.u32.wrap (bits .xor .u32 s b * 16777619)
def foldF (l : List Int) : Int := l.foldl foldS 2166136261
theorem fold_snoc (l : List Int) (b : Int) : foldF (l ++ [b]) = foldS (foldF l) b := by
  unfold foldF; rw [List.foldl_append]; rfl

/-! ### Both ways -/
theorem zigF_bd (n : Int) (h0 : -9223372036854775808 ≤ n) (h1 : n < 9223372036854775808) : 0 ≤ zigF n ∧ zigF n < 18446744073709551616 := by
  unfold zigF; split <;> omega
theorem zagF_bd (u : Int) (h0 : 0 ≤ u) (h1 : u < 18446744073709551616) : -9223372036854775808 ≤ zagF u ∧ zagF u < 9223372036854775808 := by
  unfold zagF; split <;> omega
theorem zag_zig (n : Int) : zagF (zigF n) = n := by
  unfold zagF zigF; split <;> split <;> omega
theorem zig_zag (u : Int) (h0 : 0 ≤ u) : zigF (zagF u) = u := by
  unfold zagF zigF
  by_cases h : u % 2 = 0
  · rw [if_pos h, if_pos (by omega)]; omega
  · rw [if_neg h, if_neg (by omega)]; omega
theorem turn_add (u j k : Nat) (h : u < 4294967296) (hjk : j + k ≤ 32) (hj : j < 32) : turnF (turnF u j) k = turnF u (j + k) := by
  induction k with
  | zero => exact turn_zero _ (turn_lt u j h hj)
  | succ k ih =>
    have h1 := (turn_step (turnF u j) k (turn_lt u j h hj) (by omega)).2
    have h2 := (turn_step u (j + k) h (by omega)).2
    rw [ih (by omega)] at h1
    rw [← h1, h2]; rfl
theorem turn_full (u : Nat) : turnF u 32 = u := by unfold turnF; simp
theorem turn_back (u : Nat) (n : Int) (h : u < 4294967296) : turnF (turnF u (n % 32).toNat) ((-n) % 32).toNat = u := by
  rw [turn_add u _ _ h (by omega) (by omega)]
  by_cases hz : n % 32 = 0
  · rw [show (n % 32).toNat + ((-n) % 32).toNat = 0 from by omega, turn_zero u h]
  · rw [show (n % 32).toNat + ((-n) % 32).toNat = 32 from by omega, turn_full]
theorem low_mod (v m : Nat) (h : v < 18446744073709551616) : lowF v m = ((v % 2 ^ m : Nat) : Int) := by
  by_cases hm : m < 64
  · exact lowF_nat v m hm
  · have hp : 2 ^ 64 ≤ 2 ^ m := Nat.pow_le_pow_right (by omega) (by omega)
    unfold lowF
    rw [if_neg (by omega), if_pos (by omega), Nat.mod_eq_of_lt (by omega)]
theorem low_low (v m n : Nat) (h : v < 18446744073709551616) : lowF (lowF v m) n = lowF v (min m n : Nat) := by
  have hd : v % 2 ^ m ≤ v := Nat.mod_le _ _
  rw [low_mod v m h, low_mod _ n (by omega), low_mod v _ h]
  by_cases hmn : m ≤ n
  · have hp : 2 ^ m ≤ 2 ^ n := Nat.pow_le_pow_right (by omega) hmn
    have hp0 : 0 < 2 ^ m := Nat.pow_pos (by omega)
    have := Nat.mod_lt v hp0
    rw [Nat.mod_eq_of_lt (by omega), Nat.min_eq_left hmn]
  · rw [Nat.mod_mod_of_dvd _ (Nat.pow_dvd_pow 2 (by omega)), Nat.min_eq_right (by omega)]
theorem low_bd (v m : Nat) (h : v < 18446744073709551616) : 0 ≤ lowF v m ∧ lowF v m ≤ v := by
  have hd : v % 2 ^ m ≤ v := Nat.mod_le _ _
  rw [low_mod v m h]; omega
theorem low_rest (v m : Nat) (h : v < 18446744073709551616) : lowF ((v : Int) - lowF v m) m = 0 := by
  have hd : v % 2 ^ m ≤ v := Nat.mod_le _ _
  rw [low_mod v m h]
  have e : (v : Int) - ((v % 2 ^ m : Nat) : Int) = ((v - v % 2 ^ m : Nat) : Int) := by omega
  rw [e, low_mod _ m (by omega)]
  have : (v - v % 2 ^ m) % 2 ^ m = 0 := by
    have h1 := Nat.div_add_mod v (2 ^ m)
    have : v - v % 2 ^ m = 2 ^ m * (v / 2 ^ m) := by omega
    rw [this]; exact Nat.mul_mod_right _ _
  rw [this]; rfl
theorem pow_small (k : Int) (h0 : 0 ≤ k) (h1 : k < 62) : 0 < (2 : Int) ^ k.toNat ∧ (2 : Int) ^ k.toNat ≤ 2305843009213693952 := by
  obtain ⟨m, rfl⟩ := Int.eq_ofNat_of_zero_le h0
  have hp : 2 ^ m ≤ 2 ^ 61 := Nat.pow_le_pow_right (by omega) (by omega)
  have hp0 : 0 < 2 ^ m := Nat.pow_pos (by omega)
  have e : (2 : Int) ^ (m : Int).toNat = ((2 ^ m : Nat) : Int) := by simp
  rw [e]; omega
theorem zig_big (n m : Int) (h0 : 0 < m) (h : m ≤ n ∨ n < -m) : 2 * m ≤ zigF n := by
  unfold zigF; split <;> omega
theorem zig_less (n m : Int) (h0 : 0 < m) (h : n < m) (h' : -m ≤ n) : zigF n < 2 * m := by
  unfold zigF; split <;> omega
end Go.Proofs.Ytfmkgflhgapeoab.M
namespace Go.Proofs.Ytfmkgflhgapeoab
open Go.RowKit Go.ChangeShapes Go.WideShapes Go.ChangeAt
set_option linter.unusedVariables false
set_option linter.unusedSimpArgs false

theorem bd_i64 {a : Int} (h : (Lit.int .i64 a).wf = true) : -9223372036854775808 ≤ a ∧ a < 9223372036854775808 := by
  simp [Lit.wf, IntKind.min, IntKind.max, IntKind.signed, IntKind.bits] at h; omega
theorem bd_i32 {a : Int} (h : (Lit.int .i32 a).wf = true) : -2147483648 ≤ a ∧ a < 2147483648 := by
  simp [Lit.wf, IntKind.min, IntKind.max, IntKind.signed, IntKind.bits] at h; omega
theorem bd_i16 {a : Int} (h : (Lit.int .i16 a).wf = true) : -32768 ≤ a ∧ a < 32768 := by
  simp [Lit.wf, IntKind.min, IntKind.max, IntKind.signed, IntKind.bits] at h; omega
theorem bd_u64 {a : Int} (h : (Lit.int .u64 a).wf = true) : 0 ≤ a ∧ a < 18446744073709551616 := by
  simp [Lit.wf, IntKind.min, IntKind.max, IntKind.signed, IntKind.bits] at h; omega
theorem bd_u32 {a : Int} (h : (Lit.int .u32 a).wf = true) : 0 ≤ a ∧ a < 4294967296 := by
  simp [Lit.wf, IntKind.min, IntKind.max, IntKind.signed, IntKind.bits] at h; omega
theorem bd_u8 {a : Int} (h : (Lit.int .u8 a).wf = true) : 0 ≤ a ∧ a < 256 := by
  simp [Lit.wf, IntKind.min, IntKind.max, IntKind.signed, IntKind.bits] at h; omega
theorem ret_int {k : IntKind} {a b : Int} (h : a = b) : Ending.returned (.int k a) = .returned (.int k b) := by rw [h]
theorem ret_int2 {k l : IntKind} {a b c d : Int} (h : a = b) (h' : c = d) : Ending.returned (.tuple #[.int k a, .int l c]) = .returned (.tuple #[.int k b, .int l d]) := by rw [h, h']
theorem ret_bool {a b : Bool} (h : a = b) : Ending.returned (.bool a) = .returned (.bool b) := by rw [h]
theorem val_int {k : IntKind} {a b : Int} (h : a = b) : Value.int k a = .int k b := by rw [h]
theorem hid {p : Prop} (h : p) : Hid p := h

/-- A region that draws its order, walked once in the order of the text: its operations read what was there, its callees change nothing that was there. -/
theorem wp_region_class {P : Program} {id : Nat} {Q : Exit → Act → World → Prop} {a : Act} {w : World} {l : List Oper} (hm : P.follows .mixedOrders = true) (hB : Region.lexB .any l.toArray = true)
    (h : wpQuiet P l.toArray (fun w' => Below w.heap.size w w') (fun a' => ∀ w', Below w.heap.size w w' → Q .normal a' w') l a) : (Code.region id l.toArray true).wp P Q a w :=
  wp_region_quiet (C := fun w' => Below w.heap.size w w') hm hB ⟨rfl, rfl, rfl, Nat.le_refl _, fun _ _ => rfl⟩ (by simpa using h)
theorem quiet_by {P : Program} {o : Oper} {a a' : Act} {C : World → Prop} {K : Act → Prop} {v : Value} (h1 : ∀ w, C w → o.quietAt P a C w v) (h2 : a.put o.dst v = a') (h3 : K a') : o.quiet P a C K :=
  ⟨v, h1, by rw [h2]; exact h3⟩
theorem class_of {P : Program} {f : FuncId} {args : Array Value} {W w : World} {v : Value} (hw : Below W.heap.size W w)
    (h : Calls P f args w fun e w' => e = .returned v ∧ Below w.heap.size w w') : Calls P f args w fun e w'' => e = .returned v ∧ Below W.heap.size W w'' :=
  h.mono fun _ _ ⟨he, hb⟩ => ⟨he, hw.trans (hb.mono hw.size)⟩
theorem class_same {P : Program} {f : FuncId} {args : Array Value} {W w : World} {v : Value} (hw : Below W.heap.size W w)
    (h : Calls P f args w fun e w' => e = .returned v ∧ w' = w) : Calls P f args w fun e w'' => e = .returned v ∧ Below W.heap.size W w'' :=
  h.mono fun _ _ ⟨he, hb⟩ => ⟨he, by rw [hb]; exact hw⟩
/-- A slice of bytes, as the walk is told of it: its length, and the numbers in its cells. -/
def IsB (w : World) (a : Option Addr) (len : Nat) (zs : List Int) : Prop :=
  zs.length = len ∧ len ≤ maxLen ∧ (0 < len → ∃ b off, a = some ⟨b, off, none⟩ ∧ ∀ i, i < len → w.cell? ⟨b, off + i, none⟩ = some (.int .u8 (zs.getD i 0))) ∧ ∀ i, 0 ≤ zs.getD i 0 ∧ zs.getD i 0 ≤ 255
theorem take_snoc (l : List Int) (k : Nat) (h : k < l.length) : l.take (k + 1) = l.take k ++ [l.getD k 0] := by
  rw [List.take_succ_eq_append_getElem h]; simp [h]
theorem IsB.later {w w' : World} {a : Option Addr} {len : Nat} {zs : List Int} (h : IsB w a len zs) (hb : Below w.heap.size w w') : IsB w' a len zs := by
  obtain ⟨h1, h2, h3, h4⟩ := h
  refine ⟨h1, h2, fun hp => ?_, h4⟩
  obtain ⟨b, off, e, hc⟩ := h3 hp
  exact ⟨b, off, e, fun i hi => cell_later hb (hc i hi)⟩
theorem IsB.front {w : World} {a : Option Addr} {len : Nat} {zs : List Int} (h : IsB w a len zs) (m : Nat) (hm : m ≤ len) : IsB w a m (zs.take m) := by
  obtain ⟨h1, h2, h3, h4⟩ := h
  refine ⟨by rw [List.length_take]; omega, by omega, fun hp => ?_, fun i => ?_⟩
  · obtain ⟨b, off, e, hc⟩ := h3 (by omega)
    refine ⟨b, off, e, fun i hi => ?_⟩
    rw [hc i (by omega)]
    simp [List.getD, List.getElem?_take, hi]
  · by_cases hi : i < m
    · have := h4 i
      simpa [List.getD, List.getElem?_take, hi] using this
    · simp [List.getD, List.getElem?_take, hi]
/-- What is read of a slice of bytes that came in. -/
theorem isB_of {H : Type} {enc : TypeId × Value → H} {P : Program} {W : World} {t e : TypeId} {a : Option Addr} {len cap : Nat} {d : DataW H} {p : List MemPlace}
    (ht : P.underlying t = some (.slice e)) (he : P.underlying e = some (.int .u8)) (hc : P.cellsOf e = 1)
    (h : DataW.Trod enc P W 0 (fun _ => true) true t (.slice a len cap) d p) : ∃ zs, IsB W a len zs ∧ len ≤ cap := by
  obtain ⟨fuel, hf⟩ := h
  rcases open_ints ht he hc hf with ⟨hcs, _⟩ | ⟨x, l, c, zs, hcs, _, hl, hm, hz, _, hcell, hwz⟩
  · simp [Value.cells] at hcs
    obtain ⟨rfl, rfl, rfl⟩ := hcs
    exact ⟨[], ⟨rfl, Nat.zero_le _, fun h => absurd h (by omega), fun i => by simp⟩, Nat.le_refl _⟩
  · simp [Value.cells] at hcs
    obtain ⟨rfl, rfl, rfl⟩ := hcs
    have hz' : zs.length = cap := by simpa using hz
    have hb : IsB W (some x) cap zs := by
      refine ⟨hz', hm, fun hp => ?_, fun i => ?_⟩
      · obtain ⟨b, off, spot⟩ := x
        have hc0 := hcell 0 (by omega)
        have hspot : spot = none := by simpa [Addr.add] using World.cell?_spot hc0
        subst hspot
        exact ⟨b, off, rfl, fun i hi => by
          have h := hcell i (by omega)
          rcases i with _ | i <;> simpa [Addr.add] using h⟩
      · by_cases hi : i < zs.length
        · have hmem : zs.getD i 0 ∈ zs := by
            simp [List.getD, hi]
          have := bd_u8 (hwz _ hmem)
          omega
        · simp [List.getD, List.getElem?_eq_none (by omega : zs.length ≤ i)]
    exact ⟨zs.take len, hb.front len hl, hl⟩
/-- What is read of an array of two numbers that came in. -/
theorem open_pair {H : Type} {enc : TypeId × Value → H} {P : Program} {W : World} {r : Reach} {b0 : Nat} {k : IntKind} {t e : TypeId} {v : Value} {d : DataW H} {p : List MemPlace}
    (ht : P.underlying t = some (.array 2 e)) (he : P.underlying e = some (.int k)) (hce : P.cellsOf e = 1) (hct : P.cellsOf t = 2)
    (hv : Value.okWide P W r b0 t v) (h : DataW.Trod enc P W 0 (fun _ => true) true t v d p) :
    ∃ x y, v = .agg #[.int k x, .int k y] ∧ (Lit.int k x).wf = true ∧ (Lit.int k y).wf = true := by
  simp only [Value.okWide, ht] at hv
  obtain ⟨cs, rfl, hsz, _⟩ := hv
  obtain ⟨fuel, hf⟩ := h
  obtain ⟨xs, m, _, _, _, hlen, hel⟩ := DataW.trod_array ht hf
  have h0 := hel 0 (by omega)
  have h1 := hel 1 (by omega)
  rw [hct] at hsz
  obtain ⟨c0, c1, rfl⟩ : ∃ c0 c1, cs = #[c0, c1] := by
    obtain ⟨l⟩ := cs
    match l, hsz with
    | [c0, c1], _ => exact ⟨c0, c1, rfl⟩
  match xs, hlen with
  | [x0, x1], _ =>
    simp [hce, Value.cells] at h0 h1
    obtain ⟨n0, e0, _, w0⟩ := DataW.trod_int he h0
    obtain ⟨n1, e1, _, w1⟩ := DataW.trod_int he h1
    simp at e0 e1
    subst e0 e1
    exact ⟨n0, n1, rfl, w0, w1⟩
set_option maxHeartbeats 400000 in
theorem fold_c (a : Option Addr) (len cap : Nat) (zs : List Int) (w : World) (hb : IsB w a len zs) :
    Calls Try.prog 89 #[.slice a len cap] w fun e w' => e = .returned (.int .u32 (M.foldF zs)) ∧ w' = w := by
  obtain ⟨hl, hm, hc, hz⟩ := hb
  unfold maxLen at hm
  have Hz := hid hz
  have Hc := hid hc
  have Hl := hid hl
  clear hz hc hl
  go_enter Try.func89, Try.ntmps89
  go_wp2
  go_loop [3, 4, 7] (fun s t i => ∃ j : Nat, j ≤ len ∧ i = .int .i64 j ∧ s = .int .u32 (M.foldF (zs.take j))) (fun _ _ i => ((len : Int) - intOf i).toNat)
  case atStart => exact ⟨0, by omega, rfl, rfl⟩
  case round =>
    obtain ⟨j, hj, rfl, rfl⟩ := hrel
    by_cases hlt : j < len
    · obtain ⟨b, off, rfl, hcell⟩ := Hc.out (by omega)
      have hcj := hcell j hlt
      have hzj := Hz.out j
      have HT := hid (take_snoc zs j (by have := Hl.out; omega))
      generalize hX : zs.getD j 0 = x at *
      have HX := hid hX
      clear hcell hX
      go_wp2
      go_round
      case rel => exact ⟨j + 1, by omega, by go_num, val_int (by rw [HT.out, M.fold_snoc]; rfl)⟩
      case measure => simp [intOf]; omega
    · go_wp2
      go_ret
      exact ⟨ret_int (by have := Hl.out; rw [List.take_of_length_le (by omega)]), rfl⟩
set_option maxHeartbeats 400000 in
theorem rfold_c (a : Option Addr) (len cap : Nat) (zs : List Int) (w : World) (hb : IsB w a len zs) :
    Calls Try.prog 90 #[.slice a len cap] w fun e w' => e = .returned (.int .u32 (M.foldF zs)) ∧ w' = w := by
  obtain ⟨hl, hm, hc, hz⟩ := hb
  unfold maxLen at hm
  have Hz := hid hz
  have Hc := hid hc
  have Hl := hid hl
  clear hz hc hl
  go_enter Try.func90, Try.ntmps90
  go_wp2
  go_loop [3, 4] (fun s i => ∃ j : Nat, j ≤ len ∧ i = .int .i64 j ∧ s = .int .u32 (M.foldF (zs.take j))) (fun _ i => ((len : Int) - intOf i).toNat)
  case atStart => exact ⟨0, by omega, rfl, rfl⟩
  case round =>
    obtain ⟨j, hj, rfl, rfl⟩ := hrel
    by_cases hlt : j < len
    · obtain ⟨b, off, rfl, hcell⟩ := Hc.out (by omega)
      have hcj := hcell j hlt
      have hzj := Hz.out j
      have HT := hid (take_snoc zs j (by have := Hl.out; omega))
      generalize hX : zs.getD j 0 = x at *
      have HX := hid hX
      clear hcell hX
      go_wp2
      go_round
      case rel => exact ⟨j + 1, by omega, by go_num, val_int (by rw [HT.out, M.fold_snoc]; rfl)⟩
      case measure => simp [intOf]; omega
    · go_wp2
      go_ret
      exact ⟨ret_int (by have := Hl.out; rw [List.take_of_length_le (by omega)]), rfl⟩
end Go.Proofs.Ytfmkgflhgapeoab
namespace Go.Proofs.Ytfmkgflhgapeoab.Fr
set_option linter.unusedVariables false
open Go.RowKit
/-- A text's bytes as numbers. -/
def bs (b : ByteArray) : List Int := b.data.toList.map fun c => (c.toNat : Int)
/-- Numbers as a text's bytes. -/
def tx (l : List Int) : ByteArray := ⟨(l.map fun x => UInt8.ofNat x.toNat).toArray⟩
def le4 (n : Int) : List Int := [n % 256, n / 256 % 256, n / 65536 % 256, n / 16777216 % 256]
def le2 (n : Int) : List Int := [n % 256, n / 256 % 256]
def num4 (a b c d : Int) : Int := a + 256 * b + 65536 * c + 16777216 * d
structure Pk where
  k : Int
  f : Int
  t : Int
  e : Int
  s : Int
  b : ByteArray
def val (p : Pk) : Value := .agg #[.int .u8 p.k, .int .u8 p.f, .int .u8 p.t, .int .u32 p.e, .int .u32 p.s, .string p.b]
def Wf (p : Pk) : Prop := (0 ≤ p.k ∧ p.k < 256) ∧ (0 ≤ p.f ∧ p.f < 256) ∧ (0 ≤ p.t ∧ p.t < 256) ∧ (0 ≤ p.e ∧ p.e < 4294967296) ∧ (0 ≤ p.s ∧ p.s < 4294967296)
def rightB (p : Pk) : Bool := ((p.k == 1 && p.f != 0 && decide (p.f ≤ 3) && p.t == 0) || (p.k == 2 && p.f == 0 && p.t != 0 && decide (p.t ≤ 3))) && p.s != 0 && decide (p.b.size ≤ 16384)
def head (p : Pk) : List Int := 66 :: 87 :: p.k :: p.f :: p.t :: (le4 p.e ++ le4 p.s ++ le2 p.b.size ++ bs p.b)
def enc (p : Pk) : List Int := head p ++ le4 (M.foldF (head p))
theorem bs_length (b : ByteArray) : (bs b).length = b.size := by unfold bs; rw [List.length_map]; rfl
theorem bs_byte (b : ByteArray) : ∀ x ∈ bs b, 0 ≤ x ∧ x ≤ 255 := by
  intro x hx
  unfold bs at hx
  obtain ⟨c, _, rfl⟩ := List.mem_map.1 hx
  have := c.toNat_lt
  omega
theorem tx_bs (b : ByteArray) : tx (bs b) = b := by
  unfold tx bs
  rw [List.map_map]
  have : ((fun x => UInt8.ofNat x.toNat) ∘ fun (c : UInt8) => (c.toNat : Int)) = id := by funext c; simp
  rw [this]; simp
theorem bs_tx (l : List Int) (h : ∀ x ∈ l, 0 ≤ x ∧ x ≤ 255) : bs (tx l) = l := by
  unfold tx bs
  simp only [List.map_map]
  conv => rhs; rw [← List.map_id l]
  apply List.map_congr_left
  intro x hx
  have := h x hx
  show ((UInt8.ofNat x.toNat).toNat : Int) = x
  rw [UInt8.toNat_ofNat_of_lt' (show x.toNat < 256 by omega)]; omega
theorem tx_size (l : List Int) : (tx l).size = l.length := by
  show (l.map fun x => UInt8.ofNat x.toNat).toArray.size = _
  simp
theorem le4_num4 (a b c d : Int) (ha : 0 ≤ a ∧ a ≤ 255) (hb : 0 ≤ b ∧ b ≤ 255) (hc : 0 ≤ c ∧ c ≤ 255) (hd : 0 ≤ d ∧ d ≤ 255) : le4 (num4 a b c d) = [a, b, c, d] := by
  have h1 : num4 a b c d % 256 = a := by unfold num4; omega
  have h2 : num4 a b c d / 256 % 256 = b := by unfold num4; omega
  have h3 : num4 a b c d / 65536 % 256 = c := by unfold num4; omega
  have h4 : num4 a b c d / 16777216 % 256 = d := by unfold num4; omega
  unfold le4; rw [h1, h2, h3, h4]
theorem num4_le4 (n : Int) (h0 : 0 ≤ n) (h1 : n < 4294967296) : num4 (n % 256) (n / 256 % 256) (n / 65536 % 256) (n / 16777216 % 256) = n := by
  unfold num4; omega
theorem num4_lt (a b c d : Int) (ha : 0 ≤ a ∧ a ≤ 255) (hb : 0 ≤ b ∧ b ≤ 255) (hc : 0 ≤ c ∧ c ≤ 255) (hd : 0 ≤ d ∧ d ≤ 255) : 0 ≤ num4 a b c d ∧ num4 a b c d < 4294967296 := by
  unfold num4; omega
theorem fold_lt (l : List Int) : 0 ≤ M.foldF l ∧ M.foldF l < 4294967296 := by
  rcases List.eq_nil_or_concat l with rfl | ⟨l', b, rfl⟩
  · unfold M.foldF; simp
  · rw [List.concat_eq_append, M.fold_snoc]; unfold M.foldS; rw [IntKind.wrap_u32]; omega
theorem head_length (p : Pk) : (head p).length = 15 + p.b.size := by
  unfold head le4 le2; simp [bs_length]; omega
theorem enc_length (p : Pk) : (enc p).length = 19 + p.b.size := by
  unfold enc; rw [List.length_append, head_length]; simp [le4]; omega
theorem le4_byte (n : Int) : ∀ x ∈ le4 n, 0 ≤ x ∧ x ≤ 255 := by
  intro x hx; unfold le4 at hx; simp at hx; omega
theorem le2_byte (n : Int) : ∀ x ∈ le2 n, 0 ≤ x ∧ x ≤ 255 := by
  intro x hx; unfold le2 at hx; simp at hx; omega
theorem enc_byte (p : Pk) (h : Wf p) : ∀ x ∈ enc p, 0 ≤ x ∧ x ≤ 255 := by
  obtain ⟨h1, h2, h3, h4, h5⟩ := h
  intro x hx
  unfold enc head at hx
  simp only [List.cons_append, List.mem_cons, List.mem_append] at hx
  rcases hx with rfl | rfl | rfl | rfl | rfl | ((hx | hx) | hx) | hx
  · omega
  · omega
  · omega
  · omega
  · omega
  · rcases hx with hx | hx
    · exact le4_byte _ _ hx
    · exact le4_byte _ _ hx
  · exact le2_byte _ _ hx
  · exact bs_byte _ _ hx
  · exact le4_byte _ _ hx
/-- How many bytes the body has, by the bytes themselves. -/
def nb (zs : List Int) : Int := zs.getD 13 0 + 256 * zs.getD 14 0
def parse (zs : List Int) : Pk := ⟨zs.getD 2 0, zs.getD 3 0, zs.getD 4 0, num4 (zs.getD 5 0) (zs.getD 6 0) (zs.getD 7 0) (zs.getD 8 0), num4 (zs.getD 9 0) (zs.getD 10 0) (zs.getD 11 0) (zs.getD 12 0), tx ((zs.drop 15).take (nb zs).toNat)⟩
/-- The number in the four bytes from i on. -/
def at4 (zs : List Int) (i : Nat) : Int := num4 (zs.getD i 0) (zs.getD (i + 1) 0) (zs.getD (i + 2) 0) (zs.getD (i + 3) 0)
/-- Bytes begin with the packet's. -/
def Begins (p : Pk) (zs : List Int) : Prop := Wf p ∧ rightB p = true ∧ ∃ r, zs = enc p ++ r
theorem right_size {p : Pk} (h : rightB p = true) : p.b.size ≤ 16384 := by
  unfold rightB at h; simp at h; exact h.2
theorem wf_parse (zs : List Int) (hz : ∀ i, 0 ≤ zs.getD i 0 ∧ zs.getD i 0 ≤ 255) : Wf (parse zs) := by
  unfold Wf parse
  have h := fun i => hz i
  refine ⟨by have := h 2; simp only; omega, by have := h 3; simp only; omega, by have := h 4; simp only; omega, num4_lt _ _ _ _ (h _) (h _) (h _) (h _), num4_lt _ _ _ _ (h _) (h _) (h _) (h _)⟩
/-- What the bytes of a packet say, whatever stands behind. -/
theorem enc_says (p : Pk) (r : List Int) (h : Wf p) (hs : p.b.size < 65536) :
    (enc p ++ r).getD 0 0 = 66 ∧ (enc p ++ r).getD 1 0 = 87 ∧ nb (enc p ++ r) = p.b.size ∧ parse (enc p ++ r) = p ∧ at4 (enc p ++ r) (15 + p.b.size) = M.foldF (head p) ∧ (enc p ++ r).take (15 + p.b.size) = head p := by
  obtain ⟨h1, h2, h3, h4, h5⟩ := h
  have hn : nb (enc p ++ r) = p.b.size := by
    unfold enc head le4 le2 nb
    simp
    omega
  refine ⟨by simp [enc, head], by simp [enc, head], hn, ?_, ?_, ?_⟩
  · unfold parse
    rw [hn]
    have hb : ((enc p ++ r).drop 15).take (p.b.size : Int).toNat = bs p.b := by
      have : (enc p ++ r).drop 15 = bs p.b ++ (le4 (M.foldF (head p)) ++ r) := by
        unfold enc
        simp [head, le4, le2]
      rw [this, Int.toNat_natCast, ← bs_length, List.take_left]
    rw [hb, tx_bs]
    have a1 := num4_le4 p.e h4.1 h4.2
    have a2 := num4_le4 p.s h5.1 h5.2
    unfold enc head le4 le2
    simp [a1, a2]
  · unfold at4
    have : ∀ j, (enc p ++ r).getD (15 + p.b.size + j) 0 = (le4 (M.foldF (head p)) ++ r).getD j 0 := by
      intro j
      unfold enc
      rw [List.append_assoc]
      simp only [List.getD]
      rw [List.getElem?_append_right (by rw [head_length]; omega), head_length]
      congr 2; omega
    have t0 := this 0
    have t1 := this 1
    have t2 := this 2
    have t3 := this 3
    rw [Nat.add_zero] at t0
    rw [t0, t1, t2, t3]
    have := fold_lt (head p)
    have := num4_le4 (M.foldF (head p)) this.1 this.2
    simpa [le4] using this
  · unfold enc
    rw [List.append_assoc, ← head_length, List.take_left]
theorem cons15 {zs : List Int} (h : 15 ≤ zs.length) : ∃ a0 a1 a2 a3 a4 a5 a6 a7 a8 a9 a10 a11 a12 a13 a14 r, zs = a0 :: a1 :: a2 :: a3 :: a4 :: a5 :: a6 :: a7 :: a8 :: a9 :: a10 :: a11 :: a12 :: a13 :: a14 :: r := by
  match zs, h with
  | a0 :: a1 :: a2 :: a3 :: a4 :: a5 :: a6 :: a7 :: a8 :: a9 :: a10 :: a11 :: a12 :: a13 :: a14 :: r, _ => exact ⟨a0, a1, a2, a3, a4, a5, a6, a7, a8, a9, a10, a11, a12, a13, a14, r, rfl⟩
theorem cons4 {zs : List Int} (h : 4 ≤ zs.length) : ∃ a0 a1 a2 a3 r, zs = a0 :: a1 :: a2 :: a3 :: r := by
  match zs, h with
  | a0 :: a1 :: a2 :: a3 :: r, _ => exact ⟨a0, a1, a2, a3, r, rfl⟩
theorem mem_getD {zs : List Int} (hz : ∀ i, 0 ≤ zs.getD i 0 ∧ zs.getD i 0 ≤ 255) : ∀ x ∈ zs, 0 ≤ x ∧ x ≤ 255 := by
  intro x hx
  obtain ⟨i, hi, rfl⟩ := List.getElem_of_mem hx
  have := hz i
  simpa [List.getD, hi] using this
/-- Bytes that pass the tests are the packet's that they say, and what stands behind. -/
theorem enc_parse (zs : List Int) (hz : ∀ i, 0 ≤ zs.getD i 0 ∧ zs.getD i 0 ≤ 255) (hl : 19 ≤ zs.length) (hl2 : 19 + nb zs ≤ zs.length) (h0 : zs.getD 0 0 = 66) (h1 : zs.getD 1 0 = 87)
    (hs : at4 zs (15 + (nb zs).toNat) = M.foldF (zs.take (15 + (nb zs).toNat))) : zs = enc (parse zs) ++ zs.drop (19 + (nb zs).toNat) ∧ ((parse zs).b.size : Int) = nb zs := by
  have hm := mem_getD hz
  have hn0 : 0 ≤ nb zs := by unfold nb; have := hz 13; have := hz 14; omega
  obtain ⟨n, hn⟩ := Int.eq_ofNat_of_zero_le hn0
  rw [hn] at hl2 hs
  have hnt : ((n : Nat) : Int).toNat = n := Int.toNat_natCast n
  have hnt2 : (nb zs).toNat = n := by rw [hn]; exact hnt
  rw [hnt] at hs
  obtain ⟨a0, a1, a2, a3, a4, a5, a6, a7, a8, a9, a10, a11, a12, a13, a14, r, rfl⟩ := cons15 (by omega : 15 ≤ zs.length)
  have hrl : n + 4 ≤ r.length := by simp at hl2; omega
  obtain ⟨s0, s1, s2, s3, r2, hr2⟩ := cons4 (by rw [List.length_drop]; omega : 4 ≤ (r.drop n).length)
  have hr : r = r.take n ++ (s0 :: s1 :: s2 :: s3 :: r2) := by rw [← hr2, List.take_append_drop]
  have htl : (r.take n).length = n := by rw [List.length_take]; omega
  generalize r.take n = B at hr htl
  subst hr
  have hnn : a13 + 256 * a14 = n := by rw [← hn]; simp [nb]
  simp at h0 h1
  subst h0 h1
  have hB : ∀ x ∈ B, 0 ≤ x ∧ x ≤ 255 := fun x hx => hm x (by simp [hx])
  have hsum : at4 (66 :: 87 :: a2 :: a3 :: a4 :: a5 :: a6 :: a7 :: a8 :: a9 :: a10 :: a11 :: a12 :: a13 :: a14 :: (B ++ (s0 :: s1 :: s2 :: s3 :: r2))) (15 + n) = num4 s0 s1 s2 s3 := by
    have : ∀ j, (66 :: 87 :: a2 :: a3 :: a4 :: a5 :: a6 :: a7 :: a8 :: a9 :: a10 :: a11 :: a12 :: a13 :: a14 :: (B ++ (s0 :: s1 :: s2 :: s3 :: r2))).getD (15 + n + j) 0 = (s0 :: s1 :: s2 :: s3 :: r2).getD j 0 := by
      intro j
      have e : 66 :: 87 :: a2 :: a3 :: a4 :: a5 :: a6 :: a7 :: a8 :: a9 :: a10 :: a11 :: a12 :: a13 :: a14 :: (B ++ (s0 :: s1 :: s2 :: s3 :: r2)) = (66 :: 87 :: a2 :: a3 :: a4 :: a5 :: a6 :: a7 :: a8 :: a9 :: a10 :: a11 :: a12 :: a13 :: a14 :: B) ++ (s0 :: s1 :: s2 :: s3 :: r2) := by simp
      rw [e]
      simp only [List.getD]
      rw [List.getElem?_append_right (by simp; omega)]
      congr 2; simp; omega
    have t0 := this 0
    rw [Nat.add_zero] at t0
    unfold at4
    rw [t0, this 1, this 2, this 3]; simp
  have hb : (parse (66 :: 87 :: a2 :: a3 :: a4 :: a5 :: a6 :: a7 :: a8 :: a9 :: a10 :: a11 :: a12 :: a13 :: a14 :: (B ++ (s0 :: s1 :: s2 :: s3 :: r2)))).b = tx B := by
    unfold parse
    rw [hnt2]
    show tx ((B ++ (s0 :: s1 :: s2 :: s3 :: r2)).take n) = _
    rw [← htl, List.take_left]
  have htx : (tx B).size = n := by rw [tx_size, htl]
  have hh : head (parse (66 :: 87 :: a2 :: a3 :: a4 :: a5 :: a6 :: a7 :: a8 :: a9 :: a10 :: a11 :: a12 :: a13 :: a14 :: (B ++ (s0 :: s1 :: s2 :: s3 :: r2)))) = 66 :: 87 :: a2 :: a3 :: a4 :: a5 :: a6 :: a7 :: a8 :: a9 :: a10 :: a11 :: a12 :: a13 :: a14 :: B := by
    unfold head
    rw [hb, bs_tx B hB, htx]
    have m : ∀ x ∈ [a5, a6, a7, a8, a9, a10, a11, a12, a13, a14], 0 ≤ x ∧ x ≤ 255 := fun x hx => hm x (by simp at hx ⊢; rcases hx with rfl | rfl | rfl | rfl | rfl | rfl | rfl | rfl | rfl | rfl <;> simp)
    have e1 := le4_num4 a5 a6 a7 a8 (m _ (by simp)) (m _ (by simp)) (m _ (by simp)) (m _ (by simp))
    have e2 := le4_num4 a9 a10 a11 a12 (m _ (by simp)) (m _ (by simp)) (m _ (by simp)) (m _ (by simp))
    have m13 := m a13 (by simp)
    have m14 := m a14 (by simp)
    have e3 : le2 (n : Int) = [a13, a14] := by
      unfold le2
      rw [show (n : Int) % 256 = a13 by omega, show (n : Int) / 256 % 256 = a14 by omega]
    rw [e3]
    simp [parse, e1, e2]
  refine ⟨?_, by rw [hb, htx, hn]⟩
  unfold enc
  rw [hh]
  have ht : (66 :: 87 :: a2 :: a3 :: a4 :: a5 :: a6 :: a7 :: a8 :: a9 :: a10 :: a11 :: a12 :: a13 :: a14 :: (B ++ (s0 :: s1 :: s2 :: s3 :: r2))).take (15 + n) = 66 :: 87 :: a2 :: a3 :: a4 :: a5 :: a6 :: a7 :: a8 :: a9 :: a10 :: a11 :: a12 :: a13 :: a14 :: B := by
    rw [Nat.add_comm]
    simp [← htl]
  rw [ht, hsum] at hs
  have ms : ∀ x ∈ [s0, s1, s2, s3], 0 ≤ x ∧ x ≤ 255 := fun x hx => hm x (by simp at hx ⊢; rcases hx with rfl | rfl | rfl | rfl <;> simp)
  have e4 := le4_num4 s0 s1 s2 s3 (ms _ (by simp)) (ms _ (by simp)) (ms _ (by simp)) (ms _ (by simp))
  rw [← hs, e4, hnt2, show 19 + n = (n + 4) + 15 by omega]
  simp only [List.drop_succ_cons, List.cons_append]
  simp [← htl]
/-- Which packet the bytes begin with, if any. -/
def firstF (zs : List Int) : Option Pk :=
  if 19 ≤ zs.length ∧ 19 + nb zs ≤ zs.length ∧ zs.getD 0 0 = 66 ∧ zs.getD 1 0 = 87 ∧ at4 zs (15 + (nb zs).toNat) = M.foldF (zs.take (15 + (nb zs).toNat)) ∧ rightB (parse zs) = true then some (parse zs) else none
theorem first_iff (zs : List Int) (hz : ∀ i, 0 ≤ zs.getD i 0 ∧ zs.getD i 0 ≤ 255) (p : Pk) : firstF zs = some p ↔ Begins p zs := by
  constructor
  · intro h
    unfold firstF at h
    split at h
    · next hc =>
      obtain ⟨c1, c2, c3, c4, c5, c6⟩ := hc
      cases h
      exact ⟨wf_parse zs hz, c6, _, (enc_parse zs hz c1 c2 c3 c4 c5).1⟩
    · cases h
  · rintro ⟨hw, hr, r, rfl⟩
    have hsz := right_size hr
    obtain ⟨e1, e2, e3, e4, e5, e6⟩ := enc_says p r hw (by omega)
    unfold firstF
    rw [if_pos, e4]
    rw [e3, e1, e2, e4, Int.toNat_natCast, e5, e6]
    refine ⟨by rw [List.length_append, enc_length]; omega, by rw [List.length_append, enc_length]; omega, rfl, rfl, rfl, hr⟩
theorem begins_one {p q : Pk} {zs : List Int} (h : Begins p zs) (h' : Begins q zs) : p = q := by
  obtain ⟨a1, a2, r, rfl⟩ := h
  obtain ⟨b1, b2, s, e⟩ := h'
  have := right_size a2
  have := right_size b2
  have x := (enc_says p r a1 (by omega)).2.2.2.1
  have y := (enc_says q s b1 (by omega)).2.2.2.1
  rw [e, y] at x
  exact x.symm
end Go.Proofs.Ytfmkgflhgapeoab.Fr
namespace Go.Proofs.Ytfmkgflhgapeoab.Jo
set_option linter.unusedVariables false
open Go.RowKit Go.Proofs.Ytfmkgflhgapeoab.Fr
/-- A group: its parts' bytes. -/
abbrev Gr := List (List Int)
def Bytes (l : List Int) : Prop := ∀ x ∈ l, 0 ≤ x ∧ x < 256
def Sct (l : List Int) : Prop := l.length = 32 ∧ Bytes l
/-- Bytes, filled up to a sector. -/
def pad (l : List Int) : List Int := l ++ List.replicate (32 - l.length) 0
def sealed (l : List Int) : List Int := pad (l ++ le4 (M.foldF l))
def headS (t : Int) : List Int := sealed (72 :: le4 t)
def firstS (t n k len : Int) : List Int := sealed (71 :: (le4 t ++ le4 n ++ k :: le4 len))
def lastS (t n : Int) : List Int := sealed (67 :: (le4 t ++ le4 n))
def loadF (g : Gr) : List Int := g.flatMap fun p => le4 p.length ++ p
def chunk (l : List Int) (k : Nat) : List Int := (l.drop (31 * k)).take 31
def many (n : Nat) : Nat := (n + 30) / 31
def dataS (l : List Int) (k : Nat) : List Int := pad (68 :: chunk l k)
def dataL (l : List Int) (m : Nat) : List (List Int) := (List.range m).map (dataS l)
def secsOf (n : Nat) : Nat := 2 + many n
def okG (g : Gr) : Bool := decide (1 ≤ g.length ∧ g.length ≤ 8 ∧ ∀ p ∈ g, p.length ≤ 16384)
def needF (g : Gr) : Nat := if okG g = true then secsOf (loadF g).length else 0
def laid (g : Gr) (t n : Int) : List (List Int) := firstS t n g.length (loadF g).length :: (dataL (loadF g) (many (loadF g).length) ++ [lastS t n])
theorem pad_len {l : List Int} (h : l.length ≤ 32) : (pad l).length = 32 := by unfold pad; simp; omega
theorem bytes_app {a b : List Int} (ha : Bytes a) (hb : Bytes b) : Bytes (a ++ b) := fun x hx => (List.mem_append.1 hx).elim (ha x) (hb x)
theorem bytes_cons {a : Int} {b : List Int} (ha : 0 ≤ a ∧ a < 256) (hb : Bytes b) : Bytes (a :: b) := fun x hx => by
  rcases List.mem_cons.1 hx with rfl | h
  · exact ha
  · exact hb x h
theorem bytes_le4 (n : Int) : Bytes (le4 n) := fun x hx => by have := le4_byte n x hx; omega
theorem bytes_take {l : List Int} (h : Bytes l) (n : Nat) : Bytes (l.take n) := fun x hx => h x (List.mem_of_mem_take hx)
theorem bytes_drop {l : List Int} (h : Bytes l) (n : Nat) : Bytes (l.drop n) := fun x hx => h x (List.mem_of_mem_drop hx)
theorem bytes_zero (n : Nat) : Bytes (List.replicate n 0) := fun x hx => by have := List.eq_of_mem_replicate hx; omega
theorem bytes_getD {l : List Int} (h : Bytes l) (i : Nat) : 0 ≤ l.getD i 0 ∧ l.getD i 0 < 256 := by
  by_cases hi : i < l.length
  · have := h l[i] (List.getElem_mem hi); simpa [List.getD, hi] using this
  · have : l.getD i 0 = 0 := by simp [List.getD, List.getElem?_eq_none (by omega : l.length ≤ i)]
    omega
theorem bytes_flat {L : List (List Int)} (h : ∀ l ∈ L, Bytes l) : Bytes L.flatten := fun x hx => by
  obtain ⟨l, hl, hx'⟩ := List.mem_flatten.1 hx; exact h l hl x hx'
theorem le4_len (n : Int) : (le4 n).length = 4 := rfl
theorem pad_sct {l : List Int} (h : l.length ≤ 32) (hb : Bytes l) : Sct (pad l) := ⟨pad_len h, bytes_app hb (bytes_zero _)⟩
theorem sealed_sct {l : List Int} (h : l.length ≤ 28) (hb : Bytes l) : Sct (sealed l) := pad_sct (by simp [le4_len]; omega) (bytes_app hb (bytes_le4 _))
theorem head_sct (t : Int) : Sct (headS t) := sealed_sct (by simp [le4_len]) (bytes_cons (by omega) (bytes_le4 _))
theorem first_sct (t n : Int) {k : Int} (hk : 0 ≤ k ∧ k < 256) (len : Int) : Sct (firstS t n k len) :=
  sealed_sct (by simp [le4_len]) (bytes_cons (by omega) (bytes_app (bytes_app (bytes_le4 _) (bytes_le4 _)) (bytes_cons hk (bytes_le4 _))))
theorem last_sct (t n : Int) : Sct (lastS t n) := sealed_sct (by simp [le4_len]) (bytes_cons (by omega) (bytes_app (bytes_le4 _) (bytes_le4 _)))
theorem chunk_len (l : List Int) (k : Nat) : (chunk l k).length = min 31 (l.length - 31 * k) := by unfold chunk; simp
theorem data_sct {l : List Int} (h : Bytes l) (k : Nat) : Sct (dataS l k) := pad_sct (by simp [chunk_len]; omega) (bytes_cons (by omega) (bytes_take (bytes_drop h _) _))
theorem bytes_load {g : Gr} (h : ∀ p ∈ g, Bytes p) : Bytes (loadF g) := fun x hx => by
  obtain ⟨p, hp, hx'⟩ := List.mem_flatMap.1 hx
  exact bytes_app (bytes_le4 _) (h p hp) x hx'
theorem laid_len (g : Gr) (t n : Int) : (laid g t n).length = secsOf (loadF g).length := by unfold laid dataL secsOf; simp; omega
theorem laid_sct {g : Gr} (h : ∀ p ∈ g, Bytes p) (hl : g.length ≤ 8) (t n : Int) : ∀ s ∈ laid g t n, Sct s := by
  intro s hs
  unfold laid dataL at hs
  rcases List.mem_cons.1 hs with rfl | hs
  · exact first_sct _ _ (by omega) _
  · rcases List.mem_append.1 hs with hs | hs
    · obtain ⟨k, _, rfl⟩ := List.mem_map.1 hs
      exact data_sct (bytes_load h) k
    · rw [List.mem_singleton.1 hs]; exact last_sct _ _
theorem dataL_snoc (l : List Int) (k : Nat) : dataL l (k + 1) = dataL l k ++ [dataS l k] := by unfold dataL; rw [List.range_succ, List.map_append]; rfl
theorem load_snoc (g : Gr) (p : List Int) : loadF (g ++ [p]) = loadF g ++ (le4 p.length ++ p) := by unfold loadF; simp
theorem load_cons (g : Gr) (p : List Int) : loadF (p :: g) = le4 p.length ++ p ++ loadF g := by unfold loadF; simp
theorem load_take {g : Gr} {k : Nat} (h : k < g.length) : loadF (g.take (k + 1)) = loadF (g.take k) ++ (le4 (g.getD k []).length ++ g.getD k []) := by
  rw [List.take_succ_eq_append_getElem h, load_snoc]; simp [h]
theorem load_le {g : Gr} {m : Nat} (h : ∀ p ∈ g, p.length ≤ m) : (loadF g).length ≤ g.length * (4 + m) := by
  induction g with
  | nil => simp [loadF]
  | cons p g ih =>
    rw [load_cons]
    have h1 := h p (by simp)
    have h2 := ih fun q hq => h q (by simp [hq])
    simp only [List.length_append, le4_len, List.length_cons]
    rw [Nat.add_mul]; omega
theorem ok_iff {g : Gr} : okG g = true ↔ 1 ≤ g.length ∧ g.length ≤ 8 ∧ ∀ p ∈ g, p.length ≤ 16384 := by unfold okG; simp
theorem ok_load {g : Gr} (h : okG g = true) : 4 ≤ (loadF g).length ∧ (loadF g).length ≤ 131104 := by
  obtain ⟨h1, h2, h3⟩ := ok_iff.1 h
  have h4 := load_le h3
  refine ⟨?_, ?_⟩
  · cases g with
    | nil => simp at h1
    | cons p g => rw [load_cons]; simp [le4_len]
  · have : g.length * (4 + 16384) ≤ 8 * (4 + 16384) := Nat.mul_le_mul_right _ h2
    omega
/-- What lies in the sectors of a load, one behind the other, begins with the load. -/
theorem data_flat (l : List Int) : ∀ m, 31 * m ≤ l.length + 30 → ((dataL l m).map (List.drop 1)).flatten = l.take (31 * m) ++ List.replicate (31 * m - l.length) 0
  | 0, _ => by simp [dataL]
  | m + 1, h => by
    rw [dataL_snoc, List.map_append, List.flatten_append, data_flat l m (by omega)]
    have e1 : l.take (31 * (m + 1)) = l.take (31 * m) ++ chunk l m := by
      unfold chunk; rw [show 31 * (m + 1) = 31 * m + 31 by omega, List.take_add]
    have e2 : 31 * m - l.length = 0 := by omega
    rw [e1, e2]
    unfold dataS pad
    simp only [List.map_cons, List.map_nil, List.flatten_cons, List.flatten_nil, List.append_nil, List.replicate_zero, List.cons_append, List.drop_succ_cons, List.drop_zero, List.length_cons, chunk_len, List.append_assoc]
    congr 3
    omega
theorem many_le (n : Nat) : 31 * many n ≤ n + 30 ∧ n ≤ 31 * many n := by unfold many; omega
theorem data_load (l : List Int) : (((dataL l (many l.length)).map (List.drop 1)).flatten).take l.length = l := by
  have h := many_le l.length
  rw [data_flat l _ h.1, List.take_of_length_le h.2, List.take_append_of_le_length (Nat.le_refl _), List.take_length]
/-- As many parts as asked for, if they make up the load. -/
def partsF : Nat → List Int → Option Gr
  | 0, l => if l.length = 0 then some [] else none
  | k + 1, l => if l.length < 4 then none else if 16384 < at4 l 0 ∨ ((l.length - 4 : Nat) : Int) < at4 l 0 then none else
      match partsF k ((l.drop 4).drop (at4 l 0).toNat) with
      | none => none
      | some g => some ((l.drop 4).take (at4 l 0).toNat :: g)
theorem at4_le4 (n : Int) (r : List Int) (h0 : 0 ≤ n) (h1 : n < 4294967296) : at4 (le4 n ++ r) 0 = n := num4_le4 n h0 h1
theorem parts_load : ∀ (g : Gr), (∀ p ∈ g, p.length ≤ 16384) → partsF g.length (loadF g) = some g
  | [], _ => rfl
  | p :: g, h => by
    have h1 := h p (by simp)
    have ih := parts_load g fun q hq => h q (by simp [hq])
    rw [load_cons, List.append_assoc, List.length_cons]
    unfold partsF
    have e1 : at4 (le4 (p.length : Int) ++ (p ++ loadF g)) 0 = p.length := at4_le4 _ _ (by omega) (by omega)
    have e2 : (le4 (p.length : Int) ++ (p ++ loadF g)).drop 4 = p ++ loadF g := rfl
    rw [if_neg (by simp [le4_len]), e1, if_neg (by simp [le4_len]; omega), e2]
    have e3 : ((p.length : Int)).toNat = p.length := by omega
    rw [e3, List.drop_left, ih, List.take_left]
theorem parts_bytes : ∀ (k : Nat) (l : List Int) (g : Gr), partsF k l = some g → Bytes l → (∀ p ∈ g, Bytes p) ∧ g.length = k
  | 0, l, g, h, hb => by
    unfold partsF at h
    split at h
    · cases h; exact ⟨fun p hp => (by cases hp), rfl⟩
    · cases h
  | k + 1, l, g, h, hb => by
    unfold partsF at h
    split at h
    · cases h
    · split at h
      · cases h
      · split at h
        · cases h
        · rename_i g' hg
          cases h
          have ih := parts_bytes k _ g' hg (bytes_drop (bytes_drop hb _) _)
          refine ⟨fun p hp => ?_, by simp [ih.2]⟩
          rcases List.mem_cons.1 hp with rfl | hp
          · exact bytes_take (bytes_drop hb _) _
          · exact ih.1 p hp
/-- The bytes of a load in sectors. -/
def readL (ss : List (List Int)) (len : Nat) : List Int := ((ss.map (List.drop 1)).flatten).take len
/-- The group that sectors begin with. -/
def readF (t n : Int) (ss : List (List Int)) : Option Gr :=
  match ss with
  | [] => none
  | s :: _ =>
    if 131104 < at4 s 10 ∨ ss.length < secsOf (at4 s 10).toNat then none else
    match partsF (s.getD 9 0).toNat (readL ((ss.take (secsOf (at4 s 10).toNat - 1)).drop 1) (at4 s 10).toNat) with
    | none => none
    | some g => if needF g = secsOf (at4 s 10).toNat ∧ laid g t n = ss.take (secsOf (at4 s 10).toNat) then some g else none
theorem at4_first (t n k len : Int) (h0 : 0 ≤ len) (h1 : len < 4294967296) : at4 (firstS t n k len) 10 = len := num4_le4 len h0 h1
theorem getD_first (t n k len : Int) : (firstS t n k len).getD 9 0 = k := rfl
theorem need_pos {g : Gr} (h : needF g ≠ 0) : okG g = true ∧ needF g = secsOf (loadF g).length := by
  unfold needF at h ⊢
  split at h
  · rename_i ho; exact ⟨ho, by rw [if_pos ho]⟩
  · exact absurd rfl h
theorem need_ok {g : Gr} (h : okG g = true) : needF g = secsOf (loadF g).length := by unfold needF; rw [if_pos h]
/-- Sectors begin with a group's. -/
def Starts (t n : Int) (g : Gr) (ss : List (List Int)) : Prop := okG g = true ∧ ∃ r, ss = laid g t n ++ r
theorem read_of {t n : Int} {g : Gr} {ss : List (List Int)} (h : Starts t n g ss) : readF t n ss = some g := by
  obtain ⟨ho, r, rfl⟩ := h
  obtain ⟨h1, h2, h3⟩ := ok_iff.1 ho
  have hl := ok_load ho
  have hlen := laid_len g t n
  have hne := need_ok ho
  have hT : (laid g t n ++ r).take (secsOf (loadF g).length) = laid g t n := by rw [← hlen]; exact List.take_left
  have hD : ((laid g t n ++ r).take (secsOf (loadF g).length - 1)).drop 1 = dataL (loadF g) (many (loadF g).length) := by
    have hd : (dataL (loadF g) (many (loadF g).length)).length = many (loadF g).length := by unfold dataL; simp
    unfold laid secsOf
    rw [show 2 + many (loadF g).length - 1 = many (loadF g).length + 1 by omega]
    simp only [List.cons_append, List.take_succ_cons, List.drop_succ_cons, List.drop_zero, List.append_assoc]
    exact List.take_left' hd
  have hP : partsF g.length (readL (dataL (loadF g) (many (loadF g).length)) (loadF g).length) = some g := by
    unfold readL; rw [data_load]; exact parts_load g h3
  have hs : laid g t n ++ r = firstS t n g.length (loadF g).length :: (dataL (loadF g) (many (loadF g).length) ++ [lastS t n] ++ r) := rfl
  have e : readF t n (laid g t n ++ r) = (if 131104 < at4 (firstS t n g.length (loadF g).length) 10 ∨ (laid g t n ++ r).length < secsOf (at4 (firstS t n g.length (loadF g).length) 10).toNat then none else
    match partsF ((firstS t n g.length (loadF g).length).getD 9 0).toNat (readL (((laid g t n ++ r).take (secsOf (at4 (firstS t n g.length (loadF g).length) 10).toNat - 1)).drop 1) (at4 (firstS t n g.length (loadF g).length) 10).toNat) with
    | none => none
    | some g' => if needF g' = secsOf (at4 (firstS t n g.length (loadF g).length) 10).toNat ∧ laid g' t n = (laid g t n ++ r).take (secsOf (at4 (firstS t n g.length (loadF g).length) 10).toNat) then some g' else none) := rfl
  rw [e, at4_first _ _ _ _ (by omega) (by omega), getD_first]
  have e3 : (((loadF g).length : Int)).toNat = (loadF g).length := by omega
  have e4 : ((g.length : Int)).toNat = g.length := by omega
  rw [e3, e4, if_neg (by rw [List.length_append, hlen]; omega), hD, hP]
  simp only
  rw [if_pos ⟨hne, hT.symm⟩]
theorem of_read {t n : Int} {g : Gr} {ss : List (List Int)} (h : readF t n ss = some g) (hs : ∀ s ∈ ss, Sct s) : Starts t n g ss ∧ ∀ p ∈ g, Bytes p := by
  unfold readF at h
  split at h
  · cases h
  · rename_i s r
    split at h
    · cases h
    · split at h
      · cases h
      · rename_i g' hp
        split at h
        · rename_i hc
          cases h
          have hn := need_pos (g := g) (by rw [hc.1]; unfold secsOf; omega)
          refine ⟨⟨hn.1, (s :: r).drop (secsOf (at4 s 10).toNat), ?_⟩, ?_⟩
          · rw [hc.2, List.take_append_drop]
          · refine (parts_bytes _ _ _ hp (bytes_take (bytes_flat fun l hl => ?_) _)).1
            obtain ⟨u, hu, rfl⟩ := List.mem_map.1 hl
            exact bytes_drop (hs u (List.mem_of_mem_take (List.mem_of_mem_drop hu))).2 _
        · cases h
theorem starts_one {t n : Int} {g g' : Gr} {ss : List (List Int)} (h : Starts t n g ss) (h' : Starts t n g' ss) : g = g' := by
  have a := read_of h; have b := read_of h'; rw [a] at b; exact Option.some.inj b
/-- All groups that sectors hold from their beginning on: the groups, in order; m: as many as there may be. -/
def groupsF (t : Int) : Nat → Int → List (List Int) → List Gr
  | 0, _, _ => []
  | m + 1, n, ss => match readF t n ss with
    | none => []
    | some g => g :: groupsF t m (n + 1) (ss.drop (needF g))
/-- The turn of a head, 0: it is not right. -/
def turnOf (s : List Int) : Int := if at4 s 1 ≠ 0 ∧ s = headS (at4 s 1) then at4 s 1 else 0
theorem turnOf_bd {s : List Int} (h : Bytes s) : 0 ≤ turnOf s ∧ turnOf s < 4294967296 := by
  have := num4_lt (s.getD 1 0) (s.getD 2 0) (s.getD 3 0) (s.getD 4 0) (by have := bytes_getD h 1; omega) (by have := bytes_getD h 2; omega) (by have := bytes_getD h 3; omega) (by have := bytes_getD h 4; omega)
  unfold turnOf at4; split <;> omega
theorem turnOf_head {t : Int} (h0 : 0 ≤ t) (h1 : t < 4294967296) : turnOf (headS t) = t := by
  have e : at4 (headS t) 1 = t := num4_le4 t h0 h1
  unfold turnOf; rw [e]; by_cases h : t = 0
  · subst h; simp
  · rw [if_pos ⟨h, rfl⟩]
end Go.Proofs.Ytfmkgflhgapeoab.Jo
namespace Go.Proofs.Ytfmkgflhgapeoab
open Go.RowKit Go.ChangeShapes Go.WideShapes Go.ChangeAt Go.Maps
set_option linter.unusedVariables false
set_option linter.unusedSimpArgs false
/-- A sector's bytes. -/
abbrev Sec := List Int
def IsSec (s : Sec) : Prop := s.length = 32 ∧ ∀ x ∈ s, 0 ≤ x ∧ x < 256
def by8 (x : Int) : Value := .int .u8 x
def secV (s : Sec) : Value := .agg (s.map by8).toArray
def zsec : Sec := List.replicate 32 0
theorem zsec_is : IsSec zsec := ⟨by simp [zsec], fun x hx => by have := List.eq_of_mem_replicate hx; omega⟩
/-- What a cell's value is as a number. -/
def num8 : Value → Int | .int _ x => x | _ => 0
def is8 : Value → Bool | .int .u8 x => decide (0 ≤ x ∧ x < 256) | _ => false
/-- How a sector that lies in a map is read: as it is. -/
def secR : Value → Option (DataW Sec × List MemPlace)
  | .agg cs => if cs.size = 32 ∧ cs.toList.all is8 = true then some (.held (cs.toList.map num8), []) else none
  | _ => none
theorem is8_by {v : Value} (h : is8 v = true) : v = by8 (num8 v) ∧ 0 ≤ num8 v ∧ num8 v < 256 := by
  unfold is8 at h
  split at h
  · simp at h; exact ⟨rfl, h.1, h.2⟩
  · cases h
theorem secR_mk {s : Sec} (h : IsSec s) : secR (secV s) = some (.held s, []) := by
  unfold secR secV
  have h1 : (s.map by8).all is8 = true := by
    rw [List.all_eq_true]
    intro v hv
    obtain ⟨x, hx, rfl⟩ := List.mem_map.1 hv
    have := h.2 x hx
    simp [by8, is8, this]
  have h2 : (s.map by8).map num8 = s := by
    rw [List.map_map]
    conv => rhs; rw [← List.map_id s]
    exact List.map_congr_left fun x _ => rfl
  simp only [List.size_toArray, List.length_map, h.1, true_and]
  rw [if_pos h1]
  simp only [h2]
theorem secR_inv {v : Value} {z : DataW Sec × List MemPlace} (h : secR v = some z) : ∃ s, IsSec s ∧ v = secV s ∧ z = (.held s, []) := by
  unfold secR at h
  split at h
  · rename_i cs
    split at h
    · rename_i hc
      cases h
      refine ⟨cs.toList.map num8, ⟨by simp [hc.1], fun x hx => ?_⟩, ?_, rfl⟩
      · obtain ⟨u, hu, rfl⟩ := List.mem_map.1 hx
        exact (is8_by (List.all_eq_true.1 hc.2 u hu)).2
      · unfold secV
        rw [List.map_map]
        have : cs.toList.map (by8 ∘ num8) = cs.toList := by
          conv => rhs; rw [← List.map_id cs.toList]
          exact List.map_congr_left fun u hu => ((is8_by (List.all_eq_true.1 hc.2 u hu)).1).symm
        rw [this]
    · cases h
  · cases h
theorem secV_inj {s t : Sec} (h : secV s = secV t) : s = t := by
  unfold secV at h
  have h1 : s.map by8 = t.map by8 := by simpa using h
  have h2 := congrArg (List.map num8) h1
  rw [List.map_map, List.map_map] at h2
  have e : ∀ l : List Int, l.map (num8 ∘ by8) = l := fun l => by
    conv => rhs; rw [← List.map_id l]
    exact List.map_congr_left fun x _ => rfl
  rwa [e, e] at h2
theorem secV_one (s : Sec) : ((s.map by8).toArray).all (·.oneCell') = true := by
  rw [Array.all_eq_true_iff_forall_mem]
  intro v hv
  have hv' : v ∈ s.map by8 := by simpa using hv
  obtain ⟨x, _, rfl⟩ := List.mem_map.1 hv'
  rfl
/-- Are sectors the same? -/
theorem secEq {P : Program} (w : World) (t e : TypeId) (ht : P.underlying t = some (.array 32 e)) (he : P.underlying e = some (.int .u8)) (hsz : ∀ w, (sizeOf e).run P w = .ok 1 w)
    {s u : Sec} (hs : IsSec s) (hu : IsSec u) : (binOp .eql t (secV s) (secV u)).run P w = .ok (.bool (s == u)) w := by
  have key : ∀ l : Sec, IsSec l → secV l = .agg ((l.map fun x => x.toNat.toUInt8).map Extern.Stop.cell).toArray := by
    intro l hl
    unfold secV
    rw [List.map_map]
    congr 2
    apply List.map_congr_left
    intro x hx
    have := hl.2 x hx
    simp only [by8, Function.comp, Extern.Stop.cell]
    congr 1
    simp
    omega
  rw [key s hs, key u hu, run_eql_bytes w t e 32 ht he hsz _ _ (by simp [hs.1]) (by simp [hu.1])]
  congr 2
  rw [Bool.eq_iff_iff]
  simp only [beq_iff_eq]
  constructor
  · intro h
    have h2 := congrArg (List.map (fun b : UInt8 => (b.toNat : Int))) h
    rw [List.map_map, List.map_map] at h2
    have e : ∀ l : Sec, IsSec l → l.map ((fun b : UInt8 => (b.toNat : Int)) ∘ fun x => x.toNat.toUInt8) = l := fun l hl => by
      conv => rhs; rw [← List.map_id l]
      apply List.map_congr_left
      intro x hx
      have := hl.2 x hx
      simp
      omega
    rwa [e s hs, e u hu] at h2
  · intro h; rw [h]
theorem law3 : Keyed Try.prog 3 := int_keyed Try.underlying3
theorem zeroS (w : World) : (zeroValue 34).run Try.prog w = .ok (secV zsec) w := by
  have h : (Try.prog.info? 34).map (fun i => i.zero) = some (some (secV zsec)) := by kernel_rfl
  cases hi : Try.prog.info? 34 with
  | none => rw [hi] at h; cases h
  | some i => rw [hi] at h; simp at h; simp [zeroValue, typeInfo, hi, h]
theorem sizeS : (Try.prog.info? 34).map (·.size) = some 32 := by kernel_rfl
theorem zlit : (#[.int .u8 0, .int .u8 0, .int .u8 0, .int .u8 0, .int .u8 0, .int .u8 0, .int .u8 0, .int .u8 0, .int .u8 0, .int .u8 0, .int .u8 0, .int .u8 0, .int .u8 0, .int .u8 0, .int .u8 0, .int .u8 0, .int .u8 0, .int .u8 0, .int .u8 0, .int .u8 0, .int .u8 0, .int .u8 0, .int .u8 0, .int .u8 0, .int .u8 0, .int .u8 0, .int .u8 0, .int .u8 0, .int .u8 0, .int .u8 0, .int .u8 0, .int .u8 0] : Array Value) = (zsec.map by8).toArray := rfl
def ky (i : Int) : Lit := .int .i64 i
/-- What a map of sectors holds for a number. -/
def look (D : DataW Sec) (i : Int) : Option Sec :=
  if Maps.has D (ky i) = true then (match D.atKey (ky i) .nil with | .held s => some s | _ => none) else none
def upd (f : Int → Option Sec) (i : Int) (v : Option Sec) : Int → Option Sec := fun j => if j = i then v else f j
theorem ky_ne {i j : Int} (h : j ≠ i) : ky j ≠ ky i := fun e => h (by unfold ky at e; cases e; rfl)
/-- As many different numbers from 0 below n: at most n. -/
theorem few_keys : ∀ (n : Nat) (l : List Int), l.Pairwise (· ≠ ·) → (∀ x ∈ l, 0 ≤ x ∧ x < n) → l.length ≤ n
  | 0, l, _, h => by
    cases l with
    | nil => simp
    | cons x l => have := h x (by simp); omega
  | n + 1, l, hp, h => by
    have h1 := few_keys n (l.filter fun x => decide (x ≠ (n : Int))) (hp.filter _) (fun x hx => by
      obtain ⟨hx1, hx2⟩ := List.mem_filter.1 hx
      have h3 := h x hx1
      simp at hx2
      omega)
    have h2 : ∀ l : List Int, l.Pairwise (· ≠ ·) → l.length ≤ (l.filter fun x => decide (x ≠ (n : Int))).length + 1 := by
      intro l
      induction l with
      | nil => simp
      | cons x l ih =>
        intro hq
        rw [List.pairwise_cons] at hq
        by_cases hx : x = (n : Int)
        · subst hx
          have : l.filter (fun x => decide (x ≠ (n : Int))) = l := List.filter_eq_self.2 fun y hy => by simpa using (hq.1 y hy).symm
          rw [List.filter_cons_of_neg (by simp), this]
          simp
        · have := ih hq.2
          rw [List.filter_cons_of_pos (by simpa using hx)]
          simp only [List.length_cons]
          omega
    have := h2 l hp
    omega
def kyNum : Lit → Int | .int _ x => x | _ => 0
/-- Block b is a map of the sectors of f; its numbers are below N. -/
def IsM (w : World) (b N : Nat) (f : Int → Option Sec) : Prop :=
  (∃ D, w.ownsMap Try.prog 3 secR b N D ∧ ∀ i, f i = look D i) ∧ ∀ i s, f i = some s → IsSec s ∧ 0 ≤ i ∧ i < N
theorem own_entries {w : World} {b n : Nat} {D : DataW Sec} (h : w.ownsMap Try.prog 3 secR b n D) :
    ∃ es, D = .map es ∧ es.Pairwise (fun p q => p.1 ≠ q.1) ∧ (∀ p ∈ es, ∃ i s, p = (ky i, .held s) ∧ IsSec s) := by
  obtain ⟨es0, e0, hpw, _⟩ := h.entries law3
  refine ⟨es0, e0, hpw, ?_⟩
  obtain ⟨es, clock, hb, F, hs, hD⟩ := h
  rw [e0] at hD
  cases hD
  intro p hp
  rw [mem_sorted, List.mem_map] at hp
  obtain ⟨x, hx, rfl⟩ := hp
  obtain ⟨y, hy⟩ := F.reads x hx
  rw [WideElems.rg_of hy]
  have k1 := WideElems.rd_key hy
  obtain ⟨z, hz, e2⟩ := WideElems.rd_val hy
  obtain ⟨i, _, e3, _⟩ := Maps.keyOf_int_inv Try.underlying3 k1
  obtain ⟨s, h1, h2, h3⟩ := secR_inv hz
  refine ⟨i, s, ?_, h1⟩
  obtain ⟨y1, y2⟩ := y
  simp only at e2 e3
  rw [e3, e2, h3]
  rfl
theorem same_ky {i j : Int} : (ky i).sameKey (ky j) = decide (i = j) := by simp [ky, Lit.sameKey]
/-- What the entries say is what is found. -/
theorem find_mem : ∀ {es : List (Lit × DataW Sec)}, es.Pairwise (fun p q => p.1 ≠ q.1) → ∀ {i : Int} {s : Sec}, (ky i, DataW.held s) ∈ es → es.find? (fun p => p.1.sameKey (ky i)) = some (ky i, DataW.held s)
  | [], _, i, s, hm => by cases hm
  | x :: l, hp, i, s, hm => by
    rw [List.pairwise_cons] at hp
    rcases List.mem_cons.1 hm with rfl | hm'
    · simp [List.find?_cons, same_ky]
    · have hne : x.1 ≠ ky i := hp.1 _ hm'
      rw [List.find?_cons, Maps.sameKey_ne hne]
      exact find_mem hp.2 hm'
theorem has_mem {es : List (Lit × DataW Sec)} {i : Int} {s : Sec} (hm : (ky i, DataW.held s) ∈ es) : Maps.has (.map es) (ky i) = true := by
  rw [Maps.has_eq, List.any_eq_true]; exact ⟨_, hm, by simp [same_ky]⟩
theorem at_mem {es : List (Lit × DataW Sec)} (hp : es.Pairwise (fun p q => p.1 ≠ q.1)) {i : Int} {s : Sec} (hm : (ky i, DataW.held s) ∈ es) (z : DataW Sec) : DataW.atKey (.map es) (ky i) z = .held s := by
  simp [DataW.atKey, find_mem hp hm]
theorem look_mem {es : List (Lit × DataW Sec)} (hp : es.Pairwise (fun p q => p.1 ≠ q.1)) {i : Int} {s : Sec} (hm : (ky i, DataW.held s) ∈ es) : look (.map es) i = some s := by
  unfold look
  rw [if_pos (has_mem hm), at_mem hp hm]
/-- A map with numbers below N has at most N of them. -/
theorem own_few {w : World} {b n N : Nat} {D : DataW Sec} (h : w.ownsMap Try.prog 3 secR b n D) (hk : ∀ i s, look D i = some s → 0 ≤ i ∧ i < N) : w.ownsMap Try.prog 3 secR b N D := by
  obtain ⟨es, e, hp, hs⟩ := own_entries h
  subst e
  have h1 : es.length ≤ N := by
    have := few_keys N (es.map fun p => kyNum p.1) (by
      rw [List.pairwise_map]
      refine hp.imp_of_mem fun {a c} ha hc hne => ?_
      obtain ⟨i, s, rfl, _⟩ := hs a ha
      obtain ⟨j, u, rfl, _⟩ := hs c hc
      intro e
      apply hne
      have : i = j := e
      rw [this]) (fun x hx => by
      obtain ⟨p, hp1, rfl⟩ := List.mem_map.1 hx
      obtain ⟨i, s, rfl, _⟩ := hs p hp1
      exact hk i s (look_mem hp hp1))
    simpa using this
  obtain ⟨es', clock, hb, F, hs', hD⟩ := h
  refine ⟨es', clock, hb, F, ?_, hD⟩
  have : es.length = es'.size := by
    cases hD
    rw [length_read]
  omega
theorem look_none {D : DataW Sec} {i : Int} (h : Maps.has D (ky i) = false) : look D i = none := by unfold look; rw [if_neg (by simp [h])]
/-- What a look gives, both ways. -/
theorem look_at {w : World} {b n : Nat} {D : DataW Sec} (h : w.ownsMap Try.prog 3 secR b n D) (i : Int) (z : Sec) : D.atKey (ky i) (.held z) = .held ((look D i).getD z) ∧ Maps.has D (ky i) = (look D i).isSome := by
  obtain ⟨es, e, hp, hs⟩ := own_entries h
  subst e
  cases hh : Maps.has (.map es) (ky i) with
  | false => rw [Maps.atKey_of_not_has hh, look_none hh]; exact ⟨rfl, rfl⟩
  | true =>
    rw [Maps.has_eq, List.any_eq_true] at hh
    obtain ⟨p, hp1, hp2⟩ := hh
    obtain ⟨j, s, rfl, _⟩ := hs p hp1
    rw [same_ky] at hp2
    simp at hp2
    subst hp2
    rw [look_mem hp hp1, at_mem hp hp1]
    exact ⟨rfl, rfl⟩
theorem keyLit (i : Int) : WideAt.IsKeyLit (ky i) := by unfold ky; trivial
theorem look_put {D : DataW Sec} (h : Maps.IsMap D) (i : Int) (s : Sec) (j : Int) : look (D.put (ky i) (.held s)) j = upd (look D) i (some s) j := by
  unfold upd
  by_cases hj : j = i
  · subst hj
    rw [if_pos rfl]
    unfold look
    rw [Maps.has_put_same h (keyLit _), if_pos rfl, Maps.atKey_put_same h (keyLit _)]
  · rw [if_neg hj]
    unfold look
    rw [Maps.has_put_other (ky_ne hj), Maps.atKey_put_other (ky_ne hj)]
theorem look_del {D : DataW Sec} (i : Int) (j : Int) : look (D.del (ky i)) j = upd (look D) i none j := by
  unfold upd
  by_cases hj : j = i
  · subst hj
    rw [if_pos rfl, look_none Maps.has_del_same]
  · rw [if_neg hj]
    unfold look
    rw [Maps.has_del_other (ky_ne hj), Maps.atKey_del_other (ky_ne hj)]
theorem key3 {i : Int} (h0 : -9223372036854775808 ≤ i) (h1 : i < 9223372036854775808) : keyOf Try.prog 3 (.int .i64 i) = some (ky i) :=
  keyOf_int_mk Try.underlying3 (by simp [Lit.wf, IntKind.min, IntKind.max, IntKind.signed, IntKind.bits]; omega)
end Go.Proofs.Ytfmkgflhgapeoab
namespace Go.Proofs.Ytfmkgflhgapeoab
open Go.RowKit Go.ChangeShapes Go.WideShapes Go.ChangeAt Go.Maps
set_option linter.unusedVariables false
set_option linter.unusedSimpArgs false
/-- But for the blocks of S, what was there is as it was. -/
structure Out (S : Nat → Prop) (w w' : World) : Prop where
  os : w'.os = w.os
  tape : w'.tape = w.tape
  output : w'.output = w.output
  size : w.heap.size ≤ w'.heap.size
  block : ∀ k, k < w.heap.size → ¬ S k → w'.heap[k]? = w.heap[k]?
theorem Out.refl (S : Nat → Prop) (w : World) : Out S w w := ⟨rfl, rfl, rfl, Nat.le_refl _, fun _ _ _ => rfl⟩
theorem Out.trans {S : Nat → Prop} {a b c : World} (h : Out S a b) (k : Out S b c) : Out S a c :=
  ⟨k.os.trans h.os, k.tape.trans h.tape, k.output.trans h.output, Nat.le_trans h.size k.size, fun i hi hS => (k.block i (Nat.lt_of_lt_of_le hi h.size) hS).trans (h.block i hi hS)⟩
theorem Out.mono {S T : Nat → Prop} {a b : World} (h : Out S a b) (k : ∀ i, S i → T i) : Out T a b := ⟨h.os, h.tape, h.output, h.size, fun i hi hS => h.block i hi fun e => hS (k i e)⟩
theorem Out.of {S : Nat → Prop} {w w' : World} (h : Below w.heap.size w w') : Out S w w' := ⟨h.os, h.tape, h.output, h.size, fun i hi _ => h.block i hi⟩
theorem Out.below {S : Nat → Prop} {w w' : World} {B : Nat} (h : Out S w w') (hB : B ≤ w.heap.size) (hS : ∀ k, S k → B ≤ k) : Below B w w' :=
  ⟨h.os, h.tape, h.output, h.size, fun i hi => h.block i (by omega) (fun e => by have := hS i e; omega)⟩
theorem Out.alloc {S : Nat → Prop} {a w : World} (h : Out S a w) (o : Obj) : Out S a (w.alloc o) :=
  h.trans (Out.of ((Below.refl _ _).alloc (Nat.le_refl _) o))
theorem Out.turned {S : Nat → Prop} {w w' : World} {b : Nat} (h : w.mapTurned w' b) (hS : S b) : Out S w w' :=
  have g := h.grown
  ⟨g.os, g.tape, g.output, g.size, fun i hi hn => g.block i hi (fun e => by cases e; exact hn hS)⟩
theorem Out.grown {S : Nat → Prop} {w w' : World} {row : Option Nat} (g : w.grownBy w' row) (hS : ∀ k, row = some k → S k) : Out S w w' :=
  ⟨g.os, g.tape, g.output, g.size, fun i hi hn => g.block i hi (fun e => hn (hS i e.symm))⟩
theorem Out.drew {S : Nat → Prop} {a w : World} (h : Out S a w) : Out S a w.drew := ⟨h.os, h.tape, h.output, h.size, h.block⟩
theorem lt_blk {w : World} {g : Nat} {o : Obj} (h : w.heap[g]? = some o) : g < w.heap.size := by
  have := (Array.getElem?_eq_some_iff.1 h).1; exact this
theorem IsM.lt {w : World} {b N : Nat} {f : Int → Option Sec} (h : IsM w b N f) : b < w.heap.size := by
  obtain ⟨⟨D, ho, _⟩, _⟩ := h; exact ho.lt
theorem IsM.out {S : Nat → Prop} {w w' : World} {b N : Nat} {f : Int → Option Sec} (h : IsM w b N f) (ho : Out S w w') (hS : ¬ S b) : IsM w' b N f := by
  have hl := h.lt
  obtain ⟨⟨D, ⟨es, clock, hb, r⟩, hf⟩, h2⟩ := h
  exact ⟨⟨D, ⟨es, clock, by rw [ho.block b hl hS]; exact hb, r⟩, hf⟩, h2⟩
theorem ranges_out {S : Nat → Prop} {w w' : World} {b r n : Nat} {D : DataW Sec} {left : Lit → Bool} {cnt : Nat} (h : w.ranges Try.prog 3 secR b r n D left cnt) (ho : Out S w w') (hb : ¬ S b) (hr : ¬ S r) :
    w'.ranges Try.prog 3 secR b r n D left cnt := by
  have l1 := h.owns.lt
  have l2 := h.lt
  obtain ⟨es, clock, since, seen, c0, e1, F, s1, e2, e3, q⟩ := h
  exact ⟨es, clock, since, seen, c0, by rw [ho.block b l1 hb]; exact e1, F, s1, e2, by rw [ho.block r l2 hr]; exact e3, q⟩
theorem IsM.ext {w : World} {b N : Nat} {f g : Int → Option Sec} (h : IsM w b N f) (e : ∀ i, g i = f i) : IsM w b N g := by
  have : g = f := funext e
  rw [this]; exact h
theorem IsM.made (w : World) (N : Nat) : IsM (w.alloc (.map #[] 0)) w.heap.size N (fun _ => none) :=
  ⟨⟨.map [], (World.ownsMap_made w Try.prog 3 secR).mono (Nat.zero_le _), fun i => by simp [look, Maps.has]⟩, fun i s h => by cases h⟩
theorem bd_key {i : Int} {N : Nat} (h0 : 0 ≤ i) (h1 : i < N) (hN : N ≤ 2048) : -9223372036854775808 ≤ i ∧ i < 9223372036854775808 := by omega
/-- A store. -/
theorem IsM.store {w : World} {b N : Nat} {f : Int → Option Sec} (h : IsM w b N f) {i : Int} (h0 : 0 ≤ i) (h1 : i < N) (hN : N ≤ 2048) {s : Sec} (hs : IsSec s) :
    ∃ w', (Instr.mapUpdate 45 (.map (some b)) (.int .i64 i) (secV s)).run Try.prog w = .ok () w' ∧ IsM w' b N (upd f i (some s)) ∧ w.mapTurned w' b := by
  obtain ⟨⟨D, ho, hf⟩, h2⟩ := h
  have hb := bd_key h0 h1 hN
  obtain ⟨w', hrun, ho', ht⟩ := ho.store law3 Try.underlying45 (by unfold maxLen; omega) (key3 hb.1 hb.2) (secR_mk hs)
  have h3 : ∀ j u, upd f i (some s) j = some u → IsSec u ∧ 0 ≤ j ∧ j < N := by
    intro j u hu
    unfold upd at hu
    split at hu
    · rename_i e; have e2 := Option.some.inj hu; rw [e, ← e2]; exact ⟨hs, h0, h1⟩
    · exact h2 j u hu
  have h4 : ∀ j, upd f i (some s) j = look (D.put (ky i) (.held s)) j := fun j => by
    rw [look_put ho.isMap]; unfold upd; rw [hf]
  exact ⟨w', hrun, ⟨⟨_, own_few ho' (fun j u hu => (h3 j u (by rw [h4]; exact hu)).2), h4⟩, h3⟩, ht⟩
/-- A deletion; a range over the map that is under way goes on without it. -/
theorem IsM.drop {w : World} {b N : Nat} {f : Int → Option Sec} (h : IsM w b N f) {i : Int} (h0 : -9223372036854775808 ≤ i) (h1 : i < 9223372036854775808) (ty : TypeId) :
    ∃ w', (Builtin.delete_ #[45, 3] ty #[.map (some b), .int .i64 i]).run Try.prog w = .ok (.tuple #[]) w' ∧ IsM w' b N (upd f i none) ∧ w.mapTurned w' b ∧
      ∀ r n D left cnt, w.ranges Try.prog 3 secR b r n D left cnt → ∃ cnt', w'.ranges Try.prog 3 secR b r n (D.del (ky i)) (fun z => left z && !z.sameKey (ky i)) cnt' ∧ cnt' ≤ cnt := by
  obtain ⟨⟨D, ho, hf⟩, h2⟩ := h
  obtain ⟨w', hrun, ho', ht⟩ := ho.drop law3 Try.underlying45 (key3 h0 h1) ty
  refine ⟨w', hrun, ⟨⟨_, ho', fun j => ?_⟩, fun j u hu => ?_⟩, ht, fun r n D' left cnt hr => ?_⟩
  · rw [look_del]; unfold upd; rw [hf]
  · unfold upd at hu
    split at hu
    · cases hu
    · exact h2 j u hu
  · obtain ⟨w2, cnt', hrun2, r1, r2, _⟩ := hr.drop law3 Try.underlying45 (key3 h0 h1) ty
    rw [hrun] at hrun2
    cases hrun2
    exact ⟨cnt', r1, r2⟩
/-- A map emptied. -/
theorem IsM.clear {w : World} {b N : Nat} {f : Int → Option Sec} (h : IsM w b N f) (ty : TypeId) :
    ∃ w', (Builtin.clear_ #[45] ty #[.map (some b)]).run Try.prog w = .ok (.tuple #[]) w' ∧ IsM w' b N (fun _ => none) ∧ w.mapTurned w' b := by
  obtain ⟨⟨D, ⟨es, clock, hb, F, hs, hD⟩, hf⟩, h2⟩ := h
  refine ⟨ChangeMaps.setBlock w b (.map #[] clock), ?_, ⟨⟨.map [], ⟨#[], clock, ChangeMaps.heap_setBlock_same hb _, ⟨by simp, ?_, by simp⟩, by simp, by simp⟩, fun i => by simp [look, Maps.has]⟩, fun i s h => by cases h⟩, ⟨es, clock, #[], clock, hb, rfl⟩⟩
  · simp [Builtin.clear_, run_underlying Try.underlying45, MapKept.run_getObj_map hb, MapKept.run_setObj_map _ hb, Result.andThen, ChangeMaps.setBlock]
  · exact MapKept.stamped_empty clock
section
variable (w : World) {ops : Array Oper} {rest : List Oper} {o : Oper} {a : Act} {Q : Exit → Act → World → Prop}
/-- 's, ok := m[i]'. -/
theorem wpList_look_ok (hg : o.guard = none) (m x : Operand) (hop : o.op = Op.lookup 45 m x true) (b N : Nat) (f : Int → Option Sec) (hm : a.eval m = .map (some b)) (h : IsM w b N f)
    (i : Int) (hx : a.eval x = .int .i64 i) (h0 : -9223372036854775808 ≤ i) (h1 : i < 9223372036854775808)
    (hK : wpList Try.prog ops Q rest (a.put o.dst (.tuple #[secV ((f i).getD zsec), .bool (f i).isSome])) w) : wpList Try.prog ops Q (o :: rest) a w := by
  obtain ⟨⟨D, ho, hf⟩, _⟩ := h
  refine wpList_lookup_own_ok w hg m x 45 hop 3 34 law3 Try.underlying45 secR (zeroS w) (.held zsec) [] (secR_mk zsec_is) b N D hm ho _ (ky i) hx (key3 h0 h1) ?_
  intro v ps hv
  obtain ⟨e1, e2⟩ := look_at ho i zsec
  rw [e1] at hv
  obtain ⟨s, _, rfl, e3⟩ := secR_inv hv
  cases e3
  rw [e2, ← hf i]
  exact hK
/-- 'm[i]'. -/
theorem wpList_look (hg : o.guard = none) (m x : Operand) (hop : o.op = Op.lookup 45 m x false) (b N : Nat) (f : Int → Option Sec) (hm : a.eval m = .map (some b)) (h : IsM w b N f)
    (i : Int) (hx : a.eval x = .int .i64 i) (h0 : -9223372036854775808 ≤ i) (h1 : i < 9223372036854775808)
    (hK : wpList Try.prog ops Q rest (a.put o.dst (secV ((f i).getD zsec))) w) : wpList Try.prog ops Q (o :: rest) a w := by
  obtain ⟨⟨D, ho, hf⟩, _⟩ := h
  obtain ⟨v, ps, hrun, hv⟩ := ho.lookup law3 Try.underlying45 (zeroS w) (secR_mk zsec_is) (key3 h0 h1)
  obtain ⟨e1, e2⟩ := look_at ho i zsec
  rw [e1] at hv
  obtain ⟨s, _, rfl, e3⟩ := secR_inv hv
  cases e3
  refine wpList_plain hg fun K' hK' => ?_
  unfold Oper.wp
  simp only [execOp, hop, hm, hx, Sem.run_bind, hrun, Result.andThen, Sem.run_pure]
  rw [← hf i]
  exact hK' _ _ hK
/-- 'delete(m, i)'. -/
theorem wpList_drop (hg : o.guard = none) (m x : Operand) (hop : o.op = Op.call { callee := Callee.builtin Builtin.delete, args := #[m, x], argTypes := #[45, 3] }) (b N : Nat) (f : Int → Option Sec) (hm : a.eval m = .map (some b)) (h : IsM w b N f)
    (i : Int) (hx : a.eval x = .int .i64 i) (h0 : -9223372036854775808 ≤ i) (h1 : i < 9223372036854775808)
    (hK : ∀ w', IsM w' b N (upd f i none) → w.mapTurned w' b →
      (∀ r n D left cnt, w.ranges Try.prog 3 secR b r n D left cnt → ∃ cnt', w'.ranges Try.prog 3 secR b r n (D.del (ky i)) (fun z => left z && !z.sameKey (ky i)) cnt' ∧ cnt' ≤ cnt) → wpList Try.prog ops Q rest (a.put o.dst (.tuple #[])) w') :
    wpList Try.prog ops Q (o :: rest) a w := by
  refine wpList_plain hg fun K' hK' => ?_
  obtain ⟨w', hrun, r1, r2, r3⟩ := h.drop h0 h1 o.type
  unfold Oper.wp
  simp [execOp, hop, resolve, invoke, builtin, hm, hx, hrun, Result.andThen]
  exact hK' _ _ (hK w' r1 r2 r3)
/-- 'clear(m)'. -/
theorem wpList_clear (hg : o.guard = none) (m : Operand) (hop : o.op = Op.call { callee := Callee.builtin Builtin.clear, args := #[m], argTypes := #[45] }) (b N : Nat) (f : Int → Option Sec) (hm : a.eval m = .map (some b)) (h : IsM w b N f)
    (hK : ∀ w', IsM w' b N (fun _ => none) → w.mapTurned w' b → wpList Try.prog ops Q rest (a.put o.dst (.tuple #[])) w') :
    wpList Try.prog ops Q (o :: rest) a w := by
  refine wpList_plain hg fun K' hK' => ?_
  obtain ⟨w', hrun, r1, r2⟩ := h.clear o.type
  unfold Oper.wp
  simp [execOp, hop, resolve, invoke, builtin, hm, hrun, Result.andThen]
  exact hK' _ _ (hK w' r1 r2)
/-- A sector into the variable that was made last. -/
theorem wpList_storeS (hg : o.guard = none) (x y : Operand) (T : TypeId) (hop : o.op = .store T x y) (hT : (Try.prog.info? T).map (·.size) = some 32) (H : Nat) (hx : a.eval x = .pointer (some ⟨H, 0, none⟩)) (hH : w.heap.size = H) (s : Sec) (hy : a.eval y = secV s) (hs : s.length = 32)
    (c : Array Value) (hc : c.size = 32) (h : wpList Try.prog ops Q rest (a.put o.dst undef) (w.alloc (.cells (s.map by8).toArray T))) : wpList Try.prog ops Q (o :: rest) a (w.alloc (.cells c T)) := by
  subst hH
  refine wpList_store_row hg T x y hop w.heap.size (s.map by8).toArray hx hy T c (heap_alloc_new w _) (by rw [hT]; simp [hs]) (by simp [hs, hc]) (secV_one s) ?_
  rw [World.setRow_alloc_new]
  exact h
/-- A sector out of a variable. -/
theorem wpList_loadS (hg : o.guard = none) (x : Operand) (T : TypeId) (hop : o.op = .load T x) (hT : (Try.prog.info? T).map (·.size) = some 32) {e : TypeId} (hu : Try.prog.underlying T = some (.array 32 e)) (g : Nat) (hx : a.eval x = .pointer (some ⟨g, 0, none⟩)) (s : Sec) (hs : s.length = 32)
    (t : TypeId) (fr : Nat × Nat) (hb : w.heap[g]? = some (.cells (s.map by8).toArray t fr)) (h : wpList Try.prog ops Q rest (a.put o.dst (secV s)) w) : wpList Try.prog ops Q (o :: rest) a w :=
  wpList_load_row hg T x hop g hx t (s.map by8).toArray fr _ hb hu rfl (by rw [hT]; simp [hs]) h
end
/-- A disk: its struct in block d, what is on it in the map b1, its buffer in the map b2. -/
def IsD (w : World) (d b1 b2 N : Nat) (on : Int → Sec) (c : Int → Option Sec) : Prop :=
  w.heap[d]? = some (.cells #[.int .i64 N, .map (some b1), .map (some b2)] 47 (0, 0)) ∧ b1 ≠ b2 ∧ 1 ≤ N ∧ N ≤ 2048 ∧ IsM w b2 N c ∧ ∃ m, IsM w b1 N m ∧ ∀ i, on i = (m i).getD zsec
theorem IsD.out {S : Nat → Prop} {w w' : World} {d b1 b2 N : Nat} {on : Int → Sec} {c : Int → Option Sec} (h : IsD w d b1 b2 N on c) (ho : Out S w w') (hd : ¬ S d) (h1 : ¬ S b1) (h2 : ¬ S b2) : IsD w' d b1 b2 N on c := by
  obtain ⟨e, ne, n1, n2, hc, m, hm, he⟩ := h
  exact ⟨by rw [ho.block d (lt_blk e) hd]; exact e, ne, n1, n2, hc.out ho h2, m, hm.out ho h1, he⟩
theorem IsD.later {w w' : World} {d b1 b2 N : Nat} {on : Int → Sec} {c : Int → Option Sec} (h : IsD w d b1 b2 N on c) (hb : Below w.heap.size w w') : IsD w' d b1 b2 N on c :=
  h.out (S := fun _ => False) (Out.of hb) id id id
theorem IsD.cells {w : World} {d b1 b2 N : Nat} {on : Int → Sec} {c : Int → Option Sec} (h : IsD w d b1 b2 N on c) :
    w.cell? ⟨d, 0, none⟩ = some (.int .i64 N) ∧ w.cell? ⟨d, 1, none⟩ = some (.map (some b1)) ∧ w.cell? ⟨d, 2, none⟩ = some (.map (some b2)) ∧ d < w.heap.size ∧ b1 < w.heap.size ∧ b2 < w.heap.size ∧ d ≠ b1 ∧ d ≠ b2 ∧ b1 ≠ b2 := by
  obtain ⟨e, ne, n1, n2, hc, m, hm, he⟩ := h
  refine ⟨by simp [World.cell?, e], by simp [World.cell?, e], by simp [World.cell?, e], lt_blk e, hm.lt, hc.lt, ?_, ?_, ne⟩
  · intro h
    obtain ⟨⟨D, ⟨es, clock, hb, _⟩, _⟩, _⟩ := hm
    rw [← h, e] at hb; cases hb
  · intro h
    obtain ⟨⟨D, ⟨es, clock, hb, _⟩, _⟩, _⟩ := hc
    rw [← h, e] at hb; cases hb
end Go.Proofs.Ytfmkgflhgapeoab
namespace Go.Proofs.Ytfmkgflhgapeoab
open Go.RowKit Go.ChangeShapes Go.WideShapes Go.ChangeAt Go.Maps
set_option linter.unusedVariables false
set_option linter.unusedSimpArgs false
theorem range_sec {w : World} {g : Nat} {s : Sec} {t : TypeId} {fr : Nat × Nat} (h : w.heap[g]? = some (.cells (s.map by8).toArray t fr)) : w.rangeAt g 0 (s.map by8) := fun j v hv => by
  rw [Nat.zero_add, cell_of_row _ _ _ _ _ _ h]; simpa using hv
abbrev pD (d : Nat) : Value := .pointer (some ⟨d, 0, none⟩)
set_option maxHeartbeats 400000 in
theorem fault_nil (i : Int) (w : World) : Calls Try.prog 13 #[.pointer none, .int .i64 i] w fun e w' => e = .returned (.int .i64 1) ∧ w' = w := by
  go_enter Try.func13, Try.ntmps13
  go_wp2
  go_ret
  exact ⟨rfl, rfl⟩
def faultB (N : Nat) (i : Int) : Int := if 0 ≤ i ∧ i < N then 0 else 2
set_option maxHeartbeats 400000 in
theorem fault_c {w : World} {d b1 b2 N : Nat} {on : Int → Sec} {c : Int → Option Sec} (h : IsD w d b1 b2 N on c) (i : Int) : Calls Try.prog 13 #[pD d, .int .i64 i] w fun e w' => e = .returned (.int .i64 (faultB N i)) ∧ w' = w := by
  obtain ⟨c0, c1, c2, l0, l1, l2, d1, d2, d3⟩ := h.cells
  clear h c1 c2 l1 l2 d1 d2 d3
  by_cases h0 : i < 0
  · have e : faultB N i = 2 := by unfold faultB; rw [if_neg (by omega)]
    have E := hid e
    clear e
    go_enter Try.func13, Try.ntmps13
    go_wp2
    go_ret
    exact ⟨ret_int E.out.symm, rfl⟩
  · by_cases h1 : (N : Int) ≤ i
    · have e : faultB N i = 2 := by unfold faultB; rw [if_neg (by omega)]
      have E := hid e
      clear e
      go_enter Try.func13, Try.ntmps13
      go_wp2
      go_ret
      exact ⟨ret_int E.out.symm, rfl⟩
    · have e : faultB N i = 0 := by unfold faultB; rw [if_pos (by omega)]
      have E := hid e
      clear e
      go_enter Try.func13, Try.ntmps13
      go_wp2
      go_ret
      exact ⟨ret_int E.out.symm, rfl⟩
set_option maxHeartbeats 400000 in
theorem new_none (n : Int) (w : World) (h : n < 1 ∨ 2048 < n) : Calls Try.prog 4 #[.int .i64 n] w fun e w' => e = .returned (.pointer none) ∧ w' = w := by
  by_cases h1 : n < 1
  · go_enter Try.func4, Try.ntmps4
    go_wp2
    go_ret
    exact ⟨rfl, rfl⟩
  · have h2 : 2048 < n := by omega
    go_enter Try.func4, Try.ntmps4
    go_wp2
    go_ret
    exact ⟨rfl, rfl⟩
set_option maxHeartbeats 400000 in
theorem new_c (N : Nat) (w : World) (h1 : 1 ≤ N) (h2 : N ≤ 2048) : Calls Try.prog 4 #[.int .i64 N] w fun e w' =>
    e = .returned (pD (w.heap.size + 2)) ∧ IsD w' (w.heap.size + 2) w.heap.size (w.heap.size + 1) N (fun _ => zsec) (fun _ => none) ∧ Below w.heap.size w w' ∧ w'.heap.size = w.heap.size + 3 := by
  have hmm := @run_makeMap Try.prog
  have g1 : ¬ (N : Int) < 1 := by omega
  have g2 : ¬ (2048 : Int) < (N : Int) := by omega
  go_enter Try.func4, Try.ntmps4
  go_wp2
  go_ret
  refine ⟨rfl, ⟨?_, by omega, h1, h2, ?_, fun _ => none, ?_, fun _ => rfl⟩, ?_, by simp⟩
  · have := heap_alloc_new ((w.alloc (.map #[] 0)).alloc (.map #[] 0)) (.cells #[.int .i64 N, .map (some w.heap.size), .map (some (w.heap.size + 1))] 47 (0, 0))
    simpa using this
  · have := IsM.made (w.alloc (.map #[] 0)) N
    have h3 := this.out (S := fun _ => False) ((Out.refl _ _).alloc (.cells #[.int .i64 N, .map (some w.heap.size), .map (some (w.heap.size + 1))] 47 (0, 0))) id
    simpa using h3
  · have := IsM.made w N
    exact this.out (S := fun _ => False) (((Out.refl _ _).alloc _).alloc _) id
  · exact (((Below.refl _ _).alloc (Nat.le_refl _) _).alloc (by simp) _).alloc (by simp; omega) _
set_option maxHeartbeats 400000 in
theorem size_nil (w : World) : Calls Try.prog 14 #[.pointer none] w fun e w' => e = .returned (.int .i64 0) ∧ w' = w := by
  go_enter Try.func14, Try.ntmps14
  go_wp2
  go_ret
  exact ⟨rfl, rfl⟩
set_option maxHeartbeats 400000 in
theorem size_c {w : World} {d b1 b2 N : Nat} {on : Int → Sec} {c : Int → Option Sec} (h : IsD w d b1 b2 N on c) : Calls Try.prog 14 #[pD d] w fun e w' => e = .returned (.int .i64 N) ∧ w' = w := by
  obtain ⟨c0, c1, c2, l0, l1, l2, d1, d2, d3⟩ := h.cells
  clear h c1 c2 l1 l2 d1 d2 d3
  go_enter Try.func14, Try.ntmps14
  go_wp2
  go_ret
  exact ⟨rfl, rfl⟩
set_option maxHeartbeats 400000 in
theorem write_nil (i : Int) (s : Sec) (w : World) : Calls Try.prog 6 #[.pointer none, .int .i64 i, secV s] w fun e w' => e = .returned (.int .i64 1) ∧ Below w.heap.size w w' := by
  unfold secV
  go_enter Try.func6, Try.ntmps6
  go_wp2_with (go_at_call 13; refine (fault_nil _ _).mono ?_; rintro e w' ⟨rfl, rfl⟩)
  go_ret
  exact ⟨rfl, (Below.refl _ _).alloc (Nat.le_refl _) _⟩
set_option maxHeartbeats 400000 in
theorem write_bad {w : World} {d b1 b2 N : Nat} {on : Int → Sec} {c : Int → Option Sec} (h : IsD w d b1 b2 N on c) (i : Int) (s : Sec) (hi : i < 0 ∨ (N : Int) ≤ i) :
    Calls Try.prog 6 #[pD d, .int .i64 i, secV s] w fun e w' => e = .returned (.int .i64 2) ∧ Below w.heap.size w w' := by
  unfold secV
  have hb1 : Below w.heap.size w (w.alloc (.cells (s.map by8).toArray 34)) := (Below.refl _ _).alloc (Nat.le_refl _) _
  have hf := fault_c (h.later hb1) i
  have e : faultB N i = 2 := by unfold faultB; rw [if_neg (by omega)]
  rw [e] at hf
  clear e h
  go_enter Try.func6, Try.ntmps6
  go_wp2_with (go_at_call 13; refine hf.mono ?_; rintro e w' ⟨rfl, rfl⟩)
  go_ret
  exact ⟨rfl, hb1⟩
set_option maxRecDepth 100000 in
set_option maxHeartbeats 1000000 in
theorem write_c {w : World} {d b1 b2 N : Nat} {on : Int → Sec} {c : Int → Option Sec} (h : IsD w d b1 b2 N on c) (i : Int) (s : Sec) (hs : IsSec s) (h0 : 0 ≤ i) (h1 : i < N) :
    Calls Try.prog 6 #[pD d, .int .i64 i, secV s] w fun e w' => e = .returned (.int .i64 0) ∧ IsD w' d b1 b2 N on (upd c i (some s)) ∧ Out (fun k => k = b2) w w' := by
  unfold secV
  have hb1 : Below w.heap.size w (w.alloc (.cells (s.map by8).toArray 34)) := (Below.refl _ _).alloc (Nat.le_refl _) _
  have hf := fault_c (h.later hb1) i
  have e : faultB N i = 0 := by unfold faultB; rw [if_pos (by omega)]
  rw [e] at hf
  clear e
  have H := hid h
  have h' := h.later hb1
  have hr : (w.alloc (.cells (s.map by8).toArray 34)).heap[w.heap.size]? = some (.cells (s.map by8).toArray 34) := heap_alloc_new w _
  have hlt : w.heap.size < (w.alloc (.cells (s.map by8).toArray 34)).heap.size := by simp
  have B0 := hid hb1
  clear h hb1
  go_enter Try.func6, Try.ntmps6
  go_wp2_with (go_at_call 13; refine hf.mono ?_; rintro e w' ⟨rfl, rfl⟩)
  clear hf
  generalize (w.alloc (.cells (s.map by8).toArray 34)) = W at *
  obtain ⟨c0, c1, c2, l0, l1, l2, d1, d2, d3⟩ := h'.cells
  have hR : W.rangeAt w.heap.size 0 (s.map by8) := range_sec hr
  have hu := Try.underlying34
  have hi : (Try.prog.info? 34).map (·.size) = some (s.map by8).length := by rw [sizeS]; simp [hs.1]
  have hl32 : (s.map by8).length = 32 := by simp [hs.1]
  have h1c : ∀ v ∈ s.map by8, v.oneCell' = true := fun v hv => by obtain ⟨x, _, rfl⟩ := List.mem_map.1 hv; rfl
  obtain ⟨w1, hmu, m1, t1⟩ := IsM.store (w := W.drew) (b := b2) (N := N) (f := c) h'.2.2.2.2.1 h0 h1 h'.2.2.2.1 hs
  have o1 : Out (fun k => k = b2) W w1 := ((Out.refl _ W).drew).trans (Out.turned t1 rfl)
  have k1 : w1.cell? ⟨d, 2, none⟩ = some (.map (some b2)) := by
    rw [← c2]; exact World.cell?_of_block (o1.block d l0 d2)
  have k2 : w1.rangeAt w.heap.size 0 (s.map by8) := range_sec (by rw [o1.block w.heap.size hlt (fun e => by have := H.out.cells; omega)]; exact hr)
  have M1 := hid m1
  have O1 := hid o1
  unfold secV at hmu
  clear m1 o1 t1
  go_region_held3 (fun w' => w'.cell? ⟨d, 2, none⟩ = some (.map (some b2)) ∧ w'.rangeAt w.heap.size 0 (s.map by8)) (first | go_keep_ranges | exact ⟨k1, k2⟩) (fail)
  go_wp2
  go_ret
  have O2 := (Out.of (S := fun k => k = b2) B0.out).trans O1.out
  obtain ⟨e1, e2, e3, e4, e5, m, e6, e7⟩ := H.out
  obtain ⟨_, _, _, _, _, _, q1, q2, q3⟩ := H.out.cells
  exact ⟨rfl, ⟨by rw [O2.block d (lt_blk e1) q2]; exact e1, e2, e3, e4, M1.out, m, e6.out O2 q3, e7⟩, O2⟩
end Go.Proofs.Ytfmkgflhgapeoab
