/-
  Plain laws on numbers for the package bits: what Zig, Zag, Pack, Make, Turn, Low come to as arithmetic on integers; no program is named here.
-/
import Derived.WalkKit
import Derived.ProofKit
namespace Go.Proofs.Ytihgiemgcmpmmaa.M
set_option linter.unusedVariables false
open Go.RowKit

theorem ofInt64 (x : Int) : (BitVec.ofInt 64 x).toNat = (x % 18446744073709551616).toNat := by
  rw [BitVec.toNat_ofInt]; rfl
theorem xor_u64 (x y : Int) : bits .xor .u64 x y = IntKind.u64.wrap ((BitVec.ofInt 64 x ^^^ BitVec.ofInt 64 y).toNat : Int) := rfl
theorem xor_i64 (x y : Int) : bits .xor .i64 x y = IntKind.i64.wrap ((BitVec.ofInt 64 x ^^^ BitVec.ofInt 64 y).toNat : Int) := rfl
theorem wrap_i64 (n : Int) : IntKind.i64.wrap n = wrap64 n := by
  rw [IntKind.wrap_i64]; unfold wrap64; omega
theorem ones64 : BitVec.ofInt 64 18446744073709551615 = BitVec.allOnes 64 := by decide
theorem ones64' : BitVec.ofInt 64 (-1) = BitVec.allOnes 64 := by decide
theorem zero64 : BitVec.ofInt 64 0 = 0#64 := by decide

/-- What Zig comes to. -/
def zigF (a : Int) : Int := if 0 ≤ a then 2 * a else -2 * a - 1
/-- What Zag comes to. -/
def zagF (u : Int) : Int := if u % 2 = 0 then u / 2 else -(u / 2) - 1

theorem zig_eq (a : Int) (h0 : -9223372036854775808 ≤ a) (h1 : a < 9223372036854775808) :
    bits .xor .u64 (IntKind.u64.wrap (IntKind.u64.wrap a * 2)) (IntKind.u64.wrap (a / 9223372036854775808)) = zigF a := by
  rw [IntKind.wrap_u64, IntKind.wrap_u64, IntKind.wrap_u64, xor_u64, IntKind.wrap_u64]
  unfold zigF
  by_cases h : 0 ≤ a
  · have e : a / 9223372036854775808 = 0 := by omega
    rw [e, if_pos h]
    have e2 : (0 : Int) % 18446744073709551616 = 0 := rfl
    rw [e2, zero64, BitVec.xor_zero, ofInt64]
    omega
  · have e : a / 9223372036854775808 = -1 := by omega
    rw [e, if_neg h]
    have e2 : (-1 : Int) % 18446744073709551616 = 18446744073709551615 := rfl
    rw [e2, ones64, BitVec.xor_allOnes, BitVec.toNat_not, ofInt64]
    omega

theorem zag_eq (a : Int) (h0 : 0 ≤ a) (h1 : a < 18446744073709551616) :
    bits .xor .i64 (a / 2) (wrap64 (-wrap64 (bits .and .u64 a 1))) = zagF a := by
  have e1 : bits .and .u64 a 1 = a % 2 := by
    rw [u64_and a 1 h0 h1 (by omega) (by omega)]
    have : (1 : Int).toNat = 1 := rfl
    rw [this, nat_mask1]; omega
  rw [e1, xor_i64, wrap_i64]
  unfold zagF
  by_cases h : a % 2 = 0
  · have e2 : wrap64 (-wrap64 (a % 2)) = 0 := by rw [h]; unfold wrap64; omega
    rw [e2, if_pos h, zero64, BitVec.xor_zero, ofInt64]
    unfold wrap64; omega
  · have e3 : a % 2 = 1 := by omega
    have e2 : wrap64 (-wrap64 (a % 2)) = -1 := by rw [e3]; unfold wrap64; omega
    rw [e2, if_neg h, ones64', BitVec.xor_allOnes, BitVec.toNat_not, ofInt64]
    unfold wrap64; omega

/-! ### Make -/
def makeF (c n : Int) : Int := c * 16777216 + n
theorem make_eq (c n : Int) (h0 : 0 ≤ c) (h1 : c ≤ 3) (h2 : 0 ≤ n) (h3 : n ≤ 16777215) :
    bits .or .u32 (c * 16777216) n = makeF c n := by
  rw [u32_or _ _ (by omega) (by omega) (by omega) (by omega)]
  rw [nat_join 24 _ _ (by omega) (by omega)]
  unfold makeF; omega
theorem number_eq (f : Int) (h0 : 0 ≤ f) (h1 : f < 4294967296) : bits .and .u32 f 16777215 = f % 16777216 := by
  rw [u32_and _ _ h0 h1 (by omega) (by omega)]
  have : (16777215 : Int).toNat = 16777215 := rfl
  rw [this, nat_mask24]; omega

/-! ### Turn -/
def turnF (u k : Nat) : Nat := (u * 2 ^ k) % 4294967296 + u / 2 ^ (32 - k)
theorem turn_zero (u : Nat) (h : u < 4294967296) : turnF u 0 = u := by unfold turnF; simp; omega
/-- One step to the left, written with the upper bits q, the bit b that comes over, and the rest r: A is 2^k, B is 2^(31-k). -/
theorem turn_gen (u k A B : Nat) (h : u < 4294967296) (hA : 2 ^ k = A) (hA' : 2 ^ (k + 1) = 2 * A) (hB : 2 ^ (32 - k) = 2 * B) (hB' : 2 ^ (32 - (k + 1)) = B) (hAB : B * A = 2147483648) :
    turnF u k < 4294967296 ∧ turnF u k * 2 % 4294967296 + turnF u k / 2147483648 = turnF u (k + 1) := by
  unfold turnF
  rw [hA, hA', hB, hB']
  have hB0 : 0 < B := by rcases Nat.eq_zero_or_pos B with hz | hz; (subst hz; omega); exact hz
  have hA0 : 0 < A := by rcases Nat.eq_zero_or_pos A with hz | hz; (subst hz; omega); exact hz
  have d1 : u / (2 * B) = u / B / 2 := by rw [Nat.mul_comm 2 B, Nat.div_div_eq_div_mul]
  have d2 : B * (u / B) + u % B = u := Nat.div_add_mod u B
  have hr : u % B < B := Nat.mod_lt _ hB0
  have hm : u / B < 2 * A := by
    apply Nat.div_lt_of_lt_mul
    have : B * (2 * A) = 4294967296 := by rw [Nat.mul_left_comm, hAB]
    omega
  rw [d1]
  generalize u / B = m at *
  generalize u % B = r at *
  have hrA : r * A + A ≤ 2147483648 := by
    have : (r + 1) * A ≤ B * A := Nat.mul_le_mul_right A hr
    rw [hAB, Nat.add_mul] at this; omega
  have e1 : u * A = m * 2147483648 + r * A := by
    rw [← d2, Nat.add_mul, Nat.mul_comm B m, Nat.mul_assoc, hAB]
  have e2 : u * (2 * A) = m * 4294967296 + 2 * (r * A) := by
    rw [Nat.mul_left_comm, e1]; omega
  rw [e1, e2]
  generalize r * A = ra at *
  clear e1 e2 d1 d2 hB hB' hA hA' hAB h
  have f1 : (m * 2147483648 + ra) % 4294967296 = m % 2 * 2147483648 + ra := by omega
  have f2 : (m * 4294967296 + 2 * ra) % 4294967296 = 2 * ra := by
    rw [Nat.mul_comm m, Nat.mul_add_mod]; exact Nat.mod_eq_of_lt (by omega)
  have f3 : m = 2 * (m / 2) + m % 2 := by omega
  have f4 : m % 2 < 2 := by omega
  rw [f1, f2]
  have f5 : m / 2 + 1 ≤ A := by omega
  generalize m / 2 = q at *
  generalize m % 2 = b at *
  have g1 : (b * 2147483648 + ra + q) * 2 % 4294967296 = 2 * (ra + q) := by omega
  have g2 : (b * 2147483648 + ra + q) / 2147483648 = b := by omega
  rw [g1, g2]
  omega
theorem turn_step (u k : Nat) (h : u < 4294967296) (hk : k < 32) :
    turnF u k < 4294967296 ∧ turnF u k * 2 % 4294967296 + turnF u k / 2147483648 = turnF u (k + 1) := by
  refine turn_gen u k (2 ^ k) (2 ^ (31 - k)) h rfl (by rw [Nat.pow_succ, Nat.mul_comm]) ?_ ?_ ?_
  · rw [show 32 - k = (31 - k) + 1 from by omega, Nat.pow_succ, Nat.mul_comm]
  · rw [show 32 - (k + 1) = 31 - k from by omega]
  · rw [← Nat.pow_add, show 31 - k + k = 31 from by omega]
theorem turn_lt (u k : Nat) (h : u < 4294967296) (hk : k < 32) : turnF u k < 4294967296 := (turn_step u k h hk).1

theorem turn_eq (u k : Int) (h0 : 0 ≤ u) (h1 : u < 4294967296) (k0 : 0 ≤ k) (k1 : k < 32) :
    bits .or .u32 (IntKind.u32.wrap (u * 2 ^ k.toNat)) (u / 2 ^ (32 - k).toNat) = turnF u.toNat k.toNat := by
  obtain ⟨m, rfl⟩ := Int.eq_ofNat_of_zero_le h0
  obtain ⟨j, rfl⟩ := Int.eq_ofNat_of_zero_le k0
  rw [IntKind.wrap_u32']
  have e1 : (m : Int) * 2 ^ (j : Int).toNat % 4294967296 = ((m * 2 ^ j % 4294967296 : Nat) : Int) := by simp
  have e2 : (m : Int) / 2 ^ (32 - (j : Int)).toNat = ((m / 2 ^ (32 - j) : Nat) : Int) := by
    rw [show (32 - (j : Int)).toNat = 32 - j from by omega]; simp
  have hp : 2 ^ j * 2 ^ (32 - j) = 4294967296 := by rw [← Nat.pow_add, show j + (32 - j) = 32 from by omega]
  have hq : m / 2 ^ (32 - j) < 2 ^ j := by
    apply Nat.div_lt_of_lt_mul; rw [Nat.mul_comm, hp]; omega
  have hj : 2 ^ j ≤ 2 ^ 31 := Nat.pow_le_pow_right (by omega) (by omega)
  have hd : 2 ^ j ∣ 4294967296 := ⟨2 ^ (32 - j), hp.symm⟩
  rw [e1, e2, u32_or_nat _ _ (Nat.mod_lt _ (by omega)) (by omega), nat_join j _ _ ?_ hq]
  · rfl
  · rw [Nat.mod_mod_of_dvd _ hd]; exact Nat.mul_mod_left _ _

theorem tmod_neg (n : Int) (h : n.tmod 32 < 0) : n.tmod 32 + 32 = n % 32 := by
  have h1 := Int.mul_tdiv_add_tmod n 32
  have h2 : -32 < n.tmod 32 := by
    have := Int.tmod_lt_of_pos (-n) (b := 32) (by omega)
    rw [Int.neg_tmod] at this; omega
  generalize n.tmod 32 = r at *
  generalize n.tdiv 32 = q at *
  omega
theorem tmod_pos (n : Int) (h : 0 ≤ n.tmod 32) : n.tmod 32 = n % 32 := by
  have h1 := Int.mul_tdiv_add_tmod n 32
  have h2 : n.tmod 32 < 32 := Int.tmod_lt_of_pos n (by omega)
  generalize n.tmod 32 = r at *
  generalize n.tdiv 32 = q at *
  omega

/-! ### Low -/
def lowF (u n : Int) : Int := if n ≤ 0 then 0 else if 64 ≤ n then u else u % 2 ^ n.toNat
theorem low_eq (u : Int) (n : Nat) (h0 : 0 ≤ u) (h1 : u < 18446744073709551616) (hn : n < 64) :
    bits .and .u64 u (2 ^ n - 1) = u % 2 ^ n := by
  have hp : 2 ^ n < 18446744073709551616 := Nat.pow_lt_pow_right (by omega) hn
  have hp0 : 0 < 2 ^ n := Nat.pow_pos (by omega)
  have e : ((2 : Int) ^ n - 1) = ((2 ^ n - 1 : Nat) : Int) := by
    rw [Int.ofNat_sub hp0]; simp
  obtain ⟨m, rfl⟩ := Int.eq_ofNat_of_zero_le h0
  rw [e, u64_and_nat m (2 ^ n - 1) (by omega) (by omega), Nat.and_two_pow_sub_one_eq_mod]
  simp
theorem low_eq' (u n : Int) (h0 : 0 ≤ u) (h1 : u < 18446744073709551616) (hn0 : 0 < n) (hn : n < 64) :
    bits .and .u64 u (IntKind.u64.wrap (IntKind.u64.wrap (2 ^ n.toNat) - 1)) = lowF u n := by
  obtain ⟨m, rfl⟩ := Int.eq_ofNat_of_zero_le (show 0 ≤ n by omega)
  have hp : 2 ^ m < 18446744073709551616 := Nat.pow_lt_pow_right (by omega) (by omega : m < 64)
  have hp0 : 0 < 2 ^ m := Nat.pow_pos (by omega)
  have e : (2 : Int) ^ (m : Int).toNat = ((2 ^ m : Nat) : Int) := by simp
  have e1 : IntKind.u64.wrap (IntKind.u64.wrap (2 ^ (m : Int).toNat) - 1) = 2 ^ m - 1 := by
    rw [IntKind.wrap_u64, IntKind.wrap_u64, e]
    have e' : (2 : Int) ^ m = ((2 ^ m : Nat) : Int) := by simp
    rw [e']
    omega
  rw [e1, low_eq u m h0 h1 (by omega)]
  unfold lowF
  rw [if_neg (by omega), if_neg (by omega)]
  simp
theorem low_step (u i : Nat) : u % 2 ^ i + u / 2 ^ i % 2 * 2 ^ i = u % 2 ^ (i + 1) := by
  rw [Nat.mod_pow_succ, Nat.mul_comm]

theorem low_round (v P X : Nat) (hv : v < 18446744073709551616) (hP0 : 0 < P) (hP : P ≤ 4611686018427387904) (hX : X < P) :
    IntKind.u64.wrap ((X : Int) + IntKind.u64.wrap ((IntKind.u64.wrap ((v : Int) / (P : Int))).tmod 2 * (P : Int))) = ((X + v / P % 2 * P : Nat) : Int) := by
  have hd : v / P ≤ v := Nat.div_le_self v P
  have e0 : ((v : Int) / (P : Int)) = ((v / P : Nat) : Int) := by simp
  rw [e0, IntKind.wrap_u64, IntKind.wrap_u64, IntKind.wrap_u64]
  generalize v / P = q at *
  have e1 : ((q : Int) % 18446744073709551616) = (q : Int) := by omega
  rw [e1, Int.tmod_eq_emod_of_nonneg (by omega)]
  rcases Nat.mod_two_eq_zero_or_one q with h | h
  · have e2 : (q : Int) % 2 = 0 := by omega
    rw [e2, h]; simp; omega
  · have e2 : (q : Int) % 2 = 1 := by omega
    rw [e2, h]; simp; omega
theorem low_bit (P : Nat) (j : Nat) (h : 2 ^ j = P) : (P : Int) * 2 = ((2 ^ (j + 1) : Nat) : Int) := by
  rw [Nat.pow_succ, h]; omega
theorem low_zero (u : Nat) : u % 2 ^ 0 = 0 := by simp [Nat.mod_one]
theorem lowF_nat (u : Nat) (n : Nat) (h : n < 64) : lowF u n = ((u % 2 ^ n : Nat) : Int) := by
  unfold lowF
  by_cases hz : n = 0
  · subst hz; simp [Nat.mod_one]
  · rw [if_neg (by omega), if_neg (by omega)]; simp
theorem lowF_neg (u n : Int) (h : n ≤ 0) : lowF u n = 0 := by unfold lowF; rw [if_pos h]

theorem lowF_end (v : Nat) (n : Int) (j : Nat) (h : n < 64) (h1 : (v : Int) < 18446744073709551616) (hj : (j : Int) ≤ max n 0) (hn : ¬ (j : Int) < n) : lowF v n = ((v % 2 ^ j : Nat) : Int) := by
  by_cases h0 : n ≤ 0
  · have : j = 0 := by omega
    subst this
    rw [lowF_neg _ _ h0]; simp [Nat.mod_one]
  · have : n = (j : Int) := by omega
    subst this
    exact lowF_nat v j (by omega)

/-! ### Fold -/
def foldS (s b : Int) : Int := IntKind.u32.wrap (bits .xor .u32 s b * 16777619)
def foldF (l : List Int) : Int := l.foldl foldS 2166136261
theorem fold_snoc (l : List Int) (b : Int) : foldF (l ++ [b]) = foldS (foldF l) b := by
  unfold foldF; rw [List.foldl_append]; rfl

/-! ### Both ways -/
theorem zigF_bd (n : Int) (h0 : -9223372036854775808 ≤ n) (h1 : n < 9223372036854775808) : 0 ≤ zigF n ∧ zigF n < 18446744073709551616 := by
  unfold zigF; split <;> omega
theorem zagF_bd (u : Int) (h0 : 0 ≤ u) (h1 : u < 18446744073709551616) : -9223372036854775808 ≤ zagF u ∧ zagF u < 9223372036854775808 := by
  unfold zagF; split <;> omega
theorem zag_zig (n : Int) : zagF (zigF n) = n := by
  unfold zagF zigF; split <;> split <;> omega
theorem zig_zag (u : Int) (h0 : 0 ≤ u) : zigF (zagF u) = u := by
  unfold zagF zigF
  by_cases h : u % 2 = 0
  · rw [if_pos h, if_pos (by omega)]; omega
  · rw [if_neg h, if_neg (by omega)]; omega
theorem turn_add (u j k : Nat) (h : u < 4294967296) (hjk : j + k ≤ 32) (hj : j < 32) : turnF (turnF u j) k = turnF u (j + k) := by
  induction k with
  | zero => exact turn_zero _ (turn_lt u j h hj)
  | succ k ih =>
    have h1 := (turn_step (turnF u j) k (turn_lt u j h hj) (by omega)).2
    have h2 := (turn_step u (j + k) h (by omega)).2
    rw [ih (by omega)] at h1
    rw [← h1, h2]; rfl
theorem turn_full (u : Nat) : turnF u 32 = u := by unfold turnF; simp
theorem turn_back (u : Nat) (n : Int) (h : u < 4294967296) : turnF (turnF u (n % 32).toNat) ((-n) % 32).toNat = u := by
  rw [turn_add u _ _ h (by omega) (by omega)]
  by_cases hz : n % 32 = 0
  · rw [show (n % 32).toNat + ((-n) % 32).toNat = 0 from by omega, turn_zero u h]
  · rw [show (n % 32).toNat + ((-n) % 32).toNat = 32 from by omega, turn_full]
theorem low_mod (v m : Nat) (h : v < 18446744073709551616) : lowF v m = ((v % 2 ^ m : Nat) : Int) := by
  by_cases hm : m < 64
  · exact lowF_nat v m hm
  · have hp : 2 ^ 64 ≤ 2 ^ m := Nat.pow_le_pow_right (by omega) (by omega)
    unfold lowF
    rw [if_neg (by omega), if_pos (by omega), Nat.mod_eq_of_lt (by omega)]
theorem low_low (v m n : Nat) (h : v < 18446744073709551616) : lowF (lowF v m) n = lowF v (min m n : Nat) := by
  have hd : v % 2 ^ m ≤ v := Nat.mod_le _ _
  rw [low_mod v m h, low_mod _ n (by omega), low_mod v _ h]
  by_cases hmn : m ≤ n
  · have hp : 2 ^ m ≤ 2 ^ n := Nat.pow_le_pow_right (by omega) hmn
    have hp0 : 0 < 2 ^ m := Nat.pow_pos (by omega)
    have := Nat.mod_lt v hp0
    rw [Nat.mod_eq_of_lt (by omega), Nat.min_eq_left hmn]
  · rw [Nat.mod_mod_of_dvd _ (Nat.pow_dvd_pow 2 (by omega)), Nat.min_eq_right (by omega)]
theorem low_bd (v m : Nat) (h : v < 18446744073709551616) : 0 ≤ lowF v m ∧ lowF v m ≤ v := by
  have hd : v % 2 ^ m ≤ v := Nat.mod_le _ _
  rw [low_mod v m h]; omega
theorem low_rest (v m : Nat) (h : v < 18446744073709551616) : lowF ((v : Int) - lowF v m) m = 0 := by
  have hd : v % 2 ^ m ≤ v := Nat.mod_le _ _
  rw [low_mod v m h]
  have e : (v : Int) - ((v % 2 ^ m : Nat) : Int) = ((v - v % 2 ^ m : Nat) : Int) := by omega
  rw [e, low_mod _ m (by omega)]
  have : (v - v % 2 ^ m) % 2 ^ m = 0 := by
    have h1 := Nat.div_add_mod v (2 ^ m)
    have : v - v % 2 ^ m = 2 ^ m * (v / 2 ^ m) := by omega
    rw [this]; exact Nat.mul_mod_right _ _
  rw [this]; rfl
theorem pow_small (k : Int) (h0 : 0 ≤ k) (h1 : k < 62) : 0 < (2 : Int) ^ k.toNat ∧ (2 : Int) ^ k.toNat ≤ 2305843009213693952 := by
  obtain ⟨m, rfl⟩ := Int.eq_ofNat_of_zero_le h0
  have hp : 2 ^ m ≤ 2 ^ 61 := Nat.pow_le_pow_right (by omega) (by omega)
  have hp0 : 0 < 2 ^ m := Nat.pow_pos (by omega)
  have e : (2 : Int) ^ (m : Int).toNat = ((2 ^ m : Nat) : Int) := by simp
  rw [e]; omega
theorem zig_big (n m : Int) (h0 : 0 < m) (h : m ≤ n ∨ n < -m) : 2 * m ≤ zigF n := by
  unfold zigF; split <;> omega
theorem zig_less (n m : Int) (h0 : 0 < m) (h : n < m) (h' : -m ≤ n) : zigF n < 2 * m := by
  unfold zigF; split <;> omega
end Go.Proofs.Ytihgiemgcmpmmaa.M
