/-
  Plain laws on packets as bytes: which bytes a packet has, when bytes begin with a right packet's, and that they tell which; no program is named here.
-/
import Derived.Test.YtihgiemgcmpmmaaMath
namespace Go.Proofs.Ytihgiemgcmpmmaa.Fr
set_option linter.unusedVariables false
open Go.RowKit
/-- A text's bytes as numbers. -/
def bs (b : ByteArray) : List Int := b.data.toList.map fun c => (c.toNat : Int)
/-- Numbers as a text's bytes. -/
def tx (l : List Int) : ByteArray := ⟨(l.map fun x => UInt8.ofNat x.toNat).toArray⟩
def le4 (n : Int) : List Int := [n % 256, n / 256 % 256, n / 65536 % 256, n / 16777216 % 256]
def le2 (n : Int) : List Int := [n % 256, n / 256 % 256]
def num4 (a b c d : Int) : Int := a + 256 * b + 65536 * c + 16777216 * d
structure Pk where
  k : Int
  f : Int
  t : Int
  e : Int
  s : Int
  b : ByteArray
def val (p : Pk) : Value := .agg #[.int .u8 p.k, .int .u8 p.f, .int .u8 p.t, .int .u32 p.e, .int .u32 p.s, .string p.b]
def Wf (p : Pk) : Prop := (0 ≤ p.k ∧ p.k < 256) ∧ (0 ≤ p.f ∧ p.f < 256) ∧ (0 ≤ p.t ∧ p.t < 256) ∧ (0 ≤ p.e ∧ p.e < 4294967296) ∧ (0 ≤ p.s ∧ p.s < 4294967296)
def rightB (p : Pk) : Bool := ((p.k == 1 && p.f != 0 && decide (p.f ≤ 3) && p.t == 0) || (p.k == 2 && p.f == 0 && p.t != 0 && decide (p.t ≤ 3))) && p.s != 0 && decide (p.b.size ≤ 16384)
def head (p : Pk) : List Int := 66 :: 87 :: p.k :: p.f :: p.t :: (le4 p.e ++ le4 p.s ++ le2 p.b.size ++ bs p.b)
def enc (p : Pk) : List Int := head p ++ le4 (M.foldF (head p))
theorem bs_length (b : ByteArray) : (bs b).length = b.size := by unfold bs; rw [List.length_map]; rfl
theorem bs_byte (b : ByteArray) : ∀ x ∈ bs b, 0 ≤ x ∧ x ≤ 255 := by
  intro x hx
  unfold bs at hx
  obtain ⟨c, _, rfl⟩ := List.mem_map.1 hx
  have := c.toNat_lt
  omega
theorem tx_bs (b : ByteArray) : tx (bs b) = b := by
  unfold tx bs
  rw [List.map_map]
  have : ((fun x => UInt8.ofNat x.toNat) ∘ fun (c : UInt8) => (c.toNat : Int)) = id := by funext c; simp
  rw [this]; simp
theorem bs_tx (l : List Int) (h : ∀ x ∈ l, 0 ≤ x ∧ x ≤ 255) : bs (tx l) = l := by
  unfold tx bs
  simp only [List.map_map]
  conv => rhs; rw [← List.map_id l]
  apply List.map_congr_left
  intro x hx
  have := h x hx
  show ((UInt8.ofNat x.toNat).toNat : Int) = x
  rw [UInt8.toNat_ofNat_of_lt' (show x.toNat < 256 by omega)]; omega
theorem tx_size (l : List Int) : (tx l).size = l.length := by
  show (l.map fun x => UInt8.ofNat x.toNat).toArray.size = _
  simp
theorem le4_num4 (a b c d : Int) (ha : 0 ≤ a ∧ a ≤ 255) (hb : 0 ≤ b ∧ b ≤ 255) (hc : 0 ≤ c ∧ c ≤ 255) (hd : 0 ≤ d ∧ d ≤ 255) : le4 (num4 a b c d) = [a, b, c, d] := by
  have h1 : num4 a b c d % 256 = a := by unfold num4; omega
  have h2 : num4 a b c d / 256 % 256 = b := by unfold num4; omega
  have h3 : num4 a b c d / 65536 % 256 = c := by unfold num4; omega
  have h4 : num4 a b c d / 16777216 % 256 = d := by unfold num4; omega
  unfold le4; rw [h1, h2, h3, h4]
theorem num4_le4 (n : Int) (h0 : 0 ≤ n) (h1 : n < 4294967296) : num4 (n % 256) (n / 256 % 256) (n / 65536 % 256) (n / 16777216 % 256) = n := by
  unfold num4; omega
theorem num4_lt (a b c d : Int) (ha : 0 ≤ a ∧ a ≤ 255) (hb : 0 ≤ b ∧ b ≤ 255) (hc : 0 ≤ c ∧ c ≤ 255) (hd : 0 ≤ d ∧ d ≤ 255) : 0 ≤ num4 a b c d ∧ num4 a b c d < 4294967296 := by
  unfold num4; omega
theorem fold_lt (l : List Int) : 0 ≤ M.foldF l ∧ M.foldF l < 4294967296 := by
  rcases List.eq_nil_or_concat l with rfl | ⟨l', b, rfl⟩
  · unfold M.foldF; simp
  · rw [List.concat_eq_append, M.fold_snoc]; unfold M.foldS; rw [IntKind.wrap_u32]; omega
theorem head_length (p : Pk) : (head p).length = 15 + p.b.size := by
  unfold head le4 le2; simp [bs_length]; omega
theorem enc_length (p : Pk) : (enc p).length = 19 + p.b.size := by
  unfold enc; rw [List.length_append, head_length]; simp [le4]; omega
theorem le4_byte (n : Int) : ∀ x ∈ le4 n, 0 ≤ x ∧ x ≤ 255 := by
  intro x hx; unfold le4 at hx; simp at hx; omega
theorem le2_byte (n : Int) : ∀ x ∈ le2 n, 0 ≤ x ∧ x ≤ 255 := by
  intro x hx; unfold le2 at hx; simp at hx; omega
theorem enc_byte (p : Pk) (h : Wf p) : ∀ x ∈ enc p, 0 ≤ x ∧ x ≤ 255 := by
  obtain ⟨h1, h2, h3, h4, h5⟩ := h
  intro x hx
  unfold enc head at hx
  simp only [List.cons_append, List.mem_cons, List.mem_append] at hx
  rcases hx with rfl | rfl | rfl | rfl | rfl | ((hx | hx) | hx) | hx
  · omega
  · omega
  · omega
  · omega
  · omega
  · rcases hx with hx | hx
    · exact le4_byte _ _ hx
    · exact le4_byte _ _ hx
  · exact le2_byte _ _ hx
  · exact bs_byte _ _ hx
  · exact le4_byte _ _ hx
/-- How many bytes the body has, by the bytes themselves. -/
def nb (zs : List Int) : Int := zs.getD 13 0 + 256 * zs.getD 14 0
def parse (zs : List Int) : Pk := ⟨zs.getD 2 0, zs.getD 3 0, zs.getD 4 0, num4 (zs.getD 5 0) (zs.getD 6 0) (zs.getD 7 0) (zs.getD 8 0), num4 (zs.getD 9 0) (zs.getD 10 0) (zs.getD 11 0) (zs.getD 12 0), tx ((zs.drop 15).take (nb zs).toNat)⟩
/-- The number in the four bytes from i on. -/
def at4 (zs : List Int) (i : Nat) : Int := num4 (zs.getD i 0) (zs.getD (i + 1) 0) (zs.getD (i + 2) 0) (zs.getD (i + 3) 0)
/-- Bytes begin with the packet's. -/
def Begins (p : Pk) (zs : List Int) : Prop := Wf p ∧ rightB p = true ∧ ∃ r, zs = enc p ++ r
theorem right_size {p : Pk} (h : rightB p = true) : p.b.size ≤ 16384 := by
  unfold rightB at h; simp at h; exact h.2
theorem wf_parse (zs : List Int) (hz : ∀ i, 0 ≤ zs.getD i 0 ∧ zs.getD i 0 ≤ 255) : Wf (parse zs) := by
  unfold Wf parse
  have h := fun i => hz i
  refine ⟨by have := h 2; simp only; omega, by have := h 3; simp only; omega, by have := h 4; simp only; omega, num4_lt _ _ _ _ (h _) (h _) (h _) (h _), num4_lt _ _ _ _ (h _) (h _) (h _) (h _)⟩
/-- What the bytes of a packet say, whatever stands behind. -/
theorem enc_says (p : Pk) (r : List Int) (h : Wf p) (hs : p.b.size < 65536) :
    (enc p ++ r).getD 0 0 = 66 ∧ (enc p ++ r).getD 1 0 = 87 ∧ nb (enc p ++ r) = p.b.size ∧ parse (enc p ++ r) = p ∧ at4 (enc p ++ r) (15 + p.b.size) = M.foldF (head p) ∧ (enc p ++ r).take (15 + p.b.size) = head p := by
  obtain ⟨h1, h2, h3, h4, h5⟩ := h
  have hn : nb (enc p ++ r) = p.b.size := by
    unfold enc head le4 le2 nb
    simp
    omega
  refine ⟨by simp [enc, head], by simp [enc, head], hn, ?_, ?_, ?_⟩
  · unfold parse
    rw [hn]
    have hb : ((enc p ++ r).drop 15).take (p.b.size : Int).toNat = bs p.b := by
      have : (enc p ++ r).drop 15 = bs p.b ++ (le4 (M.foldF (head p)) ++ r) := by
        unfold enc
        simp [head, le4, le2]
      rw [this, Int.toNat_natCast, ← bs_length, List.take_left]
    rw [hb, tx_bs]
    have a1 := num4_le4 p.e h4.1 h4.2
    have a2 := num4_le4 p.s h5.1 h5.2
    unfold enc head le4 le2
    simp [a1, a2]
  · unfold at4
    have : ∀ j, (enc p ++ r).getD (15 + p.b.size + j) 0 = (le4 (M.foldF (head p)) ++ r).getD j 0 := by
      intro j
      unfold enc
      rw [List.append_assoc]
      simp only [List.getD]
      rw [List.getElem?_append_right (by rw [head_length]; omega), head_length]
      congr 2; omega
    have t0 := this 0
    have t1 := this 1
    have t2 := this 2
    have t3 := this 3
    rw [Nat.add_zero] at t0
    rw [t0, t1, t2, t3]
    have := fold_lt (head p)
    have := num4_le4 (M.foldF (head p)) this.1 this.2
    simpa [le4] using this
  · unfold enc
    rw [List.append_assoc, ← head_length, List.take_left]
theorem cons15 {zs : List Int} (h : 15 ≤ zs.length) : ∃ a0 a1 a2 a3 a4 a5 a6 a7 a8 a9 a10 a11 a12 a13 a14 r, zs = a0 :: a1 :: a2 :: a3 :: a4 :: a5 :: a6 :: a7 :: a8 :: a9 :: a10 :: a11 :: a12 :: a13 :: a14 :: r := by
  match zs, h with
  | a0 :: a1 :: a2 :: a3 :: a4 :: a5 :: a6 :: a7 :: a8 :: a9 :: a10 :: a11 :: a12 :: a13 :: a14 :: r, _ => exact ⟨a0, a1, a2, a3, a4, a5, a6, a7, a8, a9, a10, a11, a12, a13, a14, r, rfl⟩
theorem cons4 {zs : List Int} (h : 4 ≤ zs.length) : ∃ a0 a1 a2 a3 r, zs = a0 :: a1 :: a2 :: a3 :: r := by
  match zs, h with
  | a0 :: a1 :: a2 :: a3 :: r, _ => exact ⟨a0, a1, a2, a3, r, rfl⟩
theorem mem_getD {zs : List Int} (hz : ∀ i, 0 ≤ zs.getD i 0 ∧ zs.getD i 0 ≤ 255) : ∀ x ∈ zs, 0 ≤ x ∧ x ≤ 255 := by
  intro x hx
  obtain ⟨i, hi, rfl⟩ := List.getElem_of_mem hx
  have := hz i
  simpa [List.getD, hi] using this
/-- Bytes that pass the tests are the packet's that they say, and what stands behind. -/
theorem enc_parse (zs : List Int) (hz : ∀ i, 0 ≤ zs.getD i 0 ∧ zs.getD i 0 ≤ 255) (hl : 19 ≤ zs.length) (hl2 : 19 + nb zs ≤ zs.length) (h0 : zs.getD 0 0 = 66) (h1 : zs.getD 1 0 = 87)
    (hs : at4 zs (15 + (nb zs).toNat) = M.foldF (zs.take (15 + (nb zs).toNat))) : zs = enc (parse zs) ++ zs.drop (19 + (nb zs).toNat) ∧ ((parse zs).b.size : Int) = nb zs := by
  have hm := mem_getD hz
  have hn0 : 0 ≤ nb zs := by unfold nb; have := hz 13; have := hz 14; omega
  obtain ⟨n, hn⟩ := Int.eq_ofNat_of_zero_le hn0
  rw [hn] at hl2 hs
  have hnt : ((n : Nat) : Int).toNat = n := Int.toNat_natCast n
  have hnt2 : (nb zs).toNat = n := by rw [hn]; exact hnt
  rw [hnt] at hs
  obtain ⟨a0, a1, a2, a3, a4, a5, a6, a7, a8, a9, a10, a11, a12, a13, a14, r, rfl⟩ := cons15 (by omega : 15 ≤ zs.length)
  have hrl : n + 4 ≤ r.length := by simp at hl2; omega
  obtain ⟨s0, s1, s2, s3, r2, hr2⟩ := cons4 (by rw [List.length_drop]; omega : 4 ≤ (r.drop n).length)
  have hr : r = r.take n ++ (s0 :: s1 :: s2 :: s3 :: r2) := by rw [← hr2, List.take_append_drop]
  have htl : (r.take n).length = n := by rw [List.length_take]; omega
  generalize r.take n = B at hr htl
  subst hr
  have hnn : a13 + 256 * a14 = n := by rw [← hn]; simp [nb]
  simp at h0 h1
  subst h0 h1
  have hB : ∀ x ∈ B, 0 ≤ x ∧ x ≤ 255 := fun x hx => hm x (by simp [hx])
  have hsum : at4 (66 :: 87 :: a2 :: a3 :: a4 :: a5 :: a6 :: a7 :: a8 :: a9 :: a10 :: a11 :: a12 :: a13 :: a14 :: (B ++ (s0 :: s1 :: s2 :: s3 :: r2))) (15 + n) = num4 s0 s1 s2 s3 := by
    have : ∀ j, (66 :: 87 :: a2 :: a3 :: a4 :: a5 :: a6 :: a7 :: a8 :: a9 :: a10 :: a11 :: a12 :: a13 :: a14 :: (B ++ (s0 :: s1 :: s2 :: s3 :: r2))).getD (15 + n + j) 0 = (s0 :: s1 :: s2 :: s3 :: r2).getD j 0 := by
      intro j
      have e : 66 :: 87 :: a2 :: a3 :: a4 :: a5 :: a6 :: a7 :: a8 :: a9 :: a10 :: a11 :: a12 :: a13 :: a14 :: (B ++ (s0 :: s1 :: s2 :: s3 :: r2)) = (66 :: 87 :: a2 :: a3 :: a4 :: a5 :: a6 :: a7 :: a8 :: a9 :: a10 :: a11 :: a12 :: a13 :: a14 :: B) ++ (s0 :: s1 :: s2 :: s3 :: r2) := by simp
      rw [e]
      simp only [List.getD]
      rw [List.getElem?_append_right (by simp; omega)]
      congr 2; simp; omega
    have t0 := this 0
    rw [Nat.add_zero] at t0
    unfold at4
    rw [t0, this 1, this 2, this 3]; simp
  have hb : (parse (66 :: 87 :: a2 :: a3 :: a4 :: a5 :: a6 :: a7 :: a8 :: a9 :: a10 :: a11 :: a12 :: a13 :: a14 :: (B ++ (s0 :: s1 :: s2 :: s3 :: r2)))).b = tx B := by
    unfold parse
    rw [hnt2]
    show tx ((B ++ (s0 :: s1 :: s2 :: s3 :: r2)).take n) = _
    rw [← htl, List.take_left]
  have htx : (tx B).size = n := by rw [tx_size, htl]
  have hh : head (parse (66 :: 87 :: a2 :: a3 :: a4 :: a5 :: a6 :: a7 :: a8 :: a9 :: a10 :: a11 :: a12 :: a13 :: a14 :: (B ++ (s0 :: s1 :: s2 :: s3 :: r2)))) = 66 :: 87 :: a2 :: a3 :: a4 :: a5 :: a6 :: a7 :: a8 :: a9 :: a10 :: a11 :: a12 :: a13 :: a14 :: B := by
    unfold head
    rw [hb, bs_tx B hB, htx]
    have m : ∀ x ∈ [a5, a6, a7, a8, a9, a10, a11, a12, a13, a14], 0 ≤ x ∧ x ≤ 255 := fun x hx => hm x (by simp at hx ⊢; rcases hx with rfl | rfl | rfl | rfl | rfl | rfl | rfl | rfl | rfl | rfl <;> simp)
    have e1 := le4_num4 a5 a6 a7 a8 (m _ (by simp)) (m _ (by simp)) (m _ (by simp)) (m _ (by simp))
    have e2 := le4_num4 a9 a10 a11 a12 (m _ (by simp)) (m _ (by simp)) (m _ (by simp)) (m _ (by simp))
    have m13 := m a13 (by simp)
    have m14 := m a14 (by simp)
    have e3 : le2 (n : Int) = [a13, a14] := by
      unfold le2
      rw [show (n : Int) % 256 = a13 by omega, show (n : Int) / 256 % 256 = a14 by omega]
    rw [e3]
    simp [parse, e1, e2]
  refine ⟨?_, by rw [hb, htx, hn]⟩
  unfold enc
  rw [hh]
  have ht : (66 :: 87 :: a2 :: a3 :: a4 :: a5 :: a6 :: a7 :: a8 :: a9 :: a10 :: a11 :: a12 :: a13 :: a14 :: (B ++ (s0 :: s1 :: s2 :: s3 :: r2))).take (15 + n) = 66 :: 87 :: a2 :: a3 :: a4 :: a5 :: a6 :: a7 :: a8 :: a9 :: a10 :: a11 :: a12 :: a13 :: a14 :: B := by
    rw [Nat.add_comm]
    simp [← htl]
  rw [ht, hsum] at hs
  have ms : ∀ x ∈ [s0, s1, s2, s3], 0 ≤ x ∧ x ≤ 255 := fun x hx => hm x (by simp at hx ⊢; rcases hx with rfl | rfl | rfl | rfl <;> simp)
  have e4 := le4_num4 s0 s1 s2 s3 (ms _ (by simp)) (ms _ (by simp)) (ms _ (by simp)) (ms _ (by simp))
  rw [← hs, e4, hnt2, show 19 + n = (n + 4) + 15 by omega]
  simp only [List.drop_succ_cons, List.cons_append]
  simp [← htl]
/-- Which packet the bytes begin with, if any. -/
def firstF (zs : List Int) : Option Pk :=
  if 19 ≤ zs.length ∧ 19 + nb zs ≤ zs.length ∧ zs.getD 0 0 = 66 ∧ zs.getD 1 0 = 87 ∧ at4 zs (15 + (nb zs).toNat) = M.foldF (zs.take (15 + (nb zs).toNat)) ∧ rightB (parse zs) = true then some (parse zs) else none
theorem first_iff (zs : List Int) (hz : ∀ i, 0 ≤ zs.getD i 0 ∧ zs.getD i 0 ≤ 255) (p : Pk) : firstF zs = some p ↔ Begins p zs := by
  constructor
  · intro h
    unfold firstF at h
    split at h
    · next hc =>
      obtain ⟨c1, c2, c3, c4, c5, c6⟩ := hc
      cases h
      exact ⟨wf_parse zs hz, c6, _, (enc_parse zs hz c1 c2 c3 c4 c5).1⟩
    · cases h
  · rintro ⟨hw, hr, r, rfl⟩
    have hsz := right_size hr
    obtain ⟨e1, e2, e3, e4, e5, e6⟩ := enc_says p r hw (by omega)
    unfold firstF
    rw [if_pos, e4]
    rw [e3, e1, e2, e4, Int.toNat_natCast, e5, e6]
    refine ⟨by rw [List.length_append, enc_length]; omega, by rw [List.length_append, enc_length]; omega, rfl, rfl, rfl, hr⟩
theorem begins_one {p q : Pk} {zs : List Int} (h : Begins p zs) (h' : Begins q zs) : p = q := by
  obtain ⟨a1, a2, r, rfl⟩ := h
  obtain ⟨b1, b2, s, e⟩ := h'
  have := right_size a2
  have := right_size b2
  have x := (enc_says p r a1 (by omega)).2.2.2.1
  have y := (enc_says q s b1 (by omega)).2.2.2.1
  rw [e, y] at x
  exact x.symm
end Go.Proofs.Ytihgiemgcmpmmaa.Fr
