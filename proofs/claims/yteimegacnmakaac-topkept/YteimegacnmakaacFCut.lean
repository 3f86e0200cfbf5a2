/-
  What Cut of the package frame returns.
-/
import Derived.Test.YteimegacnmakaacFOpen
namespace Go.Proofs.Yteimegacnmakaac
open Go.RowKit Go.ChangeShapes Go.WideShapes Go.ChangeAt
open Go.BigFrame
set_option linter.unusedVariables false
set_option linter.unusedSimpArgs false
theorem stepc_append_own {P : Program} (w : World) {ops : Array Oper} {o : Oper} {a : Act} {K : Act → World → Prop} {Q : Exit → Act → World → Prop} {E : Prop} (hgd : o.guard = none) (s x : Operand) (t : TypeId)
    (ho : o.op = .call { callee := .builtin .append, args := #[s, x], argTypes := #[t, t] })
    (base : Nat) (e : TypeId) (i : TypeInfo) (z : Value) (size bytes : Nat) (ht : P.underlying t = some (.slice e)) (hi : P.info? e = some i) (hz : i.zero = some z)
    (hsize : i.size = size) (hby : i.bytes = bytes) (hzs : z.cells.size = size) (hsz : 0 < size)
    (v : Value) (n : Nat) (xs : List Value) (hs : a.eval s = v) (hown : w.ownsRow base e size v n xs)
    (ad : Addr) (m c : Nat) (news : List Value) (hx : a.eval x = .slice (some ad) m c) (hl : news.length = m * size) (hnews : ∀ j u, news[j]? = some u → w.cell? (ad.add j) = some u) (h1 : ∀ u ∈ news, u.oneCell' = true)
    (h63 : n + m ≤ maxLen) (hbytes : (n + m) * bytes ≤ 140737488355328) (hbase : base ≤ w.heap.size)
    (h : ∀ v' w', w'.ownsRow base e size v' (n + m) (xs ++ news) → w.grownBy w' v.ownBlock → K (a.put o.dst v') w') :
    if Region.wanted o (yielded ops a.tmps) = true then Oper.wp P o a w K Q else E := by
  rw [if_pos (by simp [Region.wanted, hgd])]
  exact wp_append_own w s x t ho base e i z size bytes ht hi hz hsize hby hzs hsz v n xs hs hown ad m c news hx hl hnews h1 h63 hbytes hbase fun v' w' a b _ => h v' w' a b
theorem isB_cells {w : World} {b off len : Nat} {zs : List Int} (h : IsB w (some ⟨b, off, none⟩) len zs) : ∀ j u, (zs.map u8V)[j]? = some u → w.cell? ((⟨b, off, none⟩ : Addr).add j) = some u := by
  intro j u hu
  obtain ⟨h1, h2, h3, h4⟩ := h
  rw [List.getElem?_map] at hu
  by_cases hj : j < zs.length
  · obtain ⟨b', off', e, hc⟩ := h3 (by omega)
    cases e
    rw [List.getElem?_eq_getElem hj] at hu
    simp at hu
    have hadd : (⟨b, off, none⟩ : Addr).add j = ⟨b, off + j, none⟩ := by unfold Addr.add; split <;> simp_all
    rw [hadd, hc j (by omega), ← hu]
    simp [List.getD, hj, u8V]
  · rw [List.getElem?_eq_none (by omega)] at hu; cases hu
theorem pb_grown0 {w w' : World} {B : Nat} {p : Fr.Pk} (h : PB w B p) (hg : w.grownBy w' (Value.slice none 0 0).ownBlock) : PB w' B p := by
  unfold PB at *; rw [hg.block B (lt_of_blk h) (fun e => by cases e)]; exact h
theorem pb_six {w : World} {B b : Nat} {p : Fr.Pk} (hp : PB w b p) (h : b ≠ B) (v0 v1 v2 v3 v4 v5 : Value) : PB ((((((w.setCell ⟨B, 0, none⟩ v0).setCell ⟨B, 1, none⟩ v1).setCell ⟨B, 2, none⟩ v2).setCell ⟨B, 3, none⟩ v3).setCell ⟨B, 4, none⟩ v4).setCell ⟨B, 5, none⟩ v5) b p := by
  unfold PB at *; rw [six_b w h]; exact hp
theorem own_six {w : World} {B e n : Nat} {v : Value} {xs : List Value} (h : w.ownsRow (B + 1) e 1 v n xs) (v0 v1 v2 v3 v4 v5 : Value) : ((((((w.setCell ⟨B, 0, none⟩ v0).setCell ⟨B, 1, none⟩ v1).setCell ⟨B, 2, none⟩ v2).setCell ⟨B, 3, none⟩ v3).setCell ⟨B, 4, none⟩ v4).setCell ⟨B, 5, none⟩ v5).ownsRow B e 1 v n xs :=
  own_mono (ownsRow_setCell_below (ownsRow_setCell_below (ownsRow_setCell_below (ownsRow_setCell_below (ownsRow_setCell_below (ownsRow_setCell_below h (Nat.lt_succ_self B) v0) (Nat.lt_succ_self B) v1) (Nat.lt_succ_self B) v2) (Nat.lt_succ_self B) v3) (Nat.lt_succ_self B) v4) (Nat.lt_succ_self B) v5) (Nat.le_succ B)
/-- What Cut answers. -/
def CutPost (zs : List Int) (w : World) (e : Ending) (w' : World) : Prop :=
  ((∃ p v, Fr.Begins p zs ∧ e = .returned (.tuple #[Fr.val p, v, .int .i64 0]) ∧ w'.ownsRow w.heap.size 5 1 v (zs.drop (19 + p.b.size)).length ((zs.drop (19 + p.b.size)).map u8V)) ∨ ((∀ p, ¬ Fr.Begins p zs) ∧ e = .returned (.tuple #[noPk, .slice none 0 0, .int .i64 3]))) ∧ Below w.heap.size w w'
set_option maxHeartbeats 1000000 in
theorem cut_c (a : Option Addr) (len cap : Nat) (zs : List Int) (w : World) (hb : IsB w a len zs) (hlc : len ≤ cap) (hsmall : len < 1000000) :
    Calls Try.prog 17 #[.slice a len cap] w (CutPost zs w) := by
  have HB := hid hb
  obtain ⟨i0, hi, hz0, hz1, hz2⟩ := info_parts8
  clear hb
  go_enter Try.func17, Try.ntmps17
  go_wp2_with fail
  have hP0 := zero_pb w
  have hB0 : Below w.heap.size w (w.alloc (.cells #[.int .u8 0, .int .u8 0, .int .u8 0, .int .u32 0, .int .u32 0, .string ⟨#[]⟩] 43)) := (Below.refl _ _).alloc (Nat.le_refl _) _
  generalize (w.alloc (.cells #[.int .u8 0, .int .u8 0, .int .u8 0, .int .u32 0, .int .u32 0, .string ⟨#[]⟩] 43)) = W at *
  refine (first_c _ _ _ _ _ (HB.out.later hB0) hlc).mono ?_
  rintro _ w1 ⟨⟨p, hp, rfl⟩ | ⟨hp, rfl⟩, hb1⟩
  · have hP1 := hP0.later hb1
    have hB1 := hB0.trans (hb1.mono hB0.size)
    have HL := begins_long hp
    have hll := HB.out.1
    have HP := hid hp
    clear hp
    obtain ⟨k, f, t, e, s, b⟩ := p
    simp only at HL
    obtain ⟨_, _, hsz, _⟩ := HL
    rw [hll] at hsz
    rw [show Fr.val ⟨k, f, t, e, s, b⟩ = .agg #[.int .u8 k, .int .u8 f, .int .u8 t, .int .u32 e, .int .u32 s, .string b] from rfl]
    obtain ⟨ab, ao, e9, _⟩ := HB.out.2.2.1 (by omega)
    subst e9
    have hlt1 := hP1.lt
    have hz1' := hB1.size
    have HD : Hid ((zs.drop (19 + b.size)).length = len - (19 + b.size)) := by show _ = _; rw [List.length_drop, hll]
    clear hll
    have i1 : (19 : Int) + b.size ≤ len := by omega
    have i2 : (19 : Int) + b.size ≤ cap := by omega
    have i3 : (0 : Int) ≤ 19 + b.size := by omega
    have i4 : (19 + (b.size : Int)).toNat = 19 + b.size := by omega
    have i5 : (len : Int) ≤ cap := by omega
    go_wp2_with fail
    have hP2 := hP1.alloc (.cells #[.int .u8 k, .int .u8 f, .int .u8 t, .int .u32 e, .int .u32 s, .string b] 43)
    have hQ2 : PB (w1.alloc (.cells #[.int .u8 k, .int .u8 f, .int .u8 t, .int .u32 e, .int .u32 s, .string b] 43)) w1.heap.size ⟨k, f, t, e, s, b⟩ := heap_alloc_new w1 _
    have hB2 := hB1.alloc hB1.size (.cells #[.int .u8 k, .int .u8 f, .int .u8 t, .int .u32 e, .int .u32 s, .string b] 43)
    have hz2' : w1.heap.size < (w1.alloc (.cells #[.int .u8 k, .int .u8 f, .int .u8 t, .int .u32 e, .int .u32 s, .string b] 43)).heap.size := by simp
    generalize (w1.alloc (.cells #[.int .u8 k, .int .u8 f, .int .u8 t, .int .u32 e, .int .u32 s, .string b] 43)) = w2 at *
    have HB2 := hid (HB.out.later hB2)
    obtain ⟨c0, c1, c2, c3, c4, c5⟩ := hP2.cells
    obtain ⟨d0, d1, d2, d3, d4, d5⟩ := hQ2.cells
    have f2 : ∀ i, w2.frozen? ⟨w.heap.size, i, none⟩ = false := fun i => pb_frozen hP2 i
    by_cases hcap : cap = 19 + b.size
    · have hl0 : len = 19 + b.size := by omega
      have hd0 : zs.drop (19 + b.size) = [] := List.eq_nil_of_length_eq_zero (by rw [HD.out]; omega)
      have HD0 := hid hd0
      clear hd0
      subst hl0
      subst hcap
      go_region_held3 (fun w' => w'.cell? ⟨w1.heap.size, 0, none⟩ = some (.int .u8 k) ∧ w'.cell? ⟨w1.heap.size, 1, none⟩ = some (.int .u8 f) ∧ w'.cell? ⟨w1.heap.size, 2, none⟩ = some (.int .u8 t) ∧ w'.cell? ⟨w1.heap.size, 3, none⟩ = some (.int .u32 e) ∧ w'.cell? ⟨w1.heap.size, 4, none⟩ = some (.int .u32 s) ∧ w'.cell? ⟨w1.heap.size, 5, none⟩ = some (.string b)) (first | go_keep | (exact ⟨d0, d1, d2, d3, d4, d5⟩) | (exact hS3) | (exact hS6 _ _ _ _ _ _)) ((refine stepc_append_own _ (by rfl) (.const (.slice none 0 0)) (.tmp 20) 44 (by rfl) (w.heap.size + 1) 5 i0 (.int .u8 0) 1 1 Try.underlying44 hi hz0 hz1 hz2 rfl (by decide) (.slice none 0 0) 0 [] (by rfl) (World.ownsRow_nil _ _ _ _) ⟨ab, ao, none⟩ 0 _ ([] : List Value) (by rfl) (by rfl) (fun j u h => by cases h) (fun y hy => by cases hy) (by unfold maxLen; omega) (by omega) (by simp; omega) ?_; intro v3 w3 hown3 hgrow3; (have hP3 : PB w3 w.heap.size ⟨0, 0, 0, 0, 0, ⟨#[]⟩⟩ := pb_grown0 (w := w2.drew) hP2 hgrow3); (have hQ3 : PB w3 w1.heap.size ⟨k, f, t, e, s, b⟩ := pb_grown0 (w := w2.drew) hQ2 hgrow3); (have hS3 := hQ3.cells); (obtain ⟨g0, g1, g2, g3, g4, g5⟩ := hP3.cells); (have f3 : ∀ i, w3.frozen? ⟨w.heap.size, i, none⟩ = false := fun i => pb_frozen hP3 i); (have hS6 := fun v0 v1 v2 v3 v4 v5 => (pb_six hQ3 (Nat.ne_of_gt hlt1) v0 v1 v2 v3 v4 v5).cells); (have hB3 : Below w.heap.size w w3 := Below.grown (Below.drew hB2) hgrow3 (by have := hB2.size; simp; omega) (fun q hq => by cases hq))))
      have hO3 : w3.ownsRow (w.heap.size + 1) 5 1 v3 (zs.drop (19 + b.size)).length ((zs.drop (19 + b.size)).map u8V) := by rw [HD0.out]; exact hown3
      go_wp2
      exact bodyPost_ret (v := .tuple #[Fr.val ⟨k, f, t, e, s, b⟩, v3, .int .i64 0]) (by simp [results, Try.results17, go_sem, Fr.val, g0, g1, g2, g3, g4, g5]) rfl ⟨.inl ⟨_, v3, HP.out, rfl, own_six hO3 _ _ _ _ _ _⟩, below6 hB3 (Nat.le_refl _) _ _ _ _ _ _⟩
    · have HC2 := hid (isB_cells (HB2.out.sub (19 + b.size) (len - (19 + b.size)) (by omega)))
      have HT : Hid ((zs.drop (19 + b.size)).take (len - (19 + b.size)) = zs.drop (19 + b.size)) := List.take_of_length_le (by rw [HD.out]; omega)
      rw [HT.out] at HC2
      go_region_held3 (fun w' => w'.cell? ⟨w1.heap.size, 0, none⟩ = some (.int .u8 k) ∧ w'.cell? ⟨w1.heap.size, 1, none⟩ = some (.int .u8 f) ∧ w'.cell? ⟨w1.heap.size, 2, none⟩ = some (.int .u8 t) ∧ w'.cell? ⟨w1.heap.size, 3, none⟩ = some (.int .u32 e) ∧ w'.cell? ⟨w1.heap.size, 4, none⟩ = some (.int .u32 s) ∧ w'.cell? ⟨w1.heap.size, 5, none⟩ = some (.string b)) (first | go_keep | (exact ⟨d0, d1, d2, d3, d4, d5⟩) | (exact hS3) | (exact hS6 _ _ _ _ _ _)) ((refine stepc_append_own _ (by rfl) (.const (.slice none 0 0)) (.tmp 20) 44 (by rfl) (w.heap.size + 1) 5 i0 (.int .u8 0) 1 1 Try.underlying44 hi hz0 hz1 hz2 rfl (by decide) (.slice none 0 0) 0 [] (by rfl) (World.ownsRow_nil _ _ _ _) ⟨ab, ao + (19 + b.size), none⟩ (len - (19 + b.size)) _ ((zs.drop (19 + b.size)).map u8V) (by rfl) (by rw [List.length_map, HD.out]; omega) (fun j u h => HC2.out j u h) (fun y hy => by obtain ⟨x, _, rfl⟩ := List.mem_map.1 hy; rfl) (by unfold maxLen; omega) (by omega) (by simp; omega) ?_; intro v3 w3 hown3 hgrow3; (have hP3 : PB w3 w.heap.size ⟨0, 0, 0, 0, 0, ⟨#[]⟩⟩ := pb_grown0 (w := w2.drew) hP2 hgrow3); (have hQ3 : PB w3 w1.heap.size ⟨k, f, t, e, s, b⟩ := pb_grown0 (w := w2.drew) hQ2 hgrow3); (have hS3 := hQ3.cells); (obtain ⟨g0, g1, g2, g3, g4, g5⟩ := hP3.cells); (have f3 : ∀ i, w3.frozen? ⟨w.heap.size, i, none⟩ = false := fun i => pb_frozen hP3 i); (have hS6 := fun v0 v1 v2 v3 v4 v5 => (pb_six hQ3 (Nat.ne_of_gt hlt1) v0 v1 v2 v3 v4 v5).cells); (have hB3 : Below w.heap.size w w3 := Below.grown (Below.drew hB2) hgrow3 (by have := hB2.size; simp; omega) (fun q hq => by cases hq))))
      have hO3 : w3.ownsRow (w.heap.size + 1) 5 1 v3 (zs.drop (19 + b.size)).length ((zs.drop (19 + b.size)).map u8V) := by rw [HD.out]; rw [Nat.zero_add, List.nil_append] at hown3; exact hown3
      go_wp2
      exact bodyPost_ret (v := .tuple #[Fr.val ⟨k, f, t, e, s, b⟩, v3, .int .i64 0]) (by simp [results, Try.results17, go_sem, Fr.val, g0, g1, g2, g3, g4, g5]) rfl ⟨.inl ⟨_, v3, HP.out, rfl, own_six hO3 _ _ _ _ _ _⟩, below6 hB3 (Nat.le_refl _) _ _ _ _ _ _⟩
  · have hP1 := hP0.later hb1
    have hB1 := hB0.trans (hb1.mono hB0.size)
    have H : Hid (∀ p, ¬ Fr.Begins p zs) := hp
    rw [show noPk = .agg #[.int .u8 0, .int .u8 0, .int .u8 0, .int .u32 0, .int .u32 0, .string ⟨#[]⟩] from rfl]
    obtain ⟨c0, c1, c2, c3, c4, c5⟩ := hP1.cells
    have f1 : ∀ i, w1.frozen? ⟨w.heap.size, i, none⟩ = false := fun i => pb_frozen hP1 i
    have hlt := hP1.lt
    have hne : ¬ w.heap.size = w1.heap.size := by omega
    have hz1 := hB1.size
    clear hp
    go_wp2
    exact bodyPost_ret (v := .tuple #[noPk, .slice none 0 0, .int .i64 3]) (by simp [results, Try.results17, go_sem, noPk, hlt, hne, c0, c1, c2, c3, c4, c5]) rfl ⟨.inr ⟨H.out, rfl⟩, (below6 hB1 (Nat.le_refl _) _ _ _ _ _ _).alloc (by simp; omega) _⟩
end Go.Proofs.Yteimegacnmakaac
