/-
  The document's reader: bytes, and whether they are bad; the next number, the next bytes.
-/
import Derived.Test.YtbgninmkglgfeaaRRd
import Derived.Laws.AppendOwnNone
import Derived.Deep.LoopGhost
namespace Go.Proofs.Ytbgninmkglgfeaa
open Go.RowKit Go.ChangeShapes Go.WideShapes Go.ChangeAt
set_option linter.unusedVariables false
set_option linter.unusedSimpArgs false
set_option maxRecDepth 100000
/-- All but block r is as it was. -/
structure Kf (r : Nat) (w w' : World) : Prop where
  os : w'.os = w.os
  tape : w'.tape = w.tape
  output : w'.output = w.output
  size : w.heap.size ≤ w'.heap.size
  block : ∀ k, k < w.heap.size → k ≠ r → w'.heap[k]? = w.heap[k]?
theorem Kf.refl (r : Nat) (w : World) : Kf r w w := ⟨rfl, rfl, rfl, Nat.le_refl _, fun _ _ _ => rfl⟩
theorem Kf.trans {r : Nat} {a b c : World} (h : Kf r a b) (k : Kf r b c) : Kf r a c :=
  ⟨k.os.trans h.os, k.tape.trans h.tape, k.output.trans h.output, Nat.le_trans h.size k.size, fun i hi hne => (k.block i (Nat.lt_of_lt_of_le hi h.size) hne).trans (h.block i hi hne)⟩
theorem Kf.set {r : Nat} {a w : World} (h : Kf r a w) (o : Nat) (u : Value) : Kf r a (w.setCell ⟨r, o, none⟩ u) :=
  h.trans ⟨rfl, rfl, rfl, by simp [World.setCell], fun k _ hne => heap_setCell_other _ _ _ _ hne⟩
theorem Kf.of {r : Nat} {w w' : World} (h : Below w.heap.size w w') : Kf r w w' := ⟨h.os, h.tape, h.output, h.size, fun k hk _ => h.block k hk⟩
theorem Kf.below {r B : Nat} {a b : World} (h : Kf r a b) (h1 : B ≤ a.heap.size) (h2 : B ≤ r) : Below B a b := ⟨h.os, h.tape, h.output, h.size, fun k hk => h.block k (by omega) (by omega)⟩
theorem lt_blkF {w : World} {g : Nat} {o : Obj} (h : w.heap[g]? = some o) : g < w.heap.size := by
  have := (Array.getElem?_eq_some_iff.1 h).1; exact this
/-- A reader in memory. -/
def RdR (w : World) (r : Nat) (bd : Bool) (zs : List Int) : Prop :=
  ∃ a len c, w.heap[r]? = some (.cells #[.slice a len c, .bool bd] 63 (0, 0)) ∧ IsB w a len zs ∧ len ≤ c ∧ (len = 0 ∧ (a = none → c = 0) ∨ ∃ b off, a = some ⟨b, off, none⟩ ∧ b < r)
theorem RdR.lt {w : World} {r : Nat} {bd : Bool} {zs : List Int} (h : RdR w r bd zs) : r < w.heap.size := by obtain ⟨a, len, c, h1, _⟩ := h; exact lt_blkF h1
theorem isB_blkF {w w' : World} {b off len : Nat} {zs : List Int} (h : IsB w (some ⟨b, off, none⟩) len zs) (hb : w'.heap[b]? = w.heap[b]?) : IsB w' (some ⟨b, off, none⟩) len zs := by
  obtain ⟨h1, h2, h3, h4⟩ := h
  refine ⟨h1, h2, fun hp => ?_, h4⟩
  obtain ⟨b', off', e, hc⟩ := h3 hp
  cases e
  refine ⟨b, off, rfl, fun i hi => ?_⟩
  have := hc i hi
  unfold World.cell? at this ⊢
  simp only at this ⊢
  rw [hb]; exact this
theorem isB_noneF {w : World} {a : Option Addr} {zs : List Int} (w' : World) (a' : Option Addr) (h : IsB w a 0 zs) : IsB w' a' 0 zs := ⟨h.1, h.2.1, fun hp => absurd hp (by omega), h.2.2.2⟩
theorem RdR.later {w w' : World} {r : Nat} {bd : Bool} {zs : List Int} (h : RdR w r bd zs) (hb : Below w.heap.size w w') : RdR w' r bd zs := by
  obtain ⟨a, len, c, h1, h2, h3⟩ := h
  exact ⟨a, len, c, (hb.block r (lt_blkF h1)).trans h1, h2.later hb, h3⟩
theorem cut_isB {w : World} {b off len : Nat} {zs : List Int} (h : IsB w (some ⟨b, off, none⟩) len zs) (n : Nat) (hn : n ≤ len) : (n < len → IsB w (some ⟨b, off + n, none⟩) (len - n) (zs.drop n)) ∧ (n = len → ∀ a', IsB w a' 0 (zs.drop n)) := by
  obtain ⟨h1, h2, h3, h4⟩ := h
  have hl : (zs.drop n).length = len - n := by rw [List.length_drop]; omega
  have hz : ∀ i, 0 ≤ (zs.drop n).getD i 0 ∧ (zs.drop n).getD i 0 ≤ 255 := fun i => by
    have := h4 (n + i)
    simpa [List.getD, List.getElem?_drop] using this
  refine ⟨fun hlt => ⟨hl, by omega, fun hp => ?_, hz⟩, fun he a' => ⟨by omega, by omega, fun hp => absurd hp (by omega), hz⟩⟩
  obtain ⟨b', off', e, hc⟩ := h3 (by omega)
  cases e
  refine ⟨b, off + n, rfl, fun i hi => ?_⟩
  rw [Nat.add_assoc, hc (n + i) (by omega)]
  simp [List.getD, List.getElem?_drop]
theorem cellsF {w : World} {r : Nat} {u v : Value} {T : TypeId} (h : w.heap[r]? = some (.cells #[u, v] T (0, 0))) : w.cell? ⟨r, 0, none⟩ = some u ∧ w.cell? ⟨r, 1, none⟩ = some v ∧ w.frozen? ⟨r, 0, none⟩ = false ∧ w.frozen? ⟨r, 1, none⟩ = false := by
  refine ⟨?_, ?_, ?_, ?_⟩
  all_goals simp [World.cell?, World.frozen?, h]
theorem set0F {w : World} {r : Nat} {u v : Value} {T : TypeId} (x : Value) (h : w.heap[r]? = some (.cells #[u, v] T (0, 0))) : (w.setCell ⟨r, 0, none⟩ x).heap[r]? = some (.cells #[x, v] T (0, 0)) := by
  rw [heap_setCell_same w r 0 _ T x h]; rfl
theorem set1F {w : World} {r : Nat} {u v : Value} {T : TypeId} (x : Value) (h : w.heap[r]? = some (.cells #[u, v] T (0, 0))) : (w.setCell ⟨r, 1, none⟩ x).heap[r]? = some (.cells #[u, x] T (0, 0)) := by
  rw [heap_setCell_same w r 1 _ T x h]; rfl
theorem RdR.bad {w : World} {r : Nat} {bd : Bool} {zs : List Int} (h : RdR w r bd zs) : RdR (w.setCell ⟨r, 1, none⟩ (.bool true)) r true zs := by
  obtain ⟨a, len, c, h1, h2, h3, h4⟩ := h
  refine ⟨a, len, c, set1F _ h1, ?_, h3, h4⟩
  rcases h4 with ⟨rfl, _⟩ | ⟨b, off, rfl, hb⟩
  · exact isB_noneF _ _ h2
  · exact isB_blkF h2 (heap_setCell_other _ _ _ _ (by show b ≠ r; omega))
/-- What Number answers and leaves. -/
def NuPost (w : World) (r : Nat) (bd : Bool) (zs : List Int) (k : Nat) (e : Ending) (w' : World) : Prop :=
  Kf r w w' ∧ if bd = false ∧ k ≤ zs.length then e = .returned (.int .u64 (numF (zs.take k))) ∧ RdR w' r false (zs.drop k) else e = .returned (.int .u64 0) ∧ RdR w' r true zs
set_option maxHeartbeats 1000000 in
theorem rdNumber_c {w : World} {r : Nat} {bd : Bool} {zs : List Int} (h : RdR w r bd zs) (k : Nat) (hk0 : 1 ≤ k) (hk : k ≤ 8) :
    Calls Try.prog 31 #[.pointer (some ⟨r, 0, none⟩), .int .i64 k] w (NuPost w r bd zs k) := by
  have HB := hid h.bad
  obtain ⟨a, len, c, h1, h2, h3, h4⟩ := h
  obtain ⟨c0, c1, f0, f1⟩ := cellsF h1
  have hm := h2.2.1
  unfold maxLen at hm
  have H1 := hid h1
  have H2 := hid h2
  have hl := h2.1
  cases bd with
  | true =>
    clear h1 h2 h4
    go_enter Try.func31, Try.ntmps31
    go_wp2
    go_ret
    exact ⟨(Kf.refl _ _).set _ _, by rw [if_neg (by simp)]; exact ⟨rfl, HB.out⟩⟩
  | false =>
    by_cases q : k ≤ len
    · have qI : ¬ (len : Int) < (k : Int) := by omega
      have qI2 : (k : Int) ≤ (len : Int) := by omega
      have qI3 : (k : Int) ≤ (c : Int) := by omega
      have qd : decide ((len : Int) < (k : Int)) = false := decide_eq_false qI
      rcases h4 with ⟨rfl, _⟩ | ⟨b, off, rfl, hbr⟩
      · omega
      have CU := hid (cut_isB h2 k q)
      have HP : Hid (k ≤ zs.length) := hid (by rw [hl]; exact q)
      obtain ⟨ys, hys⟩ : ∃ ys, ys = zs.take k := ⟨_, rfl⟩
      have HYS := hid hys
      have HL : Hid (ys.length = k) := hid (by rw [hys, List.length_take]; omega)
      have HF : Hid (IsB w (some ⟨b, off, none⟩) k ys) := hid (by rw [hys]; exact h2.front k q)
      clear h1 h2 hys hl HB
      go_enter Try.func31, Try.ntmps31
      go_wp2
      go_loopg [5, 6] k (fun g v5 v6 wr => ∃ j : Nat, j + g = k ∧ v6 = .int .i64 j ∧ v5 = .int .u64 (numF (ys.take j)) ∧ Hid (wr = w))
      case atStart => exact ⟨0, by omega, rfl, rfl, hid rfl⟩
      case round =>
        obtain ⟨j, hj, rfl, rfl, HWR⟩ := hrel
        have hwr := HWR.out
        subst hwr
        by_cases hlt : j < k
        · have hltI : (j : Int) < k := by omega
          have hltL : (j : Int) < (len : Int) := by omega
          obtain ⟨g1, g2, g3, g4⟩ := HF.out
          obtain ⟨b', off', e, hcell⟩ := g3 (by omega)
          cases e
          have hcj := hcell j hlt
          have hzj := g4 j
          have HT := hid (take_snoc ys j (by rw [HL.out]; exact hlt))
          have hbd := numF_bd ys g4 j (by rw [HL.out]; omega)
          have hpw : (256 : Int) ^ j ≤ 72057594037927936 := by
            have : (256 : Nat) ^ j ≤ 256 ^ 7 := Nat.pow_le_pow_right (by omega) (by omega)
            have h2 : ((256 ^ j : Nat) : Int) ≤ ((256 ^ 7 : Nat) : Int) := by exact_mod_cast this
            simpa using h2
          obtain ⟨x, hx⟩ : ∃ x, x = ys.getD j 0 := ⟨_, rfl⟩
          obtain ⟨N, hN⟩ : ∃ N, N = numF (ys.take j) := ⟨_, rfl⟩
          rw [← hx] at hcj hzj HT
          rw [← hN] at hbd ⊢
          have HN := hid hN
          have hN0 : 0 ≤ N := hbd.1
          have hN1 : N < 72057594037927936 := by omega
          have hx0 := hzj.1
          have hx1 := hzj.2
          have kw : IntKind.u64.wrap (N * 256) = N * 256 := by rw [IntKind.wrap_u64]; omega
          have kx : IntKind.u64.wrap x = x := by rw [IntKind.wrap_u64]; omega
          have ks : IntKind.u64.wrap (N * 256 + x) = N * 256 + x := by rw [IntKind.wrap_u64]; omega
          clear hx hN hcell g1 g2 g3 g4 hbd hpw
          go_wp2
          go_roundg (gk - 1)
          case measure => omega
          case rel => exact ⟨j + 1, by omega, by go_num, val_int (by rw [HT.out, numF_snoc, ← HN.out]), hid rfl⟩
        · have em : j = k := by omega
          subst em
          have hge : ¬ (j : Int) < j := by omega
          have HE : Hid (numF (ys.take j) = numF (zs.take j)) := hid (by rw [List.take_of_length_le (by rw [HL.out]; omega), HYS.out])
          by_cases hck : c = j
          · subst hck
            have hll : len = c := by omega
            go_wp2
            go_ret
            refine ⟨(Kf.refl _ _).set _ _, ?_⟩
            rw [if_pos ⟨rfl, HP.out⟩]
            refine ⟨ret_int HE.out, some ⟨b, off, none⟩, 0, 0, ?_, ?_, Nat.le_refl _, .inr ⟨_, _, rfl, hbr⟩⟩
            · first | exact set0F _ H1.out | (have e0 := set0F (.slice (some ⟨b, off, none⟩) 0 0) H1.out; simpa [hll] using e0)
            · exact isB_noneF _ _ (CU.out.2 (by omega) (some ⟨b, off, none⟩))
          · go_wp2
            go_ret
            refine ⟨(Kf.refl _ _).set _ _, ?_⟩
            rw [if_pos ⟨rfl, HP.out⟩]
            refine ⟨ret_int HE.out, some ⟨b, off + j, none⟩, len - j, c - j, set0F _ H1.out, ?_, by omega, .inr ⟨_, _, rfl, hbr⟩⟩
            by_cases hjl : j = len
            · have e0 := CU.out.2 hjl (some ⟨b, off + j, none⟩)
              have e1 : len - j = 0 := by omega
              rw [e1]
              exact isB_noneF _ _ e0
            · exact isB_blkF (CU.out.1 (by omega)) (heap_setCell_other _ _ _ _ (by show b ≠ r; omega))
    · have qI : (len : Int) < (k : Int) := by omega
      have qd : decide ((len : Int) < (k : Int)) = true := decide_eq_true qI
      have HP : Hid (¬ k ≤ zs.length) := hid (by rw [hl]; exact q)
      clear h1 h2 h4 hl
      go_enter Try.func31, Try.ntmps31
      go_wp2
      go_ret
      exact ⟨(Kf.refl _ _).set _ _, by rw [if_neg (fun e => HP.out e.2)]; exact ⟨rfl, HB.out⟩⟩
/-- What Take answers and leaves. -/
def TaPost (w : World) (r : Nat) (bd : Bool) (zs : List Int) (n : Nat) (e : Ending) (w' : World) : Prop :=
  Kf r w w' ∧ if bd = false ∧ n ≤ zs.length then (∃ p c', e = .returned (.slice p n c') ∧ IsB w' p n (zs.take n)) ∧ RdR w' r false (zs.drop n) else e = .returned (.slice none 0 0) ∧ RdR w' r true zs
theorem own_emptyF (w : World) : (w.alloc (.cells #[] 5)).ownsRow w.heap.size 5 1 (.slice (some ⟨w.heap.size, 0, none⟩) 0 0) 0 [] :=
  ⟨rfl, .inr ⟨w.heap.size, 0, #[], rfl, Nat.le_refl _, heap_alloc_new w _, Nat.le_refl _, by unfold maxLen; omega, rfl, rfl⟩⟩
theorem info_partsF : ∃ i : TypeInfo, Try.prog.info? 5 = some i ∧ i.zero = some (.int .u8 0) ∧ i.size = 1 ∧ i.bytes = 1 := by
  have h : (Try.prog.info? 5).map (fun i => (i.zero, i.size, i.bytes)) = some (some (.int .u8 0), 1, 1) := by kernel_rfl
  cases hi : Try.prog.info? 5 with
  | none => rw [hi] at h; cases h
  | some i => rw [hi] at h; simp at h; exact ⟨i, rfl, h.1, h.2.1, h.2.2⟩
theorem isB_newsF {w : World} {b off len : Nat} {zs : List Int} (h : IsB w (some ⟨b, off, none⟩) len zs) : ∀ j u, (zs.map u8V)[j]? = some u → w.cell? ((⟨b, off, none⟩ : Addr).add j) = some u := by
  obtain ⟨h1, h2, h3, h4⟩ := h
  intro j u hu
  rw [List.getElem?_map] at hu
  rcases hj : zs[j]? with _ | x
  · rw [hj] at hu; cases hu
  · rw [hj] at hu
    simp only [Option.map_some, Option.some.injEq] at hu
    subst hu
    have hlt : j < zs.length := by
      rcases Nat.lt_or_ge j zs.length with q | q
      · exact q
      · rw [List.getElem?_eq_none q] at hj; cases hj
    obtain ⟨b', off', e, hc⟩ := h3 (by omega)
    cases e
    have := hc j (by omega)
    have hx : zs.getD j 0 = x := by simp [List.getD, hj]
    rw [hx] at this
    show _ = some (Value.int .u8 x)
    rw [← this]
    congr 1
    unfold Addr.add
    split
    · rename_i q; rw [q]; rfl
    · rfl
/-- A row of bytes that a call owns, as bytes. -/
theorem own_isBF {w : World} {base n : Nat} {v : Value} {zs : List Int} (hl : zs.length = n) (hm : n ≤ maxLen) (hz : ∀ i, 0 ≤ zs.getD i 0 ∧ zs.getD i 0 ≤ 255) (h : w.ownsRow base 5 1 v n (zs.map u8V)) : ∃ p c, v = .slice p n c ∧ IsB w p n zs ∧ (n = 0 ∨ ∃ g, p = some ⟨g, 0, none⟩ ∧ base ≤ g) := by
  rcases h.2 with ⟨hv, hn⟩ | ⟨g, cap, cur, hv, _⟩
  · subst hn
    exact ⟨none, 0, hv, ⟨hl, hm, fun hp => absurd hp (by omega), hz⟩, .inl rfl⟩
  · rename_i hrest
    refine ⟨_, _, hv, ⟨hl, hm, fun hp => ⟨g, 0, rfl, fun i hi => ?_⟩, hz⟩, .inr ⟨g, rfl, hrest.1⟩⟩
    have e := h.cells (g := g) (by rw [hv]; rfl) i (.int .u8 (zs.getD i 0)) (by rw [List.getElem?_map, List.getElem?_eq_getElem (by omega)]; simp [u8V, List.getD, hl, hi])
    rw [← e]
    congr 1
    unfold Addr.add
    split
    · rename_i q; rw [q]
    · simp
theorem take_end {w w9 : World} {r n b off l' c' : Nat} {zs : List Int} {v9 u : Value} (hrl : r < w.heap.size) (hn : n < 70000) (hp : n ≤ zs.length) (hz : ∀ i, 0 ≤ (zs.take n).getD i 0 ∧ (zs.take n).getD i 0 ≤ 255)
    (b9 : Below w.heap.size w w9) (r9 : w9.heap[r]? = some (.cells #[u, .bool false] 63 (0, 0))) (o9 : w9.ownsRow w.heap.size 5 1 v9 (0 + n) ([] ++ (zs.take n).map u8V))
    (hc : l' ≤ c') (hb : b < r) (hI : IsB w (some ⟨b, off, none⟩) l' (zs.drop n)) : TaPost w r false zs n (.returned v9) (w9.setCell ⟨r, 0, none⟩ (.slice (some ⟨b, off, none⟩) l' c')) := by
  refine ⟨(Kf.of b9).set _ _, ?_⟩
  rw [if_pos ⟨rfl, hp⟩]
  rw [Nat.zero_add, List.nil_append] at o9
  obtain ⟨p, c, hv, hB, hg⟩ := own_isBF (by rw [List.length_take]; omega) (by unfold maxLen; omega) hz o9
  refine ⟨⟨p, c, by rw [hv], ?_⟩, some ⟨b, off, none⟩, l', c', set0F _ r9, isB_blkF (hI.later b9) (heap_setCell_other _ _ _ _ (by show b ≠ r; omega)), hc, .inr ⟨_, _, rfl, hb⟩⟩
  rcases hg with rfl | ⟨g, rfl, hg⟩
  · exact isB_noneF _ _ hB
  · exact isB_blkF hB (heap_setCell_other _ _ _ _ (by show g ≠ r; omega))
set_option maxHeartbeats 2000000 in
theorem rdTake_c {w : World} {r : Nat} {bd : Bool} {zs : List Int} (h : RdR w r bd zs) (n : Nat) (hn : n < 70000) :
    Calls Try.prog 66 #[.pointer (some ⟨r, 0, none⟩), .int .i64 n] w (TaPost w r bd zs n) := by
  have HB := hid h.bad
  have hrl := h.lt
  obtain ⟨a, len, c, h1, h2, h3, h4⟩ := h
  obtain ⟨c0, c1, f0, f1⟩ := cellsF h1
  have hm := h2.2.1
  unfold maxLen at hm
  have H1 := hid h1
  have H2 := hid h2
  have hl := h2.1
  obtain ⟨i0, hi, hz0, hz1, hz2⟩ := info_partsF
  cases bd with
  | true =>
    clear h1 h2 h4
    go_enter Try.func66, Try.ntmps66
    go_wp2
    go_ret
    exact ⟨(Kf.refl _ _).set _ _, by rw [if_neg (by simp)]; exact ⟨rfl, HB.out⟩⟩
  | false =>
    by_cases q : n ≤ len
    · have qI : ¬ (len : Int) < (n : Int) := by omega
      have qI2 : (n : Int) ≤ (len : Int) := by omega
      have qI3 : (n : Int) ≤ (c : Int) := by omega
      have qd : decide ((len : Int) < (n : Int)) = false := decide_eq_false qI
      have HP : Hid (n ≤ zs.length) := hid (by rw [hl]; exact q)
      have b1 : Below w.heap.size w (w.alloc (.cells #[] 5)) := (Below.refl _ _).alloc (Nat.le_refl _) _
      have A1 : Hid ((w.alloc (.cells #[] 5)).heap[r]? = some (.cells #[.slice a len c, .bool false] 63 (0, 0))) := hid ((b1.block r hrl).trans h1)
      have E1 := hid (own_emptyF w)
      have I1 := hid (h2.later b1)
      have hz1' : (w.alloc (.cells #[] 5)).heap.size = w.heap.size + 1 := by simp
      rcases h4 with ⟨rfl, hnc⟩ | ⟨b, off, rfl, hbr⟩
      · obtain rfl : n = 0 := by omega
        have hz : zs = [] := List.eq_nil_of_length_eq_zero hl
        subst hz
        have B1 := hid b1
        cases a with
        | none =>
          obtain rfl := hnc rfl
          clear h1 h2 b1 hl HB
          go_enter Try.func66, Try.ntmps66
          go_wp2_with (at_builtin; refine wpList_append_own_none rfl _ _ 22 rfl w.heap.size 5 i0 1 Try.underlying22 hi _ _ _ rfl E1.out rfl ?_)
          go_ret
          refine ⟨((Kf.refl r w).set 0 _).trans (Kf.of ((Below.refl _ _).alloc (Nat.le_refl _) _)), ?_⟩
          rw [if_pos ⟨rfl, HP.out⟩]
          exact ⟨⟨_, _, rfl, rfl, Nat.zero_le _, fun hp => absurd hp (by omega), fun i => by simp⟩, none, 0, 0, (((Below.refl _ _).alloc (Nat.le_refl _) _).block r (by simp [World.setCell]; exact hrl)).trans (set0F _ H1.out), ⟨rfl, Nat.zero_le _, fun hp => absurd hp (by omega), fun i => by simp⟩, Nat.le_refl _, .inl ⟨rfl, fun _ => rfl⟩⟩
        | some ad =>
          clear h1 h2 b1 hl HB
          go_enter Try.func66, Try.ntmps66
          go_wp2_with (at_builtin; refine wpList_append_own _ rfl _ _ 22 rfl w.heap.size 5 i0 (.int .u8 0) 1 1 Try.underlying22 hi hz0 hz1 hz2 rfl (by decide) _ _ _ rfl E1.out ad 0 _ ([] : List Value) rfl rfl (fun j u hu => by simp at hu) (fun u hu => by cases hu) (by unfold maxLen; omega) (by omega) (by omega) ?_; intro v9 w9 hown9 hgrow9 hnil9; have b9 : Below w.heap.size w w9 := ⟨hgrow9.os, hgrow9.tape, hgrow9.output, (by have := hgrow9.size; simp at this; omega), fun k hk => (by rw [hgrow9.block k (by simp; omega) (fun e => by have := (E1.out.lt k e.symm).1; omega), Below.heap_alloc _ _ _ (by omega)])⟩; have A9 := (b9.block r hrl).trans H1.out; (obtain ⟨d0, d1, e0, e1⟩ := cellsF A9); have B9 := hid b9; have R9 := hid A9; have O9 := hid hown9; clear A9 b9 hown9 hgrow9 hnil9 c0 c1 f0 f1)
          all_goals (go_ret
                     refine ⟨(Kf.of B9.out).set _ _, ?_⟩
                     rw [if_pos ⟨rfl, HP.out⟩]
                     obtain ⟨p, c', hv, hB, hg⟩ := own_isBF (zs := []) rfl (by unfold maxLen; omega) (fun i => by simp) (by simpa using O9.out)
                     exact ⟨⟨p, c', by first | rw [hv]; rfl | (show Ending.returned v9 = _; rw [hv]), isB_noneF _ _ hB⟩, _, _, _, set0F _ R9.out, ⟨rfl, Nat.zero_le _, fun hp => absurd hp (by omega), fun i => by simp⟩, Nat.zero_le _, .inl ⟨rfl, fun e => by cases e⟩⟩)
      · have CU := hid (cut_isB h2 n q)
        have F1 := hid (h2.front n q)
        have HZ : Hid (∀ i, 0 ≤ (zs.take n).getD i 0 ∧ (zs.take n).getD i 0 ≤ 255) := hid (h2.front n q).2.2.2
        have HZL : Hid ((zs.take n).length = n) := hid (by rw [List.length_take]; omega)
        have NW := hid (isB_newsF ((h2.front n q).later b1))
        clear h1 h2 b1 hl HB
        go_enter Try.func66, Try.ntmps66
        go_wp2_with (at_builtin; refine wpList_append_own _ rfl _ _ 22 rfl w.heap.size 5 i0 (.int .u8 0) 1 1 Try.underlying22 hi hz0 hz1 hz2 rfl (by decide) _ _ _ rfl E1.out ⟨b, off, none⟩ n _ ((zs.take n).map u8V) rfl (by rw [List.length_map, HZL.out]; omega) NW.out (by intro u hu; obtain ⟨x, _, rfl⟩ := List.mem_map.1 hu; rfl) (by unfold maxLen; omega) (by omega) (by omega) ?_; intro v9 w9 hown9 hgrow9 hnil9; have b9 : Below w.heap.size w w9 := ⟨hgrow9.os, hgrow9.tape, hgrow9.output, (by have := hgrow9.size; simp at this; omega), fun k hk => (by rw [hgrow9.block k (by simp; omega) (fun e => by have := (E1.out.lt k e.symm).1; omega), Below.heap_alloc _ _ _ (by omega)])⟩; have A9 := (b9.block r hrl).trans H1.out; (obtain ⟨d0, d1, e0, e1⟩ := cellsF A9); have B9 := hid b9; have R9 := hid A9; have O9 := hid hown9; clear A9 b9 hown9 hgrow9 hnil9 c0 c1 f0 f1)
        · go_ret
          have e0 : len - n = 0 := by omega
          rw [e0]
          exact take_end hrl hn HP.out HZ.out B9.out R9.out O9.out (Nat.le_refl _) hbr (isB_noneF _ _ (CU.out.2 (by omega) (some ⟨b, off, none⟩)))
        · go_ret
          by_cases hjl : n = len
          · have e0 : len - n = 0 := by omega
            rw [e0]
            exact take_end hrl hn HP.out HZ.out B9.out R9.out O9.out (by omega) hbr (isB_noneF _ _ (CU.out.2 hjl (some ⟨b, off + n, none⟩)))
          · exact take_end hrl hn HP.out HZ.out B9.out R9.out O9.out (by omega) hbr (CU.out.1 (by omega))
    · have qI : (len : Int) < (n : Int) := by omega
      have qd : decide ((len : Int) < (n : Int)) = true := decide_eq_true qI
      have HP : Hid (¬ n ≤ zs.length) := hid (by rw [hl]; exact q)
      clear h1 h2 h4 hl
      go_enter Try.func66, Try.ntmps66
      go_wp2
      go_ret
      exact ⟨(Kf.refl _ _).set _ _, by rw [if_neg (fun e => HP.out e.2)]; exact ⟨rfl, HB.out⟩⟩
end Go.Proofs.Ytbgninmkglgfeaa
