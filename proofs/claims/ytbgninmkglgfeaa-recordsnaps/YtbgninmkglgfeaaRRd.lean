/-
  Bytes of which the first ones are taken off: the reader of the package record.
-/
import Derived.Test.YtbgninmkglgfeaaRPut
namespace Go.Proofs.Ytbgninmkglgfeaa
open Go.RowKit Go.ChangeShapes Go.WideShapes Go.ChangeAt Go.Shelf
set_option linter.unusedVariables false
set_option linter.unusedSimpArgs false
/-- How a reader gives up. -/
abbrev PN : Ending := .panicked [{ v := .iface 93 (.agg #[.int .i64 3]), recovered := false }]
set_option maxHeartbeats 1000000 in
theorem refuse_f (w : World) : Calls Try.prog 54 #[.bool false] w fun e w' => e = .returned (.tuple #[]) ∧ w' = w := by
  go_enter Try.func54, Try.ntmps54
  go_wp2
  exact body_end (by kernel_rfl) rfl ⟨rfl, rfl⟩
set_option maxHeartbeats 1000000 in
theorem refuse_t (w : World) : Calls Try.prog 54 #[.bool true] w fun e w' => e = PN ∧ w' = w := by
  go_enter Try.func54, Try.ntmps54
  go_wp2
  exact ⟨rfl, rfl, rfl⟩
/-- A reader: its cell, and the bytes that are left. -/
def Rdr (w : World) (r : Nat) (a : Option Addr) (c : Nat) (zs : List Int) : Prop :=
  w.heap[r]? = some (.cells #[.slice a zs.length c] 134 (0, 0)) ∧ IsB w a zs.length zs ∧ zs.length ≤ c ∧ (a = none ∧ c = 0 ∨ ∃ b off, a = some ⟨b, off, none⟩ ∧ b < r)
theorem isB_set {w : World} {r : Nat} {u : Value} {T : TypeId} {a : Option Addr} {n : Nat} {zs : List Int} (h : IsB w a n zs) (hr : w.heap[r]? = some (.cells #[u] T (0, 0))) (hu : ∀ x, u ≠ .int .u8 x) (v : Value) : IsB (w.setCell ⟨r, 0, none⟩ v) a n zs := by
  obtain ⟨h1, h2, h3, h4⟩ := h
  refine ⟨h1, h2, fun hp => ?_, h4⟩
  obtain ⟨b, off, rfl, hc⟩ := h3 hp
  refine ⟨b, off, rfl, fun i hi => ?_⟩
  have hi2 := hc i hi
  have hne : b ≠ r := fun e => by
    subst e
    rw [cell_of_row w b _ _ _ _ hr] at hi2
    rcases q : off + i with _ | k
    · rw [q] at hi2; simp at hi2; exact hu _ hi2
    · rw [q] at hi2; simp at hi2
  rw [World.cell?_setCell_far _ _ _ _ (fun e => hne e.symm)]
  exact hi2
theorem isB_drop {w : World} {b off n c : Nat} {zs : List Int} (h : IsB w (some ⟨b, off, none⟩) n zs) (k : Nat) (hk : k ≤ n) : IsB w (if c = k then some ⟨b, off, none⟩ else some ⟨b, off + k, none⟩) (n - k) (zs.drop k) ∨ c < n := by
  by_cases hc : c < n
  · exact .inr hc
  left
  obtain ⟨h1, h2, h3, h4⟩ := h
  refine ⟨by rw [List.length_drop]; omega, by omega, fun hp => ?_, fun i => ?_⟩
  · rw [if_neg (by omega)]
    obtain ⟨b', off', e, hcell⟩ := h3 (by omega)
    cases e
    refine ⟨b, off + k, rfl, fun i hi => ?_⟩
    rw [Nat.add_assoc, hcell (k + i) (by omega)]
    simp [List.getD, List.getElem?_drop]
  · have := h4 (k + i)
    simpa [List.getD, List.getElem?_drop] using this
/-- What a reader answers and leaves, when so many bytes are taken off; too many: it gives up. -/
def Took (w : World) (r : Nat) (zs : List Int) (k : Nat) (v : Value) (e : Ending) (w' : World) : Prop :=
  if k ≤ zs.length then e = .returned v ∧ ∃ a' c' u, w' = w.setCell ⟨r, 0, none⟩ u ∧ Rdr w' r a' c' (zs.drop k) else e = PN ∧ w' = w
theorem Rdr.cell {w : World} {r : Nat} {a : Option Addr} {c : Nat} {zs : List Int} (h : Rdr w r a c zs) : w.cell? ⟨r, 0, none⟩ = some (.slice a zs.length c) ∧ w.frozen? ⟨r, 0, none⟩ = false := ⟨cell_box h.1, frozen_box h.1⟩
def PiecePost (w : World) (r : Nat) (c : Nat) (zs : List Int) (k : Nat) (e : Ending) (w' : World) : Prop :=
  if k ≤ zs.length then (∃ p, e = .returned (.slice p k c) ∧ IsB w' p k (zs.take k)) ∧ ∃ a' u, w' = w.setCell ⟨r, 0, none⟩ u ∧ Rdr w' r a' (c - k) (zs.drop k) else e = PN ∧ w' = w
theorem slice_no8 (a : Option Addr) (n c : Nat) : ∀ x, (Value.slice a n c) ≠ .int .u8 x := fun x e => by cases e
set_option maxRecDepth 20000 in
set_option maxHeartbeats 1000000 in
theorem piece_c (r : Nat) (a : Option Addr) (c : Nat) (zs : List Int) (k : Nat) (w : World) (h : Rdr w r a c zs) (hk : k < 9223372036854775808) :
    Calls Try.prog 94 #[.pointer (some ⟨r, 0, none⟩), .int .i64 k] w (PiecePost w r c zs k) := by
  obtain ⟨hcell, hfr⟩ := h.cell
  have hm := h.2.1.2.1
  unfold maxLen at hm
  have HH := hid h
  have hlc := h.2.2.1
  by_cases q : k ≤ zs.length
  · have qI : ¬ (zs.length : Int) < k := by omega
    have qI2 : (k : Int) ≤ zs.length := by omega
    have hcI : (k : Int) ≤ c := by omega
    have hcN : k ≤ c := by omega
    have hcm : (c : Int) - k = ((c - k : Nat) : Int) := by omega
    rcases h.2.2.2 with ⟨rfl, rfl⟩ | ⟨b, off, rfl, hbr⟩
    · have hz : zs = [] := List.eq_nil_of_length_eq_zero (by omega)
      subst hz
      obtain rfl : k = 0 := by simpa using q
      clear h qI qI2 hcI hcN
      go_enter Try.func94, Try.ntmps94
      go_wp2_with (go_at_call 54; refine (refuse_f _).mono ?_; rintro _ _ ⟨rfl, rfl⟩)
      go_ret
      unfold PiecePost
      rw [if_pos (by simp)]
      refine ⟨⟨_, rfl, ?_⟩, none, _, rfl, heap_setBox _ HH.out.1, ?_, by simp, .inl ⟨rfl, rfl⟩⟩
      · exact ⟨rfl, by unfold maxLen; omega, fun hp => absurd hp (by omega), fun i => by simp⟩
      · exact ⟨rfl, by unfold maxLen; simp, fun hp => absurd hp (by simp), fun i => by simp⟩
    · have HD := hid (isB_drop (c := c) h.2.1 k q)
      clear h
      have HF := hid ((HH.out.2.1.front k q).1)
      by_cases hck : c = k
      · subst hck
        have hzl : zs.length - c = 0 := by omega
        go_enter Try.func94, Try.ntmps94
        go_wp2_with (go_at_call 54; refine (refuse_f _).mono ?_; rintro _ wf ⟨rfl, hwf⟩; have hwf2 := hwf.symm; clear hwf; subst hwf2)
        go_ret
        unfold PiecePost
        rw [if_pos q]
        refine ⟨⟨_, rfl, isB_set (HH.out.2.1.front c q) HH.out.1 (slice_no8 _ _ _) _⟩, some ⟨b, off, none⟩, _, rfl, ?_, ?_, ?_, .inr ⟨_, _, rfl, hbr⟩⟩
        · rw [List.length_drop, Nat.sub_self]; first | exact heap_setBox _ HH.out.1 | (rw [hzl]; exact heap_setBox _ HH.out.1)
        · rw [List.length_drop]
          rcases HD.out with hd | hd
          · first | rw [if_pos rfl] at hd | rw [if_pos trivial] at hd
            exact isB_set hd HH.out.1 (slice_no8 _ _ _) _
          · omega
        · rw [List.length_drop]; omega
      · go_enter Try.func94, Try.ntmps94
        go_wp2_with (go_at_call 54; refine (refuse_f _).mono ?_; rintro _ wf ⟨rfl, hwf⟩; have hwf2 := hwf.symm; clear hwf; subst hwf2)
        go_ret
        unfold PiecePost
        rw [if_pos q]
        refine ⟨⟨_, rfl, isB_set (HH.out.2.1.front k q) HH.out.1 (slice_no8 _ _ _) _⟩, some ⟨b, off + k, none⟩, _, rfl, ?_, ?_, ?_, .inr ⟨_, _, rfl, hbr⟩⟩
        · rw [List.length_drop]; exact heap_setBox _ HH.out.1
        · rw [List.length_drop]
          rcases HD.out with hd | hd
          · rw [if_neg hck] at hd
            exact isB_set hd HH.out.1 (slice_no8 _ _ _) _
          · omega
        · rw [List.length_drop]; omega
  · have qI : (zs.length : Int) < k := by omega
    clear h
    go_enter Try.func94, Try.ntmps94
    go_wp2_with (go_at_call 54; refine (refuse_t _).mono ?_; rintro _ _ ⟨rfl, rfl⟩)
    refine ⟨rfl, ?_⟩
    unfold PiecePost
    rw [if_neg q]
    exact ⟨rfl, rfl⟩
/-- The number that bytes say. -/
def numF (l : List Int) : Int := l.foldl (fun n b => n * 256 + b) 0
theorem numF_snoc (l : List Int) (b : Int) : numF (l ++ [b]) = numF l * 256 + b := by unfold numF; rw [List.foldl_append]; rfl
theorem numF_bd (l : List Int) (h : ∀ i, 0 ≤ l.getD i 0 ∧ l.getD i 0 ≤ 255) : ∀ j, j ≤ l.length → 0 ≤ numF (l.take j) ∧ numF (l.take j) < 256 ^ j
  | 0, _ => by simp [numF]
  | j + 1, hj => by
    have ih := numF_bd l h j (by omega)
    have hb := h j
    rw [take_snoc l j (by omega), numF_snoc]
    have : (256 : Int) ^ (j + 1) = 256 ^ j * 256 := by rw [Int.pow_succ]
    omega
theorem or_byte (n b : Int) (h0 : 0 ≤ n) (h1 : n < 72057594037927936) (b0 : 0 ≤ b) (b1 : b ≤ 255) : bits .or .u64 (n * 256) b = n * 256 + b := by
  rw [u64_or _ _ (by omega) (by omega) (by omega) (by omega), nat_join 8 _ _ (by omega) (by omega)]; omega
def NumPost (w : World) (r : Nat) (c : Nat) (zs : List Int) (k : Nat) (v : Value) (e : Ending) (w' : World) : Prop :=
  if k ≤ zs.length then e = .returned v ∧ ∃ a' u, w' = w.setCell ⟨r, 0, none⟩ u ∧ Rdr w' r a' (c - k) (zs.drop k) else e = PN ∧ w' = w
set_option maxRecDepth 20000 in
set_option maxHeartbeats 1000000 in
theorem rnum_c (r : Nat) (a : Option Addr) (c : Nat) (zs : List Int) (s : Nat) (w : World) (h : Rdr w r a c zs) (hs : s ≤ 8) :
    Calls Try.prog 51 #[.pointer (some ⟨r, 0, none⟩), .int .i64 s] w (NumPost w r c zs s (.int .u64 (numF (zs.take s)))) := by
  have PC := hid (piece_c r a c zs s w h (by omega))
  clear h
  unfold PiecePost at PC
  by_cases q : s ≤ zs.length
  · simp only [if_pos q] at PC
    have HQ := hid q
    clear q
    go_enter Try.func51, Try.ntmps51
    go_wp2_with (go_at_call 94; refine PC.out.mono ?_; rintro _ w1 ⟨⟨p, rfl, hI⟩, a', u, hw1, hR⟩; have HI := hid hI; have HR := hid hR; have HW := hid hw1; clear hI hR hw1)
    have HL : Hid ((zs.take s).length = s) := hid HI.out.1
    obtain ⟨ys, hys⟩ : ∃ ys, ys = zs.take s := ⟨_, rfl⟩
    rw [← hys] at HI HL
    have HYS := hid hys
    clear hys PC
    go_loopg [5, 12] s (fun g v5 v12 wr => ∃ j : Nat, j + g = s ∧ v12 = .int .i64 j ∧ v5 = .int .u64 (numF (ys.take j)) ∧ Hid (wr = w1))
    case atStart => exact ⟨0, by omega, rfl, rfl, hid rfl⟩
    case round =>
      obtain ⟨j, hj, rfl, rfl, HWR⟩ := hrel
      have hwr := HWR.out
      subst hwr
      by_cases hlt : j < s
      · have hltI : (j : Int) < s := by omega
        obtain ⟨h1, h2, h3, h4⟩ := HI.out
        obtain ⟨b, off, rfl, hcell⟩ := h3 (by omega)
        have hcj := hcell j hlt
        have hzj := h4 j
        have HT := hid (take_snoc ys j (by rw [HL.out]; exact hlt))
        have hbd := numF_bd ys h4 j (by rw [HL.out]; omega)
        have hpw : (256 : Int) ^ j ≤ 72057594037927936 := by
          have : (256 : Nat) ^ j ≤ 256 ^ 7 := Nat.pow_le_pow_right (by omega) (by omega)
          have h2 : ((256 ^ j : Nat) : Int) ≤ ((256 ^ 7 : Nat) : Int) := by exact_mod_cast this
          simpa using h2
        obtain ⟨x, hx⟩ : ∃ x, x = ys.getD j 0 := ⟨_, rfl⟩
        obtain ⟨N, hN⟩ : ∃ N, N = numF (ys.take j) := ⟨_, rfl⟩
        rw [← hx] at hcj hzj HT
        rw [← hN] at hbd ⊢
        have HN := hid hN
        have hN0 : 0 ≤ N := hbd.1
        have hN1 : N < 72057594037927936 := by omega
        have ko := or_byte N x hN0 hN1 hzj.1 hzj.2
        have kw : IntKind.u64.wrap (N * 256) = N * 256 := by rw [IntKind.wrap_u64]; omega
        have kx : IntKind.u64.wrap x = x := by rw [IntKind.wrap_u64]; omega
        clear hx hN hcell h1 h2 h3 h4 hbd hpw
        go_wp2
        go_roundg (gk - 1)
        case measure => omega
        case rel => exact ⟨j + 1, by omega, by go_num, val_int (by rw [HT.out, numF_snoc, ← HN.out]), hid rfl⟩
      · have em : j = s := by omega
        subst em
        have hge : ¬ (j : Int) < j := by omega
        have HE : Hid (numF (ys.take j) = numF (zs.take j)) := hid (by rw [List.take_of_length_le (by rw [HL.out]; omega), HYS.out])
        go_wp2
        go_ret
        unfold NumPost
        rw [if_pos HQ.out]
        exact ⟨ret_int HE.out, a', u, HW.out, HR.out⟩
  · simp only [if_neg q] at PC
    go_enter Try.func51, Try.ntmps51
    go_wp2_with (go_at_call 94; refine PC.out.mono ?_; rintro _ w1 ⟨rfl, hw1⟩)
    refine ⟨rfl, ?_⟩
    unfold NumPost
    rw [if_neg q]
    first | exact ⟨rfl, rfl⟩ | exact ⟨rfl, hw1⟩
/-- All but block r is as it was. -/
structure Kr (r : Nat) (w w' : World) : Prop where
  os : w'.os = w.os
  tape : w'.tape = w.tape
  output : w'.output = w.output
  size : w.heap.size ≤ w'.heap.size
  block : ∀ k, k < w.heap.size → k ≠ r → w'.heap[k]? = w.heap[k]?
theorem Kr.refl (r : Nat) (w : World) : Kr r w w := ⟨rfl, rfl, rfl, Nat.le_refl _, fun _ _ _ => rfl⟩
theorem Kr.trans {r : Nat} {a b c : World} (h : Kr r a b) (k : Kr r b c) : Kr r a c :=
  ⟨k.os.trans h.os, k.tape.trans h.tape, k.output.trans h.output, Nat.le_trans h.size k.size, fun i hi hne => (k.block i (Nat.lt_of_lt_of_le hi h.size) hne).trans (h.block i hi hne)⟩
theorem Kr.set (r : Nat) (w : World) (u : Value) : Kr r w (w.setCell ⟨r, 0, none⟩ u) :=
  ⟨rfl, rfl, rfl, by simp [World.setCell], fun k _ hne => heap_setCell_other _ _ _ _ hne⟩
theorem Kr.of {r : Nat} {w w' : World} (h : Below w.heap.size w w') : Kr r w w' := ⟨h.os, h.tape, h.output, h.size, fun k hk _ => h.block k hk⟩
theorem Kr.below {r B : Nat} {a b : World} (h : Kr r a b) (h1 : B ≤ a.heap.size) (h2 : B ≤ r) : Below B a b := ⟨h.os, h.tape, h.output, h.size, fun k hk => h.block k (by omega) (by omega)⟩
theorem rdr_later {w w' : World} {r : Nat} {a : Option Addr} {c : Nat} {zs : List Int} (h : Rdr w r a c zs) (hb : Below w.heap.size w w') : Rdr w' r a c zs :=
  ⟨(hb.block _ (lt_blkR h.1)).trans h.1, h.2.1.later hb, h.2.2⟩
/-- What a function that takes something off answers and leaves. -/
def Takes (w : World) (r : Nat) (res : Option (Value × List Int)) (e : Ending) (w' : World) : Prop :=
  Kr r w w' ∧ match res with
    | some (v, rest) => e = .returned v ∧ ∃ a c, Rdr w' r a c rest
    | none => e = PN
def numP (s : Nat) (zs : List Int) : Option (Int × List Int) := if s ≤ zs.length then some (numF (zs.take s), zs.drop s) else none
def shortP (zs : List Int) : Option (List Int × List Int) := match numP 1 zs with
  | none => none
  | some (m, t) => if m.toNat ≤ t.length then some (t.take m.toNat, t.drop m.toNat) else none
theorem tnum_c {r : Nat} {a : Option Addr} {c : Nat} {zs : List Int} {w : World} (s : Nat) (h : Rdr w r a c zs) (hs : s ≤ 8) :
    Calls Try.prog 51 #[.pointer (some ⟨r, 0, none⟩), .int .i64 s] w (Takes w r ((numP s zs).map fun p => (.int .u64 p.1, p.2))) := by
  refine (rnum_c r a c zs s w h hs).mono ?_
  intro e w' hp
  unfold NumPost at hp
  unfold Takes numP
  by_cases q : s ≤ zs.length
  · rw [if_pos q] at hp
    obtain ⟨rfl, a', u, rfl, hR⟩ := hp
    rw [if_pos q]
    exact ⟨Kr.set _ _ _, rfl, _, _, hR⟩
  · rw [if_neg q] at hp
    obtain ⟨rfl, rfl⟩ := hp
    rw [if_neg q]
    exact ⟨Kr.refl _ _, rfl⟩
theorem numP_bd {w : World} {r : Nat} {a : Option Addr} {c : Nat} {zs : List Int} (h : Rdr w r a c zs) {s : Nat} {m : Int} {t : List Int} (hp : numP s zs = some (m, t)) : 0 ≤ m ∧ m < 256 ^ s := by
  unfold numP at hp
  by_cases q : s ≤ zs.length
  · rw [if_pos q] at hp
    simp only [Option.some.injEq, Prod.mk.injEq] at hp
    rw [← hp.1]
    exact numF_bd zs h.2.1.2.2.2 s q
  · rw [if_neg q] at hp; cases hp
def ShortPost (w : World) (r : Nat) (res : Option (List Int × List Int)) (e : Ending) (w' : World) : Prop :=
  Kr r w w' ∧ match res with
    | some (ys, rest) => (∃ p c', e = .returned (.slice p ys.length c') ∧ IsB w' p ys.length ys) ∧ ∃ a c, Rdr w' r a c rest
    | none => e = PN
set_option maxRecDepth 20000 in
set_option maxHeartbeats 1000000 in
theorem short_c {r : Nat} {a : Option Addr} {c : Nat} {zs : List Int} {w : World} (h : Rdr w r a c zs) :
    Calls Try.prog 63 #[.pointer (some ⟨r, 0, none⟩)] w (ShortPost w r (shortP zs)) := by
  have NC := hid (tnum_c 1 h (by omega))
  have HBD := hid (fun m t (e : numP 1 zs = some (m, t)) => numP_bd h e)
  clear h
  unfold shortP
  unfold Takes at NC
  rcases hn : numP 1 zs with _ | ⟨m, t⟩
  · rw [hn] at NC
    simp only [Option.map_none] at NC ⊢
    go_enter Try.func63, Try.ntmps63
    go_wp2_with (go_at_call 51; refine NC.out.mono ?_; rintro _ w1 ⟨hk, rfl⟩)
    exact ⟨rfl, hk, rfl⟩
  · obtain ⟨m0, m1⟩ := HBD.out m t hn
    rw [hn] at NC
    simp only [Option.map_some] at NC ⊢
    have m1' : m < 256 := by simpa using m1
    have kc : IntKind.i64.wrap m = m := by rw [IntKind.wrap_i64]; omega
    obtain ⟨k, rfl⟩ : ∃ k : Nat, m = k := ⟨m.toNat, by omega⟩
    rw [Int.toNat_natCast]
    clear m1 HBD hn
    by_cases q : k ≤ t.length
    · rw [if_pos q]
      go_enter Try.func63, Try.ntmps63
      go_wp2_with (first
        | (go_at_call 94; refine PC.out.mono ?_; rintro _ w2 ⟨⟨p, rfl, hI⟩, a2, u2, hw2, hR2⟩)
        | (go_at_call 51; refine NC.out.mono ?_; rintro _ w1 ⟨hk, rfl, a1, c1, hR1⟩; have K1 := hid hk; have PC := hid (piece_c r a1 c1 t k w1 hR1 (by omega)); unfold PiecePost at PC; simp only [if_pos q] at PC; clear hk hR1))
      have hl : (t.take k).length = k := hI.1
      go_ret
      subst hw2
      exact ⟨K1.out.trans (Kr.set _ _ _), ⟨p, c1, by rw [hl]; rfl, by rw [hl]; exact hI⟩, _, _, hR2⟩
    · rw [if_neg q]
      go_enter Try.func63, Try.ntmps63
      go_wp2_with (first
        | (go_at_call 94; refine PC.out.mono ?_; rintro _ w2 ⟨rfl, hw2⟩)
        | (go_at_call 51; refine NC.out.mono ?_; rintro _ w1 ⟨hk, rfl, a1, c1, hR1⟩; have K1 := hid hk; have PC := hid (piece_c r a1 c1 t k w1 hR1 (by omega)); unfold PiecePost at PC; simp only [if_neg q] at PC; clear hk hR1))
      refine ⟨rfl, ?_, rfl⟩
      first | exact K1.out | (rw [hw2]; exact K1.out)
theorem conv_noneR (w : World) (p : Option Addr) (c : Nat) : (convert 22 9 (.slice p 0 c)).run Try.prog w = .ok (.string ByteArray.empty) w := by
  rw [run_convert_bytes_string w 22 9 5 _ 0 c Try.underlying22 Try.underlying5 Try.underlying9]
  cases p <;> simp [Conv.bytesToString, loadCells]
  all_goals rfl
theorem conv_R {w : World} {pa : Option Addr} {pc : Nat} {zs : List Int} (h : IsB w pa zs.length zs) : (convert 22 9 (.slice pa zs.length pc)).run Try.prog w = .ok (.string (Fr.tx zs)) w := by
  by_cases hp : 0 < zs.length
  · obtain ⟨h1, h2, h3, h4⟩ := h
    obtain ⟨b, off, rfl, hc⟩ := h3 hp
    exact run_convert_bytes_arg w 22 5 Try.underlying22 Try.underlying5 b off zs.length pc zs h1 hc 9 Try.underlying9
  · have h0 : zs.length = 0 := by omega
    rw [h0, conv_noneR, List.eq_nil_of_length_eq_zero h0]; rfl
set_option maxRecDepth 20000 in
set_option maxHeartbeats 1000000 in
theorem rdtext_c {r : Nat} {a : Option Addr} {c : Nat} {zs : List Int} {w : World} (h : Rdr w r a c zs) :
    Calls Try.prog 53 #[.pointer (some ⟨r, 0, none⟩)] w (Takes w r ((shortP zs).map fun p => (.string (Fr.tx p.1), p.2))) := by
  have SC := hid (short_c h)
  clear h
  unfold ShortPost at SC
  rcases hn : shortP zs with _ | ⟨ys, t⟩
  · rw [hn] at SC
    simp only [Option.map_none] at SC ⊢
    go_enter Try.func53, Try.ntmps53
    go_wp2_with (go_at_call 63; refine SC.out.mono ?_; rintro _ w1 ⟨hk, rfl⟩)
    exact ⟨rfl, hk, rfl⟩
  · rw [hn] at SC
    simp only [Option.map_some] at SC ⊢
    go_enter Try.func53, Try.ntmps53
    go_wp2_with (go_at_call 63; refine SC.out.mono ?_; rintro _ w1 ⟨hk, ⟨p, c', rfl, hI⟩, hR⟩; have hcv := conv_R (pc := c') hI)
    go_ret
    exact ⟨hk, rfl, hR⟩
set_option maxRecDepth 20000 in
set_option maxHeartbeats 1000000 in
theorem takeFid_c {r : Nat} {a : Option Addr} {c : Nat} {zs : List Int} {w : World} (h : Rdr w r a c zs) :
    Calls Try.prog 52 #[.pointer (some ⟨r, 0, none⟩)] w (Takes w r ((numP 4 zs).map fun p => (.int .u32 p.1, p.2))) := by
  have NC := hid (tnum_c 4 h (by omega))
  have HBD := hid (fun m t (e : numP 4 zs = some (m, t)) => numP_bd h e)
  clear h
  unfold Takes at NC
  rcases hn : numP 4 zs with _ | ⟨m, t⟩
  · rw [hn] at NC
    simp only [Option.map_none] at NC ⊢
    go_enter Try.func52, Try.ntmps52
    go_wp2_with (go_at_call 51; refine NC.out.mono ?_; rintro _ w1 ⟨hk, rfl⟩)
    exact ⟨rfl, hk, rfl⟩
  · obtain ⟨m0, m1⟩ := HBD.out m t hn
    rw [hn] at NC
    simp only [Option.map_some] at NC ⊢
    have m1' : m < 4294967296 := by simpa using m1
    have kc : IntKind.u32.wrap m = m := by rw [IntKind.wrap_u32]; omega
    clear m1 HBD hn
    go_enter Try.func52, Try.ntmps52
    go_wp2_with (go_at_call 51; refine NC.out.mono ?_; rintro _ w1 ⟨hk, rfl, hR⟩)
    go_ret
    exact ⟨hk, rfl, hR⟩
theorem Kr.new {r B : Nat} {w w' : World} (h : Kr r w w') (hB : w.heap.size ≤ B) (i : Nat) (v : Value) : Kr r w (w'.setCell ⟨B, i, none⟩ v) :=
  ⟨h.os, h.tape, h.output, by have := h.size; simpa [World.setCell] using this, fun k hk hne => (heap_setCell_other _ _ _ _ (show k ≠ B by omega)).trans (h.block k hk hne)⟩
theorem rdr_new {w : World} {r B : Nat} {a : Option Addr} {c : Nat} {zs : List Int} (h : Rdr w r a c zs) (hB : r < B) (i : Nat) (v : Value) : Rdr (w.setCell ⟨B, i, none⟩ v) r a c zs := by
  refine ⟨(heap_setCell_other _ _ _ _ (show r ≠ B by omega)).trans h.1, ?_, h.2.2⟩
  obtain ⟨h1, h2, h3, h4⟩ := h.2.1
  refine ⟨h1, h2, fun hp => ?_, h4⟩
  obtain ⟨b, off, e, hc⟩ := h3 hp
  rcases h.2.2.2 with ⟨e', _⟩ | ⟨b', off', e', hbr⟩
  · rw [e'] at e; cases e
  · rw [e] at e'
    cases e'
    exact ⟨b, off, e, fun i hi => by rw [World.cell?_setCell_far _ _ _ _ (show B ≠ b by omega)]; exact hc i hi⟩
end Go.Proofs.Ytbgninmkglgfeaa
