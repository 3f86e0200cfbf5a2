/-
  What the package frame reads: the packet that bytes begin with.
-/
import Derived.Test.YteimegacnmakaacFEnc
import Derived.Laws.BytesArg
import Derived.Lib.Strings
namespace Go.Proofs.Yteimegacnmakaac
open Go.RowKit Go.ChangeShapes Go.WideShapes Go.ChangeAt
open Go.BigFrame
set_option linter.unusedVariables false
set_option linter.unusedSimpArgs false
theorem IsB.sub {w : World} {b off len : Nat} {zs : List Int} (h : IsB w (some ⟨b, off, none⟩) len zs) (i m : Nat) (him : i + m ≤ len) : IsB w (some ⟨b, off + i, none⟩) m ((zs.drop i).take m) := by
  obtain ⟨h1, h2, h3, h4⟩ := h
  refine ⟨by rw [List.length_take, List.length_drop]; omega, by omega, fun hp => ⟨b, off + i, rfl, fun j hj => ?_⟩, fun j => ?_⟩
  · obtain ⟨b', off', e, hc⟩ := h3 (by omega)
    cases e
    rw [Nat.add_assoc, hc (i + j) (by omega)]
    simp [List.getD, List.getElem?_take, hj, List.getElem?_drop]
  · by_cases hj : j < m
    · have := h4 (i + j)
      simpa [List.getD, List.getElem?_take, hj, List.getElem?_drop] using this
    · simp [List.getD, List.getElem?_take, hj]
theorem IsB.conv {w : World} {b off len cap : Nat} {zs : List Int} (h : IsB w (some ⟨b, off, none⟩) len zs) : (convert 44 9 (.slice (some ⟨b, off, none⟩) len cap)).run Try.prog w = .ok (.string (Fr.tx zs)) w := by
  obtain ⟨h1, h2, h3, h4⟩ := h
  refine run_convert_bytes_arg w 44 5 Try.underlying44 Try.underlying5 b off len cap zs h1 (fun i hi => ?_) 9 Try.underlying9
  obtain ⟨b', off', e, hc⟩ := h3 (by omega)
  cases e
  exact hc i hi
theorem pb_frozen {w : World} {B : Nat} {p : Fr.Pk} (h : PB w B p) (i : Nat) : w.frozen? ⟨B, i, none⟩ = false := by
  unfold PB at h; simp [World.frozen?, h]
theorem below6 {B blk : Nat} {w w' : World} (h : Below B w w') (hb : B ≤ blk) (v0 v1 v2 v3 v4 v5 : Value) : Below B w ((((((w'.setCell ⟨blk, 0, none⟩ v0).setCell ⟨blk, 1, none⟩ v1).setCell ⟨blk, 2, none⟩ v2).setCell ⟨blk, 3, none⟩ v3).setCell ⟨blk, 4, none⟩ v4).setCell ⟨blk, 5, none⟩ v5) :=
  (((((h.setCell hb _).setCell hb _).setCell hb _).setCell hb _).setCell hb _).setCell hb _
theorem tx_mark (zs : List Int) (h : 2 ≤ zs.length) (hz : ∀ i, 0 ≤ zs.getD i 0 ∧ zs.getD i 0 ≤ 255) : ((Fr.tx (zs.take 2)).toList == [66, 87]) = (zs.getD 0 0 == 66 && zs.getD 1 0 == 87) := by
  match zs, h with
  | x :: y :: r, _ =>
    have h0 := hz 0
    have h1 := hz 1
    simp at h0 h1
    have e : (Fr.tx ((x :: y :: r).take 2)).toList = [UInt8.ofNat x.toNat, UInt8.ofNat y.toNat] := by rw [Lib.toList_data]; simp [Fr.tx]
    rw [e]
    have k : ∀ (a : Int) (c : Nat), 0 ≤ a → a ≤ 255 → c < 256 → (UInt8.ofNat a.toNat == UInt8.ofNat c) = (a == (c : Int)) := by
      intro a c ha ha' hc
      rw [Bool.eq_iff_iff, beq_iff_eq, beq_iff_eq]
      constructor
      · intro hh
        have := congrArg UInt8.toNat hh
        rw [UInt8.toNat_ofNat_of_lt' (show a.toNat < 256 by omega), UInt8.toNat_ofNat_of_lt' (show c < 256 by omega)] at this
        omega
      · intro hh; rw [hh]; simp
    have k0 := k x 66 h0.1 h0.2 (by omega)
    have k1 := k y 87 h1.1 h1.2 (by omega)
    simp only [List.getD_cons_zero, List.getD_cons_succ]
    show ((UInt8.ofNat x.toNat == 66) && ((UInt8.ofNat y.toNat == 87) && true)) = _
    rw [Bool.and_true]
    exact congr (congrArg _ k0) k1
theorem at4_sub (zs : List Int) (i : Nat) : Fr.at4 ((zs.drop i).take 4) 0 = Fr.at4 zs i := by
  unfold Fr.at4; simp [List.getD, List.getElem?_take, List.getElem?_drop]
theorem sub4 {w : World} {b off len : Nat} {zs : List Int} {o : Nat} {m : Nat} (h : IsB w (some ⟨b, off, none⟩) len zs) (i : Nat) (him : i + 4 ≤ len) (ho : o = off + i) : IsB w (some ⟨b, o, none⟩) 4 ((zs.drop i).take 4) := by
  subst ho; exact h.sub i 4 him
theorem front_int {w : World} {b off len : Nat} {zs : List Int} {m : Nat} (h : IsB w (some ⟨b, off, none⟩) len zs) (i : Nat) (him : i ≤ len) (hm : m = i) : IsB w (some ⟨b, off, none⟩) m (zs.take i) := by
  subst hm; exact h.front _ him
def noPk : Value := .agg #[.int .u8 0, .int .u8 0, .int .u8 0, .int .u32 0, .int .u32 0, .string ⟨#[]⟩]
/-- What 'first' answers. -/
def FirstPost (zs : List Int) (w : World) (e : Ending) (w' : World) : Prop :=
  ((∃ p, Fr.Begins p zs ∧ e = .returned (.tuple #[Fr.val p, .int .i64 (19 + p.b.size), .bool true])) ∨ ((∀ p, ¬ Fr.Begins p zs) ∧ e = .returned (.tuple #[noPk, .int .i64 0, .bool false]))) ∧ Below w.heap.size w w'
theorem begins_long {p : Fr.Pk} {zs : List Int} (h : Fr.Begins p zs) : 19 ≤ zs.length ∧ Fr.nb zs = p.b.size ∧ 19 + p.b.size ≤ zs.length ∧ zs.getD 0 0 = 66 ∧ zs.getD 1 0 = 87 ∧ Fr.parse zs = p ∧ Fr.at4 zs (15 + p.b.size) = M.foldF (zs.take (15 + p.b.size)) := by
  obtain ⟨a, b, r, rfl⟩ := h
  have := Fr.right_size b
  obtain ⟨e1, e2, e3, e4, e5, e6⟩ := Fr.enc_says p r a (by omega)
  refine ⟨by rw [List.length_append, Fr.enc_length]; omega, e3, by rw [List.length_append, Fr.enc_length]; omega, e1, e2, e4, by rw [e5, e6]⟩
set_option maxHeartbeats 400000 in
theorem first_short (a : Option Addr) (len cap : Nat) (zs : List Int) (w : World) (hb : IsB w a len zs) (h : len < 19) :
    Calls Try.prog 27 #[.slice a len cap] w (FirstPost zs w) := by
  have N : Hid (∀ p, ¬ Fr.Begins p zs) := fun p hp => by have := (begins_long hp).1; have := hb.1; omega
  clear hb
  go_enter Try.func27, Try.ntmps27
  go_wp2
  exact bodyPost_ret (v := .tuple #[noPk, .int .i64 0, .bool false]) (by simp [results, Try.results27, go_sem, noPk]) rfl ⟨.inr ⟨N.out, rfl⟩, by first | exact (Below.refl _ _).alloc (Nat.le_refl _) _ | exact below_zero6 _ _⟩
set_option maxHeartbeats 1000000 in
theorem first_mid (b off : Nat) (len cap : Nat) (zs : List Int) (w : World) (hb : IsB w (some ⟨b, off, none⟩) len zs) (hlc : len ≤ cap) (h : 19 ≤ len) (n : Nat) (hn : Fr.nb zs = n) (h2 : len < 19 + n) :
    Calls Try.prog 27 #[.slice (some ⟨b, off, none⟩) len cap] w (FirstPost zs w) := by
  have N : Hid (∀ p, ¬ Fr.Begins p zs) := fun p hp => by have := begins_long hp; have := hb.1; omega
  have hm : len ≤ maxLen := hb.2.1
  unfold maxLen at hm
  have HB := hid hb
  have z13 := hb.2.2.2 13
  have z14 := hb.2.2.2 14
  have HN : Hid (((zs.drop 13).take 2).getD 0 0 + 256 * ((zs.drop 13).take 2).getD 1 0 = n) := by
    show _ = _; rw [← hn]; unfold Fr.nb; simp [List.getD, List.getElem?_take, List.getElem?_drop]
  have hn2 : n < 65536 := by unfold Fr.nb at hn; omega
  have dL : decide ((len : Int) < 15 + n + 4) = true := decide_eq_true (by omega)
  have kc : True := trivial
  clear hn
  clear hb z13 z14
  go_enter Try.func27, Try.ntmps27
  go_wp2_with fail
  have hB0 : Below w.heap.size w (w.alloc (.cells #[.int .u8 0, .int .u8 0, .int .u8 0, .int .u32 0, .int .u32 0, .string ⟨#[]⟩] 43)) := (Below.refl _ _).alloc (Nat.le_refl _) _
  have hP0 : PB (w.alloc (.cells #[.int .u8 0, .int .u8 0, .int .u8 0, .int .u32 0, .int .u32 0, .string ⟨#[]⟩] 43)) w.heap.size ⟨0, 0, 0, 0, 0, ⟨#[]⟩⟩ := heap_alloc_new w _
  generalize hW0 : (w.alloc (.cells #[.int .u8 0, .int .u8 0, .int .u8 0, .int .u32 0, .int .u32 0, .string ⟨#[]⟩] 43)) = W at *
  clear hW0
  have HB0 := hid (HB.out.later hB0)
  refine (number2_c _ _ _ _ (HB0.out.sub 13 2 (by omega))).mono ?_
  rintro _ W ⟨rfl, rfl⟩
  rw [HN.out]
  go_wp2_with fail
  refine wp_region_class (by kernel_rfl) (by kernel_rfl) ?_
  repeat (first
    | go_big_quiet_skip
    | (go_big_quiet_want
       apply quiet_by
       · intro w1 hw1
         go_simp
         first
           | rfl
           | exact kc _ hw1
           | (go_at_call 38; exact class_same hw1 (number4_c _ _ _ _ ((HB0.out.later hw1).sub (15 + n) 4 (by omega))))
           | (go_at_call 36; exact class_same hw1 (fold_c _ _ _ _ _ ((HB0.out.later hw1).front (15 + n) (by omega))))
       · go_simp; rfl
       go_big_quiet_on))
  refine wpQuiet_nil ?_
  intro w2 hw2
  have hP2 : PB w2 w.heap.size ⟨0, 0, 0, 0, 0, ⟨#[]⟩⟩ := by unfold PB at *; rw [hw2.block _ (lt_of_blk hP0)]; exact hP0
  obtain ⟨c0, c1, c2, c3, c4, c5⟩ := hP2.cells
  have f2 : ∀ i, w2.frozen? ⟨w.heap.size, i, none⟩ = false := fun i => pb_frozen hP2 i
  go_wp2
  exact bodyPost_ret (v := .tuple #[noPk, .int .i64 0, .bool false]) (by simp [results, Try.results27, go_sem, noPk, c0, c1, c2, c3, c4, c5]) rfl ⟨.inr ⟨N.out, rfl⟩, below6 (hB0.trans (hw2.mono hB0.size)) (Nat.le_refl _) _ _ _ _ _ _⟩
set_option maxHeartbeats 1000000 in
theorem first_mark (b off : Nat) (len cap : Nat) (zs : List Int) (w : World) (hb : IsB w (some ⟨b, off, none⟩) len zs) (hlc : len ≤ cap) (h : 19 ≤ len) (n : Nat) (hn : Fr.nb zs = n) (h2 : 19 + n ≤ len) (hk : ¬ (zs.getD 0 0 = 66 ∧ zs.getD 1 0 = 87)) :
    Calls Try.prog 27 #[.slice (some ⟨b, off, none⟩) len cap] w (FirstPost zs w) := by
  have N : Hid (∀ p, ¬ Fr.Begins p zs) := fun p hp => by have := begins_long hp; exact hk ⟨this.2.2.2.1, this.2.2.2.2.1⟩
  have hm : len ≤ maxLen := hb.2.1
  unfold maxLen at hm
  have HB := hid hb
  have z13 := hb.2.2.2 13
  have z14 := hb.2.2.2 14
  have HN : Hid (((zs.drop 13).take 2).getD 0 0 + 256 * ((zs.drop 13).take 2).getD 1 0 = n) := by
    show _ = _; rw [← hn]; unfold Fr.nb; simp [List.getD, List.getElem?_take, List.getElem?_drop]
  have hn2 : n < 65536 := by unfold Fr.nb at hn; omega
  have dL : decide ((len : Int) < 15 + n + 4) = false := decide_eq_false (by omega)
  have i1 : (2 : Int) ≤ cap := by omega
  have i2 : (15 : Int) + n + 4 ≤ cap := by omega
  have i3 : (15 : Int) + n ≤ 15 + n + 4 := by omega
  have i4 : (15 : Int) + n ≤ cap := by omega
  have i5 : (0 : Int) ≤ 15 + n := by omega
  have t1 : (15 + (n : Int)).toNat = 15 + n := by omega
  have t2 : (15 + (n : Int) + 4).toNat = 19 + n := by omega
  have t3 : ¬ cap = 15 + n := by omega
  have t4 : 19 + n - (15 + n) = 4 := by omega
  have dM : ((Fr.tx (zs.take 2)).toList == [66, 87]) = false := by rw [tx_mark zs (by rw [hb.1]; omega) hb.2.2.2, Bool.eq_false_iff]; simpa using hk
  clear hn hk
  clear hb z13 z14
  go_enter Try.func27, Try.ntmps27
  go_wp2_with fail
  have hB0 : Below w.heap.size w (w.alloc (.cells #[.int .u8 0, .int .u8 0, .int .u8 0, .int .u32 0, .int .u32 0, .string ⟨#[]⟩] 43)) := (Below.refl _ _).alloc (Nat.le_refl _) _
  have hP0 : PB (w.alloc (.cells #[.int .u8 0, .int .u8 0, .int .u8 0, .int .u32 0, .int .u32 0, .string ⟨#[]⟩] 43)) w.heap.size ⟨0, 0, 0, 0, 0, ⟨#[]⟩⟩ := heap_alloc_new w _
  generalize hW0 : (w.alloc (.cells #[.int .u8 0, .int .u8 0, .int .u8 0, .int .u32 0, .int .u32 0, .string ⟨#[]⟩] 43)) = W at *
  clear hW0
  have HB0 := hid (HB.out.later hB0)
  refine (number2_c _ _ _ _ (HB0.out.sub 13 2 (by omega))).mono ?_
  rintro _ W ⟨rfl, rfl⟩
  rw [HN.out]
  have kc : ∀ w1, Below W.heap.size W w1 → (convert 44 9 (.slice (some ⟨b, off, none⟩) 2 cap)).run Try.prog w1 = .ok (.string (Fr.tx (zs.take 2))) w1 := fun w1 h1 => ((HB0.out.later h1).front 2 (by omega)).conv
  go_wp2_with fail
  refine wp_region_class (by kernel_rfl) (by kernel_rfl) ?_
  repeat (first
    | go_big_quiet_skip
    | (go_big_quiet_want
       apply quiet_by
       · intro w1 hw1
         go_simp
         first
           | rfl
           | exact kc _ hw1
           | (go_at_call 38; exact class_same hw1 (number4_c _ _ _ _ ((HB0.out.later hw1).sub (15 + n) 4 (by omega))))
           | (go_at_call 36; exact class_same hw1 (fold_c _ _ _ _ _ ((HB0.out.later hw1).front (15 + n) (by omega))))
       · go_simp; rfl
       go_big_quiet_on))
  refine wpQuiet_nil ?_
  intro w2 hw2
  have hP2 : PB w2 w.heap.size ⟨0, 0, 0, 0, 0, ⟨#[]⟩⟩ := by unfold PB at *; rw [hw2.block _ (lt_of_blk hP0)]; exact hP0
  obtain ⟨c0, c1, c2, c3, c4, c5⟩ := hP2.cells
  have f2 : ∀ i, w2.frozen? ⟨w.heap.size, i, none⟩ = false := fun i => pb_frozen hP2 i
  go_wp2
  exact bodyPost_ret (v := .tuple #[noPk, .int .i64 0, .bool false]) (by simp [results, Try.results27, go_sem, noPk, c0, c1, c2, c3, c4, c5]) rfl ⟨.inr ⟨N.out, rfl⟩, below6 (hB0.trans (hw2.mono hB0.size)) (Nat.le_refl _) _ _ _ _ _ _⟩
set_option maxHeartbeats 1000000 in
theorem first_sum (b off : Nat) (len cap : Nat) (zs : List Int) (w : World) (hb : IsB w (some ⟨b, off, none⟩) len zs) (hlc : len ≤ cap) (h : 19 ≤ len) (n : Nat) (hn : Fr.nb zs = n) (h2 : 19 + n ≤ len) (hk : zs.getD 0 0 = 66 ∧ zs.getD 1 0 = 87) (hs : Fr.at4 zs (15 + n) ≠ M.foldF (zs.take (15 + n))) :
    Calls Try.prog 27 #[.slice (some ⟨b, off, none⟩) len cap] w (FirstPost zs w) := by
  have N : Hid (∀ p, ¬ Fr.Begins p zs) := fun p hp => by have := begins_long hp; have e : p.b.size = n := by omega
                                                         rw [e] at this; exact hs this.2.2.2.2.2.2
  have hm : len ≤ maxLen := hb.2.1
  unfold maxLen at hm
  have HB := hid hb
  have z13 := hb.2.2.2 13
  have z14 := hb.2.2.2 14
  have HN : Hid (((zs.drop 13).take 2).getD 0 0 + 256 * ((zs.drop 13).take 2).getD 1 0 = n) := by
    show _ = _; rw [← hn]; unfold Fr.nb; simp [List.getD, List.getElem?_take, List.getElem?_drop]
  have hn2 : n < 65536 := by unfold Fr.nb at hn; omega
  have dL : decide ((len : Int) < 15 + n + 4) = false := decide_eq_false (by omega)
  have i1 : (2 : Int) ≤ cap := by omega
  have i2 : (15 : Int) + n + 4 ≤ cap := by omega
  have i3 : (15 : Int) + n ≤ 15 + n + 4 := by omega
  have i4 : (15 : Int) + n ≤ cap := by omega
  have i5 : (0 : Int) ≤ 15 + n := by omega
  have t1 : (15 + (n : Int)).toNat = 15 + n := by omega
  have t2 : (15 + (n : Int) + 4).toNat = 19 + n := by omega
  have t3 : ¬ cap = 15 + n := by omega
  have t4 : 19 + n - (15 + n) = 4 := by omega
  have dM : ((Fr.tx (zs.take 2)).toList == [66, 87]) = true := by rw [tx_mark zs (by rw [hb.1]; omega) hb.2.2.2]; simpa using hk
  have dS : (Fr.at4 ((zs.drop (15 + n)).take 4) 0 != M.foldF (zs.take (15 + n))) = true := by rw [at4_sub, bne_iff_ne]; exact hs
  clear hn hk hs
  clear hb z13 z14
  go_enter Try.func27, Try.ntmps27
  go_wp2_with fail
  have hB0 : Below w.heap.size w (w.alloc (.cells #[.int .u8 0, .int .u8 0, .int .u8 0, .int .u32 0, .int .u32 0, .string ⟨#[]⟩] 43)) := (Below.refl _ _).alloc (Nat.le_refl _) _
  have hP0 : PB (w.alloc (.cells #[.int .u8 0, .int .u8 0, .int .u8 0, .int .u32 0, .int .u32 0, .string ⟨#[]⟩] 43)) w.heap.size ⟨0, 0, 0, 0, 0, ⟨#[]⟩⟩ := heap_alloc_new w _
  generalize hW0 : (w.alloc (.cells #[.int .u8 0, .int .u8 0, .int .u8 0, .int .u32 0, .int .u32 0, .string ⟨#[]⟩] 43)) = W at *
  clear hW0
  have HB0 := hid (HB.out.later hB0)
  refine (number2_c _ _ _ _ (HB0.out.sub 13 2 (by omega))).mono ?_
  rintro _ W ⟨rfl, rfl⟩
  rw [HN.out]
  have kc : ∀ w1, Below W.heap.size W w1 → (convert 44 9 (.slice (some ⟨b, off, none⟩) 2 cap)).run Try.prog w1 = .ok (.string (Fr.tx (zs.take 2))) w1 := fun w1 h1 => ((HB0.out.later h1).front 2 (by omega)).conv
  go_wp2_with fail
  refine wp_region_class (by kernel_rfl) (by kernel_rfl) ?_
  repeat (first
    | go_big_quiet_skip
    | (go_big_quiet_want
       apply quiet_by
       · intro w1 hw1
         go_simp
         first
           | rfl
           | exact kc _ hw1
           | (go_at_call 38; exact class_same hw1 (number4_c _ _ _ _ ((HB0.out.later hw1).sub (15 + n) 4 (by omega))))
           | (go_at_call 36; exact class_same hw1 (fold_c _ _ _ _ _ ((HB0.out.later hw1).front (15 + n) (by omega))))
       · go_simp; rfl
       go_big_quiet_on))
  refine wpQuiet_nil ?_
  intro w2 hw2
  have hP2 : PB w2 w.heap.size ⟨0, 0, 0, 0, 0, ⟨#[]⟩⟩ := by unfold PB at *; rw [hw2.block _ (lt_of_blk hP0)]; exact hP0
  obtain ⟨c0, c1, c2, c3, c4, c5⟩ := hP2.cells
  have f2 : ∀ i, w2.frozen? ⟨w.heap.size, i, none⟩ = false := fun i => pb_frozen hP2 i
  go_wp2
  exact bodyPost_ret (v := .tuple #[noPk, .int .i64 0, .bool false]) (by simp [results, Try.results27, go_sem, noPk, c0, c1, c2, c3, c4, c5]) rfl ⟨.inr ⟨N.out, rfl⟩, below6 (hB0.trans (hw2.mono hB0.size)) (Nat.le_refl _) _ _ _ _ _ _⟩
end Go.Proofs.Yteimegacnmakaac
