/-
  What Decode and Cut of the package frame return, and what the laws' own helpers do.
-/
import Derived.Test.YteimegacnmakaaaFRest
namespace Go.Proofs.Yteimegacnmakaaa
open Go.RowKit Go.ChangeShapes Go.WideShapes Go.ChangeAt
open Go.BigFrame
set_option linter.unusedVariables false
set_option linter.unusedSimpArgs false
/-- Bytes are the packet's. -/
def Whole (p : Fr.Pk) (zs : List Int) : Prop := Fr.Wf p ∧ Fr.rightB p = true ∧ zs = Fr.enc p
theorem whole_begins {p : Fr.Pk} {zs : List Int} (h : Whole p zs) : Fr.Begins p zs := ⟨h.1, h.2.1, [], by rw [List.append_nil]; exact h.2.2⟩
theorem begins_whole {p : Fr.Pk} {zs : List Int} (h : Fr.Begins p zs) (hl : 19 + p.b.size = zs.length) : Whole p zs := by
  obtain ⟨h1, h2, r, rfl⟩ := h
  rw [List.length_append, Fr.enc_length] at hl
  have : r = [] := List.eq_nil_of_length_eq_zero (by omega)
  subst this
  exact ⟨h1, h2, List.append_nil _⟩
theorem whole_length {p : Fr.Pk} {zs : List Int} (h : Whole p zs) : zs.length = 19 + p.b.size := by rw [h.2.2, Fr.enc_length]
/-- What Decode answers. -/
def DecPost (zs : List Int) (w : World) (e : Ending) (w' : World) : Prop :=
  ((∃ p, Whole p zs ∧ e = .returned (.tuple #[Fr.val p, .int .i64 0])) ∨ ((∀ p, ¬ Whole p zs) ∧ e = .returned (.tuple #[noPk, .int .i64 3]))) ∧ Below w.heap.size w w'
theorem zero_pb (w : World) : PB (w.alloc (.cells #[.int .u8 0, .int .u8 0, .int .u8 0, .int .u32 0, .int .u32 0, .string ⟨#[]⟩] 25)) w.heap.size ⟨0, 0, 0, 0, 0, ⟨#[]⟩⟩ := heap_alloc_new w _
theorem PB.later {w w' : World} {B : Nat} {p : Fr.Pk} (h : PB w B p) (hb : Below w.heap.size w w') : PB w' B p := by
  unfold PB at *; rw [hb.block _ (lt_of_blk h)]; exact h
theorem PB.alloc {w : World} {B : Nat} {p : Fr.Pk} (h : PB w B p) (o : Obj) : PB (w.alloc o) B p := by
  unfold PB at *; rw [Below.heap_alloc _ _ _ (lt_of_blk h)]; exact h
theorem PB.lt {w : World} {B : Nat} {p : Fr.Pk} (h : PB w B p) : B < w.heap.size := lt_of_blk h
set_option maxHeartbeats 1000000 in
theorem decode_c (a : Option Addr) (len cap : Nat) (zs : List Int) (w : World) (hb : IsB w a len zs) (hlc : len ≤ cap) :
    Calls Try.prog 15 #[.slice a len cap] w (DecPost zs w) := by
  have HB := hid hb
  have hm := hb.2.1
  unfold maxLen at hm
  clear hb
  go_enter Try.func15, Try.ntmps15
  go_wp2_with fail
  have hP0 := zero_pb w
  have hB0 : Below w.heap.size w (w.alloc (.cells #[.int .u8 0, .int .u8 0, .int .u8 0, .int .u32 0, .int .u32 0, .string ⟨#[]⟩] 25)) := (Below.refl _ _).alloc (Nat.le_refl _) _
  generalize (w.alloc (.cells #[.int .u8 0, .int .u8 0, .int .u8 0, .int .u32 0, .int .u32 0, .string ⟨#[]⟩] 25)) = W at *
  refine (first_c _ _ _ _ _ (HB.out.later hB0) hlc).mono ?_
  rintro _ w1 ⟨⟨p, hp, rfl⟩ | ⟨hp, rfl⟩, hb1⟩
  · have hP1 := hP0.later hb1
    have hB1 := hB0.trans (hb1.mono hB0.size)
    have HL := begins_long hp
    have hll := HB.out.1
    have HP := hid hp
    clear hp
    obtain ⟨k, f, t, e, s, b⟩ := p
    simp only at HL
    obtain ⟨_, _, hsz, _⟩ := HL
    rw [hll] at hsz
    rw [show Fr.val ⟨k, f, t, e, s, b⟩ = .agg #[.int .u8 k, .int .u8 f, .int .u8 t, .int .u32 e, .int .u32 s, .string b] from rfl]
    obtain ⟨c0, c1, c2, c3, c4, c5⟩ := hP1.cells
    have f1 : ∀ i, w1.frozen? ⟨w.heap.size, i, none⟩ = false := fun i => pb_frozen hP1 i
    have hlt := hP1.lt
    have hne : ¬ w.heap.size = w1.heap.size := by omega
    have hz1 := hB1.size
    by_cases hq : 19 + b.size = len
    · have H : Hid (Whole ⟨k, f, t, e, s, b⟩ zs) := begins_whole HP.out (by rw [hll]; exact hq)
      have hq' : ((19 : Int) + b.size != len) = false := by rw [bne_eq_false_iff_eq]; omega
      clear hll hq
      go_wp2
      exact bodyPost_ret (v := .tuple #[Fr.val ⟨k, f, t, e, s, b⟩, .int .i64 0]) (by simp [results, Try.results15, go_sem, Fr.val, hlt, hne, c0, c1, c2, c3, c4, c5]) rfl ⟨.inl ⟨_, H.out, rfl⟩, (below6 hB1 (Nat.le_refl _) _ _ _ _ _ _).alloc (by simp; omega) _⟩
    · have H : Hid (∀ p, ¬ Whole p zs) := fun q hw => by
        have e := Fr.begins_one (whole_begins hw) HP.out
        subst e
        have := whole_length hw
        simp only at this
        omega
      have hq' : ((19 : Int) + b.size != len) = true := by rw [bne_iff_ne]; omega
      clear hll hq
      go_wp2
      exact bodyPost_ret (v := .tuple #[noPk, .int .i64 3]) (by simp [results, Try.results15, go_sem, noPk, hlt, hne, c0, c1, c2, c3, c4, c5]) rfl ⟨.inr ⟨H.out, rfl⟩, (below6 hB1 (Nat.le_refl _) _ _ _ _ _ _).alloc (by simp; omega) _⟩
  · have hP1 := hP0.later hb1
    have hB1 := hB0.trans (hb1.mono hB0.size)
    have H : Hid (∀ p, ¬ Whole p zs) := fun q hw => hp q (whole_begins hw)
    rw [show noPk = .agg #[.int .u8 0, .int .u8 0, .int .u8 0, .int .u32 0, .int .u32 0, .string ⟨#[]⟩] from rfl]
    obtain ⟨c0, c1, c2, c3, c4, c5⟩ := hP1.cells
    have f1 : ∀ i, w1.frozen? ⟨w.heap.size, i, none⟩ = false := fun i => pb_frozen hP1 i
    have hlt := hP1.lt
    have hne : ¬ w.heap.size = w1.heap.size := by omega
    have hz1 := hB1.size
    clear hp
    go_wp2
    exact bodyPost_ret (v := .tuple #[noPk, .int .i64 3]) (by simp [results, Try.results15, go_sem, noPk, hlt, hne, c0, c1, c2, c3, c4, c5]) rfl ⟨.inr ⟨H.out, rfl⟩, (below6 hB1 (Nat.le_refl _) _ _ _ _ _ _).alloc (by simp; omega) _⟩
def fewN (len : Nat) : Nat := if 40000 < len then 40000 else len
theorem fewN_le (len : Nat) : fewN len ≤ len ∧ fewN len ≤ 40000 := by unfold fewN; split <;> omega
theorem few_isB {w : World} {a : Option Addr} {len : Nat} {zs : List Int} (h : IsB w a len zs) : IsB w a (fewN len) (zs.take (fewN len)) := h.front _ (fewN_le len).1
set_option maxHeartbeats 400000 in
theorem few_c (a : Option Addr) (len cap : Nat) (zs : List Int) (w : World) (hb : IsB w a len zs) (hlc : len ≤ cap) :
    Calls Try.prog 14 #[.slice a len cap] w fun e w' => e = .returned (.slice a (fewN len) cap) ∧ w' = w := by
  have hm := hb.2.1
  unfold maxLen at hm
  by_cases h : 40000 < len
  · obtain ⟨b, off, rfl, _⟩ := hb.2.2.1 (by omega)
    clear hb
    have h' : (40000 : Int) < len := by omega
    rw [show fewN len = 40000 from if_pos h]
    go_enter Try.func14, Try.ntmps14
    go_wp2
    go_ret
    exact ⟨rfl, rfl⟩
  · clear hb
    have h' : (len : Int) ≤ 40000 := by omega
    rw [show fewN len = len from if_neg h]
    go_enter Try.func14, Try.ntmps14
    go_wp2
    go_ret
    exact ⟨rfl, rfl⟩
def liveP : Fr.Pk := ⟨1, 1, 0, 0, 1, ⟨#[]⟩⟩
theorem live_right : Fr.rightB liveP = true := by decide
theorem live_wf : Fr.Wf liveP := by unfold Fr.Wf liveP; simp
theorem live_len : (Fr.enc liveP).length = 19 := by rw [Fr.enc_length]; rfl
set_option maxHeartbeats 1000000 in
theorem live_c (w : World) : Calls Try.prog 11 #[] w fun e w' => e = .returned (.bool true) ∧ Below w.heap.size w w' := by
  go_enter Try.func11, Try.ntmps11
  go_wp2_with fail
  have C := encode_c liveP live_wf (by unfold maxLen; decide)
  rw [show Fr.val liveP = .agg #[.int .u8 1, .int .u8 1, .int .u8 0, .int .u32 0, .int .u32 1, .string ⟨#[]⟩] from rfl] at C
  refine (C _).mono ?_
  clear C
  have hP0 : PB (w.alloc (.cells #[.int .u8 1, .int .u8 1, .int .u8 0, .int .u32 0, .int .u32 1, .string ⟨#[]⟩] 25)) w.heap.size liveP := heap_alloc_new w _
  have hB0 : Below w.heap.size w (w.alloc (.cells #[.int .u8 1, .int .u8 1, .int .u8 0, .int .u32 0, .int .u32 1, .string ⟨#[]⟩] 25)) := (Below.refl _ _).alloc (Nat.le_refl _) _
  generalize (w.alloc (.cells #[.int .u8 1, .int .u8 1, .int .u8 0, .int .u32 0, .int .u32 1, .string ⟨#[]⟩] 25)) = W at *
  rintro _ w1 ⟨⟨hr, v, rfl, hown⟩ | ⟨hr, _⟩, hb1⟩
  · obtain ⟨a, cap, rfl, hb, hcap⟩ := isB_pile (T := 0) (g := 0) (Fr.enc_byte liveP live_wf) hown
    have hB1 := hB0.trans (hb1.mono hB0.size)
    have hP1 := hP0.later hb1
    have HB := hid hb
    have HC := hid hcap
    clear hb hown hr hcap
    rw [live_len] at *
    go_wp2_with fail
    refine (decode_c _ _ _ _ _ HB.out HC.out).mono ?_
    rintro _ w2 ⟨⟨p, hp, rfl⟩ | ⟨hp, rfl⟩, hb2⟩
    · have e : p = liveP := Fr.begins_one (whole_begins hp) (whole_begins ⟨live_wf, live_right, rfl⟩)
      subst e
      have hB2 := hB1.trans (hb2.mono hB1.size)
      have hP2 := hP1.later hb2
      obtain ⟨c0, c1, c2, c3, c4, c5⟩ := hP2.cells
      simp only [liveP] at c0 c1 c2 c3 c4 c5
      have hlt := hP2.lt
      have hne : ¬ w.heap.size = w2.heap.size := by omega
      rw [show Fr.val liveP = .agg #[.int .u8 1, .int .u8 1, .int .u8 0, .int .u32 0, .int .u32 1, .string ⟨#[]⟩] from rfl]
      clear hp
      go_wp2_with fail
      have C := right_c liveP live_wf (by unfold maxLen; decide)
      rw [show Fr.val liveP = .agg #[.int .u8 1, .int .u8 1, .int .u8 0, .int .u32 0, .int .u32 1, .string ⟨#[]⟩] from rfl] at C
      refine (C _).mono ?_
      rintro _ w3 ⟨rfl, hb3⟩
      rw [live_right]
      go_wp2
      go_ret
      exact ⟨rfl, (hB2.alloc hB2.size _).trans (hb3.mono (by have := hB2.size; simp; omega))⟩
    · exact absurd ⟨live_wf, live_right, rfl⟩ (hp liveP)
  · rw [live_right] at hr; cases hr
end Go.Proofs.Yteimegacnmakaaa
