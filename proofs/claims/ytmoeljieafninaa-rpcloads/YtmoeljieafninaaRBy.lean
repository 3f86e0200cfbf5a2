/-
  A callee's bytes.
-/
import Derived.Test.YtmoeljieafninaaROp
namespace Go.Proofs.Ytmoeljieafninaa
open Go.RowKit Go.ChangeShapes Go.WideShapes Go.ChangeAt
set_option linter.unusedVariables false
set_option linter.unusedSimpArgs false
set_option maxRecDepth 100000
def be4 (n : Int) : List Int := [n / 16777216 % 256, n / 65536 % 256, n / 256 % 256, n % 256]
def be2 (n : Int) : List Int := [n / 256 % 256, n % 256]
/-- A client's bytes. -/
def tkB (t : Tk) : List Int := if t.st = 0 then [0] else if t.st = 1 then 1 :: (be4 t.ep ++ be4 t.num) else 2 :: (be4 t.ep ++ be4 t.num ++ be2 t.body.size ++ Fr.bs t.body)
def keB (F : Nat → Tk) : List Int := tkB (F 1) ++ tkB (F 2) ++ tkB (F 3)
/-- A row of bytes that the call owns, and that it is below 100,000. -/
def Row8 (w : World) (base : Nat) (v : Value) (n : Nat) (zs : List Int) : Prop := w.ownsRow base 5 1 v n (zs.map u8V) ∧ base ≤ w.heap.size ∧ zs.length = n
theorem Row8.nil (w : World) (base : Nat) (h : base ≤ w.heap.size) : Row8 w base (.slice none 0 0) 0 [] := ⟨World.ownsRow_nil w base 5 1, h, rfl⟩
theorem Row8.slice {w : World} {base : Nat} {v : Value} {n : Nat} {zs : List Int} (h : Row8 w base v n zs) : ∃ a c, v = .slice a n c := by
  rcases h.1.2 with ⟨hv, hn⟩ | ⟨g, cap, cur, hv, _⟩
  · exact ⟨none, 0, by rw [hv, hn]⟩
  · exact ⟨_, _, hv⟩
theorem row8_below {w w5 : World} {base : Nat} {v : Value} {n : Nat} {zs : List Int} {o : Obj} (h : Row8 w base v n zs) (hg : (w.alloc o).grownBy w5 v.ownBlock) : Below base w w5 :=
  ⟨hg.os, hg.tape, hg.output, by have := hg.size; simp at this; omega, fun k hk => by
    have h2 := h.2.1
    rw [hg.block k (by simp; omega) (fun e => by have := (h.1.lt k e.symm).1; omega), Below.heap_alloc _ _ _ (by omega)]⟩
theorem row8_belowT {w w5 : World} {base : Nat} {v : Value} {n : Nat} {zs : List Int} (h : Row8 w base v n zs) (hg : w.grownBy w5 v.ownBlock) : Below base w w5 :=
  ⟨hg.os, hg.tape, hg.output, hg.size, fun k hk => by
    have h2 := h.2.1
    exact hg.block k (by omega) (fun e => by have := (h.1.lt k e.symm).1; omega)⟩
theorem Row8.snoc {w5 : World} {base : Nat} {v' : Value} {n : Nat} {zs : List Int} {b : Int} (hl : zs.length = n) (h : w5.ownsRow base 5 1 v' (n + 1) (zs.map u8V ++ [.int .u8 b])) (hb : base ≤ w5.heap.size) : Row8 w5 base v' (n + 1) (zs ++ [b]) :=
  ⟨by simpa [u8V] using h, hb, by simp [hl]⟩
set_option maxHeartbeats 2000000 in
theorem wn4_c (base : Nat) (v : Value) (m : Nat) (zs : List Int) (n : Int) (w : World) (h : Row8 w base v m zs) (hn : m < 90000) (h0 : 0 ≤ n) (h1 : n < 4294967296) :
    Calls Try.prog 32 #[v, .int .u32 n, .int .i64 4] w fun e w' => ∃ v', e = .returned v' ∧ Row8 w' base v' (m + 4) (zs ++ be4 n) ∧ Below base w w' := by
  obtain ⟨i0, hi, hz0, hz1, hz2⟩ := info_parts8
  obtain ⟨a0, c0, rfl⟩ := h.slice
  have R0 := hid h
  have hb0 := h.2.1
  clear h
  go_enter Try.func32, Try.ntmps32
  go_wp2
  refine wp_loop_rounds 5 ?_
  rw [rounds_succ]
  go_wp2_with (at_builtin; refine wpList_append_own _ rfl _ _ 22 rfl base 5 i0 (.int .u8 0) 1 1 Try.underlying22 hi hz0 hz1 hz2 rfl (by decide) _ _ _ rfl (R0.out.1.alloc _) ⟨w.heap.size, 0, none⟩ 1 1 [.int .u8 _] rfl rfl (cell_one_new _ _ _) (fun y hy => by simp at hy; subst hy; rfl) (by unfold maxLen; (try simp only [List.length_append, List.length_cons, List.length_nil]); omega) (by (try simp only [List.length_append, List.length_cons, List.length_nil]); omega) (by simp; omega) ?_; intro v1 w1 hown hgrow hnil; (have B1 := hid (row8_below R0.out hgrow)); (have hb1 : base ≤ w1.heap.size := by (have := B1.out.size; omega)); (have R1 := hid (Row8.snoc R0.out.2.2 hown hb1)); (obtain ⟨a1, c1, rfl⟩ := R1.out.slice); clear hown hgrow hnil)
  rw [rounds_succ]
  go_wp2_with (at_builtin; refine wpList_append_own _ rfl _ _ 22 rfl base 5 i0 (.int .u8 0) 1 1 Try.underlying22 hi hz0 hz1 hz2 rfl (by decide) _ _ _ rfl (R1.out.1.alloc _) ⟨w1.heap.size, 0, none⟩ 1 1 [.int .u8 _] rfl rfl (cell_one_new _ _ _) (fun y hy => by simp at hy; subst hy; rfl) (by unfold maxLen; (try simp only [List.length_append, List.length_cons, List.length_nil]); omega) (by (try simp only [List.length_append, List.length_cons, List.length_nil]); omega) (by simp; omega) ?_; intro v2 w2 hown hgrow hnil; (have B2 := hid (row8_below R1.out hgrow)); (have hb2 : base ≤ w2.heap.size := by (have := B2.out.size; omega)); (have R2 := hid (Row8.snoc R1.out.2.2 hown hb2)); (obtain ⟨a2, c2, rfl⟩ := R2.out.slice); clear hown hgrow hnil)
  rw [rounds_succ]
  go_wp2_with (at_builtin; refine wpList_append_own _ rfl _ _ 22 rfl base 5 i0 (.int .u8 0) 1 1 Try.underlying22 hi hz0 hz1 hz2 rfl (by decide) _ _ _ rfl (R2.out.1.alloc _) ⟨w2.heap.size, 0, none⟩ 1 1 [.int .u8 _] rfl rfl (cell_one_new _ _ _) (fun y hy => by simp at hy; subst hy; rfl) (by unfold maxLen; (try simp only [List.length_append, List.length_cons, List.length_nil]); omega) (by (try simp only [List.length_append, List.length_cons, List.length_nil]); omega) (by simp; omega) ?_; intro v3 w3 hown hgrow hnil; (have B3 := hid (row8_below R2.out hgrow)); (have hb3 : base ≤ w3.heap.size := by (have := B3.out.size; omega)); (have R3 := hid (Row8.snoc R2.out.2.2 hown hb3)); (obtain ⟨a3, c3, rfl⟩ := R3.out.slice); clear hown hgrow hnil)
  rw [rounds_succ]
  go_wp2_with (at_builtin; refine wpList_append_own _ rfl _ _ 22 rfl base 5 i0 (.int .u8 0) 1 1 Try.underlying22 hi hz0 hz1 hz2 rfl (by decide) _ _ _ rfl (R3.out.1.alloc _) ⟨w3.heap.size, 0, none⟩ 1 1 [.int .u8 _] rfl rfl (cell_one_new _ _ _) (fun y hy => by simp at hy; subst hy; rfl) (by unfold maxLen; (try simp only [List.length_append, List.length_cons, List.length_nil]); omega) (by (try simp only [List.length_append, List.length_cons, List.length_nil]); omega) (by simp; omega) ?_; intro v4 w4 hown hgrow hnil; (have B4 := hid (row8_below R3.out hgrow)); (have hb4 : base ≤ w4.heap.size := by (have := B4.out.size; omega)); (have R4 := hid (Row8.snoc R3.out.2.2 hown hb4)); (obtain ⟨a4, c4, rfl⟩ := R4.out.slice); clear hown hgrow hnil)
  rw [rounds_succ]
  go_wp2
  go_ret
  have e1 : n / 16777216 % 256 = n / 16777216 := by omega
  have q := R4.out
  have e2 : zs ++ [n / 16777216] ++ [n / 65536 % 256] ++ [n / 256 % 256] ++ [n % 256] = zs ++ be4 n := by simp [be4, e1]
  rw [e2] at q
  exact ⟨_, rfl, q, (((B1.out).trans B2.out).trans B3.out).trans B4.out⟩
set_option maxHeartbeats 2000000 in
theorem wn2_c (base : Nat) (v : Value) (m : Nat) (zs : List Int) (n : Int) (w : World) (h : Row8 w base v m zs) (hn : m < 90000) (h0 : 0 ≤ n) (h1 : n < 4294967296) :
    Calls Try.prog 32 #[v, .int .u32 n, .int .i64 2] w fun e w' => ∃ v', e = .returned v' ∧ Row8 w' base v' (m + 2) (zs ++ be2 n) ∧ Below base w w' := by
  obtain ⟨i0, hi, hz0, hz1, hz2⟩ := info_parts8
  obtain ⟨a0, c0, rfl⟩ := h.slice
  have R0 := hid h
  have hb0 := h.2.1
  clear h
  go_enter Try.func32, Try.ntmps32
  go_wp2
  refine wp_loop_rounds 3 ?_
  rw [rounds_succ]
  go_wp2_with (at_builtin; refine wpList_append_own _ rfl _ _ 22 rfl base 5 i0 (.int .u8 0) 1 1 Try.underlying22 hi hz0 hz1 hz2 rfl (by decide) _ _ _ rfl (R0.out.1.alloc _) ⟨w.heap.size, 0, none⟩ 1 1 [.int .u8 _] rfl rfl (cell_one_new _ _ _) (fun y hy => by simp at hy; subst hy; rfl) (by unfold maxLen; (try simp only [List.length_append, List.length_cons, List.length_nil]); omega) (by (try simp only [List.length_append, List.length_cons, List.length_nil]); omega) (by simp; omega) ?_; intro v1 w1 hown hgrow hnil; (have B1 := hid (row8_below R0.out hgrow)); (have hb1 : base ≤ w1.heap.size := by (have := B1.out.size; omega)); (have R1 := hid (Row8.snoc R0.out.2.2 hown hb1)); (obtain ⟨a1, c1, rfl⟩ := R1.out.slice); clear hown hgrow hnil)
  rw [rounds_succ]
  go_wp2_with (at_builtin; refine wpList_append_own _ rfl _ _ 22 rfl base 5 i0 (.int .u8 0) 1 1 Try.underlying22 hi hz0 hz1 hz2 rfl (by decide) _ _ _ rfl (R1.out.1.alloc _) ⟨w1.heap.size, 0, none⟩ 1 1 [.int .u8 _] rfl rfl (cell_one_new _ _ _) (fun y hy => by simp at hy; subst hy; rfl) (by unfold maxLen; (try simp only [List.length_append, List.length_cons, List.length_nil]); omega) (by (try simp only [List.length_append, List.length_cons, List.length_nil]); omega) (by simp; omega) ?_; intro v2 w2 hown hgrow hnil; (have B2 := hid (row8_below R1.out hgrow)); (have hb2 : base ≤ w2.heap.size := by (have := B2.out.size; omega)); (have R2 := hid (Row8.snoc R1.out.2.2 hown hb2)); (obtain ⟨a2, c2, rfl⟩ := R2.out.slice); clear hown hgrow hnil)
  rw [rounds_succ]
  go_wp2
  go_ret
  have e1 : n / 16777216 % 256 = n / 16777216 := by omega
  have q := R2.out
  have e2 : zs ++ [n / 256 % 256] ++ [n % 256] = zs ++ be2 n := by simp [be2, e1]
  rw [e2] at q
  exact ⟨_, rfl, q, (B1.out).trans B2.out⟩
set_option maxHeartbeats 4000000 in
theorem write_0 (base g o : Nat) (te tn : Int) (tb : ByteArray) (v : Value) (m : Nat) (zs : List Int) (w : World) (h : Row8 w base v m zs) (hg : g < base) (hn : m < 60000) (hte : 0 ≤ te ∧ te < 4294967296) (htn : 0 ≤ tn ∧ tn < 4294967296) (htb : tb.size ≤ 16384)
    (c0 : w.cell? ⟨g, o, none⟩ = some (.int .u8 0)) (c1 : w.cell? ⟨g, o + 1, none⟩ = some (.int .u32 te)) (c2 : w.cell? ⟨g, o + 2, none⟩ = some (.int .u32 tn)) (c3 : w.cell? ⟨g, o + 3, none⟩ = some (.string tb)) :
    Calls Try.prog 22 #[.pointer (some ⟨g, o, none⟩), v] w fun e w' => ∃ v', e = .returned v' ∧ Row8 w' base v' (m + (tkB ⟨0, te, tn, tb⟩).length) (zs ++ tkB ⟨0, te, tn, tb⟩) ∧ Below base w w' := by
  obtain ⟨i0, hi, hz0, hz1, hz2⟩ := info_parts8
  obtain ⟨a0, d0, rfl⟩ := h.slice
  have R0 := hid h
  have hb0 := h.2.1
  have FX : Hid (∀ W, Below base w W → W.cell? ⟨g, o, none⟩ = some (.int .u8 0) ∧ W.cell? ⟨g, o + 1, none⟩ = some (.int .u32 te) ∧ W.cell? ⟨g, o + 2, none⟩ = some (.int .u32 tn) ∧ W.cell? ⟨g, o + 3, none⟩ = some (.string tb)) := fun W hW => by
    have e := hW.block g hg
    exact ⟨by rw [World.cell?_of_block (a := ⟨g, o, none⟩) e]; exact c0, by rw [World.cell?_of_block (a := ⟨g, o + 1, none⟩) e]; exact c1, by rw [World.cell?_of_block (a := ⟨g, o + 2, none⟩) e]; exact c2, by rw [World.cell?_of_block (a := ⟨g, o + 3, none⟩) e]; exact c3⟩
  clear h
  go_enter Try.func22, Try.ntmps22
  go_wp2_with (at_builtin; refine wpList_append_own _ rfl _ _ 22 rfl base 5 i0 (.int .u8 0) 1 1 Try.underlying22 hi hz0 hz1 hz2 rfl (by decide) _ _ _ rfl (R0.out.1.alloc _) ⟨w.heap.size, 0, none⟩ 1 1 [.int .u8 _] rfl rfl (cell_one_new _ _ _) (fun y hy => by simp at hy; subst hy; rfl) (by unfold maxLen; omega) (by omega) (by simp; omega) ?_; intro v1 w1 hown hgrow hnil; (have B1 := hid (row8_below R0.out hgrow)); (have hb1 : base ≤ w1.heap.size := by (have := B1.out.size; omega)); (have R1 := hid (Row8.snoc R0.out.2.2 hown hb1)); (obtain ⟨a1, d1, rfl⟩ := R1.out.slice); clear hown hgrow hnil c0 c1 c2 c3; (obtain ⟨c0, c1, c2, c3⟩ := FX.out _ B1.out); (have W4 := hid (wn4_c base _ _ _ te w1 R1.out (by omega) hte.1 hte.2)))
  go_ret
  exact ⟨_, rfl, R1.out, B1.out⟩
set_option maxHeartbeats 4000000 in
theorem write_1 (base g o : Nat) (te tn : Int) (tb : ByteArray) (v : Value) (m : Nat) (zs : List Int) (w : World) (h : Row8 w base v m zs) (hg : g < base) (hn : m < 60000) (hte : 0 ≤ te ∧ te < 4294967296) (htn : 0 ≤ tn ∧ tn < 4294967296) (htb : tb.size ≤ 16384)
    (c0 : w.cell? ⟨g, o, none⟩ = some (.int .u8 1)) (c1 : w.cell? ⟨g, o + 1, none⟩ = some (.int .u32 te)) (c2 : w.cell? ⟨g, o + 2, none⟩ = some (.int .u32 tn)) (c3 : w.cell? ⟨g, o + 3, none⟩ = some (.string tb)) :
    Calls Try.prog 22 #[.pointer (some ⟨g, o, none⟩), v] w fun e w' => ∃ v', e = .returned v' ∧ Row8 w' base v' (m + (tkB ⟨1, te, tn, tb⟩).length) (zs ++ tkB ⟨1, te, tn, tb⟩) ∧ Below base w w' := by
  obtain ⟨i0, hi, hz0, hz1, hz2⟩ := info_parts8
  obtain ⟨a0, d0, rfl⟩ := h.slice
  have R0 := hid h
  have hb0 := h.2.1
  have FX : Hid (∀ W, Below base w W → W.cell? ⟨g, o, none⟩ = some (.int .u8 1) ∧ W.cell? ⟨g, o + 1, none⟩ = some (.int .u32 te) ∧ W.cell? ⟨g, o + 2, none⟩ = some (.int .u32 tn) ∧ W.cell? ⟨g, o + 3, none⟩ = some (.string tb)) := fun W hW => by
    have e := hW.block g hg
    exact ⟨by rw [World.cell?_of_block (a := ⟨g, o, none⟩) e]; exact c0, by rw [World.cell?_of_block (a := ⟨g, o + 1, none⟩) e]; exact c1, by rw [World.cell?_of_block (a := ⟨g, o + 2, none⟩) e]; exact c2, by rw [World.cell?_of_block (a := ⟨g, o + 3, none⟩) e]; exact c3⟩
  clear h
  go_enter Try.func22, Try.ntmps22
  go_wp2_with (first
    | (go_at_call 32; refine W5.out.mono ?_; rintro _ w3 ⟨v3, rfl, hR3, hB3⟩; (have B3 := hid (B2.out.trans hB3)); (have R3 := hid hR3); (obtain ⟨a3, d3, rfl⟩ := hR3.slice); clear hR3 hB3 W5 c0 c1 c2 c3; (obtain ⟨c0, c1, c2, c3⟩ := FX.out _ B3.out))
    | (go_at_call 32; refine W4.out.mono ?_; rintro _ w2 ⟨v2, rfl, hR2, hB2⟩; (have B2 := hid (B1.out.trans hB2)); (have R2 := hid hR2); (obtain ⟨a2, d2, rfl⟩ := hR2.slice); clear hR2 hB2 W4 c0 c1 c2 c3; (obtain ⟨c0, c1, c2, c3⟩ := FX.out _ B2.out); (have W5 := hid (wn4_c base _ _ _ tn w2 R2.out (by omega) htn.1 htn.2)))
    | (at_builtin; refine wpList_append_own _ rfl _ _ 22 rfl base 5 i0 (.int .u8 0) 1 1 Try.underlying22 hi hz0 hz1 hz2 rfl (by decide) _ _ _ rfl (R0.out.1.alloc _) ⟨w.heap.size, 0, none⟩ 1 1 [.int .u8 _] rfl rfl (cell_one_new _ _ _) (fun y hy => by simp at hy; subst hy; rfl) (by unfold maxLen; omega) (by omega) (by simp; omega) ?_; intro v1 w1 hown hgrow hnil; (have B1 := hid (row8_below R0.out hgrow)); (have hb1 : base ≤ w1.heap.size := by (have := B1.out.size; omega)); (have R1 := hid (Row8.snoc R0.out.2.2 hown hb1)); (obtain ⟨a1, d1, rfl⟩ := R1.out.slice); clear hown hgrow hnil c0 c1 c2 c3; (obtain ⟨c0, c1, c2, c3⟩ := FX.out _ B1.out); (have W4 := hid (wn4_c base _ _ _ te w1 R1.out (by omega) hte.1 hte.2))))
  go_ret
  have q := R3.out
  have e1 : m + (tkB ⟨1, te, tn, tb⟩).length = m + 1 + 4 + 4 := by simp [tkB, be4]
  refine ⟨_, rfl, ?_, B3.out⟩
  rw [e1]
  simpa [tkB] using q
set_option maxHeartbeats 4000000 in
theorem write_2 (base g o : Nat) (te tn : Int) (tb : ByteArray) (v : Value) (m : Nat) (zs : List Int) (w : World) (h : Row8 w base v m zs) (hg : g < base) (hn : m < 60000) (hte : 0 ≤ te ∧ te < 4294967296) (htn : 0 ≤ tn ∧ tn < 4294967296) (htb : tb.size ≤ 16384)
    (c0 : w.cell? ⟨g, o, none⟩ = some (.int .u8 2)) (c1 : w.cell? ⟨g, o + 1, none⟩ = some (.int .u32 te)) (c2 : w.cell? ⟨g, o + 2, none⟩ = some (.int .u32 tn)) (c3 : w.cell? ⟨g, o + 3, none⟩ = some (.string tb)) :
    Calls Try.prog 22 #[.pointer (some ⟨g, o, none⟩), v] w fun e w' => ∃ v', e = .returned v' ∧ Row8 w' base v' (m + (tkB ⟨2, te, tn, tb⟩).length) (zs ++ tkB ⟨2, te, tn, tb⟩) ∧ Below base w w' := by
  obtain ⟨i0, hi, hz0, hz1, hz2⟩ := info_parts8
  obtain ⟨a0, d0, rfl⟩ := h.slice
  have R0 := hid h
  have hb0 := h.2.1
  have FX : Hid (∀ W, Below base w W → W.cell? ⟨g, o, none⟩ = some (.int .u8 2) ∧ W.cell? ⟨g, o + 1, none⟩ = some (.int .u32 te) ∧ W.cell? ⟨g, o + 2, none⟩ = some (.int .u32 tn) ∧ W.cell? ⟨g, o + 3, none⟩ = some (.string tb)) := fun W hW => by
    have e := hW.block g hg
    exact ⟨by rw [World.cell?_of_block (a := ⟨g, o, none⟩) e]; exact c0, by rw [World.cell?_of_block (a := ⟨g, o + 1, none⟩) e]; exact c1, by rw [World.cell?_of_block (a := ⟨g, o + 2, none⟩) e]; exact c2, by rw [World.cell?_of_block (a := ⟨g, o + 3, none⟩) e]; exact c3⟩
  clear h
  go_enter Try.func22, Try.ntmps22
  go_wp2_with (first
    | (at_builtin; refine Lib.wpList_append_own_string _ rfl _ _ 22 9 rfl base 5 i0 Try.underlying22 Try.underlying9 hi hz0 hz1 hz2 _ _ _ rfl R4.out.1 tb rfl (by unfold maxLen; omega) (by omega) (by omega) ?_; intro v5 w5 hown5 hgrow5 hnil5; (have B5 := hid (B4.out.trans (row8_belowT R4.out hgrow5))); (have S5 := hid hown5); (obtain ⟨a5, n5, d5, rfl⟩ := own_slice hown5); clear hown5 hgrow5 hnil5)
    | (go_at_call 32; refine W6.out.mono ?_; rintro _ w4 ⟨v4, rfl, hR4, hB4⟩; (have B4 := hid (B3.out.trans hB4)); (have R4 := hid hR4); (have hb4 := hR4.2.1); (obtain ⟨a4, d4, rfl⟩ := hR4.slice); clear hR4 hB4 W6 c0 c1 c2 c3; (obtain ⟨c0, c1, c2, c3⟩ := FX.out _ B4.out))
    | (go_at_call 32; refine W5.out.mono ?_; rintro _ w3 ⟨v3, rfl, hR3, hB3⟩; (have B3 := hid (B2.out.trans hB3)); (have R3 := hid hR3); (obtain ⟨a3, d3, rfl⟩ := hR3.slice); clear hR3 hB3 W5 c0 c1 c2 c3; (obtain ⟨c0, c1, c2, c3⟩ := FX.out _ B3.out); (have W6 := hid (wn2_c base _ _ _ (tb.size : Int) w3 R3.out (by omega) (by omega) (by omega))))
    | (go_at_call 32; refine W4.out.mono ?_; rintro _ w2 ⟨v2, rfl, hR2, hB2⟩; (have B2 := hid (B1.out.trans hB2)); (have R2 := hid hR2); (obtain ⟨a2, d2, rfl⟩ := hR2.slice); clear hR2 hB2 W4 c0 c1 c2 c3; (obtain ⟨c0, c1, c2, c3⟩ := FX.out _ B2.out); (have W5 := hid (wn4_c base _ _ _ tn w2 R2.out (by omega) htn.1 htn.2)))
    | (at_builtin; refine wpList_append_own _ rfl _ _ 22 rfl base 5 i0 (.int .u8 0) 1 1 Try.underlying22 hi hz0 hz1 hz2 rfl (by decide) _ _ _ rfl (R0.out.1.alloc _) ⟨w.heap.size, 0, none⟩ 1 1 [.int .u8 _] rfl rfl (cell_one_new _ _ _) (fun y hy => by simp at hy; subst hy; rfl) (by unfold maxLen; omega) (by omega) (by simp; omega) ?_; intro v1 w1 hown hgrow hnil; (have B1 := hid (row8_below R0.out hgrow)); (have hb1 : base ≤ w1.heap.size := by (have := B1.out.size; omega)); (have R1 := hid (Row8.snoc R0.out.2.2 hown hb1)); (obtain ⟨a1, d1, rfl⟩ := R1.out.slice); clear hown hgrow hnil c0 c1 c2 c3; (obtain ⟨c0, c1, c2, c3⟩ := FX.out _ B1.out); (have W4 := hid (wn4_c base _ _ _ te w1 R1.out (by omega) hte.1 hte.2))))
  go_ret
  refine ⟨_, rfl, ⟨?_, ?_, ?_⟩, B5.out⟩
  · have q := S5.out
    rw [strCells_bs] at q
    have e1 : m + (tkB ⟨2, te, tn, tb⟩).length = m + 1 + 4 + 4 + 2 + tb.size := by simp [tkB, be4, be2, Fr.bs_length]; omega
    rw [e1]
    simpa [tkB] using q
  · have := B5.out.size; omega
  · simp [R0.out.2.2]
theorem write_c (base g o : Nat) (t : Tk) (ht : t.Wf) (v : Value) (m : Nat) (zs : List Int) (w : World) (h : Row8 w base v m zs) (hg : g < base) (hn : m < 60000)
    (c0 : w.cell? ⟨g, o, none⟩ = some (.int .u8 t.st)) (c1 : w.cell? ⟨g, o + 1, none⟩ = some (.int .u32 t.ep)) (c2 : w.cell? ⟨g, o + 2, none⟩ = some (.int .u32 t.num)) (c3 : w.cell? ⟨g, o + 3, none⟩ = some (.string t.body)) :
    Calls Try.prog 22 #[.pointer (some ⟨g, o, none⟩), v] w fun e w' => ∃ v', e = .returned v' ∧ Row8 w' base v' (m + (tkB t).length) (zs ++ tkB t) ∧ Below base w w' := by
  obtain ⟨st, te, tn, tb⟩ := t
  obtain ⟨h1, h2, h3, h4⟩ := ht
  simp only at h1 h2 h3 h4 c0 c1 c2 c3
  have hst : st = 0 ∨ st = 1 ∨ st = 2 := by omega
  rcases hst with rfl | rfl | rfl
  · exact write_0 base g o te tn tb v m zs w h hg hn h2 h3 h4 c0 c1 c2 c3
  · exact write_1 base g o te tn tb v m zs w h hg hn h2 h3 h4 c0 c1 c2 c3
  · exact write_2 base g o te tn tb v m zs w h hg hn h2 h3 h4 c0 c1 c2 c3
theorem tkB_len (t : Tk) (ht : t.Wf) : (tkB t).length ≤ 16395 := by
  obtain ⟨_, _, _, h4⟩ := ht
  unfold tkB
  split
  · simp
  · split
    · simp [be4]
    · simp [be4, be2, Fr.bs_length]; omega
end Go.Proofs.Ytmoeljieafninaa
