/-
  
-/
import Derived.Test.YtfmghbennahlfaaGreatCnAr
import Derived.Test.YtfmghbennahlfaaGreatCnAz
namespace Go.Proofs.YtfmghbennahlfaaGreat
open Go.RowKit Go.ChangeShapes Go.WideShapes Go.ChangeAt Go.Maps Go.Shelf
set_option linter.unusedVariables false
set_option linter.unusedSimpArgs false
set_option maxRecDepth 100000
end Go.Proofs.YtfmghbennahlfaaGreat
namespace Go.Proofs.YtfmghbennahlfaaGreat
open Go.RowKit Go.ChangeShapes Go.WideShapes Go.ChangeAt Go.Maps
set_option linter.unusedVariables false
set_option linter.unusedSimpArgs false
def updL (c : Int → Option Sec) (st : Nat) (ss : List (List Int)) : Int → Option Sec := fun i => if (st : Int) ≤ i ∧ i < ((st + ss.length : Nat) : Int) then some (ss.getD (i - st).toNat []) else c i
theorem updL_nil (c : Int → Option Sec) (st : Nat) : updL c st [] = c := by
 funext i; unfold updL; rw [if_neg (by simp)]
theorem updL_snoc (c : Int → Option Sec) (st : Nat) (ss : List (List Int)) (s : List Int) : upd (updL c st ss) ((st + ss.length : Nat) : Int) (some s) = updL c st (ss ++ [s]) := by
 funext i
 unfold upd updL
 by_cases h : i = ((st + ss.length : Nat) : Int)
 · rw [if_pos h, if_pos (by subst h; simp; omega)]
   have : (i - st).toNat = ss.length := by omega
   rw [this]; simp [List.getD]
 · rw [if_neg h]
   by_cases h2 : (st : Int) ≤ i ∧ i < ((st + ss.length : Nat) : Int)
   · rw [if_pos h2, if_pos (by simp; omega)]
     have : (i - st).toNat < ss.length := by omega
     rw [List.getD, List.getD, List.getElem?_append_left this]
   · rw [if_neg h2, if_neg (by simp; omega)]
theorem IsD.mapAt {w : World} {d b1 b2 N : Nat} {on : Int → Sec} {c : Int → Option Sec} (h : IsD w d b1 b2 N on c) : (∃ es cl, w.heap[b2]? = some (.map es cl)) ∧ ∃ es cl, w.heap[b1]? = some (.map es cl) := by
 obtain ⟨_, _, _, _, ⟨⟨D2, ⟨es2, cl2, hb2, _⟩, _⟩, _⟩, m, ⟨⟨D1, ⟨es1, cl1, hb1, _⟩, _⟩, _⟩, _⟩ := h
 exact ⟨⟨_, _, hb2⟩, _, _, hb1⟩
theorem cell_not_map {w : World} {q : Nat} {es : _} {cl : _} (h : w.heap[q]? = some (.map es cl)) (o : Nat) : w.cell? ⟨q, o, none⟩ = none := by simp [World.cell?, h]
theorem IsSS.notMap {w : World} {b off n : Nat} {ss : List (List Int)} (h : IsSS w (some ⟨b, off, none⟩) n ss) (hn : 0 < n) {q : Nat} {es : _} {cl : _} (hq : w.heap[q]? = some (.map es cl)) : b ≠ q := by
 intro e
 subst e
 obtain ⟨r1, s1⟩ := h.at 0 hn
 have hl : 0 < (ss.getD 0 []).length := by rw [s1.1]; omega
 have := r1 0 _ (by simp only [List.getElem?_map, List.getElem?_eq_getElem hl]; rfl)
 rw [cell_not_map hq] at this
 cases this
theorem IsJ.parts {w : World} {j d b1 b2 N : Nat} {on : Int → Sec} {c : Int → Option Sec} (h : IsJ w j d b1 b2 N on c) : j ≠ b1 ∧ j ≠ b2 ∧ j < w.heap.size := by
 obtain ⟨⟨es, cl, h2⟩, es', cl', h1⟩ := h.2.1.mapAt
 refine ⟨fun e => ?_, fun e => ?_, lt_blk h.1⟩
 · have := h.1; rw [e, h1] at this; cases this
 · have := h.1; rw [e, h2] at this; cases this
set_option maxRecDepth 100000 in
set_option maxHeartbeats 4000000 in
theorem jwrite_c {w : World} {j d b1 b2 N : Nat} {on : Int → Sec} {c : Int → Option Sec} (h : IsJ w j d b1 b2 N on c) (st : Nat) (b off n cap : Nat) (ss : List (List Int)) (hS : IsSS w (some ⟨b, off, none⟩) n ss) (hst : st + n ≤ N) (hn0 : 0 < n) :
   Calls Tryz.prog 148 #[pB j, .agg #[.int .i64 st, .slice (some ⟨b, off, none⟩) n cap]] w fun e w' => e = .returned (.tuple #[]) ∧ IsJ w' j d b1 b2 N on (updL c st ss) ∧ Out (fun k => k = b2) w w' := by
 have zz := zlit
 have hN := h.2.1.two
 have hl := hS.1
 have hb1 : Below w.heap.size w (w.alloc (.cells #[.int .i64 st, .slice (some ⟨b, off, none⟩) n cap] 235)) := (Below.refl _ _).alloc (Nat.le_refl _) _
 have n1 := heap_alloc_new w (.cells #[.int .i64 st, .slice (some ⟨b, off, none⟩) n cap] 235)
 have A1 := alloc_facts w (.cells #[.int .i64 st, .slice (some ⟨b, off, none⟩) n cap] 235)
 have hJ1 := h.later hb1
 have hS1 := hS.later hb1
 have o1 : Out (fun k => k = b2) w (w.alloc (.cells #[.int .i64 st, .slice (some ⟨b, off, none⟩) n cap] 235)) := Out.of hb1
 have hq1 : (w.alloc (.cells #[.int .i64 st, .slice (some ⟨b, off, none⟩) n cap] 235)).cell? ⟨w.heap.size, 1, none⟩ = some (.slice (some ⟨b, off, none⟩) n cap) := by rw [cell_of_row _ _ 1 _ _ _ n1]; rfl
 have hb2lt : b2 < w.heap.size := by obtain ⟨⟨es, cl, h2⟩, _⟩ := h.2.1.mapAt; exact lt_blk h2
 have HW : Hid (Out (fun k => k = b2) w (w.alloc (.cells #[.int .i64 st, .slice (some ⟨b, off, none⟩) n cap] 235))) := o1
 clear h hS
 go_enter Tryz.func148, Tryz.ntmps148
 go_wp2
 generalize (w.alloc (.cells #[.int .i64 st, .slice (some ⟨b, off, none⟩) n cap] 235)) = W1 at *
 have hz1 := A1.1
 go_loopw [9] (fun i wr => ∃ m : Nat, m ≤ n ∧ i = .int .i64 m ∧ IsJ wr j d b1 b2 N on (updL c st (ss.take m)) ∧ Out (fun k => k = b2) W1 wr) (fun i _ => n - (intOf i).toNat)
 case atStart => exact ⟨0, Nat.zero_le _, rfl, by rw [List.take_zero, updL_nil]; exact hJ1, Out.refl _ _⟩
 case round =>
   obtain ⟨m, hm, rfl, hJ, hO⟩ := hrel
   have hOz := hO.size
   by_cases hlt : m < n
   · obtain ⟨⟨es, cl, hmp⟩, _⟩ := hJ1.2.1.mapAt
     have hbb : b ≠ b2 := hS1.notMap hn0 hmp
     have hbl : b < W1.heap.size := by
       obtain ⟨r1, s1⟩ := hS1.at 0 hn0
       have hl0 : 0 < (ss.getD 0 []).length := by rw [s1.1]; omega
       exact World.block_lt_of_cell? W1 _ (r1 0 _ (by simp only [List.getElem?_map, List.getElem?_eq_getElem hl0]; rfl))
     have hSr := hS1.blk (hO.block b hbl hbb)
     obtain ⟨r1, s1⟩ := hSr.at m hlt
     have nb : wr.heap[w.heap.size]? = some (.cells #[.int .i64 st, .slice (some ⟨b, off, none⟩) n cap] 235 (0, 0)) := by rw [hO.block _ (by omega) (by omega)]; exact n1
     have HT : Hid (ss.take (m + 1) = ss.take m ++ [ss.getD m []]) := by
       show _ = _
       rw [List.take_succ_eq_append_getElem (by omega)]; simp [List.getD, show m < ss.length by omega]
     have htl : (ss.take m).length = m := by rw [List.length_take]; omega
     generalize ss.getD m [] = S at *
     have hi1 : (Tryz.prog.info? 260).map (·.size) = some (S.map by8).length := by rw [sizeS]; simp [s1.1]
     have hs32 := s1.1
     have hb3 : Below wr.heap.size wr (wr.alloc (.cells (S.map by8).toArray 260)) := (Below.refl _ _).alloc (Nat.le_refl _) _
     have n3 := heap_alloc_new wr (.cells (S.map by8).toArray 260)
     have A3 := alloc_facts wr (.cells (S.map by8).toArray 260)
     have hJ3 := hJ.later hb3
     have hjp := hJ3.parts
     have cj3 := hJ3.cell
     have q3 : (wr.alloc (.cells (S.map by8).toArray 260)).cell? ⟨w.heap.size, 0, none⟩ = some (.int .i64 st) := by
       rw [cell_of_row _ _ 0 _ _ _ (show (wr.alloc (.cells (S.map by8).toArray 260)).heap[w.heap.size]? = some (.cells #[.int .i64 st, .slice (some ⟨b, off, none⟩) n cap] 235 (0, 0)) by rw [A3.2.1 _ (by omega)]; exact nb)]; rfl
     have nb3 : (wr.alloc (.cells (S.map by8).toArray 260)).heap[w.heap.size]? = some (.cells #[.int .i64 st, .slice (some ⟨b, off, none⟩) n cap] 235 (0, 0)) := by rw [A3.2.1 _ (by omega)]; exact nb
     have rS3 : (wr.alloc (.cells (S.map by8).toArray 260)).rangeAt wr.heap.size 0 (S.map by8) := range_sec n3
     have WC := hid (write_c (w := (wr.alloc (.cells (S.map by8).toArray 260)).drew) hJ3.2.1 ((st + m : Nat) : Int) S (sct_sec s1) (by omega) (by omega))
     have HUS : Hid (upd (updL c st (ss.take m)) ((st + m : Nat) : Int) (some S) = updL c st (ss.take (m + 1))) := by
       show _ = _
       have := updL_snoc c st (ss.take m) S
       rw [htl] at this
       rw [this, HT.out]
     have HJ3 := hid hJ3
     have HO := hid hO
     have HO3 : Hid (Out (fun k => k = b2) W1 (wr.alloc (.cells (S.map by8).toArray 260))) := hO.trans (Out.of hb3)
     have hb2r : b2 < wr.heap.size := by omega
     have pw : IntKind.i64.wrap ((st : Int) + (m : Int)) = ((st + m : Nat) : Int) := by rw [M.wrap_i64]; unfold wrap64; push_cast; omega
     have hu := Tryz.underlying260
     clear hJ hO hJ3 nb n3 HT hb3
     unfold secV at WC
     go_wp2_with (first
       | (refine wpList_load_mid rfl _ _ rfl b (off + m * 32) rfl (S.map by8) _ r1 Tryz.underlying260 rfl hi1 ?_)
       | (refine wpList_storeS _ rfl _ _ _ rfl sizeS _ rfl (by simp) S rfl hs32 _ (by simp; decide) ?_))
     go_region_held3 (fun w' => w'.cell? ⟨j, 0, none⟩ = some (pD d) ∧ w'.cell? ⟨w.heap.size, 0, none⟩ = some (.int .i64 st) ∧ w'.rangeAt wr.heap.size 0 (S.map by8)) (first | exact K5 | go_keep_ranges)
       ((go_at_call 208; refine WC.out.mono ?_; rintro e w5 ⟨rfl, hD5, hO5⟩; (have O5 : Out (fun k => k = b2) (wr.alloc (.cells (S.map by8).toArray 260)) w5 := ((Out.refl _ _).drew).trans hO5); (have K5 : w5.cell? ⟨j, 0, none⟩ = some (pD d) ∧ w5.cell? ⟨w.heap.size, 0, none⟩ = some (.int .i64 st) ∧ w5.rangeAt wr.heap.size 0 (S.map by8) := ⟨by rw [World.cell?_of_block (a := ⟨j, 0, none⟩) (O5.block j hjp.2.2 hjp.2.1)]; exact cj3, by rw [World.cell?_of_block (a := ⟨w.heap.size, 0, none⟩) (O5.block w.heap.size (by rw [A3.1]; omega) (by omega))]; exact q3, fun jj v hv => by rw [World.cell?_of_block (a := ⟨wr.heap.size, 0 + jj, none⟩) (O5.block wr.heap.size (by rw [A3.1]; omega) (by omega))]; exact rS3 jj v hv⟩)))
     go_wp2
     go_roundw
     case rel => exact ⟨m + 1, by omega, by go_num, ⟨by rw [O5.block j hjp.2.2 hjp.2.1]; exact HJ3.out.1, by rw [← HUS.out]; exact hD5, HJ3.out.2.2⟩, HO3.out.trans O5⟩
     case measure => simp [intOf]; omega
   · have em : m = n := by omega
     have ht : ss.take m = ss := List.take_of_length_le (by omega)
     rw [ht] at hJ
     have HJ := hid hJ
     clear hJ
     go_wp2
     exact body_end (by kernel_rfl) rfl ⟨rfl, HJ.out, HW.out.trans hO⟩
def updO (f : Int → Sec) (st : Nat) (ss : List (List Int)) : Int → Sec := fun i => if (st : Int) ≤ i ∧ i < ((st + ss.length : Nat) : Int) then ss.getD (i - st).toNat [] else f i
theorem updL_updO (on : Int → Sec) (c : Int → Option Sec) (st : Nat) (ss : List (List Int)) : (fun i => (updL c st ss i).getD (on i)) = updO (vw on c) st ss := by
 funext i; unfold updL updO vw; split <;> simp
theorem vw_none (on : Int → Sec) : vw on (fun _ => none) = on := rfl
theorem IsSS.lt {w : World} {b off n : Nat} {ss : List (List Int)} (h : IsSS w (some ⟨b, off, none⟩) n ss) (hn : 0 < n) : b < w.heap.size := by
 obtain ⟨r1, s1⟩ := h.at 0 hn
 have hl0 : 0 < (ss.getD 0 []).length := by rw [s1.1]; omega
 exact World.block_lt_of_cell? w _ (r1 0 _ (by simp only [List.getElem?_map, List.getElem?_eq_getElem hl0]; rfl))
theorem IsSS.disk {w w' : World} {b off n : Nat} {ss : List (List Int)} {d b1 b2 N : Nat} {on : Int → Sec} {c : Int → Option Sec} (h : IsSS w (some ⟨b, off, none⟩) n ss) (hn : 0 < n) (hD : IsD w d b1 b2 N on c) (ho : Out (fun k => k = b1 ∨ k = b2) w w') : IsSS w' (some ⟨b, off, none⟩) n ss := by
 obtain ⟨⟨es, cl, h2⟩, es', cl', h1⟩ := hD.mapAt
 exact h.blk (ho.block b (h.lt hn) (by rintro (e | e); exact h.notMap hn h1 e; exact h.notMap hn h2 e))
theorem IsJ.flushed {w w' : World} {j d b1 b2 N : Nat} {on on' : Int → Sec} {c c' : Int → Option Sec} (h : IsJ w j d b1 b2 N on c) (hD : IsD w' d b1 b2 N on' c') (ho : Out (fun k => k = b1 ∨ k = b2) w w') : IsJ w' j d b1 b2 N on' c' := by
 have hp := h.parts
 exact ⟨by rw [ho.block j hp.2.2 (by rintro (e | e); exact hp.1 e; exact hp.2.1 e)]; exact h.1, hD, h.2.2⟩
theorem index0 (a b c d : Value) (w : World) : (Instr.index 236 (.agg #[a, b, c, d]) (.int .i64 0)).run Tryz.prog w = .ok (.agg #[a, b]) w := by
 simp [Instr.index, run_underlying Tryz.underlying236, asIntOf, part, Tryz.sizeOf235, run_underlying Tryz.underlying235, Result.andThen, go_sem]
theorem index1 (a b c d : Value) (w : World) : (Instr.index 236 (.agg #[a, b, c, d]) (.int .i64 1)).run Tryz.prog w = .ok (.agg #[c, d]) w := by
 simp [Instr.index, run_underlying Tryz.underlying236, asIntOf, part, Tryz.sizeOf235, run_underlying Tryz.underlying235, Result.andThen, go_sem]
set_option maxHeartbeats 1000000 in
theorem carry_err (j : Nat) (v0 v1 v2 v3 : Value) (e : Int) (he : e ≠ 0) (w : World) :
   Calls Tryz.prog 143 #[pB j, .agg #[v0, v1, v2, v3], .int .i64 e] w fun r w' => r = .returned (.int .i64 e) ∧ Below w.heap.size w w' := by
 have h1 : (e != 0) = true := by simpa using he
 have h2 : (e == 0) = false := by simpa using he
 go_enter Tryz.func143, Tryz.ntmps143
 go_wp2
 go_ret
 exact ⟨rfl, (Below.refl _ _).alloc (Nat.le_refl _) _⟩
set_option maxRecDepth 20000 in
set_option maxHeartbeats 4000000 in
theorem carry_c {w : World} {j d b1 b2 N : Nat} {on : Int → Sec} {c : Int → Option Sec} (h : IsJ w j d b1 b2 N on c) (s0 p0 o0 n0 k0 s1 p1 o1 n1 k1 : Nat) (S0 S1 : List (List Int))
   (hS0 : IsSS w (some ⟨p0, o0, none⟩) n0 S0) (hS1 : IsSS w (some ⟨p1, o1, none⟩) n1 S1) (h0 : 0 < n0) (h1 : 0 < n1) (hn0 : s0 + n0 ≤ N) (hn1 : s1 + n1 ≤ N) :
   Calls Tryz.prog 143 #[pB j, .agg #[.int .i64 s0, .slice (some ⟨p0, o0, none⟩) n0 k0, .int .i64 s1, .slice (some ⟨p1, o1, none⟩) n1 k1], .int .i64 0] w fun r w' => r = .returned (.int .i64 0) ∧ IsJ w' j d b1 b2 N (updO (updO (vw on c) s0 S0) s1 S1) (fun _ => none) ∧ Out (fun k => k = b1 ∨ k = b2) w w' := by
 have H := hid h
 have HS0 := hid hS0
 have HS1 := hid hS1
 clear h hS0 hS1
 go_enter Tryz.func143, Tryz.ntmps143
 go_wp2
 refine wp_loop_rounds 3 ?_
 rw [rounds_succ]
 have x0 := index0 (.int .i64 s0) (.slice (some ⟨p0, o0, none⟩) n0 k0) (.int .i64 s1) (.slice (some ⟨p1, o1, none⟩) n1 k1)
 have x1 := index1 (.int .i64 s0) (.slice (some ⟨p0, o0, none⟩) n0 k0) (.int .i64 s1) (.slice (some ⟨p1, o1, none⟩) n1 k1)
 go_wp2_with fail
 have hBa : Below w.heap.size w ((w.alloc (.cells #[.int .i64 s0, .slice (some ⟨p0, o0, none⟩) n0 k0, .int .i64 s1, .slice (some ⟨p1, o1, none⟩) n1 k1] 236)).alloc (.cells #[.int .i64 s0, .slice (some ⟨p0, o0, none⟩) n0 k0] 235)) := ((Below.refl _ _).alloc (Nat.le_refl _) _).alloc (by simp) _
 generalize ((w.alloc (.cells #[.int .i64 s0, .slice (some ⟨p0, o0, none⟩) n0 k0, .int .i64 s1, .slice (some ⟨p1, o1, none⟩) n1 k1] 236)).alloc (.cells #[.int .i64 s0, .slice (some ⟨p0, o0, none⟩) n0 k0] 235)) = Wa at *
 refine (jwrite_c (H.out.later hBa) s0 p0 o0 n0 k0 S0 (HS0.out.later hBa) hn0 h0).mono ?_
 rintro _ w1 ⟨rfl, hJ1, hO1⟩
 have hO1' : Out (fun k => k = b1 ∨ k = b2) Wa w1 := hO1.mono (fun k e => .inr e)
 have cj1 := hJ1.cell
 have HS11 := hid ((HS1.out.later hBa).disk h1 (H.out.later hBa).2.1 hO1')
 have HJ1 := hid hJ1
 clear hJ1
 go_wp2_with fail
 refine (flush_c HJ1.out.2.1).mono ?_
 rintro _ w2 ⟨rfl, hD2, hO2⟩
 rw [updL_updO] at hD2
 have HJ2 := hid (HJ1.out.flushed hD2 hO2)
 have HS12 := hid (HS11.out.disk h1 HJ1.out.2.1 hO2)
 have HO2 := hid (((Out.of (S := fun k => k = b1 ∨ k = b2) hBa).trans hO1').trans hO2)
 clear hO1 hO1' hO2 cj1 hD2
 go_wp2
 rw [rounds_succ]
 go_wp2_with fail
 have hBb : Below w2.heap.size w2 (w2.alloc (.cells #[.int .i64 s1, .slice (some ⟨p1, o1, none⟩) n1 k1] 235)) := (Below.refl _ _).alloc (Nat.le_refl _) _
 generalize (w2.alloc (.cells #[.int .i64 s1, .slice (some ⟨p1, o1, none⟩) n1 k1] 235)) = Wb at *
 refine (jwrite_c (HJ2.out.later hBb) s1 p1 o1 n1 k1 S1 (HS12.out.later hBb) hn1 h1).mono ?_
 rintro _ w3 ⟨rfl, hJ3, hO3⟩
 have cj3 := hJ3.cell
 have HJ3 := hid hJ3
 clear hJ3
 go_wp2_with fail
 refine (flush_c HJ3.out.2.1).mono ?_
 rintro _ w4 ⟨rfl, hD4, hO4⟩
 rw [updL_updO, vw_none] at hD4
 have HJ4 := hid (HJ3.out.flushed hD4 hO4)
 have HO4 := hid (((HO2.out.trans (Out.of hBb)).trans (hO3.mono (fun k e => .inr e))).trans hO4)
 clear hO3 hO4 cj3 hD4
 go_wp2
 rw [rounds_succ]
 go_wp2
 go_ret
 exact ⟨rfl, HJ4.out, HO4.out⟩
def arSt (v : Int → Sec) (N : Nat) : Nat := 2 + (best v 2).1 * asz N
def arEnd (v : Int → Sec) (N : Nat) : Nat := arSt v N + sumN (grps v N)
def noB : Array Value := #[.int .i64 0, .slice none 0 0, .int .i64 0, .slice none 0 0]
theorem res_row {fn : Func} {p u : Tmp} {ty : TypeId} {nn : Nat} {ee : TypeId} (h : fn.results = #[.cell p ty, .tmp u]) (tmps : Array Value) (w : World) (g : Nat) (hp : tmps.getD p undef = .pointer (some ⟨g, 0, none⟩)) (cs : Array Value) (t : TypeId) (fr : Nat × Nat) (hb : w.heap[g]? = some (.cells cs t fr))
   (hu : Tryz.prog.underlying ty = some (.array nn ee)) (hi : (Tryz.prog.info? ty).map (·.size) = some cs.size) (v : Value) (hv : tmps.getD u undef = v) : (results fn tmps).run Tryz.prog w = .ok (.tuple #[.agg cs, v]) w := by
 have hl := run_loadVar_row (P := Tryz.prog) w g t ty cs fr _ hb hu rfl hi
 rw [results_cell_tmp h, hp, hv]
 simp [asAddr, Result.andThen, hl]
theorem heap_set4 {W : World} {B : Nat} {a b c d : Value} {t : TypeId} (a' b' c' d' : Value) (h : W.heap[B]? = some (.cells #[a, b, c, d] t (0, 0))) :
   ((((W.setCell ⟨B, 0, none⟩ a').setCell ⟨B, 1, none⟩ b').setCell ⟨B, 2, none⟩ c').setCell ⟨B, 3, none⟩ d').heap[B]? = some (.cells #[a', b', c', d'] t (0, 0)) := by
 have h1 := heap_setCell_same W B 0 _ t a' h
 have h2 := heap_setCell_same _ B 1 _ t b' h1
 have h3 := heap_setCell_same _ B 2 _ t c' h2
 have h4 := heap_setCell_same _ B 3 _ t d' h3
 rw [h4]; rfl
theorem size78 : (Tryz.prog.info? 236).map (·.size) = some 4 := by kernel_rfl
def otSt (v : Int → Sec) (N : Nat) : Nat := 2 + (1 - (best v 2).1) * asz N
def RstPost (v : Int → Sec) (N : Nat) (g : Jo.Gr) (w : World) (e : Ending) (w' : World) : Prop :=
 Below w.heap.size w w' ∧
 (Jo.needF g = 0 ∧ e = .returned (.tuple #[.agg noB, .int .i64 2]) ∨
  Jo.needF g ≠ 0 ∧ (asz N < Jo.needF g ∨ (best v 2).2 = 4294967295) ∧ e = .returned (.tuple #[.agg noB, .int .i64 4]) ∨
  Jo.needF g ≠ 0 ∧ Jo.needF g ≤ asz N ∧ (best v 2).2 ≠ 4294967295 ∧ ∃ p o k q r, e = .returned (.tuple #[.agg #[.int .i64 (otSt v N : Nat), .slice (some ⟨p, o, none⟩) (Jo.needF g) k, .int .i64 ((1 - (best v 2).1 : Nat) : Int), .slice (some ⟨q, r, none⟩) 1 1], .int .i64 0]) ∧
    IsSS w' (some ⟨p, o, none⟩) (Jo.needF g) (Jo.laid g ((best v 2).2 + 1) 1) ∧ IsSS w' (some ⟨q, r, none⟩) 1 [Jo.headS ((best v 2).2 + 1)])
set_option maxRecDepth 20000 in
set_option maxHeartbeats 4000000 in
theorem resetting_c {w : World} {j d b1 b2 N : Nat} {on : Int → Sec} {c : Int → Option Sec} (h : IsJ w j d b1 b2 N on c) (a : Option Addr) (len cap : Nat) (g : Jo.Gr) (hG : IsG0 w a len g) :
   Calls Tryz.prog 144 #[pB j, .slice a len cap] w (RstPost (vw on c) N g w) := by
 have hN := h.2.1.two
 have h8 := h.2.2
 have hbb := best_bd (fun i => h.2.1.sec i) 2 (Nat.le_refl _)
 have haz : asz N ≤ 1023 := by unfold asz; omega
 have hb0 : Below w.heap.size w (w.alloc (.cells noB 236)) := (Below.refl _ _).alloc (Nat.le_refl _) _
 have n0 := heap_alloc_new w (.cells noB 236)
 have A0 := alloc_facts w (.cells noB 236)
 have NC := hid (needs_c a len cap g (w.alloc (.cells noB 236)) (hG.later hb0).isG)
 by_cases hz : Jo.needF g = 0
 · rw [hz] at NC
   have HZ := hid hz
   clear hz
   unfold noB at *
   go_enter Tryz.func144, Tryz.ntmps144
   go_wp2_with (go_at_call 199; refine NC.out.mono ?_; rintro e w' ⟨rfl, rfl⟩)
   exact bodyPost_ret (v := .tuple #[.agg noB, .int .i64 2]) (res_row rfl _ _ w.heap.size rfl noB _ _ n0 Tryz.underlying236 size78 _ rfl) rfl ⟨hb0, .inl ⟨HZ.out, rfl⟩⟩
 · have hnl := need_le g
   have hok := (Jo.need_pos hz).1
   have CC := hid (counting_c (h.later hb0))
   have hst : arSt (vw on c) N ≤ 2048 := by
     have : (best (vw on c) 2).1 * asz N ≤ 1 * asz N := Nat.mul_le_mul_right _ hbb.1
     unfold arSt; omega
   have hot : otSt (vw on c) N ≤ 2048 := by
     have : (1 - (best (vw on c) 2).1) * asz N ≤ 1 * asz N := Nat.mul_le_mul_right _ (by omega)
     unfold otSt; omega
   have AR : Hid (∀ W (t : Int), Below w.heap.size w W → Calls Tryz.prog 200 #[pB j, .int .i64 ((1 - (best (vw on c) 2).1 : Nat) : Int), .int .u32 t] W fun e w' => e = .returned (.agg #[.int .i64 ((1 - (best (vw on c) 2).1 : Nat) : Int), .int .u32 t, .int .i64 (otSt (vw on c) N : Nat), .int .i64 ((otSt (vw on c) N + asz N : Nat) : Int)]) ∧ Below W.heap.size W w') := fun W t hW => area_c (h.later hW) (1 - (best (vw on c) 2).1) (by omega) t
   change Hid (Calls Tryz.prog 168 #[pB j] _ fun e w' => e = .returned (.agg #[.int .i64 ((best (vw on c) 2).1 : Nat), .int .u32 (best (vw on c) 2).2, .int .i64 (arSt (vw on c) N : Nat), .int .i64 ((arSt (vw on c) N + asz N : Nat) : Int)]) ∧ _) at CC
   have HG := hid hG
   have hk1 := hbb.1
   have ht := hbb.2
   clear h hG hbb
   unfold RstPost
   have hz0 := A0.1
   have hls := Jo.laid_sct HG.out.isG.bytes (Jo.ok_iff.1 hok).2.1 ((best (vw on c) 2).2 + 1) 1
   have HLD : Hid (Jo.needF g = (Jo.laid g ((best (vw on c) 2).2 + 1) 1).length) := by show _ = _; rw [Jo.laid_len, Jo.need_ok hok]
   generalize otSt (vw on c) N + asz N = oen at *
   generalize otSt (vw on c) N = ost at *
   generalize hlim : arSt (vw on c) N + asz N = lim at *
   generalize arSt (vw on c) N = st at *
   generalize (best (vw on c) 2).2 = t at *
   obtain ⟨kk, hkk⟩ : ∃ kk, kk = (best (vw on c) 2).1 := ⟨_, rfl⟩
   rw [← hkk] at CC AR hk1 ⊢
   clear hkk
   have HGS : Hid (∀ W, t + 1 < 4294967296 → Below w.heap.size w W → Calls Tryz.prog 202 #[.slice a len cap, .int .u32 (t + 1), .int .u32 1] W fun e w' => ∃ v, e = .returned v ∧ w'.ownsRow W.heap.size 260 32 v (Jo.laid g (t + 1) 1).length (scells (Jo.laid g (t + 1) 1)) ∧ Below W.heap.size W w') := fun W h1 hW => groupSectors_c a len cap g (t + 1) 1 W (HG.out.later hW) hok (by omega) (by omega)
   generalize Jo.laid g (t + 1) 1 = LD at *
   generalize Jo.needF g = ng at *
   have hng0 : ((ng : Int) == 0) = false := by simp; omega
   have hng1 : ¬ (ng : Int) = 0 := by omega
   have hls2 : (lim : Int) - (st : Int) = (asz N : Nat) := by omega
   generalize asz N = az at *
   clear hlim
   unfold noB at *
   by_cases hbig : az < ng
   · have hb' : (az : Int) < ng := by omega
     go_enter Tryz.func144, Tryz.ntmps144
     go_wp2_with (first
       | (have _q := K3.out; clear _q; refine wpList_store_row rfl _ _ _ rfl w.heap.size #[.int .i64 0, .slice none 0 0, .int .i64 0, .slice none 0 0] rfl rfl _ _ r3 size78 rfl (by simp [Value.oneCell']) ?_; clear K3)
       | (go_at_call 168; refine CC.out.mono ?_; rintro e w1 ⟨rfl, hb1⟩; (have hB2 : Below w.heap.size w (w1.alloc (.cells #[.int .i64 kk, .int .u32 t, .int .i64 st, .int .i64 lim] 266)) := (hb0.trans (hb1.mono hb0.size)).alloc (Nat.le_trans hb0.size hb1.size) _); (have r3 : (w1.alloc (.cells #[.int .i64 kk, .int .u32 t, .int .i64 st, .int .i64 lim] 266)).heap[w.heap.size]? = some (.cells #[.int .i64 0, .slice none 0 0, .int .i64 0, .slice none 0 0] 236 (0, 0)) := by rw [Below.heap_alloc _ _ _ (by have := hb1.size; omega), hb1.block _ (by omega)]; exact n0); (have K3 : Hid True := hid trivial))
       | (go_at_call 199; refine NC.out.mono ?_; rintro e w' ⟨rfl, rfl⟩))
     exact bodyPost_ret (v := .tuple #[.agg #[.int .i64 0, .slice none 0 0, .int .i64 0, .slice none 0 0], .int .i64 4]) (res_row rfl _ _ w.heap.size rfl #[.int .i64 0, .slice none 0 0, .int .i64 0, .slice none 0 0] _ _ (setRow_heap _ _ _ _ _ _ r3) Tryz.underlying236 size78 _ rfl) rfl ⟨Below.setRow hB2 _ _ (Nat.le_refl _), .inr (.inl ⟨hz, .inl hbig, rfl⟩)⟩
   · have hb' : ¬ (az : Int) < ng := by omega
     by_cases hmx : t = 4294967295
     · have hm1 : (t == 4294967295) = true := by simpa using hmx
       have HMX := hid hmx
       clear hmx
       go_enter Tryz.func144, Tryz.ntmps144
       go_wp2_with (first
         | (have _q := K3.out; clear _q; refine wpList_store_row rfl _ _ _ rfl w.heap.size #[.int .i64 0, .slice none 0 0, .int .i64 0, .slice none 0 0] rfl rfl _ _ r3 size78 rfl (by simp [Value.oneCell']) ?_; clear K3)
         | (go_at_call 168; refine CC.out.mono ?_; rintro e w1 ⟨rfl, hb1⟩; (have hB2 : Below w.heap.size w (w1.alloc (.cells #[.int .i64 kk, .int .u32 t, .int .i64 st, .int .i64 lim] 266)) := (hb0.trans (hb1.mono hb0.size)).alloc (Nat.le_trans hb0.size hb1.size) _); (have r3 : (w1.alloc (.cells #[.int .i64 kk, .int .u32 t, .int .i64 st, .int .i64 lim] 266)).heap[w.heap.size]? = some (.cells #[.int .i64 0, .slice none 0 0, .int .i64 0, .slice none 0 0] 236 (0, 0)) := by rw [Below.heap_alloc _ _ _ (by have := hb1.size; omega), hb1.block _ (by omega)]; exact n0); (have K3 : Hid True := hid trivial))
         | (go_at_call 199; refine NC.out.mono ?_; rintro e w' ⟨rfl, rfl⟩))
       exact bodyPost_ret (v := .tuple #[.agg #[.int .i64 0, .slice none 0 0, .int .i64 0, .slice none 0 0], .int .i64 4]) (res_row rfl _ _ w.heap.size rfl #[.int .i64 0, .slice none 0 0, .int .i64 0, .slice none 0 0] _ _ (setRow_heap _ _ _ _ _ _ r3) Tryz.underlying236 size78 _ rfl) rfl ⟨Below.setRow hB2 _ _ (Nat.le_refl _), .inr (.inl ⟨hz, .inr HMX.out, rfl⟩)⟩
     · have hm1 : (t == 4294967295) = false := by simpa using hmx
       have ht2 : t < 4294967295 := by omega
       have ht0 : 0 ≤ t := ht.1
       obtain ⟨k', hk'⟩ : ∃ k' : Nat, k' = 1 - kk := ⟨_, rfl⟩
       rw [← hk'] at AR ⊢
       have hk2 : (1 : Int) - (kk : Int) = (k' : Int) := by omega
       have HMX := hid hmx
       have HT := hid ht
       have HB := hid hbig
       clear hk' hmx ht hbig
       go_enter Tryz.func144, Tryz.ntmps144
       go_wp2_with (first
         | (go_at_call 201; refine (headSector_c (t + 1) _ (by have := HT.out; omega)).mono ?_; rintro e w5 ⟨rfl, hb5⟩; (have K5 : Hid True := hid trivial))
         | (have _q := K5.out; clear _q; refine wpList_exec rfl (exec_slice1 _ rfl (Jo.headS (t + 1)) rfl (Jo.head_sct (t + 1)).1) ?_; clear K5)
         | (go_at_call 200; refine (AR.out _ _ hB2).mono ?_; rintro e w3 ⟨rfl, hb3⟩)
         | (go_at_call 168; refine CC.out.mono ?_; rintro e w1 ⟨rfl, hb1⟩; (have hB2 : Below w.heap.size w (w1.alloc (.cells #[.int .i64 kk, .int .u32 t, .int .i64 st, .int .i64 lim] 266)) := (hb0.trans (hb1.mono hb0.size)).alloc (Nat.le_trans hb0.size hb1.size) _); (have r3 : (w1.alloc (.cells #[.int .i64 kk, .int .u32 t, .int .i64 st, .int .i64 lim] 266)).heap[w.heap.size]? = some (.cells #[.int .i64 0, .slice none 0 0, .int .i64 0, .slice none 0 0] 236 (0, 0)) := by rw [Below.heap_alloc _ _ _ (by have := hb1.size; omega), hb1.block _ (by omega)]; exact n0); (have K3 : Hid True := hid trivial))
         | (go_at_call 199; refine NC.out.mono ?_; rintro e w' ⟨rfl, rfl⟩))
       have z1 := hb1.size
       have z3 : w1.heap.size + 1 ≤ w3.heap.size := by have := hb3.size; simp at this; omega
       have hB4 : Below w.heap.size w (w3.alloc (.cells #[.int .i64 k', .int .u32 (t + 1), .int .i64 ost, .int .i64 oen] 266)) := (hB2.trans (hb3.mono hB2.size)).alloc (by omega) _
       have r4 : (w3.alloc (.cells #[.int .i64 k', .int .u32 (t + 1), .int .i64 ost, .int .i64 oen] 266)).heap[w.heap.size]? = some (.cells #[.int .i64 0, .slice none 0 0, .int .i64 0, .slice none 0 0] 236 (0, 0)) := by rw [Below.heap_alloc _ _ _ (by omega), hb3.block _ (by simp; omega)]; exact r3
       have x4 := heap_alloc_new w3 (.cells #[.int .i64 k', .int .u32 (t + 1), .int .i64 ost, .int .i64 oen] 266)
       have s4 : (w3.alloc (.cells #[.int .i64 k', .int .u32 (t + 1), .int .i64 ost, .int .i64 oen] 266)).heap.size = w3.heap.size + 1 := by simp
       generalize (w3.alloc (.cells #[.int .i64 k', .int .u32 (t + 1), .int .i64 ost, .int .i64 oen] 266)) = W4 at *
       have z5 := hb5.size
       have hB5 : Below w.heap.size w w5 := hB4.trans (hb5.mono (by omega))
       have x5 : w5.heap[w3.heap.size]? = some (.cells #[.int .i64 k', .int .u32 (t + 1), .int .i64 ost, .int .i64 oen] 266 (0, 0)) := by rw [hb5.block _ (by omega)]; exact x4
       have r5 : w5.heap[w.heap.size]? = some (.cells #[.int .i64 0, .slice none 0 0, .int .i64 0, .slice none 0 0] 236 (0, 0)) := by rw [hb5.block _ (by omega)]; exact r4
       have A6 := alloc_facts w5 (.cells ((Jo.headS (t + 1)).map by8).toArray 260)
       have n6 := heap_alloc_new w5 (.cells ((Jo.headS (t + 1)).map by8).toArray 260)
       have hB6 : Below w.heap.size w (w5.alloc (.cells ((Jo.headS (t + 1)).map by8).toArray 260)) := hB5.alloc hB5.size _
       have x6 : (w5.alloc (.cells ((Jo.headS (t + 1)).map by8).toArray 260)).heap[w3.heap.size]? = some (.cells #[.int .i64 k', .int .u32 (t + 1), .int .i64 ost, .int .i64 oen] 266 (0, 0)) := by rw [A6.2.1 _ (by omega)]; exact x5
       have r6 : (w5.alloc (.cells ((Jo.headS (t + 1)).map by8).toArray 260)).heap[w.heap.size]? = some (.cells #[.int .i64 0, .slice none 0 0, .int .i64 0, .slice none 0 0] 236 (0, 0)) := by rw [A6.2.1 _ (by omega)]; exact r5
       generalize (w5.alloc (.cells ((Jo.headS (t + 1)).map by8).toArray 260)) = W6 at *
       have ar : ∀ V : World, V.heap[w3.heap.size]? = some (.cells #[.int .i64 k', .int .u32 (t + 1), .int .i64 ost, .int .i64 oen] 266 (0, 0)) → V.cell? ⟨w3.heap.size, 0, none⟩ = some (.int .i64 k') ∧ V.cell? ⟨w3.heap.size, 1, none⟩ = some (.int .u32 (t + 1)) ∧ V.cell? ⟨w3.heap.size, 2, none⟩ = some (.int .i64 ost) := fun V hV => ⟨by rw [cell_of_row V _ 0 _ _ _ hV]; rfl, by rw [cell_of_row V _ 1 _ _ _ hV]; rfl, by rw [cell_of_row V _ 2 _ _ _ hV]; rfl⟩
       obtain ⟨g60, g61, g62⟩ := ar W6 x6
       have HAR := hid ar
       have HLS := hid hls
       have hGS7 := hid (HGS.out W6.drew (by have := HT.out; omega) (Below.drew hB6))
       have K6 : W6.drew.cell? ⟨w3.heap.size, 0, none⟩ = some (.int .i64 k') ∧ W6.drew.cell? ⟨w3.heap.size, 1, none⟩ = some (.int .u32 (t + 1)) ∧ W6.drew.cell? ⟨w3.heap.size, 2, none⟩ = some (.int .i64 ost) := ar W6.drew x6
       clear ar hls
       go_region_held3 (fun w' => w'.cell? ⟨w3.heap.size, 0, none⟩ = some (.int .i64 k') ∧ w'.cell? ⟨w3.heap.size, 1, none⟩ = some (.int .u32 (t + 1)) ∧ w'.cell? ⟨w3.heap.size, 2, none⟩ = some (.int .i64 ost)) (first | (with_reducible exact K8 _ _ _ _) | (with_reducible exact K7) | (with_reducible exact K6) | go_keep)
         ((go_at_call 202; refine hGS7.out.mono ?_; rintro e w7 ⟨v7, rfl, hown7, hb7⟩; obtain ⟨sa, k, hv7, hS7, hsc7, hin7⟩ := own_isSS hown7 HLS.out (by rw [← HLD.out]; omega); rw [← HLD.out] at hv7 hS7 hsc7; subst hv7; obtain ⟨p, o, rfl, _⟩ := hS7.2.2.2 (by omega); (have B7 : Below W6.heap.size W6 w7 := ((Below.refl _ W6).drew).trans hb7); (have x7 : w7.heap[w3.heap.size]? = some (.cells #[.int .i64 k', .int .u32 (t + 1), .int .i64 ost, .int .i64 oen] 266 (0, 0)) := by rw [B7.block _ (lt_blk x6)]; exact x6); (have r7 : w7.heap[w.heap.size]? = some (.cells #[.int .i64 0, .slice none 0 0, .int .i64 0, .slice none 0 0] 236 (0, 0)) := by rw [B7.block _ (lt_blk r6)]; exact r6); (have K7 := HAR.out w7 x7); (have K8 : ∀ a b c d : Value, (((((w7.setCell ⟨w.heap.size, 0, none⟩ a).setCell ⟨w.heap.size, 1, none⟩ b).setCell ⟨w.heap.size, 2, none⟩ c).setCell ⟨w.heap.size, 3, none⟩ d)).cell? ⟨w3.heap.size, 0, none⟩ = some (.int .i64 k') ∧ (((((w7.setCell ⟨w.heap.size, 0, none⟩ a).setCell ⟨w.heap.size, 1, none⟩ b).setCell ⟨w.heap.size, 2, none⟩ c).setCell ⟨w.heap.size, 3, none⟩ d)).cell? ⟨w3.heap.size, 1, none⟩ = some (.int .u32 (t + 1)) ∧ (((((w7.setCell ⟨w.heap.size, 0, none⟩ a).setCell ⟨w.heap.size, 1, none⟩ b).setCell ⟨w.heap.size, 2, none⟩ c).setCell ⟨w.heap.size, 3, none⟩ d)).cell? ⟨w3.heap.size, 2, none⟩ = some (.int .i64 ost) := fun a b c d => HAR.out _ (by rw [heap_setCell_other _ _ _ _ (by simp only; omega), heap_setCell_other _ _ _ _ (by simp only; omega), heap_setCell_other _ _ _ _ (by simp only; omega), heap_setCell_other _ _ _ _ (by simp only; omega)]; exact x7)); (have q0 : w7.cell? ⟨w.heap.size, 0, none⟩ = some (.int .i64 0) := by rw [cell_of_row w7 _ 0 _ _ _ r7]; rfl); (have q1 : w7.cell? ⟨w.heap.size, 1, none⟩ = some (.slice none 0 0) := by rw [cell_of_row w7 _ 1 _ _ _ r7]; rfl); (have q2 : w7.cell? ⟨w.heap.size, 2, none⟩ = some (.int .i64 0) := by rw [cell_of_row w7 _ 2 _ _ _ r7]; rfl); (have q3 : w7.cell? ⟨w.heap.size, 3, none⟩ = some (.slice none 0 0) := by rw [cell_of_row w7 _ 3 _ _ _ r7]; rfl); (have f0 : w7.frozen? ⟨w.heap.size, 0, none⟩ = false := by simp [World.frozen?, r7]); (have f1 : w7.frozen? ⟨w.heap.size, 1, none⟩ = false := by simp [World.frozen?, r7]); (have f2 : w7.frozen? ⟨w.heap.size, 2, none⟩ = false := by simp [World.frozen?, r7]); (have f3 : w7.frozen? ⟨w.heap.size, 3, none⟩ = false := by simp [World.frozen?, r7])))
       go_wp2
       have hB7 : Below w.heap.size w w7 := hB6.trans (B7.mono hB6.size)
       have s7 : W6.heap.size ≤ p := (hin7 _ rfl).1
       have hpw : p ≠ w.heap.size := by have := lt_blk r6; omega
       have h5w : w5.heap.size ≠ w.heap.size := by have := lt_blk r5; omega
       have hH7 : IsSS w7 (some ⟨w5.heap.size, 0, none⟩) 1 [Jo.headS (t + 1)] := by
         refine ⟨rfl, by omega, fun s hs => by rw [List.mem_singleton.1 hs]; exact Jo.head_sct _, fun _ => ⟨_, _, rfl, fun i hi => ?_⟩⟩
         have hi0 : i = 0 := by omega
         subst hi0
         exact range_sec (t := 260) (fr := (0, 0)) (by rw [B7.block _ (lt_blk n6)]; exact n6)
       have y8 := heap_set4 (.int .i64 ost) (.slice (some ⟨p, o, none⟩) ng k) (.int .i64 k') (.slice (some ⟨w5.heap.size, 0, none⟩) 1 1) r7
       have hB8 : Below w.heap.size w ((((w7.setCell ⟨w.heap.size, 0, none⟩ (.int .i64 ost)).setCell ⟨w.heap.size, 1, none⟩ (.slice (some ⟨p, o, none⟩) ng k)).setCell ⟨w.heap.size, 2, none⟩ (.int .i64 k')).setCell ⟨w.heap.size, 3, none⟩ (.slice (some ⟨w5.heap.size, 0, none⟩) 1 1)) := (((hB7.setCell (p := ⟨w.heap.size, 0, none⟩) (Nat.le_refl _) _).setCell (p := ⟨w.heap.size, 1, none⟩) (Nat.le_refl _) _).setCell (p := ⟨w.heap.size, 2, none⟩) (Nat.le_refl _) _).setCell (p := ⟨w.heap.size, 3, none⟩) (Nat.le_refl _) _
       have hS8 : IsSS ((((w7.setCell ⟨w.heap.size, 0, none⟩ (.int .i64 ost)).setCell ⟨w.heap.size, 1, none⟩ (.slice (some ⟨p, o, none⟩) ng k)).setCell ⟨w.heap.size, 2, none⟩ (.int .i64 k')).setCell ⟨w.heap.size, 3, none⟩ (.slice (some ⟨w5.heap.size, 0, none⟩) 1 1)) (some ⟨p, o, none⟩) ng LD := hS7.blk (by rw [heap_setCell_other _ _ _ _ hpw, heap_setCell_other _ _ _ _ hpw, heap_setCell_other _ _ _ _ hpw, heap_setCell_other _ _ _ _ hpw])
       have hH8 : IsSS ((((w7.setCell ⟨w.heap.size, 0, none⟩ (.int .i64 ost)).setCell ⟨w.heap.size, 1, none⟩ (.slice (some ⟨p, o, none⟩) ng k)).setCell ⟨w.heap.size, 2, none⟩ (.int .i64 k')).setCell ⟨w.heap.size, 3, none⟩ (.slice (some ⟨w5.heap.size, 0, none⟩) 1 1)) (some ⟨w5.heap.size, 0, none⟩) 1 [Jo.headS (t + 1)] := hH7.blk (by rw [heap_setCell_other _ _ _ _ h5w, heap_setCell_other _ _ _ _ h5w, heap_setCell_other _ _ _ _ h5w, heap_setCell_other _ _ _ _ h5w])
       exact bodyPost_ret (v := .tuple #[.agg #[.int .i64 ost, .slice (some ⟨p, o, none⟩) ng k, .int .i64 k', .slice (some ⟨w5.heap.size, 0, none⟩) 1 1], .int .i64 0]) (res_row rfl _ _ w.heap.size rfl _ _ _ y8 Tryz.underlying236 size78 _ rfl) rfl ⟨hB8, .inr (.inr ⟨hz, Nat.le_of_not_lt HB.out, HMX.out, p, o, k, _, _, rfl, hS8, hH8⟩)⟩
def setTo (v : Int → Sec) (N : Nat) (g : Jo.Gr) : Int → Sec := updO (updO v (otSt v N) (Jo.laid g ((best v 2).2 + 1) 1)) (1 - (best v 2).1) [Jo.headS ((best v 2).2 + 1)]
def SetPost (j d b1 b2 N : Nat) (on : Int → Sec) (c : Int → Option Sec) (g : Jo.Gr) (w : World) (e : Ending) (w' : World) : Prop :=
 (Jo.needF g = 0 ∧ e = .returned (.int .i64 2) ∧ Below w.heap.size w w') ∨
 (Jo.needF g ≠ 0 ∧ (asz N < Jo.needF g ∨ (best (vw on c) 2).2 = 4294967295) ∧ e = .returned (.int .i64 4) ∧ Below w.heap.size w w') ∨
 (Jo.needF g ≠ 0 ∧ Jo.needF g ≤ asz N ∧ (best (vw on c) 2).2 ≠ 4294967295 ∧ e = .returned (.int .i64 0) ∧ IsJ w' j d b1 b2 N (setTo (vw on c) N g) (fun _ => none) ∧ Out (fun k => k = b1 ∨ k = b2) w w')
set_option maxRecDepth 20000 in
set_option maxHeartbeats 2000000 in
theorem reset_c {w : World} {j d b1 b2 N : Nat} {on : Int → Sec} {c : Int → Option Sec} (h : IsJ w j d b1 b2 N on c) (a : Option Addr) (len cap : Nat) (g : Jo.Gr) (hG : IsG0 w a len g) :
   Calls Tryz.prog 80 #[pB j, .slice a len cap] w (SetPost j d b1 b2 N on c g w) := by
 have AC := hid (resetting_c h a len cap g hG)
 have hbb := best_bd (fun i => h.2.1.sec i) 2 (Nat.le_refl _)
 have haz : 2 * asz N + 2 ≤ N := by have := h.2.2; unfold asz; omega
 have hst : otSt (vw on c) N + asz N ≤ N := by
   have : (1 - (best (vw on c) 2).1) * asz N ≤ 1 * asz N := Nat.mul_le_mul_right _ (by omega)
   unfold otSt; omega
 have h8 := h.2.2
 have H := hid h
 clear h hG
 go_enter Tryz.func80, Tryz.ntmps80
 go_wp2_with fail
 refine AC.out.mono ?_
 rintro e w1 ⟨hb1, ⟨hz, rfl⟩ | ⟨hz, hf, rfl⟩ | ⟨hz, hf, hm, p, o, k, q, r, rfl, hS, hH⟩⟩
 · unfold noB
   have CE := hid (carry_err j (.int .i64 0) (.slice none 0 0) (.int .i64 0) (.slice none 0 0) 2 (by decide) w1)
   have HZ := hid hz
   clear hz
   go_wp2_with (go_at_call 143; refine CE.out.mono ?_; rintro e w2 ⟨rfl, hb2⟩)
   go_ret
   exact .inl ⟨HZ.out, rfl, hb1.trans (hb2.mono hb1.size)⟩
 · unfold noB
   have CE := hid (carry_err j (.int .i64 0) (.slice none 0 0) (.int .i64 0) (.slice none 0 0) 4 (by decide) w1)
   have HZ := hid hz
   have HF := hid hf
   clear hz hf
   go_wp2_with (go_at_call 143; refine CE.out.mono ?_; rintro e w2 ⟨rfl, hb2⟩)
   go_ret
   exact .inr (.inl ⟨HZ.out, HF.out, rfl, hb1.trans (hb2.mono hb1.size)⟩)
 · have hl := hS.1
   have h3 : 3 ≤ Jo.needF g := by
     have hp := Jo.need_pos hz
     have hl4 := (Jo.ok_load hp.1).1
     rw [hp.2]; unfold Jo.secsOf Jo.many; omega
   have CC := hid (carry_c (H.out.later hb1) (otSt (vw on c) N) p o (Jo.needF g) k (1 - (best (vw on c) 2).1) q r 1 1 _ _ hS hH (by omega) (by omega) (by omega) (by omega))
   have HZ := hid hz
   have HF := hid hf
   have HM := hid hm
   clear hz hf hm hS hH hl
   go_wp2_with (go_at_call 143; refine CC.out.mono ?_; rintro e w2 ⟨rfl, hJ2, hO2⟩)
   go_ret
   exact .inr (.inr ⟨HZ.out, HF.out, HM.out, rfl, hJ2, (Out.of hb1).trans hO2⟩)
end Go.Proofs.YtfmghbennahlfaaGreat
