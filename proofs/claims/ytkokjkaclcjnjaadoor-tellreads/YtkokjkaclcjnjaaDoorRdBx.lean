/-
  The document's line.
-/
import Derived.Test.YtkokjkaclcjnjaaDoorRdBv
import Derived.Test.YtkokjkaclcjnjaaDoorRdBw
import Derived.Test.YtkokjkaclcjnjaaDoorRdAh
import Derived.Test.YtkokjkaclcjnjaaDoorRdAp
import Derived.Deep.RegionHeld3
namespace Go.Proofs.YtkokjkaclcjnjaaDoor
open Go.RowKit Go.ChangeShapes Go.WideShapes Go.ChangeAt
set_option linter.unusedVariables false
set_option linter.unusedSimpArgs false
set_option maxRecDepth 100000
def LdP (x : Nd) (w : World) (e : Ending) (w' : World) : Prop := (∃ y : Nd, e = .returned y.val ∧ y.er = x ∧ NdB w' w.heap.size y) ∧ Below w.heap.size w w'
theorem no_B (w : World) (base : Nat) : NdB w base Nd.no := ⟨no_in, ⟨by decide, by decide, fun q hq => by cases hq⟩, ⟨fun _ => rfl, fun _ => rfl⟩, .inl rfl, .inl rfl⟩
theorem lineD_len {l : List UInt8} (h : (splN 32 4 l).length ≠ 5) : lineD l = Nd.no := by
 unfold lineD
 split
 · rename_i e; rw [e] at h; exact absurd rfl h
 · rfl
theorem below_six {B blk : Nat} {w w' : World} (h : Below B w w') (hb : B ≤ blk) (v0 v1 v2 v3 v4 v5 : Value) : Below B w ((((((w'.setCell ⟨blk, 0, none⟩ v0).setCell ⟨blk, 1, none⟩ v1).setCell ⟨blk, 2, none⟩ v2).setCell ⟨blk, 3, none⟩ v3).setCell ⟨blk, 4, none⟩ v4).setCell ⟨blk, 5, none⟩ v5) :=
 (((((h.setCell (p := ⟨blk, 0, none⟩) hb _).setCell (p := ⟨blk, 1, none⟩) hb _).setCell (p := ⟨blk, 2, none⟩) hb _).setCell (p := ⟨blk, 3, none⟩) hb _).setCell (p := ⟨blk, 4, none⟩) hb _).setCell (p := ⟨blk, 5, none⟩) hb _
theorem NdB.six {w : World} {base blk : Nat} {x : Nd} (h : NdB w base x) (hb : blk < base) (v0 v1 v2 v3 v4 v5 : Value) : NdB ((((((w.setCell ⟨blk, 0, none⟩ v0).setCell ⟨blk, 1, none⟩ v1).setCell ⟨blk, 2, none⟩ v2).setCell ⟨blk, 3, none⟩ v3).setCell ⟨blk, 4, none⟩ v4).setCell ⟨blk, 5, none⟩ v5) base x :=
 (((((h.setLow hb).setLow hb).setLow hb).setLow hb).setLow hb).setLow hb
theorem cell_of_heap {w w' : World} {g o : Nat} (h : w'.heap[g]? = w.heap[g]?) : w'.cell? ⟨g, o, none⟩ = w.cell? ⟨g, o, none⟩ := by
 unfold World.cell?
 simp only [h]
theorem box_cells6 {w : World} {g : Nat} {v0 v1 v2 v3 v4 v5 : Value} {t : TypeId} {fr : Nat × Nat} (h : w.heap[g]? = some (.cells #[v0, v1, v2, v3, v4, v5] t fr)) : w.cell? ⟨g, 0, none⟩ = some v0 ∧ w.cell? ⟨g, 1, none⟩ = some v1 ∧ w.cell? ⟨g, 2, none⟩ = some v2 ∧ w.cell? ⟨g, 3, none⟩ = some v3 ∧ w.cell? ⟨g, 4, none⟩ = some v4 ∧ w.cell? ⟨g, 5, none⟩ = some v5 := by
 refine ⟨?_, ?_, ?_, ?_, ?_, ?_⟩ <;> (rw [cell_of_row w g _ _ t fr h]; rfl)
theorem ownK_blk {w : World} {base : Nat} {v : Value} {l : List Kd} (h : OwK w base v l) {k : Nat} (hk : v.ownBlock = some k) : k < w.heap.size ∧ base ≤ k ∧ ∃ cur, w.heap[k]? = some (.cells cur 71 (0, 0)) := by
 rcases h.2 with ⟨e, _⟩ | ⟨g, cap, cur, e1, e2, e3, e4⟩
 · rw [e] at hk; cases hk
 · rw [e1] at hk
   cases hk
   exact ⟨lt_blkR e3, e2, cur, e3⟩
theorem MxW.ou {S : Nat → Prop} {w w' : World} (h : MxW w) (ho : Ou S w w') (hn : ¬ S (Tryd.lays145_ren.g 1)) : MxW w' := by
 obtain ⟨m, h⟩ := h
 have hb := World.block_lt_of_cell? _ _ h
 exact ⟨m, (cell_of_heap (ho.block _ hb hn)).trans h⟩
theorem ou_grown {S : Nat → Prop} {a w w' : World} {v : Value} {L : List Kd} (h : Ou S a w) (hO : OwK w a.heap.size v L) (hg : w.grownBy w' v.ownBlock) : Ou S a w' :=
 h.trans' (T := fun k => v.ownBlock = some k) ⟨hg.os, hg.tape, hg.output, hg.size, fun k hk hn => hg.block k hk (fun e => hn e.symm)⟩ (fun k hk => .inr (ownK_blk hO hk).2.1)
theorem own_setLow15 {w : World} {base e size n : Nat} {v : Value} {xs : List Value} (h : w.ownsRow base e size v n xs) {g o : Nat} {u : Value} (hg : g < base) : (w.setCell ⟨g, o, none⟩ u).ownsRow base e size v n xs := by
 refine ⟨h.1, ?_⟩
 rcases h.2 with q | ⟨k, cap, cur, e1, e2, e3, e4⟩
 · exact .inl q
 · exact .inr ⟨k, cap, cur, e1, e2, (heap_setCell_other _ _ _ _ (by show k ≠ g; omega)).trans e3, e4⟩
theorem step_appK15 (w : World) {ops : Array Oper} {o : Oper} {a : Act} {K : Act → World → Prop} {Q : Exit → Act → World → Prop} {E : Prop} (hgd : o.guard = none) (s x : Operand)
   (ho : o.op = .call { callee := .builtin .append, args := #[s, x], argTypes := #[33, 33] })
   (base : Nat) (v : Value) (L : List Kd) (hs : a.eval s = v) (hown : OwK w base v L) (g : Nat) (y : Kd) (hx : a.eval x = .slice (some ⟨g, 0, none⟩) 1 1) (hg : w.heap[g]? = some (.cells y.cells.toArray 71 (0, 0))) (hl : L.length ≤ 20000000) (hb : base ≤ w.heap.size)
   (h : ∀ v' w', OwK w' base v' (L ++ [y]) → w.grownBy w' v.ownBlock → K (a.put o.dst v') w') :
   if Region.wanted o (yielded ops a.tmps) = true then Oper.wp Tryd.prog o a w K Q else E := by
 rw [if_pos (by simp [Region.wanted, hgd])]
 obtain ⟨i0, hi, hz0, hz1, hz2⟩ := info_kid
 refine wp_append_own w s x 33 ho base 71 i0 Kd.no.val 2 24 Tryd.underlying33 hi hz0 hz1 hz2 (by rfl) (by decide) v L.length (kcells L) hs hown ⟨g, 0, none⟩ 1 1 y.cells hx rfl (kid_news hg) (kid_one y) (by unfold maxLen; omega) (by omega) hb ?_
 intro v' w' h1 h2 _
 refine h v' w' ?_ h2
 unfold OwK
 rw [kcells_snoc, List.length_append]
 exact h1
theorem conv_tx15 (W : World) (s : ByteArray) : ∃ W' a c, (convert 9 32 (.string s)).run Tryd.prog W = .ok (.slice a s.size c) W' ∧ RowAt W' W.heap.size 5 a ((Fr.bs s).map u8V) ∧ Below W.heap.size W W' ∧ (a = none → c = 0) := by
 have kc := run_bytes_of_string (P := Tryd.prog) W 9 32 5 s Tryd.underlying9 Tryd.underlying32 Tryd.underlying5
 exact ⟨_, _, _, kc, row_text (heap_alloc_new W.drew _) (Nat.le_refl _), (Below.drew (Below.refl _ _)).alloc (Nat.le_refl _) _, fun e => by cases e⟩
theorem UqP.any {r : Option (List UInt8)} {w w' : World} {e : Ending} (h : UqP r w e w') : ∃ er, e = .returned (.tuple #[.string (tB (r.getD [])), .int .i64 er]) ∧ Below w.heap.size w w' := by
 obtain ⟨h1, h2⟩ := h
 cases r with
 | none => exact ⟨3, h1, h2⟩
 | some o => exact ⟨0, h1, h2⟩
theorem tB_eq (b : List UInt8) (l : List UInt8) : ((tB b).toList == l) = decide (b = l) := by
 rw [Lib.toList_data, tB_data, Bool.eq_iff_iff, decide_eq_true_iff, beq_iff_eq]
set_option maxHeartbeats 8000000 in
theorem rline15_n (s : ByteArray) (w : World) (hs : s.size ≤ 10000000) (hm : MxW w) (q5 : (splN 32 4 s.data.toList).length ≠ 5) :
   Calls Tryd.prog 46 #[.string s] w (LdP (lineD s.data.toList) w) := by
 have b0 := below_1 w (.cells Nd.no.cells.toArray 35)
 have h0 := heap_alloc_new w (.cells Nd.no.cells.toArray 35)
 have hsz : w.heap.size < (w.alloc (.cells Nd.no.cells.toArray 35)).heap.size := lt_blkR h0
 have hmV := hm.later b0
 have SC := hid (splN5_c s (w.alloc (.cells Nd.no.cells.toArray 35)) (by omega) hmV)
 have N := hid (lineD_len q5)
 obtain ⟨R, hR⟩ : ∃ R, R = lineD s.data.toList := ⟨_, rfl⟩
 rw [← hR] at N ⊢
 have H0 := hid h0
 have B0 := hid b0
 have q5I : (((splN 32 4 s.data.toList).length : Int) == 5) = false := by rw [beq_eq_false_iff_ne]; omega
 clear h0 b0 hm hmV hR q5
 generalize splN 32 4 s.data.toList = P at *
 generalize P.length = n5 at *
 go_enter Tryd.func46, Tryd.ntmps46
 go_upto_region 1 with fail
 change Code.wp _ _ _ _ (w.alloc (.cells Nd.no.cells.toArray 35))
 generalize (w.alloc (.cells Nd.no.cells.toArray 35)) = V at *
 go_wp2_with (go_at_call 72; refine SC.out.mono ?_; rintro _ w1 ⟨N1, rfl, _, hb1⟩; have b2 := below_1 w1 (.cells Nd.no.cells.toArray 35); have B2 := hid (hb1.trans (b2.mono hb1.size)); have h3 := (B2.out.block _ hsz).trans H0.out; have h4 := heap_alloc_new w1 (.cells Nd.no.cells.toArray 35); simp only [Nd.no, Nd.cells, List.length_nil] at h3 h4 B2; have fz : ∀ i, (w1.alloc (.cells #[.int .u32 0, .int .u8 0, .int .u16 0, .int .u16 0, .slice none 0 0, .slice none 0 0] 35)).frozen? ⟨w.heap.size, i, none⟩ = false := (fun i => by simp [World.frozen?, h3]); obtain ⟨y0, y1, y2, y3, y4, y5⟩ := nd_cells (x := Nd.no) h3; obtain ⟨z0, z1, z2, z3, z4, z5⟩ := nd_cells (x := Nd.no) h4; simp only [Nd.no, List.length_nil] at y0 y1 y2 y3 y4 y5 z0 z1 z2 z3 z4 z5; clear hb1 h3 h4 b2)
 have B9 : Below w.heap.size w (w1.alloc (.cells #[.int .u32 0, .int .u8 0, .int .u16 0, .int .u16 0, .slice none 0 0, .slice none 0 0] 35)) := B0.out.trans (B2.out.mono B0.out.size)
 refine bodyPost_ret (v := Nd.no.val) (by simp [results, Tryd.results46, go_sem, Nd.val, Nd.no, y0, y1, y2, y3, y4, y5]) rfl ⟨⟨Nd.no, rfl, by rw [N.out]; rfl, no_B _ _⟩, ?_⟩
 exact below_six B9 (Nat.le_refl _) _ _ _ _ _ _
theorem box15_set {w : World} {g : Nat} {arr : Array Value} {T : TypeId} (o : Nat) (v : Value) (h : w.heap[g]? = some (.cells arr T (0, 0))) : (w.setCell ⟨g, o, none⟩ v).heap[g]? = some (.cells (arr.setIfInBounds o v) T (0, 0)) := by
 simp [World.setCell, Array.getElem?_modify, h]
def LdW (w V : World) (g1 G : Nat) (a b c d e : List UInt8) (f m n : Int) (X : World) : Prop := X.heap[G]? = some (.cells #[.int .u32 f, .int .u8 0, .int .u16 m, .int .u16 n, .slice none 0 0, .slice none 0 0] 35 (0, 0)) ∧ X.heap[w.heap.size]? = some (.cells #[.int .u32 0, .int .u8 0, .int .u16 0, .int .u16 0, .slice none 0 0, .slice none 0 0] 35 (0, 0)) ∧ (∃ n, PtW X g1 n [a, b, c, d, e]) ∧ Below V.heap.size V X
set_option maxHeartbeats 8000000 in
theorem rline15_5 (s : ByteArray) (w : World) (hs : s.size ≤ 10000000) (hm : MxW w) (a b c d e : List UInt8) (hP : splN 32 4 s.data.toList = [a, b, c, d, e]) :
   Calls Tryd.prog 46 #[.string s] w (LdP (partD a b c d e) w) := by
 have b0 := below_1 w (.cells Nd.no.cells.toArray 35)
 have h0 := heap_alloc_new w (.cells Nd.no.cells.toArray 35)
 have hsz : w.heap.size < (w.alloc (.cells Nd.no.cells.toArray 35)).heap.size := lt_blkR h0
 have hmV := hm.later b0
 have SC := hid (splN5_c s (w.alloc (.cells Nd.no.cells.toArray 35)) (by omega) hmV)
 have hal : ∀ x ∈ [a, b, c, d, e], x.length ≤ 10000000 := fun x hx => by
   have h1 := join_mem (c := 32) hx
   have h2 := join_spl 32 4 s.data.toList
   rw [hP] at h2
   rw [h2] at h1
   have h3 : s.data.toList.length = s.size := rfl
   omega
 rw [hP] at SC
 simp only [List.length_cons, List.length_nil, Nat.zero_add, Nat.reduceAdd] at SC
 have N1 := hid (fun W => dnum_c (tB a) W (by rw [tB_size]; have := hal a (by simp); unfold maxLen; omega))
 have N2 := hid (fun W => dnum_c (tB c) W (by rw [tB_size]; have := hal c (by simp); unfold maxLen; omega))
 have N3 := hid (fun W => dnum_c (tB d) W (by rw [tB_size]; have := hal d (by simp); unfold maxLen; omega))
 rw [tB_data] at N1 N2 N3
 have hel : e.length + 4 ≤ 10000000 := by
   have h2 := congrArg List.length (join_spl 32 4 s.data.toList)
   rw [hP] at h2
   have h3 : s.data.toList.length = s.size := rfl
   simp only [joinL, List.length_append, List.length_cons] at h2
   omega
 obtain ⟨R, hR⟩ : ∃ R, R = partD a b c d e := ⟨_, rfl⟩
 have HR := hid hR
 rw [← hR]
 unfold partD at HR
 have v1 : IntKind.u32.wrap (numQ a : Int) = ((numQ a % 4294967296 : Nat) : Int) := by rw [IntKind.wrap_u32]; omega
 have v2 : IntKind.u16.wrap (numQ c : Int) = ((numQ c % 65536 : Nat) : Int) := by rw [IntKind.wrap_u16]; omega
 have v3 : IntKind.u16.wrap (numQ d : Int) = ((numQ d % 65536 : Nat) : Int) := by rw [IntKind.wrap_u16]; omega
 have l1 : (0 : Int) ≤ ((numQ a % 4294967296 : Nat) : Int) ∧ ((numQ a % 4294967296 : Nat) : Int) < 4294967296 := by omega
 have l2 : (0 : Int) ≤ ((numQ c % 65536 : Nat) : Int) ∧ ((numQ c % 65536 : Nat) : Int) < 65536 := by omega
 have l3 : (0 : Int) ≤ ((numQ d % 65536 : Nat) : Int) ∧ ((numQ d % 65536 : Nat) : Int) < 65536 := by omega
 generalize ((numQ a % 4294967296 : Nat) : Int) = f at *
 generalize ((numQ c % 65536 : Nat) : Int) = m at *
 generalize ((numQ d % 65536 : Nat) : Int) = n at *
 generalize ((numQ a : Nat) : Int) = f0 at *
 generalize ((numQ c : Nat) : Int) = m0 at *
 generalize ((numQ d : Nat) : Int) = n0 at *
 have H0 := hid h0
 have B0 := hid b0
 have HM := hid hmV
 have HAL := hid hal
 clear h0 b0 hm hmV hR hal hP
 go_enter Tryd.func46, Tryd.ntmps46
 go_upto_region 1 with fail
 change Code.wp _ _ _ _ (w.alloc (.cells Nd.no.cells.toArray 35))
 generalize (w.alloc (.cells Nd.no.cells.toArray 35)) = V at *
 go_upto_region 5 with (go_at_call 72; refine SC.out.mono ?_; rintro _ w1 ⟨Nq, rfl, hp1, hb1⟩; have C1 := hid hb1; have P1 := hid hp1; clear hb1 hp1)
 have hlt1 : V.heap.size < w1.heap.size := by have := P1.out.2 0 a rfl; exact World.block_lt_of_cell? _ _ this
 have b2 := below_1 w1 (.cells Nd.no.cells.toArray 35)
 have B2 := hid (C1.out.trans (b2.mono C1.out.size))
 have P2 := hid (P1.out.later b2)
 have h4 := heap_alloc_new w1 (.cells Nd.no.cells.toArray 35)
 have h3 := (B2.out.block _ hsz).trans H0.out
 have H3 := hid h3
 have H4 := hid h4
 clear b2 h3 h4
 change Code.wp _ _ _ _ (w1.alloc (.cells Nd.no.cells.toArray 35))
 generalize (w1.alloc (.cells Nd.no.cells.toArray 35)) = W2 at *
 have fz : ∀ i, W2.frozen? ⟨w1.heap.size, i, none⟩ = false := fun i => by simp [World.frozen?, H4.out]
 obtain ⟨z0, z1, z2, z3, z4, z5⟩ := nd_cells (x := Nd.no) H4.out
 simp only [Nd.no, List.length_nil] at z0 z1 z2 z3 z4 z5
 obtain ⟨p0, p1, p2, p3, p4⟩ := pt_cells P2.out
 have ne1 : ¬ V.heap.size = w1.heap.size := by omega
 have ne2 : ¬ w1.heap.size = V.heap.size := by omega
 have l0 : ∀ w' : World, (w'.cell? ⟨V.heap.size, 0, none⟩ = some (.string (tB a)) ∧ w'.cell? ⟨V.heap.size, 2, none⟩ = some (.string (tB c)) ∧ w'.cell? ⟨V.heap.size, 3, none⟩ = some (.string (tB d))) → w'.cell? ⟨V.heap.size, 0, none⟩ = some (.string (tB a)) := fun w' h => h.1
 have l2 : ∀ w' : World, (w'.cell? ⟨V.heap.size, 0, none⟩ = some (.string (tB a)) ∧ w'.cell? ⟨V.heap.size, 2, none⟩ = some (.string (tB c)) ∧ w'.cell? ⟨V.heap.size, 3, none⟩ = some (.string (tB d))) → w'.cell? ⟨V.heap.size, 2, none⟩ = some (.string (tB c)) := fun w' h => h.2.1
 have l3 : ∀ w' : World, (w'.cell? ⟨V.heap.size, 0, none⟩ = some (.string (tB a)) ∧ w'.cell? ⟨V.heap.size, 2, none⟩ = some (.string (tB c)) ∧ w'.cell? ⟨V.heap.size, 3, none⟩ = some (.string (tB d))) → w'.cell? ⟨V.heap.size, 3, none⟩ = some (.string (tB d)) := fun w' h => h.2.2
 have hS0 : W2.drew.cell? ⟨V.heap.size, 0, none⟩ = some (.string (tB a)) ∧ W2.drew.cell? ⟨V.heap.size, 2, none⟩ = some (.string (tB c)) ∧ W2.drew.cell? ⟨V.heap.size, 3, none⟩ = some (.string (tB d)) := ⟨p0, p2, p3⟩
 clear p0 p1 p2 p3 p4
 refine wp_region_held_drew (S := fun w' => w'.cell? ⟨V.heap.size, 0, none⟩ = some (.string (tB a)) ∧ w'.cell? ⟨V.heap.size, 2, none⟩ = some (.string (tB c)) ∧ w'.cell? ⟨V.heap.size, 3, none⟩ = some (.string (tB d))) (by kernel_rfl) hS0 (fun hHeld => ?_)
 refine take_l 0 (v := ?_) rfl (by kernel_rfl) (by kernel_rfl) (by kernel_rfl) (fun _ _ _ h => h) (Or.inl ⟨by rfl, ?_⟩) (by assumption) ?_
 rotate_left
 · (intro w' hSw; clear hSw; go_simp; first | done | with_reducible rfl)
 try simp only [Act.put, List.setIfInBounds_toArray, List.set_cons_zero, List.set_cons_succ]
 refine take_l 1 (v := ?_) rfl (by kernel_rfl) (by kernel_rfl) (by kernel_rfl) (fun _ _ _ h => h) (Or.inl ⟨by rfl, ?_⟩) (by assumption) ?_
 rotate_left
 · (intro w' hSw; clear hSw; go_simp; first | done | with_reducible rfl)
 try simp only [Act.put, List.setIfInBounds_toArray, List.set_cons_zero, List.set_cons_succ]
 refine take_l 2 (v := ?_) rfl (by kernel_rfl) (by kernel_rfl) (by kernel_rfl) (fun _ _ _ h => h) (Or.inl ⟨by rfl, ?_⟩) (by assumption) ?_
 rotate_left
 · (intro w' hSw; (have kq := l0 _ hSw); clear hSw; go_simp; first | done | with_reducible rfl)
 try simp only [Act.put, List.setIfInBounds_toArray, List.set_cons_zero, List.set_cons_succ]
 refine take_l 5 (v := ?_) rfl (by kernel_rfl) (by kernel_rfl) (by kernel_rfl) (fun _ _ _ h => h) (Or.inl ⟨by rfl, ?_⟩) (by assumption) ?_
 rotate_left
 · (intro w' hSw; clear hSw; go_simp; first | done | with_reducible rfl)
 try simp only [Act.put, List.setIfInBounds_toArray, List.set_cons_zero, List.set_cons_succ]
 refine take_l 6 (v := ?_) rfl (by kernel_rfl) (by kernel_rfl) (by kernel_rfl) (fun _ _ _ h => h) (Or.inl ⟨by rfl, ?_⟩) (by assumption) ?_
 rotate_left
 · (intro w' hSw; clear hSw; go_simp; first | done | with_reducible rfl)
 try simp only [Act.put, List.setIfInBounds_toArray, List.set_cons_zero, List.set_cons_succ]
 refine take_l 7 (v := ?_) rfl (by kernel_rfl) (by kernel_rfl) (by kernel_rfl) (fun _ _ _ h => h) (Or.inl ⟨by rfl, ?_⟩) (by assumption) ?_
 rotate_left
 · (intro w' hSw; (have kq := l2 _ hSw); clear hSw; go_simp; first | done | with_reducible rfl)
 try simp only [Act.put, List.setIfInBounds_toArray, List.set_cons_zero, List.set_cons_succ]
 refine take_l 10 (v := ?_) rfl (by kernel_rfl) (by kernel_rfl) (by kernel_rfl) (fun _ _ _ h => h) (Or.inl ⟨by rfl, ?_⟩) (by assumption) ?_
 rotate_left
 · (intro w' hSw; clear hSw; go_simp; first | done | with_reducible rfl)
 try simp only [Act.put, List.setIfInBounds_toArray, List.set_cons_zero, List.set_cons_succ]
 refine take_l 11 (v := ?_) rfl (by kernel_rfl) (by kernel_rfl) (by kernel_rfl) (fun _ _ _ h => h) (Or.inl ⟨by rfl, ?_⟩) (by assumption) ?_
 rotate_left
 · (intro w' hSw; clear hSw; go_simp; first | done | with_reducible rfl)
 try simp only [Act.put, List.setIfInBounds_toArray, List.set_cons_zero, List.set_cons_succ]
 refine take_l 12 (v := ?_) rfl (by kernel_rfl) (by kernel_rfl) (by kernel_rfl) (fun _ _ _ h => h) (Or.inl ⟨by rfl, ?_⟩) (by assumption) ?_
 rotate_left
 · (intro w' hSw; (have kq := l3 _ hSw); clear hSw; go_simp; first | done | with_reducible rfl)
 try simp only [Act.put, List.setIfInBounds_toArray, List.set_cons_zero, List.set_cons_succ]
 refine cons_l 3 rfl (by kernel_rfl) (fun K hK => ?_)
 go_simp
 refine (N1.out _).mono ?_; rintro _ _ ⟨rfl, rfl⟩
 go_simp
 refine hK.out _ _ hHeld ?_
 clear hHeld
 intro hHeld
 clear hK K
 try simp only [Act.put, List.setIfInBounds_toArray, List.set_cons_zero, List.set_cons_succ]
 refine take_l 4 (v := ?_) rfl (by kernel_rfl) (by kernel_rfl) (by kernel_rfl) (fun _ _ _ h => h) (Or.inl ⟨by rfl, ?_⟩) (by assumption) ?_
 rotate_left
 · (intro w' hSw; clear hSw; go_simp; first | done | with_reducible rfl)
 try simp only [Act.put, List.setIfInBounds_toArray, List.set_cons_zero, List.set_cons_succ]
 refine take_l 15 (v := ?_) rfl (by kernel_rfl) (by kernel_rfl) (by kernel_rfl) (fun _ _ _ h => h) (Or.inl ⟨by rfl, ?_⟩) (by assumption) ?_
 rotate_left
 · (intro w' hSw; clear hSw; go_simp; first | done | with_reducible rfl)
 try simp only [Act.put, List.setIfInBounds_toArray, List.set_cons_zero, List.set_cons_succ]
 refine cons_l 8 rfl (by kernel_rfl) (fun K hK => ?_)
 go_simp
 refine (N2.out _).mono ?_; rintro _ _ ⟨rfl, rfl⟩
 go_simp
 refine hK.out _ _ hHeld ?_
 clear hHeld
 intro hHeld
 clear hK K
 try simp only [Act.put, List.setIfInBounds_toArray, List.set_cons_zero, List.set_cons_succ]
 refine take_l 9 (v := ?_) rfl (by kernel_rfl) (by kernel_rfl) (by kernel_rfl) (fun _ _ _ h => h) (Or.inl ⟨by rfl, ?_⟩) (by assumption) ?_
 rotate_left
 · (intro w' hSw; clear hSw; go_simp; first | done | with_reducible rfl)
 try simp only [Act.put, List.setIfInBounds_toArray, List.set_cons_zero, List.set_cons_succ]
 refine cons_l 13 rfl (by kernel_rfl) (fun K hK => ?_)
 go_simp
 refine (N3.out _).mono ?_; rintro _ _ ⟨rfl, rfl⟩
 go_simp
 refine hK.out _ _ hHeld ?_
 clear hHeld
 intro hHeld
 clear hK K
 try simp only [Act.put, List.setIfInBounds_toArray, List.set_cons_zero, List.set_cons_succ]
 refine take_l 14 (v := ?_) rfl (by kernel_rfl) (by kernel_rfl) (by kernel_rfl) (fun _ _ _ h => h) (Or.inl ⟨by rfl, ?_⟩) (by assumption) ?_
 rotate_left
 · (intro w' hSw; clear hSw; go_simp; first | done | with_reducible rfl)
 try simp only [Act.put, List.setIfInBounds_toArray, List.set_cons_zero, List.set_cons_succ]
 refine cons_l 16 rfl (by kernel_rfl) (fun K hK => ?_)
 go_simp
 refine hK.out _ _ (by exact ⟨cell_set8 hHeld.1 ne1, cell_set8 hHeld.2.1 ne1, cell_set8 hHeld.2.2 ne1⟩) ?_
 clear hHeld
 intro hHeld
 clear hK K
 try simp only [Act.put, List.setIfInBounds_toArray, List.set_cons_zero, List.set_cons_succ]
 refine take_l 17 (v := ?_) rfl (by kernel_rfl) (by kernel_rfl) (by kernel_rfl) (fun _ _ _ h => h) (Or.inl ⟨by rfl, ?_⟩) (by assumption) ?_
 rotate_left
 · (intro w' hSw; clear hSw; go_simp; first | done | with_reducible rfl)
 try simp only [Act.put, List.setIfInBounds_toArray, List.set_cons_zero, List.set_cons_succ]
 refine cons_l 18 rfl (by kernel_rfl) (fun K hK => ?_)
 go_simp
 refine hK.out _ _ (by exact ⟨cell_set8 hHeld.1 ne1, cell_set8 hHeld.2.1 ne1, cell_set8 hHeld.2.2 ne1⟩) ?_
 clear hHeld
 intro hHeld
 clear hK K
 try simp only [Act.put, List.setIfInBounds_toArray, List.set_cons_zero, List.set_cons_succ]
 refine take_l 19 (v := ?_) rfl (by kernel_rfl) (by kernel_rfl) (by kernel_rfl) (fun _ _ _ h => h) (Or.inl ⟨by rfl, ?_⟩) (by assumption) ?_
 rotate_left
 · (intro w' hSw; clear hSw; go_simp; first | done | with_reducible rfl)
 try simp only [Act.put, List.setIfInBounds_toArray, List.set_cons_zero, List.set_cons_succ]
 refine cons_l 20 rfl (by kernel_rfl) (fun K hK => ?_)
 go_simp
 refine hK.out _ _ (by exact ⟨cell_set8 hHeld.1 ne1, cell_set8 hHeld.2.1 ne1, cell_set8 hHeld.2.2 ne1⟩) ?_
 clear hHeld
 intro hHeld
 clear hK K
 try simp only [Act.put, List.setIfInBounds_toArray, List.set_cons_zero, List.set_cons_succ]
 refine wpAnyH_done (by kernel_rfl) ?_ _
 have hX : LdW w V V.heap.size w1.heap.size a b c d e f m n ((((W2.setCell ⟨w1.heap.size, 0, none⟩ (.int .u32 f)).setCell ⟨w1.heap.size, 2, none⟩ (.int .u16 m)).setCell ⟨w1.heap.size, 3, none⟩ (.int .u16 n)).drew) := by
   have e4 := H4.out
   have e3 := H3.out
   simp only [Nd.cells, Nd.no, List.length_nil] at e4 e3
   have hne : w.heap.size ≠ w1.heap.size := by omega
   refine ⟨?_, ?_, ⟨Nq, P2.out.1, fun j x hx => ?_⟩, ?_⟩
   · have := box15_set 3 (.int .u16 n) (box15_set 2 (.int .u16 m) (box15_set 0 (.int .u32 f) e4))
     show (World.setCell _ _ _).heap[_]? = _
     simpa using this
   · show (World.setCell _ _ _).heap[_]? = _
     rw [heap_setCell_other _ _ _ _ hne, heap_setCell_other _ _ _ _ hne, heap_setCell_other _ _ _ _ hne]
     exact e3
   · show (World.setCell _ _ _).cell? _ = _
     exact cell_set8 (cell_set8 (cell_set8 (P2.out.2 j x hx) ne1) ne1) ne1
   · exact Below.drew (((B2.out.setCell (p := ⟨w1.heap.size, 0, none⟩) (by show V.heap.size ≤ w1.heap.size; omega) _).setCell (p := ⟨w1.heap.size, 2, none⟩) (by show V.heap.size ≤ w1.heap.size; omega) _).setCell (p := ⟨w1.heap.size, 3, none⟩) (by show V.heap.size ≤ w1.heap.size; omega) _)
 generalize (((W2.setCell ⟨w1.heap.size, 0, none⟩ (.int .u32 f)).setCell ⟨w1.heap.size, 2, none⟩ (.int .u16 m)).setCell ⟨w1.heap.size, 3, none⟩ (.int .u16 n)).drew = X at *
 clear hHeld hS0 fz z0 z1 z2 z3 z4 z5 l0 l2 l3 H3 H4 B2 P2 P1 C1 N1 N2 N3 v1 v2 v3
 have hlt2 : w1.heap.size < X.heap.size := lt_blkR hX.1
 obtain ⟨x4, x3, ⟨Np, pX⟩, bX⟩ := hX
 obtain ⟨p0, p1, p2, p3, p4⟩ := pt_cells pX
 have fz : ∀ i, X.frozen? ⟨w1.heap.size, i, none⟩ = false := fun i => by simp [World.frozen?, x4]
 have fy : ∀ i, X.frozen? ⟨w.heap.size, i, none⟩ = false := fun i => by simp [World.frozen?, x3]
 obtain ⟨gg0, gg1, gg2, gg3, gg4, gg5⟩ := nd_cells (x := ⟨f, 0, m, n, none, 0, [], none, 0, []⟩) x4
 simp only [List.length_nil] at gg0 gg1 gg2 gg3 gg4 gg5
 have UC := hid (fun W => runq_c (tB e) W (by rw [tB_size]; omega))
 rw [tB_data, ← unq_is] at UC
 have hul : ∀ o, unqL e = some o → o.length ≤ e.length := fun o h => by have h1 := congrArg List.length (unq_back h); have h2 := (quote_len o).1; omega
 by_cases qd : b = [100, 105, 114]
 · have hkk : kindP b = 2 := by rw [qd]; decide +kernel
   rw [hkk, if_pos rfl, if_pos rfl] at HR
   have d0 := tB_eq b [100, 105, 114]
   rw [decide_eq_true qd] at d0
   have d1 := tB_eq b [102, 105, 108, 101]
   rw [decide_eq_false (by rw [qd]; decide)] at d1
   have d2 := tB_eq b [108, 105, 110, 107]
   rw [decide_eq_false (by rw [qd]; decide)] at d2
   have Y4 : Hid ((X.setCell ⟨w1.heap.size, 1, none⟩ (.int .u8 2)).heap[w1.heap.size]? = some (.cells #[.int .u32 f, .int .u8 2, .int .u16 m, .int .u16 n, .slice none 0 0, .slice none 0 0] 35 (0, 0))) := hid (by have := box15_set 1 (.int .u8 2) x4; simpa using this)
   have Y3 : Hid ((X.setCell ⟨w1.heap.size, 1, none⟩ (.int .u8 2)).heap[w.heap.size]? = some (.cells #[.int .u32 0, .int .u8 0, .int .u16 0, .int .u16 0, .slice none 0 0, .slice none 0 0] 35 (0, 0))) := hid (by rw [heap_setCell_other _ _ _ _ (show w.heap.size ≠ w1.heap.size by omega)]; exact x3)
   have BY : Hid (Below V.heap.size V (X.setCell ⟨w1.heap.size, 1, none⟩ (.int .u8 2))) := hid (bX.setCell (p := ⟨w1.heap.size, 1, none⟩) (by show V.heap.size ≤ w1.heap.size; omega) _)
   have pK : (X.setCell ⟨w1.heap.size, 1, none⟩ (.int .u8 2)).cell? ⟨V.heap.size, 4, none⟩ = some (.string (tB e)) := cell_set8 p4 ne1
   clear hul UC hkk qd
   go_upto_region 13 with fail
   generalize X.setCell ⟨w1.heap.size, 1, none⟩ (.int .u8 2) = X2 at *
   clear x4 x3 bX pX p0 p1 p2 p3 p4 fz fy gg0 gg1 gg2 gg3 gg4 gg5 d0 d1 d2
   have SPC := hid (split_c 44 (tB e) X2 (by rw [tB_size]; omega) (HM.out.later BY.out))
   rw [tB_size, tB_data] at SPC
   go_upto_region 15 with (go_at_call 45; refine SPC.out.mono ?_; rintro _ W5 ⟨rfl, hp5, hb5⟩; have P5 := hid hp5; have B5 := hid hb5; have pE := (cell_later hb5 pK); have K4 := hid ((hb5.block _ (lt_blkR Y4.out)).trans Y4.out); have K3 := hid ((hb5.block _ (lt_blkR Y3.out)).trans Y3.out); clear hp5 hb5 pK)
   have hPl := spl_len 44 e.length e
   have hPx : ∀ x ∈ splN 44 e.length e, x.length ≤ e.length := fun x hx => by have := join_mem (c := 44) hx; rwa [join_spl] at this
   have hKD : kidsD e = if e = [45] then [] else (splN 44 e.length e).map kidD := rfl
   have q45B := tB_eq e [45]
   generalize hPP : splN 44 e.length e = P at *
   have HPP := hid hPP
   clear hPP
   have hW5 : w1.heap.size < W5.heap.size := lt_blkR K4.out
   have hW5w : w.heap.size < W5.heap.size := lt_blkR K3.out
   have hW5m : ¬ Tryd.lays145_ren.g 1 = w1.heap.size := fun e => by obtain ⟨mm, hmm⟩ := HM.out; have := World.block_lt_of_cell? _ _ hmm; simp only at this; omega
   have HKD := hid hKD
   clear hKD
   go_wp2
   go_loopg [6] P.length (fun gk v6 wr => ∃ (i : Nat) (va : Option Addr) (vc : Nat), i + gk = P.length ∧ v6 = .int .i64 i ∧ Hid (OwK wr W5.heap.size (.slice va i vc) ((P.take i).map kidD)) ∧ Hid (wr.heap[w1.heap.size]? = some (.cells #[.int .u32 f, .int .u8 2, .int .u16 m, .int .u16 n, .slice none 0 0, .slice va i vc] 35 (0, 0))) ∧ Hid (Ou (fun k => k = w1.heap.size) W5 wr) ∧ Hid (e = [45] → i = 0))
   case atStart => exact ⟨0, none, 0, by omega, rfl, hid (OwK.nil _ _), K4, hid (Ou.refl _ _), hid (fun _ => rfl)⟩
   case round =>
     obtain ⟨i, va, vc, hi, rfl, HO, HG, HU, H45⟩ := hrel
     have pEr : wr.cell? ⟨V.heap.size, 4, none⟩ = some (.string (tB e)) := by
       have hb : V.heap.size < W5.heap.size := by omega
       have := HU.out.block V.heap.size hb (by omega)
       exact (cell_of_heap this).trans pE
     have K3r := hid ((HU.out.block _ hW5w (by omega)).trans K3.out)
     by_cases go : e ≠ [45] ∧ i < P.length
     · obtain ⟨g1, hlt⟩ := go
       have hltI : (i : Int) < P.length := by omega
       rw [decide_eq_false g1] at q45B
       have hgx : P[i]? = some (P.getD i []) := by rw [List.getD, List.getElem?_eq_getElem hlt]; rfl
       have hmem : P.getD i [] ∈ P := by rw [List.getD, List.getElem?_eq_getElem hlt]; exact List.getElem_mem hlt
       have pI : wr.cell? ⟨X2.heap.size, i, none⟩ = some (.string (tB (P.getD i []))) := by
         have h1 := P5.out.2 i _ hgx
         have hb : X2.heap.size < W5.heap.size := World.block_lt_of_cell? _ _ h1
         have := HU.out.block X2.heap.size hb (by have := BY.out.size; have := lt_blkR Y4.out; omega)
         exact (cell_of_heap this).trans h1
       have hxl := hPx _ hmem
       have TK : Hid ((P.take (i + 1)).map kidD = (P.take i).map kidD ++ [kidD (P.getD i [])]) := hid (by rw [List.take_succ_eq_append_getElem hlt, List.map_append, List.getD, List.getElem?_eq_getElem hlt]; rfl)
       have hKl : ((P.take i).map kidD).length ≤ 20000000 := by rw [List.length_map, List.length_take]; omega
       have CC := hid (cut_c 61 (tB (P.getD i [])) wr (by rw [tB_size]; omega) ((HM.out.later (BY.out.trans (B5.out.mono BY.out.size))).ou HU.out hW5m))
       rw [tB_data] at CC
       have hcs := cut_size 61 (P.getD i [])
       have EK : Hid (kidD (P.getD i []) = ⟨tB (cutL 61 (P.getD i [])).1, ((numQ ((cutL 61 (P.getD i [])).2.getD []) % 4294967296 : Nat) : Int)⟩) := hid rfl
       generalize (cutL 61 (P.getD i [])).2.isSome = cb at *
       generalize (cutL 61 (P.getD i [])).2.getD [] = dg at *
       generalize (cutL 61 (P.getD i [])).1 = nm at *
       generalize P.getD i [] = x at *
       have ND := hid (fun W => dnum_c (tB dg) W (by rw [tB_size]; unfold maxLen; omega))
       rw [tB_data] at ND
       have v5 : IntKind.u32.wrap (numQ dg : Int) = ((numQ dg % 4294967296 : Nat) : Int) := by rw [IntKind.wrap_u32]; omega
       generalize ((numQ dg % 4294967296 : Nat) : Int) = fd at *
       generalize ((numQ dg : Nat) : Int) = fd0 at *
       have hkkl : ((P.take i).map kidD).length = i := by rw [List.length_map, List.length_take]; omega
       generalize (P.take i).map kidD = KK at *
       clear hmem hgx hcs
       go_upto_region 18 with (go_at_call 43; refine CC.out.mono ?_; rintro _ w7 ⟨rfl, hb7⟩; have C7 := hid hb7; clear hb7)
       have G7 : w7.heap[w1.heap.size]? = some (.cells #[.int .u32 f, .int .u8 2, .int .u16 m, .int .u16 n, .slice none 0 0, .slice va i vc] 35 (0, 0)) := (C7.out.block _ (lt_blkR HG.out)).trans HG.out
       have O7 := hid (HO.out.later C7.out)
       obtain ⟨_, _, _, _, _, s5⟩ := box_cells6 G7
       have hS0 : w7.drew.cell? ⟨w1.heap.size, 5, none⟩ = some (.slice va i vc) := s5
       clear pI pEr
       refine wp_region_held_drew (S := fun _ => True) (by kernel_rfl) True.intro (fun hHeld => ?_)
       have HKL : Hid (KK.length = i) := hid hkkl
       clear hkkl
       refine take_l 0 (v := ?_) rfl (by kernel_rfl) (by kernel_rfl) (by kernel_rfl) (fun _ _ _ h => h) (Or.inl ⟨by rfl, ?_⟩) (by assumption) ?_
       rotate_left
       · (intro w' hSw; clear hSw; go_simp; first | done | with_reducible rfl)
       try simp only [Act.put, List.setIfInBounds_toArray, List.set_cons_zero, List.set_cons_succ]
       refine take_l 2 (v := ?_) rfl (by kernel_rfl) (by kernel_rfl) (by kernel_rfl) (fun _ _ _ h => h) (Or.inl ⟨by rfl, ?_⟩) (by assumption) ?_
       rotate_left
       · (intro w' hSw; clear hSw; go_simp; first | done | with_reducible rfl)
       try simp only [Act.put, List.setIfInBounds_toArray, List.set_cons_zero, List.set_cons_succ]
       refine take_l 3 (v := ?_) rfl (by kernel_rfl) (by kernel_rfl) (by kernel_rfl) (fun _ _ _ h => h) (Or.inl ⟨by rfl, ?_⟩) (by assumption) ?_
       rotate_left
       · (intro w' hSw; clear hSw; go_simp; first | done | with_reducible rfl)
       try simp only [Act.put, List.setIfInBounds_toArray, List.set_cons_zero, List.set_cons_succ]
       refine cons_2 1 4 rfl rfl (by kernel_rfl) (fun K hK => ?_) (fun K hK => ?_)
       · skip
         go_simp
         refine hK.out _ _ True.intro ?_
         clear hHeld
         intro hHeld
         clear hK K
         try simp only [Act.put, List.setIfInBounds_toArray, List.set_cons_zero, List.set_cons_succ]
         refine cons_l 4 rfl (by kernel_rfl) (fun K hK => ?_)
         go_simp
         refine (ND.out _).mono ?_; rintro _ _ ⟨rfl, rfl⟩
         go_simp
         refine hK.out _ _ True.intro ?_
         clear hHeld
         intro hHeld
         clear hK K
         try simp only [Act.put, List.setIfInBounds_toArray, List.set_cons_zero, List.set_cons_succ]
         refine take_l 5 (v := ?_) rfl (by kernel_rfl) (by kernel_rfl) (by kernel_rfl) (fun _ _ _ h => h) (Or.inl ⟨by rfl, ?_⟩) (by assumption) ?_
         rotate_left
         · (intro w' hSw; clear hSw; go_simp; first | done | with_reducible rfl)
         try simp only [Act.put, List.setIfInBounds_toArray, List.set_cons_zero, List.set_cons_succ]
         refine take_l 6 (v := ?_) rfl (by kernel_rfl) (by kernel_rfl) (by kernel_rfl) (fun _ _ _ h => h) (Or.inl ⟨by rfl, ?_⟩) (by assumption) ?_
         rotate_left
         · (intro w' hSw; clear hSw; go_simp; first | done | with_reducible rfl)
         try simp only [Act.put, List.setIfInBounds_toArray, List.set_cons_zero, List.set_cons_succ]
         refine cons_l 7 rfl (by kernel_rfl) (fun K hK => ?_)
         go_simp
         refine hK.out _ _ True.intro ?_
         clear hHeld
         intro hHeld
         clear hK K
         try simp only [Act.put, List.setIfInBounds_toArray, List.set_cons_zero, List.set_cons_succ]
         have z8 : Below w7.heap.size w7 ((w7.alloc (.cells #[.string (tB nm), .int .u32 fd] 71)).drew) := Below.drew (below_1 w7 _)
         have G8 : Hid (((w7.alloc (.cells #[.string (tB nm), .int .u32 fd] 71)).drew).heap[w1.heap.size]? = some (.cells #[.int .u32 f, .int .u8 2, .int .u16 m, .int .u16 n, .slice none 0 0, .slice va i vc] 35 (0, 0))) := hid ((z8.block _ (lt_blkR G7)).trans G7)
         have O8 := hid (O7.out.later z8)
         have N8 : Hid (((w7.alloc (.cells #[.string (tB nm), .int .u32 fd] 71)).drew).heap[w7.heap.size]? = some (.cells (⟨tB nm, fd⟩ : Kd).cells.toArray 71 (0, 0))) := hid (heap_alloc_new w7 _)
         have Z8 : Hid (W5.heap.size ≤ ((w7.alloc (.cells #[.string (tB nm), .int .u32 fd] 71)).drew).heap.size) := hid (Nat.le_trans HU.out.size (Nat.le_trans C7.out.size z8.size))
         have U8 : Hid (Ou (fun k => k = w1.heap.size) W5 ((w7.alloc (.cells #[.string (tB nm), .int .u32 fd] 71)).drew)) := hid (HU.out.trans (Ou.of (C7.out.trans (z8.mono C7.out.size))))
         obtain ⟨_, _, _, _, _, s8⟩ := box_cells6 G8.out
         have s8' : (w7.alloc (.cells #[.string (tB nm), .int .u32 fd] 71)).cell? ⟨w1.heap.size, 5, none⟩ = some (.slice va i vc) := s8
         refine cons_l 8 rfl (by kernel_rfl) (fun K hK => ?_)
         refine step_appK15 _ rfl _ _ rfl W5.heap.size _ KK rfl O8.out w7.heap.size ⟨tB nm, fd⟩ rfl N8.out hKl Z8.out ?_
         intro v9 w9 hown9 hgrow9
         have G9 : w9.heap[w1.heap.size]? = some (.cells #[.int .u32 f, .int .u8 2, .int .u16 m, .int .u16 n, .slice none 0 0, .slice va i vc] 35 (0, 0)) := (hgrow9.block _ (lt_blkR G8.out) (fun e => by obtain ⟨_, _, cur, hc⟩ := ownK_blk O8.out e.symm; rw [G8.out] at hc; have := (Obj.cells.inj (Option.some.inj hc)).2.1; revert this; decide)).trans G8.out
         have U9 : Hid (Ou (fun k => k = w1.heap.size) W5 w9) := hid (ou_grown U8.out O8.out hgrow9)
         obtain ⟨a9, c9, rfl⟩ := hown9.shape
         obtain ⟨_, _, _, _, _, s5⟩ := box_cells6 G9
         have fz9 : ∀ i, w9.frozen? ⟨w1.heap.size, i, none⟩ = false := fun i => by simp [World.frozen?, G9]
         have O9 := hid hown9
         clear hown9 hgrow9
         refine hK.out _ _ True.intro ?_
         clear hHeld
         intro hHeld
         clear hK K
         try simp only [Act.put, List.setIfInBounds_toArray, List.set_cons_zero, List.set_cons_succ]
         refine take_l 9 (v := ?_) rfl (by kernel_rfl) (by kernel_rfl) (by kernel_rfl) (fun _ _ _ h => h) (Or.inl ⟨by rfl, ?_⟩) (by assumption) ?_
         rotate_left
         · (intro w' hSw; clear hSw; go_simp; first | done | with_reducible rfl)
         try simp only [Act.put, List.setIfInBounds_toArray, List.set_cons_zero, List.set_cons_succ]
         refine cons_l 10 rfl (by kernel_rfl) (fun K hK => ?_)
         go_simp
         refine hK.out _ _ True.intro ?_
         clear hHeld
         intro hHeld
         clear hK K
         try simp only [Act.put, List.setIfInBounds_toArray, List.set_cons_zero, List.set_cons_succ]
         refine wpAnyH_done (by kernel_rfl) ?_ _
         have hlK : KK.length = i := by have := HKL.out; exact this
         have OA : Hid (OwK (w9.setCell ⟨w1.heap.size, 5, none⟩ (.slice a9 (KK.length + 1) c9)) W5.heap.size (.slice a9 (i + 1) c9) (KK ++ [⟨tB nm, fd⟩])) := hid (by
           have h5 := own_setLow15 O9.out (g := w1.heap.size) (o := 5) (u := .slice a9 (KK.length + 1) c9) hW5
           unfold OwK
           rw [List.length_append, List.length_singleton, hlK] at h5 ⊢
           exact h5)
         have GA : Hid ((w9.setCell ⟨w1.heap.size, 5, none⟩ (.slice a9 (KK.length + 1) c9)).heap[w1.heap.size]? = some (.cells #[.int .u32 f, .int .u8 2, .int .u16 m, .int .u16 n, .slice none 0 0, .slice a9 (i + 1) c9] 35 (0, 0))) := hid (by
           have := box15_set 5 (.slice a9 (KK.length + 1) c9) G9
           rw [hlK] at this ⊢
           simpa using this)
         have UA : Hid (Ou (fun k => k = w1.heap.size) W5 (w9.setCell ⟨w1.heap.size, 5, none⟩ (.slice a9 (KK.length + 1) c9))) := hid (U9.out.trans ⟨rfl, rfl, rfl, by simp [World.setCell], fun k _ hk => heap_setCell_other _ _ _ _ hk⟩)
         generalize (w9.setCell ⟨w1.heap.size, 5, none⟩ (.slice a9 (KK.length + 1) c9)) = WA at *
         clear hHeld s5 fz9 G9 hlK
         go_wp2
         go_roundg (gk - 1)
         case measure => omega
         case rel => exact ⟨i + 1, a9, c9, by omega, by go_num, hid (by rw [TK.out, EK.out]; exact OA.out), GA, UA, hid (fun q => absurd q g1)⟩
       · skip
         go_simp
         refine (ND.out _).mono ?_; rintro _ _ ⟨rfl, rfl⟩
         go_simp
         refine hK.out _ _ True.intro ?_
         clear hHeld
         intro hHeld
         clear hK K
         try simp only [Act.put, List.setIfInBounds_toArray, List.set_cons_zero, List.set_cons_succ]
         refine take_l 5 (v := ?_) rfl (by kernel_rfl) (by kernel_rfl) (by kernel_rfl) (fun _ _ _ h => h) (Or.inl ⟨by rfl, ?_⟩) (by assumption) ?_
         rotate_left
         · (intro w' hSw; clear hSw; go_simp; first | done | with_reducible rfl)
         try simp only [Act.put, List.setIfInBounds_toArray, List.set_cons_zero, List.set_cons_succ]
         refine take_l 6 (v := ?_) rfl (by kernel_rfl) (by kernel_rfl) (by kernel_rfl) (fun _ _ _ h => h) (Or.inl ⟨by rfl, ?_⟩) (by assumption) ?_
         rotate_left
         · (intro w' hSw; clear hSw; go_simp; first | done | with_reducible rfl)
         try simp only [Act.put, List.setIfInBounds_toArray, List.set_cons_zero, List.set_cons_succ]
         refine cons_2 1 7 rfl rfl (by kernel_rfl) (fun K hK => ?_) (fun K hK => ?_)
         · skip
           go_simp
           refine hK.out _ _ True.intro ?_
           clear hHeld
           intro hHeld
           clear hK K
           try simp only [Act.put, List.setIfInBounds_toArray, List.set_cons_zero, List.set_cons_succ]
           refine cons_l 7 rfl (by kernel_rfl) (fun K hK => ?_)
           go_simp
           refine hK.out _ _ True.intro ?_
           clear hHeld
           intro hHeld
           clear hK K
           try simp only [Act.put, List.setIfInBounds_toArray, List.set_cons_zero, List.set_cons_succ]
           have z8 : Below w7.heap.size w7 ((w7.alloc (.cells #[.string (tB nm), .int .u32 fd] 71)).drew) := Below.drew (below_1 w7 _)
           have G8 : Hid (((w7.alloc (.cells #[.string (tB nm), .int .u32 fd] 71)).drew).heap[w1.heap.size]? = some (.cells #[.int .u32 f, .int .u8 2, .int .u16 m, .int .u16 n, .slice none 0 0, .slice va i vc] 35 (0, 0))) := hid ((z8.block _ (lt_blkR G7)).trans G7)
           have O8 := hid (O7.out.later z8)
           have N8 : Hid (((w7.alloc (.cells #[.string (tB nm), .int .u32 fd] 71)).drew).heap[w7.heap.size]? = some (.cells (⟨tB nm, fd⟩ : Kd).cells.toArray 71 (0, 0))) := hid (heap_alloc_new w7 _)
           have Z8 : Hid (W5.heap.size ≤ ((w7.alloc (.cells #[.string (tB nm), .int .u32 fd] 71)).drew).heap.size) := hid (Nat.le_trans HU.out.size (Nat.le_trans C7.out.size z8.size))
           have U8 : Hid (Ou (fun k => k = w1.heap.size) W5 ((w7.alloc (.cells #[.string (tB nm), .int .u32 fd] 71)).drew)) := hid (HU.out.trans (Ou.of (C7.out.trans (z8.mono C7.out.size))))
           obtain ⟨_, _, _, _, _, s8⟩ := box_cells6 G8.out
           have s8' : (w7.alloc (.cells #[.string (tB nm), .int .u32 fd] 71)).cell? ⟨w1.heap.size, 5, none⟩ = some (.slice va i vc) := s8
           refine cons_l 8 rfl (by kernel_rfl) (fun K hK => ?_)
           refine step_appK15 _ rfl _ _ rfl W5.heap.size _ KK rfl O8.out w7.heap.size ⟨tB nm, fd⟩ rfl N8.out hKl Z8.out ?_
           intro v9 w9 hown9 hgrow9
           have G9 : w9.heap[w1.heap.size]? = some (.cells #[.int .u32 f, .int .u8 2, .int .u16 m, .int .u16 n, .slice none 0 0, .slice va i vc] 35 (0, 0)) := (hgrow9.block _ (lt_blkR G8.out) (fun e => by obtain ⟨_, _, cur, hc⟩ := ownK_blk O8.out e.symm; rw [G8.out] at hc; have := (Obj.cells.inj (Option.some.inj hc)).2.1; revert this; decide)).trans G8.out
           have U9 : Hid (Ou (fun k => k = w1.heap.size) W5 w9) := hid (ou_grown U8.out O8.out hgrow9)
           obtain ⟨a9, c9, rfl⟩ := hown9.shape
           obtain ⟨_, _, _, _, _, s5⟩ := box_cells6 G9
           have fz9 : ∀ i, w9.frozen? ⟨w1.heap.size, i, none⟩ = false := fun i => by simp [World.frozen?, G9]
           have O9 := hid hown9
           clear hown9 hgrow9
           refine hK.out _ _ True.intro ?_
           clear hHeld
           intro hHeld
           clear hK K
           try simp only [Act.put, List.setIfInBounds_toArray, List.set_cons_zero, List.set_cons_succ]
           refine take_l 9 (v := ?_) rfl (by kernel_rfl) (by kernel_rfl) (by kernel_rfl) (fun _ _ _ h => h) (Or.inl ⟨by rfl, ?_⟩) (by assumption) ?_
           rotate_left
           · (intro w' hSw; clear hSw; go_simp; first | done | with_reducible rfl)
           try simp only [Act.put, List.setIfInBounds_toArray, List.set_cons_zero, List.set_cons_succ]
           refine cons_l 10 rfl (by kernel_rfl) (fun K hK => ?_)
           go_simp
           refine hK.out _ _ True.intro ?_
           clear hHeld
           intro hHeld
           clear hK K
           try simp only [Act.put, List.setIfInBounds_toArray, List.set_cons_zero, List.set_cons_succ]
           refine wpAnyH_done (by kernel_rfl) ?_ _
           have hlK : KK.length = i := by have := HKL.out; exact this
           have OA : Hid (OwK (w9.setCell ⟨w1.heap.size, 5, none⟩ (.slice a9 (KK.length + 1) c9)) W5.heap.size (.slice a9 (i + 1) c9) (KK ++ [⟨tB nm, fd⟩])) := hid (by
             have h5 := own_setLow15 O9.out (g := w1.heap.size) (o := 5) (u := .slice a9 (KK.length + 1) c9) hW5
             unfold OwK
             rw [List.length_append, List.length_singleton, hlK] at h5 ⊢
             exact h5)
           have GA : Hid ((w9.setCell ⟨w1.heap.size, 5, none⟩ (.slice a9 (KK.length + 1) c9)).heap[w1.heap.size]? = some (.cells #[.int .u32 f, .int .u8 2, .int .u16 m, .int .u16 n, .slice none 0 0, .slice a9 (i + 1) c9] 35 (0, 0))) := hid (by
             have := box15_set 5 (.slice a9 (KK.length + 1) c9) G9
             rw [hlK] at this ⊢
             simpa using this)
           have UA : Hid (Ou (fun k => k = w1.heap.size) W5 (w9.setCell ⟨w1.heap.size, 5, none⟩ (.slice a9 (KK.length + 1) c9))) := hid (U9.out.trans ⟨rfl, rfl, rfl, by simp [World.setCell], fun k _ hk => heap_setCell_other _ _ _ _ hk⟩)
           generalize (w9.setCell ⟨w1.heap.size, 5, none⟩ (.slice a9 (KK.length + 1) c9)) = WA at *
           clear hHeld s5 fz9 G9 hlK
           go_wp2
           go_roundg (gk - 1)
           case measure => omega
           case rel => exact ⟨i + 1, a9, c9, by omega, by go_num, hid (by rw [TK.out, EK.out]; exact OA.out), GA, UA, hid (fun q => absurd q g1)⟩
         · skip
           go_simp
           refine hK.out _ _ True.intro ?_
           clear hHeld
           intro hHeld
           clear hK K
           try simp only [Act.put, List.setIfInBounds_toArray, List.set_cons_zero, List.set_cons_succ]
           have z8 : Below w7.heap.size w7 ((w7.alloc (.cells #[.string (tB nm), .int .u32 fd] 71)).drew) := Below.drew (below_1 w7 _)
           have G8 : Hid (((w7.alloc (.cells #[.string (tB nm), .int .u32 fd] 71)).drew).heap[w1.heap.size]? = some (.cells #[.int .u32 f, .int .u8 2, .int .u16 m, .int .u16 n, .slice none 0 0, .slice va i vc] 35 (0, 0))) := hid ((z8.block _ (lt_blkR G7)).trans G7)
           have O8 := hid (O7.out.later z8)
           have N8 : Hid (((w7.alloc (.cells #[.string (tB nm), .int .u32 fd] 71)).drew).heap[w7.heap.size]? = some (.cells (⟨tB nm, fd⟩ : Kd).cells.toArray 71 (0, 0))) := hid (heap_alloc_new w7 _)
           have Z8 : Hid (W5.heap.size ≤ ((w7.alloc (.cells #[.string (tB nm), .int .u32 fd] 71)).drew).heap.size) := hid (Nat.le_trans HU.out.size (Nat.le_trans C7.out.size z8.size))
           have U8 : Hid (Ou (fun k => k = w1.heap.size) W5 ((w7.alloc (.cells #[.string (tB nm), .int .u32 fd] 71)).drew)) := hid (HU.out.trans (Ou.of (C7.out.trans (z8.mono C7.out.size))))
           obtain ⟨_, _, _, _, _, s8⟩ := box_cells6 G8.out
           have s8' : (w7.alloc (.cells #[.string (tB nm), .int .u32 fd] 71)).cell? ⟨w1.heap.size, 5, none⟩ = some (.slice va i vc) := s8
           refine cons_l 1 rfl (by kernel_rfl) (fun K hK => ?_)
           go_simp
           refine hK.out _ _ True.intro ?_
           clear hHeld
           intro hHeld
           clear hK K
           try simp only [Act.put, List.setIfInBounds_toArray, List.set_cons_zero, List.set_cons_succ]
           refine cons_l 8 rfl (by kernel_rfl) (fun K hK => ?_)
           refine step_appK15 _ rfl _ _ rfl W5.heap.size _ KK rfl O8.out w7.heap.size ⟨tB nm, fd⟩ rfl N8.out hKl Z8.out ?_
           intro v9 w9 hown9 hgrow9
           have G9 : w9.heap[w1.heap.size]? = some (.cells #[.int .u32 f, .int .u8 2, .int .u16 m, .int .u16 n, .slice none 0 0, .slice va i vc] 35 (0, 0)) := (hgrow9.block _ (lt_blkR G8.out) (fun e => by obtain ⟨_, _, cur, hc⟩ := ownK_blk O8.out e.symm; rw [G8.out] at hc; have := (Obj.cells.inj (Option.some.inj hc)).2.1; revert this; decide)).trans G8.out
           have U9 : Hid (Ou (fun k => k = w1.heap.size) W5 w9) := hid (ou_grown U8.out O8.out hgrow9)
           obtain ⟨a9, c9, rfl⟩ := hown9.shape
           obtain ⟨_, _, _, _, _, s5⟩ := box_cells6 G9
           have fz9 : ∀ i, w9.frozen? ⟨w1.heap.size, i, none⟩ = false := fun i => by simp [World.frozen?, G9]
           have O9 := hid hown9
           clear hown9 hgrow9
           refine hK.out _ _ True.intro ?_
           clear hHeld
           intro hHeld
           clear hK K
           try simp only [Act.put, List.setIfInBounds_toArray, List.set_cons_zero, List.set_cons_succ]
           refine take_l 9 (v := ?_) rfl (by kernel_rfl) (by kernel_rfl) (by kernel_rfl) (fun _ _ _ h => h) (Or.inl ⟨by rfl, ?_⟩) (by assumption) ?_
           rotate_left
           · (intro w' hSw; clear hSw; go_simp; first | done | with_reducible rfl)
           try simp only [Act.put, List.setIfInBounds_toArray, List.set_cons_zero, List.set_cons_succ]
           refine cons_l 10 rfl (by kernel_rfl) (fun K hK => ?_)
           go_simp
           refine hK.out _ _ True.intro ?_
           clear hHeld
           intro hHeld
           clear hK K
           try simp only [Act.put, List.setIfInBounds_toArray, List.set_cons_zero, List.set_cons_succ]
           refine wpAnyH_done (by kernel_rfl) ?_ _
           have hlK : KK.length = i := by have := HKL.out; exact this
           have OA : Hid (OwK (w9.setCell ⟨w1.heap.size, 5, none⟩ (.slice a9 (KK.length + 1) c9)) W5.heap.size (.slice a9 (i + 1) c9) (KK ++ [⟨tB nm, fd⟩])) := hid (by
             have h5 := own_setLow15 O9.out (g := w1.heap.size) (o := 5) (u := .slice a9 (KK.length + 1) c9) hW5
             unfold OwK
             rw [List.length_append, List.length_singleton, hlK] at h5 ⊢
             exact h5)
           have GA : Hid ((w9.setCell ⟨w1.heap.size, 5, none⟩ (.slice a9 (KK.length + 1) c9)).heap[w1.heap.size]? = some (.cells #[.int .u32 f, .int .u8 2, .int .u16 m, .int .u16 n, .slice none 0 0, .slice a9 (i + 1) c9] 35 (0, 0))) := hid (by
             have := box15_set 5 (.slice a9 (KK.length + 1) c9) G9
             rw [hlK] at this ⊢
             simpa using this)
           have UA : Hid (Ou (fun k => k = w1.heap.size) W5 (w9.setCell ⟨w1.heap.size, 5, none⟩ (.slice a9 (KK.length + 1) c9))) := hid (U9.out.trans ⟨rfl, rfl, rfl, by simp [World.setCell], fun k _ hk => heap_setCell_other _ _ _ _ hk⟩)
           generalize (w9.setCell ⟨w1.heap.size, 5, none⟩ (.slice a9 (KK.length + 1) c9)) = WA at *
           clear hHeld s5 fz9 G9 hlK
           go_wp2
           go_roundg (gk - 1)
           case measure => omega
           case rel => exact ⟨i + 1, a9, c9, by omega, by go_num, hid (by rw [TK.out, EK.out]; exact OA.out), GA, UA, hid (fun q => absurd q g1)⟩
     · have HR2 : Hid (R = ⟨f, 2, m, n, none, 0, [], none, 0, (P.take i).map kidD⟩) := hid (by
         rw [HR.out, HKD.out]
         by_cases q : e = [45]
         · rw [if_pos q, H45.out q]; rfl
         · rw [if_neg q, List.take_of_length_le (by have : ¬ i < P.length := fun h => go ⟨q, h⟩; omega)])
       have hin : ∀ q ∈ (P.take i).map kidD, 0 ≤ q.fid ∧ q.fid < 4294967296 := fun q hq => by
         obtain ⟨y, _, rfl⟩ := List.mem_map.1 hq
         show 0 ≤ ((numQ _ % 4294967296 : Nat) : Int) ∧ ((numQ _ % 4294967296 : Nat) : Int) < 4294967296
         have := Nat.mod_lt (numQ ((cutL 61 y).2.getD [])) (show 0 < 4294967296 by decide)
         omega
       have hnm : ∀ q ∈ (P.take i).map kidD, q.nm.size ≤ 10000000 := fun q hq => by
         obtain ⟨y, hy, rfl⟩ := List.mem_map.1 hq
         have h1 := hPx y (List.mem_of_mem_take hy)
         have h2 := (cut_size 61 y).1
         show (tB (cutL 61 y).1).size ≤ _
         rw [tB_size]; omega
       have hkl : ((P.take i).map kidD).length = i := by rw [List.length_map, List.length_take]; omega
       have hRow := RowAt.own HO.out rfl (fun e0 => by rw [List.eq_nil_of_length_eq_zero e0]; rfl)
       have hNil : va = none → vc = 0 := by
         rintro rfl
         rcases HO.out.2 with ⟨q, _⟩ | ⟨g, cap, cur, q, _⟩
         · simp only [Value.slice.injEq] at q; exact q.2.2
         · simp at q
       have N5 : NdB wr W5.heap.size ⟨f, 2, m, n, none, 0, [], va, vc, (P.take i).map kidD⟩ := ⟨⟨l1, ⟨by show (0 : Int) ≤ 2; decide, by show (2 : Int) < 256; decide⟩, l2, l3, (fun y hy => by cases hy), hin⟩, ⟨by show 0 ≤ 10000000; omega, by show ((P.take i).map kidD).length ≤ 10000000; omega, hnm⟩, ⟨fun _ => rfl, hNil⟩, .inl rfl, hRow⟩
       have B9 : Below w.heap.size w wr := (B0.out.trans ((BY.out.trans (B5.out.mono BY.out.size)).mono B0.out.size)).trans (HU.out.below (by omega) (fun k hk => by rw [hk]; omega))
       have N6 := hid N5
       have HKL : Hid (((P.take i).map kidD).length = i) := hid hkl
       obtain ⟨z0, z1, z2, z3, z4, z5⟩ := box_cells6 HG.out
       obtain ⟨y0, y1, y2, y3, y4, y5⟩ := box_cells6 K3r.out
       have fy4 : ∀ i, wr.frozen? ⟨w.heap.size, i, none⟩ = false := fun i => by simp [World.frozen?, K3r.out]
       have key : (¬ i < P.length) ∨ (i < P.length ∧ ((tB e).toList == [45]) = true) := by
         by_cases h : i < P.length
         · refine .inr ⟨h, ?_⟩
           rw [q45B, decide_eq_true_iff]
           exact Classical.byContradiction fun q => go ⟨q, h⟩
         · exact .inl h
       generalize (P.take i).map kidD = KK at *
       clear go hin hnm hkl hRow hNil N5 q45B hPx
       rcases key with h | ⟨h, h45⟩
       · have hI : ¬ (i : Int) < P.length := by omega
         clear h
         go_wp2
         refine bodyPost_ret (v := (⟨f, 2, m, n, none, 0, [], va, vc, KK⟩ : Nd).val) (by simp [results, Tryd.results46, go_sem, Nd.val, HKL.out, y0, y1, y2, y3, y4, y5]) rfl ⟨⟨_, rfl, ?_, ?_⟩, ?_⟩
         · rw [HR2.out]; rfl
         · exact (N6.out.six hW5w _ _ _ _ _ _).low (by omega)
         · exact below_six B9 (Nat.le_refl _) _ _ _ _ _ _
       · have hI : (i : Int) < P.length := by omega
         clear h
         go_wp2
         refine bodyPost_ret (v := (⟨f, 2, m, n, none, 0, [], va, vc, KK⟩ : Nd).val) (by simp [results, Tryd.results46, go_sem, Nd.val, HKL.out, y0, y1, y2, y3, y4, y5]) rfl ⟨⟨_, rfl, ?_, ?_⟩, ?_⟩
         · rw [HR2.out]; rfl
         · exact (N6.out.six hW5w _ _ _ _ _ _).low (by omega)
         · exact below_six B9 (Nat.le_refl _) _ _ _ _ _ _
 · have hk2 : kindP b ≠ 2 := fun q => by
     have h1 := (kind_back (b := b) (by omega)).1
     rw [q] at h1
     exact qd (by rw [← h1]; decide +kernel)
   rw [if_neg hk2, if_neg hk2] at HR
   have UC2 := hid (fun W => (UC.out W).mono (fun _ _ h => UqP.any h))
   obtain ⟨U, hU⟩ : ∃ U, U = tB ((unqL e).getD []) := ⟨_, rfl⟩
   have hUs : U.size ≤ 10000000 := by
     rw [hU, tB_size]
     cases h : unqL e with
     | none => simp
     | some o => have := hul o h; simp only [Option.getD_some]; omega
   rw [← hU] at UC2
   have HU := hid hU
   clear hU
   have d0 := tB_eq b [100, 105, 114]
   rw [decide_eq_false qd] at d0
   have d1 := tB_eq b [102, 105, 108, 101]
   have d2 := tB_eq b [108, 105, 110, 107]
   have key : b = [102, 105, 108, 101] ∨ (b ≠ [102, 105, 108, 101] ∧ b = [108, 105, 110, 107]) ∨ (b ≠ [102, 105, 108, 101] ∧ b ≠ [108, 105, 110, 107]) := by
     by_cases q1 : b = [102, 105, 108, 101]
     · exact .inl q1
     · by_cases q2 : b = [108, 105, 110, 107]
       · exact .inr (.inl ⟨q1, q2⟩)
       · exact .inr (.inr ⟨q1, q2⟩)
   rcases key with qk | ⟨q1, qk⟩ | ⟨q1, q2⟩
   · have hkk : kindP b = 1 := by subst qk; decide +kernel
     rw [hkk] at HR
     rw [decide_eq_true qk] at d1
     clear d2
     have Y4 : Hid ((X.setCell ⟨w1.heap.size, 1, none⟩ (.int .u8 1)).heap[w1.heap.size]? = some (.cells #[.int .u32 f, .int .u8 1, .int .u16 m, .int .u16 n, .slice none 0 0, .slice none 0 0] 35 (0, 0))) := hid (by have := box15_set 1 (.int .u8 1) x4; simpa using this)
     have Y3 : Hid ((X.setCell ⟨w1.heap.size, 1, none⟩ (.int .u8 1)).heap[w.heap.size]? = some (.cells #[.int .u32 0, .int .u8 0, .int .u16 0, .int .u16 0, .slice none 0 0, .slice none 0 0] 35 (0, 0))) := hid (by rw [heap_setCell_other _ _ _ _ (show w.heap.size ≠ w1.heap.size by omega)]; exact x3)
     have BY : Hid (Below V.heap.size V (X.setCell ⟨w1.heap.size, 1, none⟩ (.int .u8 1))) := hid (bX.setCell (p := ⟨w1.heap.size, 1, none⟩) (by show V.heap.size ≤ w1.heap.size; omega) _)
     have pK : (X.setCell ⟨w1.heap.size, 1, none⟩ (.int .u8 1)).cell? ⟨V.heap.size, 4, none⟩ = some (.string (tB e)) := cell_set8 p4 ne1
     clear hul UC hkk hk2 qk
     go_upto_region 20 with fail
     generalize X.setCell ⟨w1.heap.size, 1, none⟩ (.int .u8 1) = X2 at *
     go_wp2_with (go_at_call 10; refine (UC2.out _).mono ?_; rintro _ w3 ⟨er, rfl, hb3⟩; have K4 := hid ((hb3.block _ (lt_blkR Y4.out)).trans Y4.out); have K3 := hid ((hb3.block _ (lt_blkR Y3.out)).trans Y3.out); have B3 := hid (BY.out.trans (hb3.mono BY.out.size)); obtain ⟨W4, a4, c4, hcv, hr4, hb4, hn4⟩ := conv_tx15 w3 U; have M4 := (hb4.block _ (lt_blkR K4.out)).trans K4.out; have M3 := (hb4.block _ (lt_blkR K3.out)).trans K3.out; have B4 := hid (B3.out.trans (hb4.mono B3.out.size)); have R4 := hid hr4; have N4 := hid hn4; have fz4 : ∀ i, W4.frozen? ⟨w1.heap.size, i, none⟩ = false := (fun i => by simp [World.frozen?, M4]); have fy4 : ∀ i, W4.frozen? ⟨w.heap.size, i, none⟩ = false := (fun i => by simp [World.frozen?, M3]); obtain ⟨z0, z1, z2, z3, z4, z5⟩ := nd_cells (x := ⟨f, 1, m, n, none, 0, [], none, 0, []⟩) M4; obtain ⟨y0, y1, y2, y3, y4, y5⟩ := nd_cells (x := Nd.no) M3; simp only [Nd.no, List.length_nil] at y0 y1 y2 y3 y4 y5 z0 z1 z2 z3 z4 z5; clear hb3 hr4 hb4 hn4 M3 M4)
     have lt3 : w.heap.size < w3.heap.size := lt_blkR K3.out
     have lt4 : w1.heap.size < w3.heap.size := lt_blkR K4.out
     have N5 : NdB W4 w3.heap.size ⟨f, 1, m, n, a4, c4, Fr.bs U, none, 0, []⟩ := ⟨⟨l1, ⟨by show (0 : Int) ≤ 1; decide, by show (1 : Int) < 256; decide⟩, l2, l3, (fun y hy => bs_in U.data.toList y (by simpa using hy)), (fun q hq => by cases hq)⟩, ⟨by rw [bs_len]; exact hUs, by show 0 ≤ 10000000; omega, (fun q hq => by cases hq)⟩, ⟨N4.out, fun _ => rfl⟩, R4.out, .inl rfl⟩
     have B9 : Below w.heap.size w (W4.setCell ⟨w1.heap.size, 4, none⟩ (.slice a4 U.size c4)) := (B0.out.trans (B4.out.mono B0.out.size)).setCell (p := ⟨w1.heap.size, 4, none⟩) (by show w.heap.size ≤ w1.heap.size; omega) _
     refine bodyPost_ret (v := (⟨f, 1, m, n, a4, c4, Fr.bs U, none, 0, []⟩ : Nd).val) (by simp [results, Tryd.results46, go_sem, Nd.val, bs_len, y0, y1, y2, y3, y4, y5]) rfl ⟨⟨_, rfl, ?_, ?_⟩, ?_⟩
     · rw [HR.out, HU.out]; rfl
     · exact ((N5.setLow lt4).six lt3 _ _ _ _ _ _).low (by omega)
     · exact below_six B9 (Nat.le_refl _) _ _ _ _ _ _
   · have hkk : kindP b = 3 := by subst qk; decide +kernel
     rw [hkk] at HR
     rw [decide_eq_false q1] at d1
     rw [decide_eq_true qk] at d2
     have Y4 : Hid ((X.setCell ⟨w1.heap.size, 1, none⟩ (.int .u8 3)).heap[w1.heap.size]? = some (.cells #[.int .u32 f, .int .u8 3, .int .u16 m, .int .u16 n, .slice none 0 0, .slice none 0 0] 35 (0, 0))) := hid (by have := box15_set 1 (.int .u8 3) x4; simpa using this)
     have Y3 : Hid ((X.setCell ⟨w1.heap.size, 1, none⟩ (.int .u8 3)).heap[w.heap.size]? = some (.cells #[.int .u32 0, .int .u8 0, .int .u16 0, .int .u16 0, .slice none 0 0, .slice none 0 0] 35 (0, 0))) := hid (by rw [heap_setCell_other _ _ _ _ (show w.heap.size ≠ w1.heap.size by omega)]; exact x3)
     have BY : Hid (Below V.heap.size V (X.setCell ⟨w1.heap.size, 1, none⟩ (.int .u8 3))) := hid (bX.setCell (p := ⟨w1.heap.size, 1, none⟩) (by show V.heap.size ≤ w1.heap.size; omega) _)
     have pK : (X.setCell ⟨w1.heap.size, 1, none⟩ (.int .u8 3)).cell? ⟨V.heap.size, 4, none⟩ = some (.string (tB e)) := cell_set8 p4 ne1
     clear hul UC hkk hk2 q1 qk
     go_upto_region 20 with fail
     generalize X.setCell ⟨w1.heap.size, 1, none⟩ (.int .u8 3) = X2 at *
     go_wp2_with (go_at_call 10; refine (UC2.out _).mono ?_; rintro _ w3 ⟨er, rfl, hb3⟩; have K4 := hid ((hb3.block _ (lt_blkR Y4.out)).trans Y4.out); have K3 := hid ((hb3.block _ (lt_blkR Y3.out)).trans Y3.out); have B3 := hid (BY.out.trans (hb3.mono BY.out.size)); obtain ⟨W4, a4, c4, hcv, hr4, hb4, hn4⟩ := conv_tx15 w3 U; have M4 := (hb4.block _ (lt_blkR K4.out)).trans K4.out; have M3 := (hb4.block _ (lt_blkR K3.out)).trans K3.out; have B4 := hid (B3.out.trans (hb4.mono B3.out.size)); have R4 := hid hr4; have N4 := hid hn4; have fz4 : ∀ i, W4.frozen? ⟨w1.heap.size, i, none⟩ = false := (fun i => by simp [World.frozen?, M4]); have fy4 : ∀ i, W4.frozen? ⟨w.heap.size, i, none⟩ = false := (fun i => by simp [World.frozen?, M3]); obtain ⟨z0, z1, z2, z3, z4, z5⟩ := nd_cells (x := ⟨f, 3, m, n, none, 0, [], none, 0, []⟩) M4; obtain ⟨y0, y1, y2, y3, y4, y5⟩ := nd_cells (x := Nd.no) M3; simp only [Nd.no, List.length_nil] at y0 y1 y2 y3 y4 y5 z0 z1 z2 z3 z4 z5; clear hb3 hr4 hb4 hn4 M3 M4)
     have lt3 : w.heap.size < w3.heap.size := lt_blkR K3.out
     have lt4 : w1.heap.size < w3.heap.size := lt_blkR K4.out
     have N5 : NdB W4 w3.heap.size ⟨f, 3, m, n, a4, c4, Fr.bs U, none, 0, []⟩ := ⟨⟨l1, ⟨by show (0 : Int) ≤ 3; decide, by show (3 : Int) < 256; decide⟩, l2, l3, (fun y hy => bs_in U.data.toList y (by simpa using hy)), (fun q hq => by cases hq)⟩, ⟨by rw [bs_len]; exact hUs, by show 0 ≤ 10000000; omega, (fun q hq => by cases hq)⟩, ⟨N4.out, fun _ => rfl⟩, R4.out, .inl rfl⟩
     have B9 : Below w.heap.size w (W4.setCell ⟨w1.heap.size, 4, none⟩ (.slice a4 U.size c4)) := (B0.out.trans (B4.out.mono B0.out.size)).setCell (p := ⟨w1.heap.size, 4, none⟩) (by show w.heap.size ≤ w1.heap.size; omega) _
     refine bodyPost_ret (v := (⟨f, 3, m, n, a4, c4, Fr.bs U, none, 0, []⟩ : Nd).val) (by simp [results, Tryd.results46, go_sem, Nd.val, bs_len, y0, y1, y2, y3, y4, y5]) rfl ⟨⟨_, rfl, ?_, ?_⟩, ?_⟩
     · rw [HR.out, HU.out]; rfl
     · exact ((N5.setLow lt4).six lt3 _ _ _ _ _ _).low (by omega)
     · exact below_six B9 (Nat.le_refl _) _ _ _ _ _ _
   · have hkk : kindP b = 0 := by unfold kindP; rw [if_neg q1, if_neg qd, if_neg q2]
     rw [hkk] at HR
     rw [decide_eq_false q1] at d1
     rw [decide_eq_false q2] at d2
     have Y4 : Hid ((X).heap[w1.heap.size]? = some (.cells #[.int .u32 f, .int .u8 0, .int .u16 m, .int .u16 n, .slice none 0 0, .slice none 0 0] 35 (0, 0))) := hid (by exact x4)
     have Y3 : Hid ((X).heap[w.heap.size]? = some (.cells #[.int .u32 0, .int .u8 0, .int .u16 0, .int .u16 0, .slice none 0 0, .slice none 0 0] 35 (0, 0))) := hid (by exact x3)
     have BY : Hid (Below V.heap.size V (X)) := hid (bX)
     have pK := p4
     clear hul UC hkk hk2 q1 q2
     go_wp2_with (go_at_call 10; refine (UC2.out _).mono ?_; rintro _ w3 ⟨er, rfl, hb3⟩; have K4 := hid ((hb3.block _ (lt_blkR Y4.out)).trans Y4.out); have K3 := hid ((hb3.block _ (lt_blkR Y3.out)).trans Y3.out); have B3 := hid (BY.out.trans (hb3.mono BY.out.size)); obtain ⟨W4, a4, c4, hcv, hr4, hb4, hn4⟩ := conv_tx15 w3 U; have M4 := (hb4.block _ (lt_blkR K4.out)).trans K4.out; have M3 := (hb4.block _ (lt_blkR K3.out)).trans K3.out; have B4 := hid (B3.out.trans (hb4.mono B3.out.size)); have R4 := hid hr4; have N4 := hid hn4; have fz4 : ∀ i, W4.frozen? ⟨w1.heap.size, i, none⟩ = false := (fun i => by simp [World.frozen?, M4]); have fy4 : ∀ i, W4.frozen? ⟨w.heap.size, i, none⟩ = false := (fun i => by simp [World.frozen?, M3]); obtain ⟨z0, z1, z2, z3, z4, z5⟩ := nd_cells (x := ⟨f, 0, m, n, none, 0, [], none, 0, []⟩) M4; obtain ⟨y0, y1, y2, y3, y4, y5⟩ := nd_cells (x := Nd.no) M3; simp only [Nd.no, List.length_nil] at y0 y1 y2 y3 y4 y5 z0 z1 z2 z3 z4 z5; clear hb3 hr4 hb4 hn4 M3 M4)
     have lt3 : w.heap.size < w3.heap.size := lt_blkR K3.out
     have lt4 : w1.heap.size < w3.heap.size := lt_blkR K4.out
     have N5 : NdB W4 w3.heap.size ⟨f, 0, m, n, a4, c4, Fr.bs U, none, 0, []⟩ := ⟨⟨l1, ⟨by show (0 : Int) ≤ 0; decide, by show (0 : Int) < 256; decide⟩, l2, l3, (fun y hy => bs_in U.data.toList y (by simpa using hy)), (fun q hq => by cases hq)⟩, ⟨by rw [bs_len]; exact hUs, by show 0 ≤ 10000000; omega, (fun q hq => by cases hq)⟩, ⟨N4.out, fun _ => rfl⟩, R4.out, .inl rfl⟩
     have B9 : Below w.heap.size w (W4.setCell ⟨w1.heap.size, 4, none⟩ (.slice a4 U.size c4)) := (B0.out.trans (B4.out.mono B0.out.size)).setCell (p := ⟨w1.heap.size, 4, none⟩) (by show w.heap.size ≤ w1.heap.size; omega) _
     refine bodyPost_ret (v := (⟨f, 0, m, n, a4, c4, Fr.bs U, none, 0, []⟩ : Nd).val) (by simp [results, Tryd.results46, go_sem, Nd.val, bs_len, y0, y1, y2, y3, y4, y5]) rfl ⟨⟨_, rfl, ?_, ?_⟩, ?_⟩
     · rw [HR.out, HU.out]; rfl
     · exact ((N5.setLow lt4).six lt3 _ _ _ _ _ _).low (by omega)
     · exact below_six B9 (Nat.le_refl _) _ _ _ _ _ _
end Go.Proofs.YtkokjkaclcjnjaaDoor
