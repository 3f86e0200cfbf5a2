/-
  
-/
import Derived.Test.YtfmghbennahlfaaGreatCnBv
import Derived.Test.YtfmghbennahlfaaGreatCnBw
namespace Go.Proofs.YtfmghbennahlfaaGreat
open Go.RowKit Go.ChangeShapes Go.WideShapes Go.ChangeAt Go.Maps Go.Shelf
set_option linter.unusedVariables false
set_option linter.unusedSimpArgs false
set_option maxRecDepth 100000
theorem beF_in (n : Int) : ∀ s, ∀ y ∈ beF n s, 0 ≤ y ∧ y ≤ 255
 | 0, y, hy => by simp [beF] at hy
 | s + 1, y, hy => by
   rw [beF, List.mem_cons] at hy
   rcases hy with rfl | hy
   · omega
   · exact beF_in n s y hy
theorem txS_in (s : ByteArray) : ∀ y ∈ txF s, 0 ≤ y ∧ y ≤ 255 := fun y hy => by
 unfold txF at hy
 rcases List.mem_append.1 hy with h | h
 · exact beF_in _ _ y h
 · unfold Fr.bs at h
   obtain ⟨c, _, rfl⟩ := List.mem_map.1 h
   have := c.toNat_lt
   omega
theorem nodeB_inS (x : Nd) : ∀ y ∈ nodeB x, 0 ≤ y ∧ y ≤ 255 := fun y hy => by
 unfold nodeB at hy
 simp only [List.mem_append] at hy
 rcases hy with ((((h | h) | h) | h) | h) | (h | h)
 · exact beF_in _ _ y h
 · exact beF_in _ _ y h
 · exact beF_in _ _ y h
 · exact beF_in _ _ y h
 · exact txS_in _ y h
 · exact beF_in _ _ y h
 · unfold kidsB at h
   obtain ⟨k, _, hk⟩ := List.mem_flatMap.1 h
   unfold kidB at hk
   rcases List.mem_append.1 hk with h2 | h2
   · exact txS_in _ y h2
   · exact beF_in _ _ y h2
theorem snapB_inS (ns : List Nd) (ss : List St) : ∀ y ∈ snapB ns ss, 0 ≤ y ∧ y ≤ 255 := fun y hy => by
 unfold snapB measuresB stampsB measB stampB at hy
 simp only [List.mem_append, List.mem_flatMap] at hy
 rcases hy with (h | ⟨x, _, h | h⟩) | (h | ⟨x, _, h | h | h⟩)
 · exact beF_in _ _ y h
 · exact beF_in _ _ y h
 · exact nodeB_inS _ y h
 · exact beF_in _ _ y h
 · exact beF_in _ _ y h
 · exact beF_in _ _ y h
 · exact beF_in _ _ y h
theorem gr_is {w : World} {g base : Nat} {v1 v2 : Value} {a b : List Int} (hg : w.heap[g]? = some (.cells #[v1, v2] 37 (0, 0))) (h1 : OwY w base v1 a) (h2 : OwY w base v2 b) (i1 : ∀ y ∈ a, 0 ≤ y ∧ y ≤ 255) (i2 : ∀ y ∈ b, 0 ≤ y ∧ y ≤ 255) : IsG0 w (some ⟨g, 0, none⟩) 2 [a, b] := by
 obtain ⟨a1, c1, rfl, p1, q1, l1⟩ := isB_ownR h1 i1
 obtain ⟨a2, c2, rfl, p2, q2, l2⟩ := isB_ownR h2 i2
 have lz : ∀ {x : Option Addr} {c : Nat}, Lies w x c → (x = none → c = 0) := fun h e => by
   rcases h with ⟨_, h⟩ | ⟨_, _, h, _⟩
   · exact h
   · rw [e] at h; cases h
 refine ⟨rfl, by unfold maxLen; omega, fun _ => ⟨g, 0, rfl, fun i hi => ?_⟩⟩
 rcases (by omega : i = 0 ∨ i = 1) with rfl | rfl
 · exact ⟨a1, c1, cell_of_row2 hg 0 rfl, p1, q1, lz l1⟩
 · exact ⟨a2, c2, cell_of_row2 hg 1 rfl, p2, q2, lz l2⟩
def firstSs : List St := [⟨1, 1, 0⟩]
theorem isSs_first {w : World} {s : Nat} (h : w.heap[s]? = some (.cells #[.int .u32 1, .int .u64 1, .int .u8 0] 200 (0, 0))) : IsSs w (some ⟨s, 0, none⟩) firstSs := by
 refine ⟨by show 1 ≤ maxLen; unfold maxLen; omega, fun x hx => ?_, fun _ => ⟨s, 0, rfl, fun i hi => ?_⟩⟩
 · rw [firstSs, List.mem_singleton] at hx
   subst hx
   exact ⟨⟨by decide, by decide⟩, ⟨by decide, by decide⟩, by decide, by decide⟩
 · have e : i = 0 := by simp [firstSs] at hi; omega
   subst e
   exact ⟨cell_of_row2 h 0 rfl, cell_of_row2 h 1 rfl, cell_of_row2 h 2 rfl⟩
theorem first_snap : RSnap newL firstSs := ⟨(rightD_iff _).2 new_right, by decide +kernel⟩
theorem new_wf : ∀ x ∈ newL, x.Wf := fun x hx => by
 rw [newL, List.mem_singleton] at hx
 subst hx
 exact ⟨⟨by decide, by decide⟩, ⟨by decide, by decide⟩, ⟨by decide, by decide⟩, ⟨by decide, by decide⟩, fun i => ⟨by simp, by simp⟩, by decide, fun q hq => (by cases hq), by decide⟩
def nbB (z : Int) : List Int := [z] ++ be4 0 ++ be4 2 ++ rec1B oM ++ [0]
theorem nb_in {z : Int} (hz : z = 0 ∨ z = 1) : ∀ y ∈ nbB z, 0 ≤ y ∧ y ≤ 255 := by
 rcases hz with rfl | rfl
 · decide +kernel
 · decide +kernel
def grM (z : Int) : Jo.Gr := [snapB newL firstSs, nbB z]
theorem gr_ok {z : Int} (hz : z = 0 ∨ z = 1) : Jo.okG (grM z) = true := by
 rcases hz with rfl | rfl
 · decide +kernel
 · decide +kernel
theorem gr_need {z : Int} (hz : z = 0 ∨ z = 1) : Jo.needF (grM z) ≤ 100 := by
 rcases hz with rfl | rfl
 · decide +kernel
 · decide +kernel
theorem own_newsY {w : World} {base : Nat} {v : Value} {ns : List Int} (h : OwY w base v ns) (hn : 0 < ns.length) : ∃ g c, v = .slice (some ⟨g, 0, none⟩) ns.length c ∧ ∀ j u, (ns.map u8V)[j]? = some u → w.cell? ((⟨g, 0, none⟩ : Addr).add j) = some u := by
 rcases h.2 with ⟨_, e2⟩ | ⟨g, cap, cur, e1, hb, hg, hn', hc, hs, ht⟩
 · omega
 · refine ⟨g, cap, e1, fun j u hu => ?_⟩
   have hj : j < ns.length := by
     have := (List.getElem?_eq_some_iff.1 hu).1
     simpa using this
   have e : (⟨g, 0, none⟩ : Addr).add j = ⟨g, 0 + j, none⟩ := by unfold Addr.add; split <;> simp_all
   rw [e, Nat.zero_add]
   refine cell_of_row2 hg j ?_
   rw [← ht, List.getElem?_take, if_pos (by omega)] at hu
   rw [← Array.getElem?_toList]; exact hu
theorem wpList_appW (w : World) {ops : Array Oper} {rest : List Oper} {o : Oper} {a : Act} {Q : Exit → Act → World → Prop} (hgd : o.guard = none) (s x : Operand)
   (ho : o.op = .call { callee := .builtin .append, args := #[s, x], argTypes := #[37, 37] }) (base : Nat) (v : Value) (zs ns : List Int) (hs : a.eval s = v) (hown : OwY w base v zs)
   (g m c : Nat) (hx : a.eval x = .slice (some ⟨g, 0, none⟩) m c) (hl : ns.length = m) (hg : ∀ j u, (ns.map u8V)[j]? = some u → w.cell? ((⟨g, 0, none⟩ : Addr).add j) = some u) (hz : zs.length ≤ 1000000) (hn : ns.length ≤ 1000000) (hb : base ≤ w.heap.size)
   (h : ∀ v' w', OwY w' base v' (zs ++ ns) → w.grownBy w' v.ownBlock → wpList Tryz.prog ops Q rest (a.put o.dst v') w') : wpList Tryz.prog ops Q (o :: rest) a w := by
 obtain ⟨i0, hi, hz0, hz1, hz2⟩ := info_parts8
 refine wpList_append_own w hgd s x 37 ho base 5 i0 (.int .u8 0) 1 1 Tryz.underlying37 hi hz0 hz1 hz2 rfl (by decide) v zs.length _ hs hown ⟨g, 0, none⟩ m c (ns.map u8V) hx (by simp [hl]) hg (u8V_one ns) (by unfold maxLen; omega) (by omega) hb ?_
 intro v' w' h1 h2 _
 exact h v' w' (by unfold OwY; rw [List.length_append, List.map_append, hl]; exact h1) h2
theorem own_byte {w : World} {base g : Nat} {z : Int} (h : w.heap[g]? = some (.cells #[.int .u8 z] 5 (0, 0))) (hb : base ≤ g) : OwY w base (.slice (some ⟨g, 0, none⟩) 1 1) [z] :=
 ⟨rfl, .inr ⟨g, 1, #[.int .u8 z], rfl, hb, h, Nat.le_refl _, by unfold maxLen; omega, rfl, rfl⟩⟩
def CGrP (z : Int) (w : World) (e : Ending) (w' : World) : Prop := ∃ gg v1 v2, e = .returned (.slice (some ⟨gg, 0, none⟩) 2 2) ∧ w.heap.size ≤ gg ∧ w'.heap[gg]? = some (.cells #[v1, v2] 37 (0, 0)) ∧ OwY w' w.heap.size v1 (snapB newL firstSs) ∧ OwY w' w.heap.size v2 (nbB z) ∧ Below w.heap.size w w'
set_option maxHeartbeats 4000000 in
theorem cgroup_c {w : World} (b g s lb lc : Nat) (cur : Array Value) (z : Int) (hz : z = 0 ∨ z = 1) (hrow : w.heap[b]? = some (.cells #[.slice (some ⟨g, 0, none⟩) 1 1, .slice (some ⟨s, 0, none⟩) 1 1, .slice (some ⟨lb, 0, none⟩) 1 lc, .int .i64 z, .int .u32 0, .int .u32 2, .slice none 0 0] 77 (0, 0))) (hg : w.heap[g]? = some (.cells #[.int .u32 1, .int .u8 2, .int .u16 0, .int .u16 0, .slice none 0 0, .slice none 0 0] 40 (0, 0))) (hs : w.heap[s]? = some (.cells #[.int .u32 1, .int .u64 1, .int .u8 0] 200 (0, 0))) (hl : w.heap[lb]? = some (.cells cur 113 (0, 0))) (hR : R9 cur oM) :
   Calls Tryz.prog 81 #[.pointer (some ⟨b, 0, none⟩)] w (CGrP z w) := by
 have HR := hid hrow
 have KC : Hid (∀ W, Below w.heap.size w W → W.heap[b]? = some (.cells #[.slice (some ⟨g, 0, none⟩) 1 1, .slice (some ⟨s, 0, none⟩) 1 1, .slice (some ⟨lb, 0, none⟩) 1 lc, .int .i64 z, .int .u32 0, .int .u32 2, .slice none 0 0] 77 (0, 0))) := hid (fun W hW => (hW.block _ (lt_blkR hrow)).trans hrow)
 have SC : Hid (Calls Tryz.prog 145 #[.agg #[.slice (some ⟨g, 0, none⟩) 1 1, .slice (some ⟨s, 0, none⟩) 1 1]] w fun e w' => ∃ v, e = .returned (.tuple #[v, .int .i64 0]) ∧ OwY w' w.heap.size v (snapB newL firstSs) ∧ Below w.heap.size w w') := hid ((snapshot_c (some ⟨g, 0, none⟩) (some ⟨s, 0, none⟩) 1 1 newL firstSs w (newTr hg).1 (isSs_first hs) (by decide) (by decide) (fun _ => new_wf)).mono (fun e w' hp => by
   obtain ⟨hp1, hb⟩ := hp
   rcases hp1 with ⟨_, v, e1, e2⟩ | ⟨h9, _⟩
   · exact ⟨v, e1, e2, hb⟩
   · exact absurd first_snap h9))
 have RC := hid (fun W (hW : Below w.heap.size w W) => records1_c lb lc oM W cur hR ((hW.block _ (lt_blkR hl)).trans hl) oM_wf oM_right)
 have RL : Hid ((rec1B oM).length ≤ 1000) := hid (by decide +kernel)
 have kw : IntKind.u8.wrap z = z := by rcases hz with rfl | rfl <;> decide
 have c0 : w.cell? ⟨b, 0, none⟩ = some (.slice (some ⟨g, 0, none⟩) 1 1) := cell_of_row2 hrow 0 rfl
 have c1 : w.cell? ⟨b, 1, none⟩ = some (.slice (some ⟨s, 0, none⟩) 1 1) := cell_of_row2 hrow 1 rfl
 clear hrow hg hs hl hR
 go_enter Tryz.func81, Tryz.ntmps81
 go_upto_region 2 with (go_at_call 145; refine SC.out.mono ?_; rintro _ w1 ⟨v1, rfl, ho1, hb1⟩; have O1 := hid ho1; have B1 := hid hb1; clear ho1 hb1)
 obtain ⟨a1, n1, k1, rfl⟩ := own_sliceY O1.out
 have d2 : w1.cell? ⟨b, 2, none⟩ = some (.slice (some ⟨lb, 0, none⟩) 1 lc) := cell_of_row2 (KC.out _ B1.out) 2 rfl
 clear c0 c1 SC
 go_upto_region 3 with (go_at_call 31; refine (RC.out _ B1.out).mono ?_; rintro _ w2 ⟨v2, rfl, ho2, hb2⟩; have O2 := hid ho2; have B2 := hid (B1.out.trans (hb2.mono B1.out.size)); have P1 := hid (O1.out.later hb2); clear ho2 hb2)
 obtain ⟨qg, qc, rfl, hnews⟩ := own_newsY O2.out (by decide +kernel)
 have r2 : w2.heap[b]? = some (.cells #[.slice (some ⟨g, 0, none⟩) 1 1, .slice (some ⟨s, 0, none⟩) 1 1, .slice (some ⟨lb, 0, none⟩) 1 lc, .int .i64 z, .int .u32 0, .int .u32 2, .slice none 0 0] 77 (0, 0)) := KC.out _ B2.out
 have hr2 : w2.drew.heap[b]? = some (.cells #[.slice (some ⟨g, 0, none⟩) 1 1, .slice (some ⟨s, 0, none⟩) 1 1, .slice (some ⟨lb, 0, none⟩) 1 lc, .int .i64 z, .int .u32 0, .int .u32 2, .slice none 0 0] 77 (0, 0)) := r2
 have bA := below_1 w2 (.cells #[.int .u8 z] 5)
 have rA : (w2.alloc (.cells #[.int .u8 z] 5)).heap[b]? = some (.cells #[.slice (some ⟨g, 0, none⟩) 1 1, .slice (some ⟨s, 0, none⟩) 1 1, .slice (some ⟨lb, 0, none⟩) 1 lc, .int .i64 z, .int .u32 0, .int .u32 2, .slice none 0 0] 77 (0, 0)) := (bA.block _ (lt_blkR r2)).trans r2
 have OA := hid (own_byte (base := w2.heap.size) (heap_alloc_new w2 (.cells #[.int .u8 z] 5)) (Nat.le_refl _))
 have BA := hid bA
 have WN := hid (fun (v : Value) (zs : List Int) (n : Int) (W : World) (ho : OwY W w2.heap.size v zs) (hb : w2.heap.size ≤ W.heap.size) (hz : zs.length ≤ 100000) (hn : n = 0 ∨ n = 2) => wnum_c w2.heap.size v zs n W ho hb hz (by omega) (by omega))
 clear d2 bA
 go_wp2_with fail
 refine wp_region_held_drew (S := fun w' => w'.heap[b]? = some (.cells #[.slice (some ⟨g, 0, none⟩) 1 1, .slice (some ⟨s, 0, none⟩) 1 1, .slice (some ⟨lb, 0, none⟩) 1 lc, .int .i64 z, .int .u32 0, .int .u32 2, .slice none 0 0] 77 (0, 0))) (by kernel_rfl) hr2 (fun hHeld => ?_)
 refine take_l 0 (v := ?_) rfl (by kernel_rfl) (by kernel_rfl) (by kernel_rfl) (fun _ _ _ h => h) (Or.inl ⟨by rfl, ?_⟩) (by assumption) ?_
 rotate_left
 · (intro w' hSw; clear hSw; go_simp; first | done | with_reducible rfl)
 try simp only [Act.put, List.setIfInBounds_toArray, List.set_cons_zero, List.set_cons_succ]
 refine take_l 1 (v := ?_) rfl (by kernel_rfl) (by kernel_rfl) (by kernel_rfl) (fun _ _ _ h => h) (Or.inl ⟨by rfl, ?_⟩) (by assumption) ?_
 rotate_left
 · (intro w' hSw; clear hSw; go_simp; first | done | with_reducible rfl)
 try simp only [Act.put, List.setIfInBounds_toArray, List.set_cons_zero, List.set_cons_succ]
 refine take_l 2 (v := ?_) rfl (by kernel_rfl) (by kernel_rfl) (by kernel_rfl) (fun _ _ _ h => h) (Or.inl ⟨by rfl, ?_⟩) (by assumption) ?_
 rotate_left
 · (intro w' hSw; clear hSw; go_simp; first | done | with_reducible rfl)
 try simp only [Act.put, List.setIfInBounds_toArray, List.set_cons_zero, List.set_cons_succ]
 refine take_l 3 (v := ?_) rfl (by kernel_rfl) (by kernel_rfl) (by kernel_rfl) (fun _ _ _ h => h) (Or.inl ⟨by rfl, ?_⟩) (by assumption) ?_
 rotate_left
 · (intro w' hSw; have k3 : w'.cell? ⟨b, 3, none⟩ = some (.int .i64 z) := cell_of_row2 hSw 3 rfl; clear hSw; go_simp; first | done | with_reducible rfl)
 try simp only [Act.put, List.setIfInBounds_toArray, List.set_cons_zero, List.set_cons_succ]
 refine take_l 4 (v := ?_) rfl (by kernel_rfl) (by kernel_rfl) (by kernel_rfl) (fun _ _ _ h => h) (Or.inl ⟨by rfl, ?_⟩) (by assumption) ?_
 rotate_left
 · (intro w' hSw; clear hSw; go_simp; first | done | with_reducible rfl)
 try simp only [Act.put, List.setIfInBounds_toArray, List.set_cons_zero, List.set_cons_succ]
 refine take_l 6 (v := ?_) rfl (by kernel_rfl) (by kernel_rfl) (by kernel_rfl) (fun _ _ _ h => h) (Or.inl ⟨by rfl, ?_⟩) (by assumption) ?_
 rotate_left
 · (intro w' hSw; clear hSw; go_simp; first | done | with_reducible rfl)
 try simp only [Act.put, List.setIfInBounds_toArray, List.set_cons_zero, List.set_cons_succ]
 refine take_l 7 (v := ?_) rfl (by kernel_rfl) (by kernel_rfl) (by kernel_rfl) (fun _ _ _ h => h) (Or.inl ⟨by rfl, ?_⟩) (by assumption) ?_
 rotate_left
 · (intro w' hSw; clear hSw; go_simp; first | done | with_reducible rfl)
 try simp only [Act.put, List.setIfInBounds_toArray, List.set_cons_zero, List.set_cons_succ]
 refine take_l 8 (v := ?_) rfl (by kernel_rfl) (by kernel_rfl) (by kernel_rfl) (fun _ _ _ h => h) (Or.inl ⟨by rfl, ?_⟩) (by assumption) ?_
 rotate_left
 · (intro w' hSw; clear hSw; go_simp; first | done | with_reducible rfl)
 try simp only [Act.put, List.setIfInBounds_toArray, List.set_cons_zero, List.set_cons_succ]
 refine take_l 9 (v := ?_) rfl (by kernel_rfl) (by kernel_rfl) (by kernel_rfl) (fun _ _ _ h => h) (Or.inl ⟨by rfl, ?_⟩) (by assumption) ?_
 rotate_left
 · (intro w' hSw; have k4 : w'.cell? ⟨b, 4, none⟩ = some (.int .u32 0) := cell_of_row2 hSw 4 rfl; clear hSw; go_simp; first | done | with_reducible rfl)
 try simp only [Act.put, List.setIfInBounds_toArray, List.set_cons_zero, List.set_cons_succ]
 refine cons_l 5 rfl (by kernel_rfl) (fun K hK => ?_)
 go_simp
 refine hK.out _ _ (show (w2.alloc (.cells #[.int .u8 z] 5)).drew.heap[b]? = _ from rA) (fun hHeld => ?_)
 clear hK K
 try simp only [Act.put, List.setIfInBounds_toArray, List.set_cons_zero, List.set_cons_succ]
 refine cons_l 10 rfl (by kernel_rfl) (fun K hK => ?_)
 go_simp
 refine (WN.out _ _ _ (w2.alloc (.cells #[.int .u8 z] 5)).drew OA.out (show w2.heap.size ≤ (w2.alloc (.cells #[.int .u8 z] 5)).heap.size from BA.out.size) (by simp) (.inl rfl)).mono ?_; rintro _ w3 ⟨v3, rfl, ho3, hb3⟩
 have hb3' : Below w2.heap.size (w2.alloc (.cells #[.int .u8 z] 5)) w3 := below_undrew hb3
 have C3 := hid (BA.out.trans hb3')
 have O3 := hid ho3
 obtain ⟨a3, n3, k3, rfl⟩ := own_sliceY O3.out
 have r3 : w3.heap[b]? = some (.cells #[.slice (some ⟨g, 0, none⟩) 1 1, .slice (some ⟨s, 0, none⟩) 1 1, .slice (some ⟨lb, 0, none⟩) 1 lc, .int .i64 z, .int .u32 0, .int .u32 2, .slice none 0 0] 77 (0, 0)) := KC.out _ (B2.out.trans (C3.out.mono B2.out.size))
 clear ho3 hb3 hb3'
 go_simp
 refine hK.out _ _ r3 (fun hHeld => ?_)
 clear hK K
 try simp only [Act.put, List.setIfInBounds_toArray, List.set_cons_zero, List.set_cons_succ]
 refine take_l 11 (v := ?_) rfl (by kernel_rfl) (by kernel_rfl) (by kernel_rfl) (fun _ _ _ h => h) (Or.inl ⟨by rfl, ?_⟩) (by assumption) ?_
 rotate_left
 · (intro w' hSw; clear hSw; go_simp; first | done | with_reducible rfl)
 try simp only [Act.put, List.setIfInBounds_toArray, List.set_cons_zero, List.set_cons_succ]
 refine wpAnyH_done (by kernel_rfl) ?_ _
 clear hHeld r2 hr2 rA OA BA
 have d5 : w3.cell? ⟨b, 5, none⟩ = some (.int .u32 2) := cell_of_row2 r3 5 rfl
 clear r3
 go_upto_region 5 with (first
   | (go_at_call 33; refine (WN.out _ _ _ w3 O3.out C3.out.size (by simp [be4]) (.inr rfl)).mono ?_; rintro _ w4 ⟨v4, rfl, ho4, hb4⟩; have C4 := hid (C3.out.trans hb4); have O4 := hid ho4; obtain ⟨a4, n4, k4, rfl⟩ := own_sliceY O4.out; clear ho4 hb4)
   | (at_builtin; refine wpList_appW w4 rfl _ _ rfl w2.heap.size _ _ (rec1B oM) rfl O4.out qg _ qc rfl rfl (fun j u hu => cell_later C4.out (hnews j u hu)) (by simp [be4]) (by decide +kernel) C4.out.size ?_; intro v5 w5 ho5 hg5; have O5 := hid ho5; have C5 := hid (below_grownY C4.out O4.out (Nat.le_refl _) C4.out.size hg5); obtain ⟨a5, n5, k5, rfl⟩ := own_sliceY O5.out; clear ho5 hg5))
 have r5 := KC.out _ (B2.out.trans (C5.out.mono B2.out.size))
 have d6 : w5.cell? ⟨b, 6, none⟩ = some (.slice none 0 0) := cell_of_row2 r5 6 rfl
 clear r5 d5
 go_wp2_with (go_at_call 146; refine (wnone_c w2.heap.size _ _ w5 O5.out C5.out.size (by have := RL.out; simp [be4]; omega)).mono ?_; rintro _ w6 ⟨v6, rfl, ho6, hb6⟩; have O6 := hid ho6; have C6 := hid (C5.out.trans hb6); obtain ⟨a6, n6, k6, rfl⟩ := own_sliceY O6.out; clear ho6 hb6)
 go_ret
 have b9 := below_1 w6 (.cells #[.slice a1 n1 k1, .slice a6 n6 k6] 37)
 have C9 := C6.out.trans (b9.mono C6.out.size)
 have B9 := B2.out.trans (C9.mono B2.out.size)
 refine ⟨_, _, _, rfl, Nat.le_trans B2.out.size C6.out.size, heap_alloc_new w6 _, P1.out.later C9, ?_, B9⟩
 exact own_low (O6.out.later b9) B2.out.size
set_option maxHeartbeats 4000000 in
theorem ckeep_c {base : Nat} {w : World} {c : Cv} (h : CvM base w c) (hN : 204 ≤ c.N) (ht : c.t ≠ 4294967295) (lb lc : Nat) (cur : Array Value) (z : Int) (hz : z = 0 ∨ z = 1) (hl : w.heap[lb]? = some (.cells cur 113 (0, 0))) (hR : R9 cur oM) :
   Calls Tryz.prog 35 #[.agg #[pB c.j], .agg #[.slice (some ⟨c.g, 0, none⟩) 1 1, .slice (some ⟨c.s, 0, none⟩) 1 1, .slice (some ⟨lb, 0, none⟩) 1 lc, .int .i64 z, .int .u32 0, .int .u32 2, .slice none 0 0]] w fun e w' => e = .returned (.int .i64 0) ∧ CvM base w' { c with t := c.t + 1 } ∧ Stay w w' ∧ Ou (fun k => k = c.b1 ∨ k = c.b2) w w' := by
 have b1 := below_1 w (.cells #[pB c.j] 69)
 have g1 := heap_alloc_new w (.cells #[pB c.j] 69)
 have b2 := below_1 (w.alloc (.cells #[pB c.j] 69)) (.cells #[.slice (some ⟨c.g, 0, none⟩) 1 1, .slice (some ⟨c.s, 0, none⟩) 1 1, .slice (some ⟨lb, 0, none⟩) 1 lc, .int .i64 z, .int .u32 0, .int .u32 2, .slice none 0 0] 77)
 have g2 := heap_alloc_new (w.alloc (.cells #[pB c.j] 69)) (.cells #[.slice (some ⟨c.g, 0, none⟩) 1 1, .slice (some ⟨c.s, 0, none⟩) 1 1, .slice (some ⟨lb, 0, none⟩) 1 lc, .int .i64 z, .int .u32 0, .int .u32 2, .slice none 0 0] 77)
 rw [show (w.alloc (.cells #[pB c.j] 69)).heap.size = w.heap.size + 1 by simp] at g2
 have g1' := (b2.block _ (lt_blkR g1)).trans g1
 have BV := hid (b1.trans (b2.mono b1.size))
 have H := hid h
 have GC := hid (fun (W : World) (hW : Below w.heap.size w W) hr => cgroup_c (w := W) (w.heap.size + 1) c.g c.s lb lc cur z hz hr ((hW.block _ (lt_blkR h.2.2.2.1)).trans h.2.2.2.1) ((hW.block _ (lt_blkR h.2.2.2.2.1)).trans h.2.2.2.2.1) ((hW.block _ (lt_blkR hl)).trans hl) hR)
 have GI := hid (fun (W : World) (gg bb : Nat) (v1 v2 : Value) hg h1' h2' => gr_is (w := W) (g := gg) (base := bb) (v1 := v1) (v2 := v2) hg h1' h2' (snapB_inS newL firstSs) (nb_in hz))
 have ND : Jo.needF (grM z) ≤ asz c.N := by have := gr_need hz; unfold asz; omega
 have OK := gr_ok hz
 have RS := hid (fun (W : World) (hW : Below w.heap.size w W) gg (hG : IsG0 W (some ⟨gg, 0, none⟩) 2 (grM z)) => jreset_c (h.later hW).1 (some ⟨gg, 0, none⟩) 2 2 (grM z) hG OK ND ht)
 clear b1 b2 g1 h hl hR OK ND ht hN hz
 go_enter Tryz.func35, Tryz.ntmps35
 go_upto_region 1 with fail
 generalize ((w.alloc (.cells #[pB c.j] 69)).alloc (.cells #[.slice (some ⟨c.g, 0, none⟩) 1 1, .slice (some ⟨c.s, 0, none⟩) 1 1, .slice (some ⟨lb, 0, none⟩) 1 lc, .int .i64 z, .int .u32 0, .int .u32 2, .slice none 0 0] 77)) = V at *
 have D0 := hid (Below.drew BV.out)
 have hS0 : V.drew.cell? ⟨w.heap.size, 0, none⟩ = some (pB c.j) := cell_of_row2 (show V.drew.heap[w.heap.size]? = _ from g1') 0 rfl
 have GV := hid (GC.out V.drew D0.out (show V.drew.heap[w.heap.size + 1]? = _ from g2))
 clear g1' g2
 go_wp2_with fail
 refine wp_region_held_drew (S := fun w' => w'.cell? ⟨w.heap.size, 0, none⟩ = some (pB c.j)) (by kernel_rfl) hS0 (fun hHeld => ?_)
 refine take_l 0 (v := ?_) rfl (by kernel_rfl) (by kernel_rfl) (by kernel_rfl) (fun _ _ _ h => h) (Or.inl ⟨by rfl, ?_⟩) (by assumption) ?_
 rotate_left
 · (intro w' hSw; clear hSw; go_simp; first | done | with_reducible rfl)
 try simp only [Act.put, List.setIfInBounds_toArray, List.set_cons_zero, List.set_cons_succ]
 refine take_l 1 (v := ?_) rfl (by kernel_rfl) (by kernel_rfl) (by kernel_rfl) (fun _ _ _ h => h) (Or.inl ⟨by rfl, ?_⟩) (by assumption) ?_
 rotate_left
 · (intro w' hSw; (have kq : w'.cell? ⟨w.heap.size, 0, none⟩ = some (pB c.j) := hSw); clear hSw; go_simp; first | done | with_reducible rfl)
 try simp only [Act.put, List.setIfInBounds_toArray, List.set_cons_zero, List.set_cons_succ]
 refine cons_l 2 rfl (by kernel_rfl) (fun K hK => ?_)
 go_simp
 refine GV.out.mono ?_; rintro _ w1 ⟨gg, v1, v2, rfl, hgb, hgr, ho1, ho2, hb1⟩
 have D1 := hid (D0.out.trans (hb1.mono D0.out.size))
 have hS1 : w1.cell? ⟨w.heap.size, 0, none⟩ = some (pB c.j) := cell_later hb1 hS0
 have RV := hid (RS.out w1 D1.out gg (GI.out w1 gg _ v1 v2 hgr ho1 ho2))
 clear hgb hgr ho1 ho2 hb1 hS0
 go_simp
 refine hK.out _ _ hS1 (fun hHeld => ?_)
 clear hK K
 try simp only [Act.put, List.setIfInBounds_toArray, List.set_cons_zero, List.set_cons_succ]
 refine cons_l 3 rfl (by kernel_rfl) (fun K hK => ?_)
 go_simp
 refine RV.out.mono ?_; rintro _ w2 ⟨rfl, hj2, hst2, hou2⟩
 have C2 := hid ((H.out.later D1.out).jour hou2 hst2 hj2)
 have S2 := hid ((Stay.of D1.out).trans hst2)
 have O2 := hid ((Ou.of D1.out).trans hou2)
 have hS2 : w2.cell? ⟨w.heap.size, 0, none⟩ = some (pB c.j) := hst2.cell hS1
 clear hj2 hst2 hou2 hS1
 go_simp
 refine hK.out _ _ hS2 (fun hHeld => ?_)
 clear hK K
 try simp only [Act.put, List.setIfInBounds_toArray, List.set_cons_zero, List.set_cons_succ]
 refine take_l 4 (v := ?_) rfl (by kernel_rfl) (by kernel_rfl) (by kernel_rfl) (fun _ _ _ h => h) (Or.inl ⟨by rfl, ?_⟩) (by assumption) ?_
 rotate_left
 · (intro w' hSw; clear hSw; go_simp; first | done | with_reducible rfl)
 try simp only [Act.put, List.setIfInBounds_toArray, List.set_cons_zero, List.set_cons_succ]
 refine wpAnyH_done (by kernel_rfl) ?_ _
 clear hS2 hHeld
 go_wp2
 go_ret
 exact ⟨rfl, C2.out, S2.out, O2.out⟩
theorem own_seven {W : World} {A T : Nat} {u0 u1 u2 u3 u4 u5 u6 u7 u8 u9 u10 : Value} (h : W.heap[A]? = some (.cells #[u0, u1, u2, u3, u4, u5, u6, u7, u8, u9, u10] T (0, 0))) (v4 v5 v6 v7 v8 v9 v10 : Value) :
   (((((((W.setCell ⟨A, 4, none⟩ (v4)).setCell ⟨A, 5, none⟩ (v5)).setCell ⟨A, 6, none⟩ (v6)).setCell ⟨A, 7, none⟩ (v7)).setCell ⟨A, 8, none⟩ (v8)).setCell ⟨A, 9, none⟩ (v9)).setCell ⟨A, 10, none⟩ (v10)).heap[A]? = some (.cells #[u0, u1, u2, u3, v4, v5, v6, v7, v8, v9, v10] T (0, 0)) := by
 simp only [World.setCell]
 simp [Array.getElem?_modify, h]
theorem ou_seven (W : World) (A : Nat) (v4 v5 v6 v7 v8 v9 v10 : Value) : Ou (fun k => k = A) W (((((((W.setCell ⟨A, 4, none⟩ (v4)).setCell ⟨A, 5, none⟩ (v5)).setCell ⟨A, 6, none⟩ (v6)).setCell ⟨A, 7, none⟩ (v7)).setCell ⟨A, 8, none⟩ (v8)).setCell ⟨A, 9, none⟩ (v9)).setCell ⟨A, 10, none⟩ (v10)) := by
 exact ((((((((Ou.of (S := fun k => k = A) (Below.refl _ _)).set rfl).set rfl).set rfl).set rfl).set rfl).set rfl).set rfl)
def CEntP (base : Nat) (c : Cv) (z : Int) (w : World) (e : Ending) (w' : World) : Prop := e = .returned (.int .i64 0) ∧ ∃ lb lc, CvM base w' { c with t := c.t + 1, lk := c.lk, lv := .slice (some ⟨lb, 0, none⟩) 1 lc, fz := z, dn := 0, nx := 2, L := [oM] } ∧ Ou (fun k => k = c.b1 ∨ k = c.b2 ∨ k = c.p) w w'
def OpBx (w : World) (ob : Nat) : Prop := w.cell? ⟨ob, 0, none⟩ = some (.int .u8 2) ∧ w.cell? ⟨ob, 1, none⟩ = some (.int .u32 16777217) ∧ w.cell? ⟨ob, 2, none⟩ = some (.int .u32 1) ∧ w.cell? ⟨ob, 3, none⟩ = some (.string ⟨#[97]⟩) ∧ w.cell? ⟨ob, 4, none⟩ = some (.int .u32 0) ∧ w.cell? ⟨ob, 5, none⟩ = some (.string ⟨#[]⟩) ∧ w.cell? ⟨ob, 6, none⟩ = some (.int .u16 0) ∧ w.cell? ⟨ob, 7, none⟩ = some (.string ⟨#[]⟩)
theorem OpBx.later {w w' : World} {ob : Nat} (h : OpBx w ob) (hb : Below w.heap.size w w') : OpBx w' ob := by
 obtain ⟨h0, h1, h2, h3, h4, h5, h6, h7⟩ := h
 exact ⟨cell_later hb h0, cell_later hb h1, cell_later hb h2, cell_later hb h3, cell_later hb h4, cell_later hb h5, cell_later hb h6, cell_later hb h7⟩
theorem do1c_c {w : World} (ob nb g s : Nat) (zf dn : Int) (ho : OpBx w ob) (hrow : w.heap[nb]? = some (.cells #[.slice (some ⟨g, 0, none⟩) 1 1, .slice (some ⟨s, 0, none⟩) 1 1, .slice none 0 0, .int .i64 zf, .int .u32 dn, .int .u32 1, .slice none 0 0] 77 (0, 0))) (hs : w.heap[s]? = some (.cells #[.int .u32 1, .int .u64 1, .int .u8 0] 200 (0, 0))) :
   Calls Tryz.prog 76 #[.pointer (some ⟨nb, 0, none⟩), .pointer (some ⟨ob, 0, none⟩)] w (WrP nb g s zf dn w) := by
 have WC := hid (cwrite_c nb g s zf dn hrow hs)
 obtain ⟨h0, h1, h2, h3, h4, h5, h6, h7⟩ := ho
 clear hrow hs
 go_enter Tryz.func76, Tryz.ntmps76
 go_wp2_with (go_at_call 77; refine WC.out.mono ?_; rintro _ w1 ⟨rfl, hp1⟩; have P1 := hid hp1; clear hp1)
 exact body_end (by kernel_rfl) rfl ⟨rfl, P1.out⟩
set_option maxHeartbeats 4000000 in
theorem center1_c {base : Nat} {w : World} {c : Cv} (h : CvM base w c) (hN : 204 ≤ c.N) (ht : c.t ≠ 4294967295) (ob : Nat) (hlv : c.lv = .slice none 0 0) (hfz : c.fz = 0) (hdn : c.dn = 0) (hnx : c.nx = 1)
   (CH : ∀ (W : World) (nb : Nat), Below w.heap.size w W → W.heap[nb]? = some (.cells #[.slice (some ⟨c.g, 0, none⟩) 1 1, .slice (some ⟨c.s, 0, none⟩) 1 1, .slice none 0 0, .int .i64 0, .int .u32 0, .int .u32 1, .slice none 0 0] 77 (0, 0)) → Calls Tryz.prog 76 #[.pointer (some ⟨nb, 0, none⟩), .pointer (some ⟨ob, 0, none⟩)] W (WrP nb c.g c.s 0 0 W)) :
   Calls Tryz.prog 43 #[.pointer (some ⟨c.p, 0, none⟩), .func (.func 76) #[] #[.pointer (some ⟨ob, 0, none⟩)], .func (.func 35) #[.agg #[pB c.j]] #[]] w (CEntP base c 0 w) := by
 have row : w.heap[c.p]? = some (.cells #[.int .u8 1, pB c.j, pA c.cb, .bool c.lk, .slice (some ⟨c.g, 0, none⟩) 1 1, .slice (some ⟨c.s, 0, none⟩) 1 1, .slice none 0 0, .int .i64 0, .int .u32 0, .int .u32 1, .slice none 0 0] 79 (0, 0)) := by have := h.2.2.1; rw [hlv, hfz, hdn, hnx] at this; exact this
 have k0 : w.cell? ⟨c.p, 4, none⟩ = some (.slice (some ⟨c.g, 0, none⟩) 1 1) := cell_of_row2 row 4 rfl
 have k1 : w.cell? ⟨c.p, 5, none⟩ = some (.slice (some ⟨c.s, 0, none⟩) 1 1) := cell_of_row2 row 5 rfl
 have k2 : w.cell? ⟨c.p, 6, none⟩ = some (.slice none 0 0) := cell_of_row2 row 6 rfl
 have k3 : w.cell? ⟨c.p, 7, none⟩ = some (.int .i64 0) := cell_of_row2 row 7 rfl
 have k4 : w.cell? ⟨c.p, 8, none⟩ = some (.int .u32 0) := cell_of_row2 row 8 rfl
 have k5 : w.cell? ⟨c.p, 9, none⟩ = some (.int .u32 1) := cell_of_row2 row 9 rfl
 have k6 : w.cell? ⟨c.p, 10, none⟩ = some (.slice none 0 0) := cell_of_row2 row 10 rfl
 have b1 := below_1 w (.cells #[.slice (some ⟨c.g, 0, none⟩) 1 1, .slice (some ⟨c.s, 0, none⟩) 1 1, .slice none 0 0, .int .i64 0, .int .u32 0, .int .u32 1, .slice none 0 0] 77)
 have g1 := heap_alloc_new w (.cells #[.slice (some ⟨c.g, 0, none⟩) 1 1, .slice (some ⟨c.s, 0, none⟩) 1 1, .slice none 0 0, .int .i64 0, .int .u32 0, .int .u32 1, .slice none 0 0] 77)
 have CHH := hid (CH (w.alloc (.cells #[.slice (some ⟨c.g, 0, none⟩) 1 1, .slice (some ⟨c.s, 0, none⟩) 1 1, .slice none 0 0, .int .i64 0, .int .u32 0, .int .u32 1, .slice none 0 0] 77)) w.heap.size b1 g1)
 have H := hid h
 have B1 := hid b1
 have KK := hid (fun (W : World) (hW : CvM base W c) lb lc cur hl hR => ckeep_c hW hN ht lb lc cur 0 (by decide) hl hR)
 have R0 := hid row
 have NB : Hid (c.p < w.heap.size) := hid (lt_blkR row)
 clear b1 g1 h hN ht hlv hfz hdn hnx row CH
 go_enter Tryz.func43, Tryz.ntmps43
 go_upto_region 2 with fail
 clear k0 k1 k2 k3 k4 k5 k6
 generalize (w.alloc (.cells #[.slice (some ⟨c.g, 0, none⟩) 1 1, .slice (some ⟨c.s, 0, none⟩) 1 1, .slice none 0 0, .int .i64 0, .int .u32 0, .int .u32 1, .slice none 0 0] 77)) = V at *
 go_upto_region 3 with (go_at_call 76; refine CHH.out.mono ?_; rintro _ w1 ⟨rfl, lb, lc, cur, hn1, hl1, hR1, hlb1, ho1⟩; have O1 := hid ho1; have N1 := hid hn1; have L1 := hid hl1; have R1 := hid hR1; have LB := hid hlb1; clear hn1 hl1 hR1 hlb1 ho1)
 clear CHH
 have BW : Hid (Below w.heap.size w w1) := hid (B1.out.trans (O1.out.below B1.out.size (fun k e => Nat.le_of_eq e.symm)))
 have C1 := hid (H.out.later BW.out)
 have KV := hid (KK.out w1 C1.out lb lc cur L1.out R1.out)
 have rn := N1.out
 have n0 : w1.cell? ⟨w.heap.size, 0, none⟩ = some (.slice (some ⟨c.g, 0, none⟩) 1 1) := cell_of_row2 rn 0 rfl
 have n1 : w1.cell? ⟨w.heap.size, 1, none⟩ = some (.slice (some ⟨c.s, 0, none⟩) 1 1) := cell_of_row2 rn 1 rfl
 have n2 : w1.cell? ⟨w.heap.size, 2, none⟩ = some (.slice (some ⟨lb, 0, none⟩) 1 lc) := cell_of_row2 rn 2 rfl
 have n3 : w1.cell? ⟨w.heap.size, 3, none⟩ = some (.int .i64 0) := cell_of_row2 rn 3 rfl
 have n4 : w1.cell? ⟨w.heap.size, 4, none⟩ = some (.int .u32 0) := cell_of_row2 rn 4 rfl
 have n5 : w1.cell? ⟨w.heap.size, 5, none⟩ = some (.int .u32 2) := cell_of_row2 rn 5 rfl
 have n6 : w1.cell? ⟨w.heap.size, 6, none⟩ = some (.slice none 0 0) := cell_of_row2 rn 6 rfl
 clear KK
 go_wp2_with (go_at_call 35; refine KV.out.mono ?_; rintro _ w2 ⟨rfl, hc2, hst2, hou2⟩; have C2 := hid hc2; have S2 := hid hst2; have O2 := hid hou2; have rn2 := hst2 _ _ _ _ rn; have m0 : w2.cell? ⟨w.heap.size, 0, none⟩ = some (.slice (some ⟨c.g, 0, none⟩) 1 1) := cell_of_row2 rn2 0 rfl; have m1 : w2.cell? ⟨w.heap.size, 1, none⟩ = some (.slice (some ⟨c.s, 0, none⟩) 1 1) := cell_of_row2 rn2 1 rfl; have m2 : w2.cell? ⟨w.heap.size, 2, none⟩ = some (.slice (some ⟨lb, 0, none⟩) 1 lc) := cell_of_row2 rn2 2 rfl; have m3 : w2.cell? ⟨w.heap.size, 3, none⟩ = some (.int .i64 0) := cell_of_row2 rn2 3 rfl; have m4 : w2.cell? ⟨w.heap.size, 4, none⟩ = some (.int .u32 0) := cell_of_row2 rn2 4 rfl; have m5 : w2.cell? ⟨w.heap.size, 5, none⟩ = some (.int .u32 2) := cell_of_row2 rn2 5 rfl; have m6 : w2.cell? ⟨w.heap.size, 6, none⟩ = some (.slice none 0 0) := cell_of_row2 rn2 6 rfl; have rp2 := hst2 _ _ _ _ ((BW.out.block _ NB.out).trans R0.out); have q0 : w2.cell? ⟨c.p, 4, none⟩ = some (.slice (some ⟨c.g, 0, none⟩) 1 1) := cell_of_row2 rp2 4 rfl; have q1 : w2.cell? ⟨c.p, 5, none⟩ = some (.slice (some ⟨c.s, 0, none⟩) 1 1) := cell_of_row2 rp2 5 rfl; have q2 : w2.cell? ⟨c.p, 6, none⟩ = some (.slice none 0 0) := cell_of_row2 rp2 6 rfl; have q3 : w2.cell? ⟨c.p, 7, none⟩ = some (.int .i64 0) := cell_of_row2 rp2 7 rfl; have q4 : w2.cell? ⟨c.p, 8, none⟩ = some (.int .u32 0) := cell_of_row2 rp2 8 rfl; have q5 : w2.cell? ⟨c.p, 9, none⟩ = some (.int .u32 1) := cell_of_row2 rp2 9 rfl; have q6 : w2.cell? ⟨c.p, 10, none⟩ = some (.slice none 0 0) := cell_of_row2 rp2 10 rfl; have fz : ∀ i, w2.frozen? ⟨c.p, i, none⟩ = false := fun i => (by simp [World.frozen?, rp2]); clear hc2 hst2 hou2)
 have Q3 := own_seven rp2 (.slice (some ⟨c.g, 0, none⟩) 1 1) (.slice (some ⟨c.s, 0, none⟩) 1 1) (.slice (some ⟨lb, 0, none⟩) 1 lc) (.int .i64 0) (.int .u32 0) (.int .u32 2) (.slice none 0 0)
 have O3 := ou_seven w2 c.p (.slice (some ⟨c.g, 0, none⟩) 1 1) (.slice (some ⟨c.s, 0, none⟩) 1 1) (.slice (some ⟨lb, 0, none⟩) 1 lc) (.int .i64 0) (.int .u32 0) (.int .u32 2) (.slice none 0 0)
 go_ret
 have L2 : LgM w2 (.slice (some ⟨lb, 0, none⟩) 1 lc) [oM] := .inr ⟨lb, lc, cur, oM, rfl, rfl, S2.out _ _ _ _ L1.out, R1.out⟩
 refine ⟨rfl, lb, lc, CvM.own C2.out O3 c.lk (.slice (some ⟨lb, 0, none⟩) 1 lc) 0 0 2 [oM] L2 Q3, ((Ou.of BW.out).trans (O2.out.mono (fun k e => ?_))).trans (O3.mono (fun k e => .inr (.inr e)))⟩
 rcases e with e | e
 · exact .inl e
 · exact .inr (.inl e)
def Ca.dirt (c : Ca) : Ca := let d := if c.has 16777217 then c.markS 16777217 true else c; if d.has 1 then d.markS 1 true else d
theorem mdirty_c {base : Nat} {w : World} {c : Cv} (h : CvM base w c) (hk : CaK c.ca) (q cap : Nat) (h0 : w.cell? ⟨q, 0, none⟩ = some (.int .u32 16777217)) (h1 : w.cell? ⟨q, 1, none⟩ = some (.int .u32 1)) :
   Calls Tryz.prog 78 #[.pointer (some ⟨c.p, 2, none⟩), .slice (some ⟨q, 0, none⟩) 2 cap] w fun e w' => e = .returned (.tuple #[]) ∧ CvM base w' { c with ca := c.ca.dirt } ∧ Ou (Tri c.cb c.cm c.ch) w w' := by
 obtain ⟨q1, q2, q3, q4, q5⟩ := hk
 have row := h.2.2.1
 have k2 : w.cell? ⟨c.p, 2, none⟩ = some (pA c.cb) := cell_of_row2 row 2 rfl
 obtain ⟨ca1, e1⟩ : ∃ ca1, ca1 = if c.ca.has 16777217 then c.ca.markS 16777217 true else c.ca := ⟨_, rfl⟩
 obtain ⟨ca2, e2⟩ : ∃ ca2, ca2 = if ca1.has 1 then ca1.markS 1 true else ca1 := ⟨_, rfl⟩
 have ED : Hid (ca2 = c.ca.dirt) := hid (by rw [e2, e1]; rfl)
 have MM : ca1.m < 1000 := by
   rw [e1]
   split
   · show addN c.ca.f _ c.ca.m < 1000
     unfold addN; split <;> omega
   · omega
 have M1 : Hid (Calls Tryz.prog 99 #[pA c.cb, .int .u32 16777217, .bool true] w fun e w' => ∃ r, e = .returned (.int .i64 r) ∧ IsCa w' c.cb c.cm c.ch ca1 ∧ Ou (Tri c.cb c.cm c.ch) w w') := hid ((mark_c h.2.1 (by omega) (i := 16777217) (by decide) (by decide) true).mono (fun e w' q => ⟨_, q.1, by rw [e1]; exact q.2.1, q.2.2⟩))
 have M2 : Hid (∀ W, IsCa W c.cb c.cm c.ch ca1 → Calls Tryz.prog 99 #[pA c.cb, .int .u32 1, .bool true] W fun e w' => ∃ r, e = .returned (.int .i64 r) ∧ IsCa w' c.cb c.cm c.ch ca2 ∧ Ou (Tri c.cb c.cm c.ch) W w') := hid (fun W hc => (mark_c hc MM (i := 1) (by decide) (by decide) true).mono (fun e w' q => ⟨_, q.1, by rw [e2]; exact q.2.1, q.2.2⟩))
 have K2 : Hid (∀ W ca', CvM base W { c with ca := ca' } → W.cell? ⟨c.p, 2, none⟩ = some (pA c.cb)) := hid (fun W ca' hW => cell_of_row2 hW.2.2.1 2 rfl)
 have H := hid h
 have CST := hid (fun W (ho : Ou (Tri c.cb c.cm c.ch) w W) => Cst.of h.2.1 ho _ _ h1 rfl)
 rw [← ED.out]
 clear row h MM e1 e2 ED
 go_enter Tryz.func78, Tryz.ntmps78
 go_wp2
 refine wp_loop_rounds 3 ?_
 rw [rounds_succ]
 go_wp2_with (go_at_call 99; refine M1.out.mono ?_; rintro _ w1 ⟨r1, rfl, hc1, ho1⟩; have C1 := hid (H.out.cache ho1 hc1); have A1 := hid hc1; have O1 := hid ho1; have r1' := CST.out _ ho1; have p1 := K2.out _ _ C1.out; clear hc1 ho1)
 rw [rounds_succ]
 go_wp2_with (go_at_call 99; refine (M2.out _ A1.out).mono ?_; rintro _ w2 ⟨r2, rfl, hc2, ho2⟩; have C2 := hid (C1.out.cache ho2 hc2); have O2 := hid (O1.out.trans ho2); clear hc2 ho2)
 rw [rounds_succ]
 go_wp2
 exact body_end (by kernel_rfl) rfl ⟨rfl, C2.out, O2.out⟩
end Go.Proofs.YtfmghbennahlfaaGreat
