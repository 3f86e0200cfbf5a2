/-
  For every node, every snapshot (its first fifty nodes and versions are looked at) and every bytes (the first 20000): what is read of what was written is it, and what is written of what was read are the bytes. (Written by gen_lawrecnodes.py.)
-/
import Derived.Test.YtbgninmkglgfeaaGV
import Derived.Test.YtbgninmkglgfeaaRLv2
namespace Go.Proofs.Ytbgninmkglgfeaa
open Go.RowKit Go.ChangeShapes Go.WideShapes Go.ChangeAt Go.Maps Go.Shelf
open Go.ChangeMaps (open_string shut_string)
open Go.BigFrame
set_option linter.unusedVariables false
set_option linter.unusedSimpArgs false
set_option maxRecDepth 100000
theorem isB_cap {H : Type} {enc : TypeId × Value → H} {P : Program} {W : World} {t e : TypeId} {a : Option Addr} {len cap : Nat} {d : DataW H} {p : List MemPlace}
    (ht : P.underlying t = some (.slice e)) (he : P.underlying e = some (.int .u8)) (hc : P.cellsOf e = 1)
    (h : DataW.Trod enc P W 0 (fun _ => true) true t (.slice a len cap) d p) : a = none → cap = 0 := by
  obtain ⟨fuel, hf⟩ := h
  rcases open_ints ht he hc hf with ⟨hcs, _⟩ | ⟨x, l, c, zs, hcs, _⟩
  · simp [Value.cells] at hcs
    exact fun _ => hcs.2.2
  · simp [Value.cells] at hcs
    intro h0
    rw [h0] at hcs
    cases hcs.1
theorem txS_in (s : ByteArray) : ∀ y ∈ txF s, 0 ≤ y ∧ y ≤ 255 := fun y hy => by
  unfold txF at hy
  rcases List.mem_append.1 hy with h | h
  · exact beF_in _ _ y h
  · unfold Fr.bs at h
    obtain ⟨c, _, rfl⟩ := List.mem_map.1 h
    have := c.toNat_lt
    omega
theorem nodeB_inS (x : Nd) : ∀ y ∈ nodeB x, 0 ≤ y ∧ y ≤ 255 := fun y hy => by
  unfold nodeB at hy
  simp only [List.mem_append] at hy
  rcases hy with ((((h | h) | h) | h) | h) | (h | h)
  · exact beF_in _ _ y h
  · exact beF_in _ _ y h
  · exact beF_in _ _ y h
  · exact beF_in _ _ y h
  · exact txS_in _ y h
  · exact beF_in _ _ y h
  · unfold kidsB at h
    obtain ⟨k, _, hk⟩ := List.mem_flatMap.1 h
    unfold kidB at hk
    rcases List.mem_append.1 hk with h2 | h2
    · exact txS_in _ y h2
    · exact beF_in _ _ y h2
theorem snapB_inS (ns : List Nd) (ss : List St) : ∀ y ∈ snapB ns ss, 0 ≤ y ∧ y ≤ 255 := fun y hy => by
  unfold snapB measuresB stampsB measB stampB at hy
  simp only [List.mem_append, List.mem_flatMap] at hy
  rcases hy with (h | ⟨x, _, h | h⟩) | (h | ⟨x, _, h | h | h⟩)
  · exact beF_in _ _ y h
  · exact beF_in _ _ y h
  · exact nodeB_inS _ y h
  · exact beF_in _ _ y h
  · exact beF_in _ _ y h
  · exact beF_in _ _ y h
  · exact beF_in _ _ y h
theorem readsZ_good {w w' : World} {zs : List Int} {e : Ending} {ns : List Nd} {ss : List St} (h : ReadsZ w zs e w') (hg : GoodZ zs ns ss) :
    Below w.heap.size w w' ∧ ∃ a ca b cb L, e = .returned (.tuple #[snV a L.length ca b ss.length cb, .int .i64 0]) ∧ L.map Nd.er = ns.map Nd.er ∧ SnOwn w' w.heap.size a ca L b cb ss := by
  obtain ⟨hb, ⟨ns', ss', e1, h2⟩ | ⟨e1, _⟩⟩ := h
  · have e6 := e1.1
    rw [hg.1] at e6
    simp only [Option.some.injEq, Prod.mk.injEq] at e6
    obtain ⟨⟨rfl, rfl⟩, _⟩ := e6
    exact ⟨hb, h2⟩
  · exact absurd hg (e1 _ _)
theorem readsZ_bad {w w' : World} {zs : List Int} {e : Ending} (h : ReadsZ w zs e w') (hg : ∀ ns ss, ¬ GoodZ zs ns ss) :
    Below w.heap.size w w' ∧ e = .returned (.tuple #[snNo, .int .i64 3]) := by
  obtain ⟨hb, ⟨ns', ss', e1, h2⟩ | ⟨_, e2⟩⟩ := h
  · exact absurd e1 (hg _ _)
  · exact ⟨hb, e2⟩
theorem few7_le (n : Nat) : few7 n ≤ n := by unfold few7; split <;> omega
set_option maxHeartbeats 8000000 in
theorem recordNodes_fff (x : Nd) (a : Option Addr) (ca : Nat) (b : Option Addr) (cb : Nat) (ns : List Nd) (ss : List St) (lca : ns.length ≤ ca) (lcb : ss.length ≤ cb) (a2 : Option Addr) (len2 cap2 : Nat) (z2 : List Int) (lc2 : len2 ≤ cap2) (w : World) (hx : x.Ok w) (hn : IsNs w a ns) (hs : IsSs w b ss) (h2 : IsB w a2 len2 z2) (rx : nodeOk x = false) (rs : ¬ RSnap (ns.take 50) (ss.take 50)) (rz : ∀ ms ts, ¬ GoodZ (z2.take (few7 len2)) ms ts) :
    Calls Try.prog 5 #[x.val, snV a ns.length ca b ss.length cb, .slice a2 len2 cap2] w fun e w' => e = .returned (.bool true) ∧ Below w.heap.size w w' := by
  have I3 := h2.front (few7 len2) (few7_le _)
  have hcf : few7 len2 ≤ cap2 := Nat.le_trans (few7_le _) lc2
  have FW := hid (fun W (hW : Below w.heap.size w W) => few7_c a2 len2 cap2 z2 W (h2.later hW) lc2)
  have RA := hid (fun W (hW : Below w.heap.size w W) => readSnapAny_c a2 (few7 len2) cap2 _ W (I3.later hW) hcf)
  have RZ := hid rz
  have LC := hid rlive_c
  generalize z2.take (few7 len2) = R at *
  generalize few7 len2 = n3 at *
  clear rz h2 lc2 hcf I3
  have b0 := below_1 w (.cells x.cells.toArray 39)
  have h0 := heap_alloc_new w (.cells x.cells.toArray 39)
  have b1 := below_1 (w.alloc (.cells x.cells.toArray 39)) (.cells #[.slice a ns.length ca, .slice b ss.length cb] 49)
  have h1 := heap_alloc_new (w.alloc (.cells x.cells.toArray 39)) (.cells #[.slice a ns.length ca, .slice b ss.length cb] 49)
  rw [show (w.alloc (.cells x.cells.toArray 39)).heap.size = w.heap.size + 1 by simp] at h1
  have h0' := (b1.block _ (lt_blkR h0)).trans h0
  have bV := b0.trans (b1.mono b0.size)
  have B0 := hid bV
  have H0 := hid h0'
  have H1 := hid h1
  obtain ⟨p0, p1, p2, p3, p4, p5⟩ := nd_cells h0'
  obtain ⟨s0, s1⟩ := sn_cells h1
  have OX := hid (node_c x ((w.alloc (.cells x.cells.toArray 39)).alloc (.cells #[.slice a ns.length ca, .slice b ss.length cb] 49)) (hx.later bV))
  have HX := hid hx
  have SM := hid (fun W => small_c a b ca cb ns.length ss.length W (fun h => by obtain ⟨p, o, e, _⟩ := hn.2.2 (by omega); exact ⟨p, o, e⟩) (fun h => by obtain ⟨p, o, e, _⟩ := hs.2.2 (by omega); exact ⟨p, o, e⟩) lca lcb)
  rw [n50_take, n50_take] at SM
  have L1 := hid (show (ns.take 50).length ≤ 50 by rw [List.length_take]; omega)
  have L2 := hid (show (ss.take 50).length ≤ 50 by rw [List.length_take]; omega)
  have HN := hid (hn.take 50)
  have HS := hid (hs.take 50)
  have WF : Hid (RSnap (ns.take 50) (ss.take 50) → ∀ y ∈ ns.take 50, y.Wf) := hid (fun hr y hy => nd_wf ((hn.take 50).2.1 y hy) (right_ok hr.1 y hy))
  generalize ns.take 50 = ns5 at *
  generalize ss.take 50 = ss5 at *
  have SC := hid (fun W (hW : Below w.heap.size w W) => snapshot_c a b ca cb ns5 ss5 W (HN.out.later hW) (HS.out.later hW) (by have := L1.out; omega) (by have := L2.out; omega) WF.out)
  clear b0 b1 h0 h1 h0' bV hn hs lca lcb
  rw [rx] at OX
  simp only [Bool.false_eq_true, if_false] at OX
  clear hx rx
  have SC2 := hid (fun W (hW : Below w.heap.size w W) => (SC.out W hW).mono (fun e9 w9 (h9 : SnapPost ns5 ss5 W e9 w9) => show e9 = .returned (.tuple #[.slice none 0 0, .int .i64 3]) ∧ Below W.heap.size W w9 from by
    obtain ⟨⟨h, _⟩ | ⟨_, h⟩, hb⟩ := h9
    · exact absurd h rs
    · exact ⟨h, hb⟩))
  clear SC rs WF
  have RR := hid (fun W (hW : Below w.heap.size w W) => (RA.out W hW).mono (fun e9 w9 (h9 : ReadsZ W R e9 w9) => readsZ_bad h9 RZ.out))
  clear RA
  obtain ⟨fid, k, md, ln, da0, dc0, dz, ka0, kc0, dk⟩ := x
  simp only [Nd.val, Nd.cells, snV] at *
  have t0 := hid True.intro
  go_enter Try.func5, Try.ntmps5
  go_wp2_with (first
    | (have _q := t0.out; clear _q; go_at_call 22; refine OX.out.mono ?_; rintro _ w3 ⟨rfl, hb3⟩
       have S3 := hid hb3
       have B3 := hid (B0.out.trans (hb3.mono B0.out.size))
       have H1c := hid ((hb3.block _ (lt_blkR H1.out)).trans H1.out)
       obtain ⟨s0, s1⟩ := sn_cells H1c.out
       have fs := frz H1c.out
       have t1 := hid True.intro
       clear hb3 t0 OX)
    | (have _q := t1.out; clear _q; go_at_call 16; refine (SM.out _).mono ?_; rintro _ w4 ⟨rfl, hb4⟩
       have H1d := hid ((hb4.block _ (lt_blkR H1c.out)).trans H1c.out)
       obtain ⟨s0, s1⟩ := sn_cells H1d.out
       have fs := frz H1d.out
       have bb4 := B3.out.trans (hb4.mono B3.out.size)
       have B5 : Hid (Below w.heap.size w ((w4.setCell ⟨w.heap.size + 1, 0, none⟩ (.slice a ns5.length ca)).setCell ⟨w.heap.size + 1, 1, none⟩ (.slice b ss5.length cb))) := hid ((bb4.setCell (p := ⟨w.heap.size + 1, 0, none⟩) (Nat.le_succ _) _).setCell (p := ⟨w.heap.size + 1, 1, none⟩) (Nat.le_succ _) _)
       have C5a : Hid (((w4.setCell ⟨w.heap.size + 1, 0, none⟩ (.slice a ns5.length ca)).setCell ⟨w.heap.size + 1, 1, none⟩ (.slice b ss5.length cb)).cell? ⟨w.heap.size + 1, 0, none⟩ = some (.slice a ns5.length ca)) := hid (by simp [go_sem, s0, s1])
       have C5b : Hid (((w4.setCell ⟨w.heap.size + 1, 0, none⟩ (.slice a ns5.length ca)).setCell ⟨w.heap.size + 1, 1, none⟩ (.slice b ss5.length cb)).cell? ⟨w.heap.size + 1, 1, none⟩ = some (.slice b ss5.length cb)) := hid (by simp [go_sem, s0, s1])
       have t2 := hid True.intro
       clear hb4 bb4 t1 SM H1c)
    | (have _q := t2.out; clear _q; go_at_call 17; refine (SC2.out _ B5.out).mono ?_; rintro _ w9 ⟨rfl, hb9⟩
       have B9 := hid (B5.out.trans (hb9.mono B5.out.size))
       have t3 := hid True.intro
       clear hb9 t2 SC2 C5a C5b H1d s0 s1 fs)
    | (have _q := t3.out; clear _q; go_at_call 6; refine (FW.out _ B9.out).mono ?_; rintro _ wf ⟨rfl, hwf⟩; have hwf2 := hwf.symm; clear hwf; subst hwf2
       have RB := hid (RR.out _ B9.out)
       have t4 := hid True.intro
       clear t3)
    | (have _q := t4.out; clear _q; go_at_call 19; refine RB.out.mono ?_; rintro _ w10 ⟨hb10, rfl⟩
       have b10 := below_1 w10 (.cells #[.slice none 0 0, .slice none 0 0] 49)
       have H10 := hid (heap_alloc_new w10 (.cells #[.slice none 0 0, .slice none 0 0] 49))
       have B10 := hid (B9.out.trans ((hb10.trans (b10.mono hb10.size)).mono B9.out.size))
       obtain ⟨m0, m1⟩ := sn_cells H10.out
       try unfold snNo
       have t5 := hid True.intro
       clear hb10 b10 t4 RB)
    | (have _q := t5.out; clear _q; go_at_call 13; refine (LC.out _).mono ?_; rintro _ wL ⟨rfl, hbL⟩
       have BL := hid (B10.out.trans (hbL.mono B10.out.size))
       obtain ⟨m0, m1⟩ := sn_cells ((hbL.block _ (lt_blkR H10.out)).trans H10.out)
       clear hbL t5))
  go_ret
  exact ⟨by first | rfl | simp, BL.out⟩
set_option maxHeartbeats 8000000 in
theorem recordNodes_fft (x : Nd) (a : Option Addr) (ca : Nat) (b : Option Addr) (cb : Nat) (ns : List Nd) (ss : List St) (lca : ns.length ≤ ca) (lcb : ss.length ≤ cb) (a2 : Option Addr) (len2 cap2 : Nat) (z2 : List Int) (lc2 : len2 ≤ cap2) (w : World) (hx : x.Ok w) (hn : IsNs w a ns) (hs : IsSs w b ss) (h2 : IsB w a2 len2 z2) (rx : nodeOk x = false) (rs : ¬ RSnap (ns.take 50) (ss.take 50)) (ms : List Nd) (ts : List St) (rz : GoodZ (z2.take (few7 len2)) ms ts) :
    Calls Try.prog 5 #[x.val, snV a ns.length ca b ss.length cb, .slice a2 len2 cap2] w fun e w' => e = .returned (.bool true) ∧ Below w.heap.size w w' := by
  have I3 := h2.front (few7 len2) (few7_le _)
  have hcf : few7 len2 ≤ cap2 := Nat.le_trans (few7_le _) lc2
  have FW := hid (fun W (hW : Below w.heap.size w W) => few7_c a2 len2 cap2 z2 W (h2.later hW) lc2)
  have RA := hid (fun W (hW : Below w.heap.size w W) => readSnapAny_c a2 (few7 len2) cap2 _ W (I3.later hW) hcf)
  have RZ := hid rz
  have LC := hid rlive_c
  obtain ⟨zb, zn1, zn2, zw, zv⟩ := snapP_back I3.2.2.2 rz.1
  rw [List.append_nil] at zb
  have ZB := hid zb
  have ZN1 := hid zn1
  have ZN2 := hid zn2
  have FE0 := FW
  have I3H := hid I3
  clear zb zn1 zn2 zw zv
  generalize z2.take (few7 len2) = R at *
  generalize few7 len2 = n3 at *
  clear rz h2 lc2 hcf I3
  have b0 := below_1 w (.cells x.cells.toArray 39)
  have h0 := heap_alloc_new w (.cells x.cells.toArray 39)
  have b1 := below_1 (w.alloc (.cells x.cells.toArray 39)) (.cells #[.slice a ns.length ca, .slice b ss.length cb] 49)
  have h1 := heap_alloc_new (w.alloc (.cells x.cells.toArray 39)) (.cells #[.slice a ns.length ca, .slice b ss.length cb] 49)
  rw [show (w.alloc (.cells x.cells.toArray 39)).heap.size = w.heap.size + 1 by simp] at h1
  have h0' := (b1.block _ (lt_blkR h0)).trans h0
  have bV := b0.trans (b1.mono b0.size)
  have B0 := hid bV
  have H0 := hid h0'
  have H1 := hid h1
  obtain ⟨p0, p1, p2, p3, p4, p5⟩ := nd_cells h0'
  obtain ⟨s0, s1⟩ := sn_cells h1
  have OX := hid (node_c x ((w.alloc (.cells x.cells.toArray 39)).alloc (.cells #[.slice a ns.length ca, .slice b ss.length cb] 49)) (hx.later bV))
  have HX := hid hx
  have SM := hid (fun W => small_c a b ca cb ns.length ss.length W (fun h => by obtain ⟨p, o, e, _⟩ := hn.2.2 (by omega); exact ⟨p, o, e⟩) (fun h => by obtain ⟨p, o, e, _⟩ := hs.2.2 (by omega); exact ⟨p, o, e⟩) lca lcb)
  rw [n50_take, n50_take] at SM
  have L1 := hid (show (ns.take 50).length ≤ 50 by rw [List.length_take]; omega)
  have L2 := hid (show (ss.take 50).length ≤ 50 by rw [List.length_take]; omega)
  have HN := hid (hn.take 50)
  have HS := hid (hs.take 50)
  have WF : Hid (RSnap (ns.take 50) (ss.take 50) → ∀ y ∈ ns.take 50, y.Wf) := hid (fun hr y hy => nd_wf ((hn.take 50).2.1 y hy) (right_ok hr.1 y hy))
  generalize ns.take 50 = ns5 at *
  generalize ss.take 50 = ss5 at *
  have SC := hid (fun W (hW : Below w.heap.size w W) => snapshot_c a b ca cb ns5 ss5 W (HN.out.later hW) (HS.out.later hW) (by have := L1.out; omega) (by have := L2.out; omega) WF.out)
  clear b0 b1 h0 h1 h0' bV hn hs lca lcb
  rw [rx] at OX
  simp only [Bool.false_eq_true, if_false] at OX
  clear hx rx
  have SC2 := hid (fun W (hW : Below w.heap.size w W) => (SC.out W hW).mono (fun e9 w9 (h9 : SnapPost ns5 ss5 W e9 w9) => show e9 = .returned (.tuple #[.slice none 0 0, .int .i64 3]) ∧ Below W.heap.size W w9 from by
    obtain ⟨⟨h, _⟩ | ⟨_, h⟩, hb⟩ := h9
    · exact absurd h rs
    · exact ⟨h, hb⟩))
  clear SC rs WF
  have RR := hid (fun W (hW : Below w.heap.size w W) => (RA.out W hW).mono (fun e9 w9 (h9 : ReadsZ W R e9 w9) => readsZ_good h9 RZ.out))
  clear RA
  obtain ⟨fid, k, md, ln, da0, dc0, dz, ka0, kc0, dk⟩ := x
  simp only [Nd.val, Nd.cells, snV] at *
  have RI : Hid (∀ y ∈ R, 0 ≤ y ∧ y ≤ 255) := hid (fun y hy => by
    obtain ⟨i, hi, rfl⟩ := List.getElem_of_mem hy
    have := I3H.out.2.2.2 i
    simpa [List.getD, hi] using this)
  have t0 := hid True.intro
  go_enter Try.func5, Try.ntmps5
  go_wp2_with (first
    | (have _q := t0.out; clear _q; go_at_call 22; refine OX.out.mono ?_; rintro _ w3 ⟨rfl, hb3⟩
       have S3 := hid hb3
       have B3 := hid (B0.out.trans (hb3.mono B0.out.size))
       have H1c := hid ((hb3.block _ (lt_blkR H1.out)).trans H1.out)
       obtain ⟨s0, s1⟩ := sn_cells H1c.out
       have fs := frz H1c.out
       have t1 := hid True.intro
       clear hb3 t0 OX)
    | (have _q := t1.out; clear _q; go_at_call 16; refine (SM.out _).mono ?_; rintro _ w4 ⟨rfl, hb4⟩
       have H1d := hid ((hb4.block _ (lt_blkR H1c.out)).trans H1c.out)
       obtain ⟨s0, s1⟩ := sn_cells H1d.out
       have fs := frz H1d.out
       have bb4 := B3.out.trans (hb4.mono B3.out.size)
       have B5 : Hid (Below w.heap.size w ((w4.setCell ⟨w.heap.size + 1, 0, none⟩ (.slice a ns5.length ca)).setCell ⟨w.heap.size + 1, 1, none⟩ (.slice b ss5.length cb))) := hid ((bb4.setCell (p := ⟨w.heap.size + 1, 0, none⟩) (Nat.le_succ _) _).setCell (p := ⟨w.heap.size + 1, 1, none⟩) (Nat.le_succ _) _)
       have C5a : Hid (((w4.setCell ⟨w.heap.size + 1, 0, none⟩ (.slice a ns5.length ca)).setCell ⟨w.heap.size + 1, 1, none⟩ (.slice b ss5.length cb)).cell? ⟨w.heap.size + 1, 0, none⟩ = some (.slice a ns5.length ca)) := hid (by simp [go_sem, s0, s1])
       have C5b : Hid (((w4.setCell ⟨w.heap.size + 1, 0, none⟩ (.slice a ns5.length ca)).setCell ⟨w.heap.size + 1, 1, none⟩ (.slice b ss5.length cb)).cell? ⟨w.heap.size + 1, 1, none⟩ = some (.slice b ss5.length cb)) := hid (by simp [go_sem, s0, s1])
       have t2 := hid True.intro
       clear hb4 bb4 t1 SM H1c)
    | (have _q := t2.out; clear _q; go_at_call 17; refine (SC2.out _ B5.out).mono ?_; rintro _ w9 ⟨rfl, hb9⟩
       have B9 := hid (B5.out.trans (hb9.mono B5.out.size))
       have t3 := hid True.intro
       clear hb9 t2 SC2 C5a C5b H1d s0 s1 fs)
    | (have _q := t3.out; clear _q; go_at_call 6; refine (FW.out _ B9.out).mono ?_; rintro _ wf ⟨rfl, hwf⟩; have hwf2 := hwf.symm; clear hwf; subst hwf2
       have RB := hid (RR.out _ B9.out)
       have t4 := hid True.intro
       clear t3)
    | (have _q := t4.out; clear _q; go_at_call 19; refine RB.out.mono ?_; rintro _ w10 ⟨hb10, va2, vc2, vb2, vd2, M, rfl, hM10, hO10⟩
       have b10 := below_1 w10 (.cells #[.slice va2 M.length vc2, .slice vb2 ts.length vd2] 49)
       have h10 := heap_alloc_new w10 (.cells #[.slice va2 M.length vc2, .slice vb2 ts.length vd2] 49)
       have B10 := hid (B9.out.trans ((hb10.trans (b10.mono hb10.size)).mono B9.out.size))
       have O10 := hO10.later b10
       have ML : M.length = ms.length := by have := congrArg List.length hM10; simpa using this
       have RM : RSnap M ts := by rw [← rsnap_er, hM10, rsnap_er]; exact RZ.out.2
       have SB : snapB M ts = R := by rw [← snapB_er, hM10, snapB_er]; exact ZB.out.symm
       have SD := hid ((snapshot_c va2 vb2 vc2 vd2 M ts _ O10.ns O10.st (by have := ZN1.out; omega) (by have := ZN2.out; omega) (fun _ y hy => (O10.1.2 y hy).1)).mono (fun e9 w9 (h9 : SnapPost M ts _ e9 w9) => show (∃ v, e9 = .returned (.tuple #[v, .int .i64 0]) ∧ OwB w9 (w10.alloc (.cells #[.slice va2 M.length vc2, .slice vb2 ts.length vd2] 49)).heap.size v R) ∧ Below (w10.alloc (.cells #[.slice va2 M.length vc2, .slice vb2 ts.length vd2] 49)).heap.size (w10.alloc (.cells #[.slice va2 M.length vc2, .slice vb2 ts.length vd2] 49)) w9 from by
         obtain ⟨⟨_, h⟩ | ⟨h, _⟩, hb⟩ := h9
         · rw [SB] at h; exact ⟨h, hb⟩
         · exact absurd RM h))
       obtain ⟨m0, m1⟩ := sn_cells h10
       try unfold snV
       have t5 := hid True.intro
       clear hb10 b10 h10 O10 ML RM SB hM10 hO10 t4 RB)
    | (have _q := t5.out; clear _q; go_at_call 17; refine SD.out.mono ?_; rintro _ w11 ⟨⟨v11, rfl, hO11⟩, hb11⟩
       have B11 := hid (B10.out.trans (hb11.mono B10.out.size))
       obtain ⟨aw, cw, rfl, hI11, _, _⟩ := isB_ownR hO11 RI.out
       have I11 := hid hI11
       clear hb11 hO11 hI11 t5 SD m0 m1))
  have RL : R.length = n3 := I3H.out.1
  have cvx : ∀ w', Below w11.heap.size w11 w' → (convert 22 9 (.slice aw R.length cw)).run Try.prog w' = .ok (.string (Fr.tx R)) w' := fun w' h => conv_anyN (I11.out.later h)
  have cva : ∀ w', Below w11.heap.size w11 w' → (convert 22 9 (.slice a2 n3 cap2)).run Try.prog w' = .ok (.string (Fr.tx R)) w' := fun w' h => by have := conv_anyN (pc := cap2) (zs := R) (by rw [RL]; exact I3H.out.later (B11.out.trans (h.mono B11.out.size))); rw [RL] at this; exact this
  have FE := hid (fun w' (h : Below w11.heap.size w11 w') => FW.out w' (B11.out.trans (h.mono B11.out.size)))
  clear RL
  refine wp_region_class (by kernel_rfl) (by kernel_rfl) ?_
  repeat (first
    | go_big_quiet_skip
    | (go_big_quiet_want
       apply quiet_by
       · intro w1 hw1
         go_simp
         first
           | rfl
           | (go_at_call 13; exact class_of hw1 (LC.out _))
           | (go_at_call 6; exact class_same hw1 (FE.out _ hw1))
       · go_simp; rfl
       go_big_quiet_on))
  refine wpQuiet_nil ?_
  intro w9 hw9
  go_wp2
  go_ret
  exact ⟨rfl, B11.out.trans (hw9.mono B11.out.size)⟩
set_option maxHeartbeats 8000000 in
theorem recordNodes_ftf (x : Nd) (a : Option Addr) (ca : Nat) (b : Option Addr) (cb : Nat) (ns : List Nd) (ss : List St) (lca : ns.length ≤ ca) (lcb : ss.length ≤ cb) (a2 : Option Addr) (len2 cap2 : Nat) (z2 : List Int) (lc2 : len2 ≤ cap2) (w : World) (hx : x.Ok w) (hn : IsNs w a ns) (hs : IsSs w b ss) (h2 : IsB w a2 len2 z2) (rx : nodeOk x = false) (rs : RSnap (ns.take 50) (ss.take 50)) (rz : ∀ ms ts, ¬ GoodZ (z2.take (few7 len2)) ms ts) :
    Calls Try.prog 5 #[x.val, snV a ns.length ca b ss.length cb, .slice a2 len2 cap2] w fun e w' => e = .returned (.bool true) ∧ Below w.heap.size w w' := by
  have I3 := h2.front (few7 len2) (few7_le _)
  have hcf : few7 len2 ≤ cap2 := Nat.le_trans (few7_le _) lc2
  have FW := hid (fun W (hW : Below w.heap.size w W) => few7_c a2 len2 cap2 z2 W (h2.later hW) lc2)
  have RA := hid (fun W (hW : Below w.heap.size w W) => readSnapAny_c a2 (few7 len2) cap2 _ W (I3.later hW) hcf)
  have RZ := hid rz
  have LC := hid rlive_c
  generalize z2.take (few7 len2) = R at *
  generalize few7 len2 = n3 at *
  clear rz h2 lc2 hcf I3
  have b0 := below_1 w (.cells x.cells.toArray 39)
  have h0 := heap_alloc_new w (.cells x.cells.toArray 39)
  have b1 := below_1 (w.alloc (.cells x.cells.toArray 39)) (.cells #[.slice a ns.length ca, .slice b ss.length cb] 49)
  have h1 := heap_alloc_new (w.alloc (.cells x.cells.toArray 39)) (.cells #[.slice a ns.length ca, .slice b ss.length cb] 49)
  rw [show (w.alloc (.cells x.cells.toArray 39)).heap.size = w.heap.size + 1 by simp] at h1
  have h0' := (b1.block _ (lt_blkR h0)).trans h0
  have bV := b0.trans (b1.mono b0.size)
  have B0 := hid bV
  have H0 := hid h0'
  have H1 := hid h1
  obtain ⟨p0, p1, p2, p3, p4, p5⟩ := nd_cells h0'
  obtain ⟨s0, s1⟩ := sn_cells h1
  have OX := hid (node_c x ((w.alloc (.cells x.cells.toArray 39)).alloc (.cells #[.slice a ns.length ca, .slice b ss.length cb] 49)) (hx.later bV))
  have HX := hid hx
  have SM := hid (fun W => small_c a b ca cb ns.length ss.length W (fun h => by obtain ⟨p, o, e, _⟩ := hn.2.2 (by omega); exact ⟨p, o, e⟩) (fun h => by obtain ⟨p, o, e, _⟩ := hs.2.2 (by omega); exact ⟨p, o, e⟩) lca lcb)
  rw [n50_take, n50_take] at SM
  have L1 := hid (show (ns.take 50).length ≤ 50 by rw [List.length_take]; omega)
  have L2 := hid (show (ss.take 50).length ≤ 50 by rw [List.length_take]; omega)
  have HN := hid (hn.take 50)
  have HS := hid (hs.take 50)
  have WF : Hid (RSnap (ns.take 50) (ss.take 50) → ∀ y ∈ ns.take 50, y.Wf) := hid (fun hr y hy => nd_wf ((hn.take 50).2.1 y hy) (right_ok hr.1 y hy))
  generalize ns.take 50 = ns5 at *
  generalize ss.take 50 = ss5 at *
  have SC := hid (fun W (hW : Below w.heap.size w W) => snapshot_c a b ca cb ns5 ss5 W (HN.out.later hW) (HS.out.later hW) (by have := L1.out; omega) (by have := L2.out; omega) WF.out)
  clear b0 b1 h0 h1 h0' bV hn hs lca lcb
  rw [rx] at OX
  simp only [Bool.false_eq_true, if_false] at OX
  clear hx rx
  have SC2 := hid (fun W (hW : Below w.heap.size w W) => (SC.out W hW).mono (fun e9 w9 (h9 : SnapPost ns5 ss5 W e9 w9) => show (∃ v, e9 = .returned (.tuple #[v, .int .i64 0]) ∧ OwB w9 W.heap.size v (snapB ns5 ss5)) ∧ Below W.heap.size W w9 from by
    obtain ⟨⟨_, h⟩ | ⟨h, _⟩, hb⟩ := h9
    · exact ⟨h, hb⟩
    · exact absurd rs h))
  have GB : Hid (GoodZ (snapB ns5 ss5) (ns5.map Nd.er) ss5) := hid ⟨snapP_B (fun y hy => ⟨WF.out rs y hy, right_ok rs.1 y hy⟩) HS.out.2.1 rs.1.1 (by
    have h1 := rs.2
    unfold stOk at h1
    rw [Bool.and_eq_true, decide_eq_true_eq] at h1
    have := rs.1.1
    omega), (rsnap_er _ _).2 rs⟩
  have SBI := hid (snapB_inS ns5 ss5)
  have N40 := hid rs.1.1
  have KK : Hid (∀ y ∈ ns5, y.ks.length ≤ 255) := hid (fun y hy => (WF.out rs y hy).2.2.2.2.2.2.2)
  generalize snapB ns5 ss5 = zb at *
  clear SC rs WF
  have RR := hid (fun W (hW : Below w.heap.size w W) => (RA.out W hW).mono (fun e9 w9 (h9 : ReadsZ W R e9 w9) => readsZ_bad h9 RZ.out))
  clear RA
  obtain ⟨fid, k, md, ln, da0, dc0, dz, ka0, kc0, dk⟩ := x
  simp only [Nd.val, Nd.cells, snV] at *
  have t0 := hid True.intro
  go_enter Try.func5, Try.ntmps5
  go_wp2_with (first
    | (have _q := t0.out; clear _q; go_at_call 22; refine OX.out.mono ?_; rintro _ w3 ⟨rfl, hb3⟩
       have S3 := hid hb3
       have B3 := hid (B0.out.trans (hb3.mono B0.out.size))
       have H1c := hid ((hb3.block _ (lt_blkR H1.out)).trans H1.out)
       obtain ⟨s0, s1⟩ := sn_cells H1c.out
       have fs := frz H1c.out
       have t1 := hid True.intro
       clear hb3 t0 OX)
    | (have _q := t1.out; clear _q; go_at_call 16; refine (SM.out _).mono ?_; rintro _ w4 ⟨rfl, hb4⟩
       have H1d := hid ((hb4.block _ (lt_blkR H1c.out)).trans H1c.out)
       obtain ⟨s0, s1⟩ := sn_cells H1d.out
       have fs := frz H1d.out
       have bb4 := B3.out.trans (hb4.mono B3.out.size)
       have B5 : Hid (Below w.heap.size w ((w4.setCell ⟨w.heap.size + 1, 0, none⟩ (.slice a ns5.length ca)).setCell ⟨w.heap.size + 1, 1, none⟩ (.slice b ss5.length cb))) := hid ((bb4.setCell (p := ⟨w.heap.size + 1, 0, none⟩) (Nat.le_succ _) _).setCell (p := ⟨w.heap.size + 1, 1, none⟩) (Nat.le_succ _) _)
       have C5a : Hid (((w4.setCell ⟨w.heap.size + 1, 0, none⟩ (.slice a ns5.length ca)).setCell ⟨w.heap.size + 1, 1, none⟩ (.slice b ss5.length cb)).cell? ⟨w.heap.size + 1, 0, none⟩ = some (.slice a ns5.length ca)) := hid (by simp [go_sem, s0, s1])
       have C5b : Hid (((w4.setCell ⟨w.heap.size + 1, 0, none⟩ (.slice a ns5.length ca)).setCell ⟨w.heap.size + 1, 1, none⟩ (.slice b ss5.length cb)).cell? ⟨w.heap.size + 1, 1, none⟩ = some (.slice b ss5.length cb)) := hid (by simp [go_sem, s0, s1])
       have t2 := hid True.intro
       clear hb4 bb4 t1 SM H1c)
    | (have _q := t2.out; clear _q; go_at_call 17; refine (SC2.out _ B5.out).mono ?_; rintro _ w6 ⟨⟨v6, rfl, hO6⟩, hb6⟩
       have B6 := hid (B5.out.trans (hb6.mono B5.out.size))
       have C6a := hid (cell_later hb6 C5a.out)
       have C6b := hid (cell_later hb6 C5b.out)
       obtain ⟨az, cz, rfl, hI6, hcz, hL6⟩ := isB_ownR hO6 SBI.out
       have RS := hid ((readSnapAny_c az zb.length cz zb w6 hI6 hcz).mono (fun e9 w9 (h9 : ReadsZ w6 zb e9 w9) => readsZ_good h9 GB.out))
       have t2b := hid True.intro
       clear hb6 hO6 hI6 hL6 t2 SC2 C5a C5b H1d s0 s1 fs)
    | (have _q := t2b.out; clear _q; go_at_call 19; refine RS.out.mono ?_; rintro _ w7 ⟨hb7, va, vc, vb, vd, L, rfl, hL7, hO7⟩
       have b7 := below_1 w7 (.cells #[.slice va L.length vc, .slice vb ss5.length vd] 49)
       have h7 := heap_alloc_new w7 (.cells #[.slice va L.length vc, .slice vb ss5.length vd] 49)
       have S7 := hb7.trans (b7.mono hb7.size)
       have B7 := hid (B6.out.trans (S7.mono B6.out.size))
       have O7 := hO7.later b7
       have LE : L.map Nd.er = ns5.map Nd.er := by rw [hL7, List.map_map]; rfl
       have LL : L.length = ns5.length := by have := congrArg List.length LE; simpa using this
       have SX := hid (same7_c va vb a b vc vd ca cb L ns5 ss5 _ O7.ns (HN.out.later B7.out) LE O7.st (HS.out.later B7.out) (by have := L1.out; omega) (by have := L2.out; omega) (fun y hy => by have := (O7.1.2 y hy).1.2.2.2.2.2.2.2; omega))
       simp only [snV] at SX
       obtain ⟨q0, q1⟩ := sn_cells h7
       have s0 := cell_later S7 C6a.out
       have s1 := cell_later S7 C6b.out
       have t2c := hid True.intro
       try unfold snV
       clear hb7 b7 h7 S7 O7 LE LL hL7 hO7 t2b RS)
    | (have _q := t2c.out; clear _q; go_at_call 21; refine SX.out.mono ?_; rintro _ w9 ⟨rfl, hb9⟩
       have B9 := hid (B7.out.trans (hb9.mono B7.out.size))
       have t3 := hid True.intro
       clear hb9 t2c SX q0 q1 s0 s1 C6a C6b)
    | (have _q := t3.out; clear _q; go_at_call 6; refine (FW.out _ B9.out).mono ?_; rintro _ wf ⟨rfl, hwf⟩; have hwf2 := hwf.symm; clear hwf; subst hwf2
       have RB := hid (RR.out _ B9.out)
       have t4 := hid True.intro
       clear t3)
    | (have _q := t4.out; clear _q; go_at_call 19; refine RB.out.mono ?_; rintro _ w10 ⟨hb10, rfl⟩
       have b10 := below_1 w10 (.cells #[.slice none 0 0, .slice none 0 0] 49)
       have H10 := hid (heap_alloc_new w10 (.cells #[.slice none 0 0, .slice none 0 0] 49))
       have B10 := hid (B9.out.trans ((hb10.trans (b10.mono hb10.size)).mono B9.out.size))
       obtain ⟨m0, m1⟩ := sn_cells H10.out
       try unfold snNo
       have t5 := hid True.intro
       clear hb10 b10 t4 RB)
    | (have _q := t5.out; clear _q; go_at_call 13; refine (LC.out _).mono ?_; rintro _ wL ⟨rfl, hbL⟩
       have BL := hid (B10.out.trans (hbL.mono B10.out.size))
       obtain ⟨m0, m1⟩ := sn_cells ((hbL.block _ (lt_blkR H10.out)).trans H10.out)
       clear hbL t5))
  go_ret
  exact ⟨by first | rfl | simp, BL.out⟩
set_option maxHeartbeats 8000000 in
theorem recordNodes_ftt (x : Nd) (a : Option Addr) (ca : Nat) (b : Option Addr) (cb : Nat) (ns : List Nd) (ss : List St) (lca : ns.length ≤ ca) (lcb : ss.length ≤ cb) (a2 : Option Addr) (len2 cap2 : Nat) (z2 : List Int) (lc2 : len2 ≤ cap2) (w : World) (hx : x.Ok w) (hn : IsNs w a ns) (hs : IsSs w b ss) (h2 : IsB w a2 len2 z2) (rx : nodeOk x = false) (rs : RSnap (ns.take 50) (ss.take 50)) (ms : List Nd) (ts : List St) (rz : GoodZ (z2.take (few7 len2)) ms ts) :
    Calls Try.prog 5 #[x.val, snV a ns.length ca b ss.length cb, .slice a2 len2 cap2] w fun e w' => e = .returned (.bool true) ∧ Below w.heap.size w w' := by
  have I3 := h2.front (few7 len2) (few7_le _)
  have hcf : few7 len2 ≤ cap2 := Nat.le_trans (few7_le _) lc2
  have FW := hid (fun W (hW : Below w.heap.size w W) => few7_c a2 len2 cap2 z2 W (h2.later hW) lc2)
  have RA := hid (fun W (hW : Below w.heap.size w W) => readSnapAny_c a2 (few7 len2) cap2 _ W (I3.later hW) hcf)
  have RZ := hid rz
  have LC := hid rlive_c
  obtain ⟨zb, zn1, zn2, zw, zv⟩ := snapP_back I3.2.2.2 rz.1
  rw [List.append_nil] at zb
  have ZB := hid zb
  have ZN1 := hid zn1
  have ZN2 := hid zn2
  have FE0 := FW
  have I3H := hid I3
  clear zb zn1 zn2 zw zv
  generalize z2.take (few7 len2) = R at *
  generalize few7 len2 = n3 at *
  clear rz h2 lc2 hcf I3
  have b0 := below_1 w (.cells x.cells.toArray 39)
  have h0 := heap_alloc_new w (.cells x.cells.toArray 39)
  have b1 := below_1 (w.alloc (.cells x.cells.toArray 39)) (.cells #[.slice a ns.length ca, .slice b ss.length cb] 49)
  have h1 := heap_alloc_new (w.alloc (.cells x.cells.toArray 39)) (.cells #[.slice a ns.length ca, .slice b ss.length cb] 49)
  rw [show (w.alloc (.cells x.cells.toArray 39)).heap.size = w.heap.size + 1 by simp] at h1
  have h0' := (b1.block _ (lt_blkR h0)).trans h0
  have bV := b0.trans (b1.mono b0.size)
  have B0 := hid bV
  have H0 := hid h0'
  have H1 := hid h1
  obtain ⟨p0, p1, p2, p3, p4, p5⟩ := nd_cells h0'
  obtain ⟨s0, s1⟩ := sn_cells h1
  have OX := hid (node_c x ((w.alloc (.cells x.cells.toArray 39)).alloc (.cells #[.slice a ns.length ca, .slice b ss.length cb] 49)) (hx.later bV))
  have HX := hid hx
  have SM := hid (fun W => small_c a b ca cb ns.length ss.length W (fun h => by obtain ⟨p, o, e, _⟩ := hn.2.2 (by omega); exact ⟨p, o, e⟩) (fun h => by obtain ⟨p, o, e, _⟩ := hs.2.2 (by omega); exact ⟨p, o, e⟩) lca lcb)
  rw [n50_take, n50_take] at SM
  have L1 := hid (show (ns.take 50).length ≤ 50 by rw [List.length_take]; omega)
  have L2 := hid (show (ss.take 50).length ≤ 50 by rw [List.length_take]; omega)
  have HN := hid (hn.take 50)
  have HS := hid (hs.take 50)
  have WF : Hid (RSnap (ns.take 50) (ss.take 50) → ∀ y ∈ ns.take 50, y.Wf) := hid (fun hr y hy => nd_wf ((hn.take 50).2.1 y hy) (right_ok hr.1 y hy))
  generalize ns.take 50 = ns5 at *
  generalize ss.take 50 = ss5 at *
  have SC := hid (fun W (hW : Below w.heap.size w W) => snapshot_c a b ca cb ns5 ss5 W (HN.out.later hW) (HS.out.later hW) (by have := L1.out; omega) (by have := L2.out; omega) WF.out)
  clear b0 b1 h0 h1 h0' bV hn hs lca lcb
  rw [rx] at OX
  simp only [Bool.false_eq_true, if_false] at OX
  clear hx rx
  have SC2 := hid (fun W (hW : Below w.heap.size w W) => (SC.out W hW).mono (fun e9 w9 (h9 : SnapPost ns5 ss5 W e9 w9) => show (∃ v, e9 = .returned (.tuple #[v, .int .i64 0]) ∧ OwB w9 W.heap.size v (snapB ns5 ss5)) ∧ Below W.heap.size W w9 from by
    obtain ⟨⟨_, h⟩ | ⟨h, _⟩, hb⟩ := h9
    · exact ⟨h, hb⟩
    · exact absurd rs h))
  have GB : Hid (GoodZ (snapB ns5 ss5) (ns5.map Nd.er) ss5) := hid ⟨snapP_B (fun y hy => ⟨WF.out rs y hy, right_ok rs.1 y hy⟩) HS.out.2.1 rs.1.1 (by
    have h1 := rs.2
    unfold stOk at h1
    rw [Bool.and_eq_true, decide_eq_true_eq] at h1
    have := rs.1.1
    omega), (rsnap_er _ _).2 rs⟩
  have SBI := hid (snapB_inS ns5 ss5)
  have N40 := hid rs.1.1
  have KK : Hid (∀ y ∈ ns5, y.ks.length ≤ 255) := hid (fun y hy => (WF.out rs y hy).2.2.2.2.2.2.2)
  generalize snapB ns5 ss5 = zb at *
  clear SC rs WF
  have RR := hid (fun W (hW : Below w.heap.size w W) => (RA.out W hW).mono (fun e9 w9 (h9 : ReadsZ W R e9 w9) => readsZ_good h9 RZ.out))
  clear RA
  obtain ⟨fid, k, md, ln, da0, dc0, dz, ka0, kc0, dk⟩ := x
  simp only [Nd.val, Nd.cells, snV] at *
  have RI : Hid (∀ y ∈ R, 0 ≤ y ∧ y ≤ 255) := hid (fun y hy => by
    obtain ⟨i, hi, rfl⟩ := List.getElem_of_mem hy
    have := I3H.out.2.2.2 i
    simpa [List.getD, hi] using this)
  have t0 := hid True.intro
  go_enter Try.func5, Try.ntmps5
  go_wp2_with (first
    | (have _q := t0.out; clear _q; go_at_call 22; refine OX.out.mono ?_; rintro _ w3 ⟨rfl, hb3⟩
       have S3 := hid hb3
       have B3 := hid (B0.out.trans (hb3.mono B0.out.size))
       have H1c := hid ((hb3.block _ (lt_blkR H1.out)).trans H1.out)
       obtain ⟨s0, s1⟩ := sn_cells H1c.out
       have fs := frz H1c.out
       have t1 := hid True.intro
       clear hb3 t0 OX)
    | (have _q := t1.out; clear _q; go_at_call 16; refine (SM.out _).mono ?_; rintro _ w4 ⟨rfl, hb4⟩
       have H1d := hid ((hb4.block _ (lt_blkR H1c.out)).trans H1c.out)
       obtain ⟨s0, s1⟩ := sn_cells H1d.out
       have fs := frz H1d.out
       have bb4 := B3.out.trans (hb4.mono B3.out.size)
       have B5 : Hid (Below w.heap.size w ((w4.setCell ⟨w.heap.size + 1, 0, none⟩ (.slice a ns5.length ca)).setCell ⟨w.heap.size + 1, 1, none⟩ (.slice b ss5.length cb))) := hid ((bb4.setCell (p := ⟨w.heap.size + 1, 0, none⟩) (Nat.le_succ _) _).setCell (p := ⟨w.heap.size + 1, 1, none⟩) (Nat.le_succ _) _)
       have C5a : Hid (((w4.setCell ⟨w.heap.size + 1, 0, none⟩ (.slice a ns5.length ca)).setCell ⟨w.heap.size + 1, 1, none⟩ (.slice b ss5.length cb)).cell? ⟨w.heap.size + 1, 0, none⟩ = some (.slice a ns5.length ca)) := hid (by simp [go_sem, s0, s1])
       have C5b : Hid (((w4.setCell ⟨w.heap.size + 1, 0, none⟩ (.slice a ns5.length ca)).setCell ⟨w.heap.size + 1, 1, none⟩ (.slice b ss5.length cb)).cell? ⟨w.heap.size + 1, 1, none⟩ = some (.slice b ss5.length cb)) := hid (by simp [go_sem, s0, s1])
       have t2 := hid True.intro
       clear hb4 bb4 t1 SM H1c)
    | (have _q := t2.out; clear _q; go_at_call 17; refine (SC2.out _ B5.out).mono ?_; rintro _ w6 ⟨⟨v6, rfl, hO6⟩, hb6⟩
       have B6 := hid (B5.out.trans (hb6.mono B5.out.size))
       have C6a := hid (cell_later hb6 C5a.out)
       have C6b := hid (cell_later hb6 C5b.out)
       obtain ⟨az, cz, rfl, hI6, hcz, hL6⟩ := isB_ownR hO6 SBI.out
       have RS := hid ((readSnapAny_c az zb.length cz zb w6 hI6 hcz).mono (fun e9 w9 (h9 : ReadsZ w6 zb e9 w9) => readsZ_good h9 GB.out))
       have t2b := hid True.intro
       clear hb6 hO6 hI6 hL6 t2 SC2 C5a C5b H1d s0 s1 fs)
    | (have _q := t2b.out; clear _q; go_at_call 19; refine RS.out.mono ?_; rintro _ w7 ⟨hb7, va, vc, vb, vd, L, rfl, hL7, hO7⟩
       have b7 := below_1 w7 (.cells #[.slice va L.length vc, .slice vb ss5.length vd] 49)
       have h7 := heap_alloc_new w7 (.cells #[.slice va L.length vc, .slice vb ss5.length vd] 49)
       have S7 := hb7.trans (b7.mono hb7.size)
       have B7 := hid (B6.out.trans (S7.mono B6.out.size))
       have O7 := hO7.later b7
       have LE : L.map Nd.er = ns5.map Nd.er := by rw [hL7, List.map_map]; rfl
       have LL : L.length = ns5.length := by have := congrArg List.length LE; simpa using this
       have SX := hid (same7_c va vb a b vc vd ca cb L ns5 ss5 _ O7.ns (HN.out.later B7.out) LE O7.st (HS.out.later B7.out) (by have := L1.out; omega) (by have := L2.out; omega) (fun y hy => by have := (O7.1.2 y hy).1.2.2.2.2.2.2.2; omega))
       simp only [snV] at SX
       obtain ⟨q0, q1⟩ := sn_cells h7
       have s0 := cell_later S7 C6a.out
       have s1 := cell_later S7 C6b.out
       have t2c := hid True.intro
       try unfold snV
       clear hb7 b7 h7 S7 O7 LE LL hL7 hO7 t2b RS)
    | (have _q := t2c.out; clear _q; go_at_call 21; refine SX.out.mono ?_; rintro _ w9 ⟨rfl, hb9⟩
       have B9 := hid (B7.out.trans (hb9.mono B7.out.size))
       have t3 := hid True.intro
       clear hb9 t2c SX q0 q1 s0 s1 C6a C6b)
    | (have _q := t3.out; clear _q; go_at_call 6; refine (FW.out _ B9.out).mono ?_; rintro _ wf ⟨rfl, hwf⟩; have hwf2 := hwf.symm; clear hwf; subst hwf2
       have RB := hid (RR.out _ B9.out)
       have t4 := hid True.intro
       clear t3)
    | (have _q := t4.out; clear _q; go_at_call 19; refine RB.out.mono ?_; rintro _ w10 ⟨hb10, va2, vc2, vb2, vd2, M, rfl, hM10, hO10⟩
       have b10 := below_1 w10 (.cells #[.slice va2 M.length vc2, .slice vb2 ts.length vd2] 49)
       have h10 := heap_alloc_new w10 (.cells #[.slice va2 M.length vc2, .slice vb2 ts.length vd2] 49)
       have B10 := hid (B9.out.trans ((hb10.trans (b10.mono hb10.size)).mono B9.out.size))
       have O10 := hO10.later b10
       have ML : M.length = ms.length := by have := congrArg List.length hM10; simpa using this
       have RM : RSnap M ts := by rw [← rsnap_er, hM10, rsnap_er]; exact RZ.out.2
       have SB : snapB M ts = R := by rw [← snapB_er, hM10, snapB_er]; exact ZB.out.symm
       have SD := hid ((snapshot_c va2 vb2 vc2 vd2 M ts _ O10.ns O10.st (by have := ZN1.out; omega) (by have := ZN2.out; omega) (fun _ y hy => (O10.1.2 y hy).1)).mono (fun e9 w9 (h9 : SnapPost M ts _ e9 w9) => show (∃ v, e9 = .returned (.tuple #[v, .int .i64 0]) ∧ OwB w9 (w10.alloc (.cells #[.slice va2 M.length vc2, .slice vb2 ts.length vd2] 49)).heap.size v R) ∧ Below (w10.alloc (.cells #[.slice va2 M.length vc2, .slice vb2 ts.length vd2] 49)).heap.size (w10.alloc (.cells #[.slice va2 M.length vc2, .slice vb2 ts.length vd2] 49)) w9 from by
         obtain ⟨⟨_, h⟩ | ⟨h, _⟩, hb⟩ := h9
         · rw [SB] at h; exact ⟨h, hb⟩
         · exact absurd RM h))
       obtain ⟨m0, m1⟩ := sn_cells h10
       try unfold snV
       have t5 := hid True.intro
       clear hb10 b10 h10 O10 ML RM SB hM10 hO10 t4 RB)
    | (have _q := t5.out; clear _q; go_at_call 17; refine SD.out.mono ?_; rintro _ w11 ⟨⟨v11, rfl, hO11⟩, hb11⟩
       have B11 := hid (B10.out.trans (hb11.mono B10.out.size))
       obtain ⟨aw, cw, rfl, hI11, _, _⟩ := isB_ownR hO11 RI.out
       have I11 := hid hI11
       clear hb11 hO11 hI11 t5 SD m0 m1))
  have RL : R.length = n3 := I3H.out.1
  have cvx : ∀ w', Below w11.heap.size w11 w' → (convert 22 9 (.slice aw R.length cw)).run Try.prog w' = .ok (.string (Fr.tx R)) w' := fun w' h => conv_anyN (I11.out.later h)
  have cva : ∀ w', Below w11.heap.size w11 w' → (convert 22 9 (.slice a2 n3 cap2)).run Try.prog w' = .ok (.string (Fr.tx R)) w' := fun w' h => by have := conv_anyN (pc := cap2) (zs := R) (by rw [RL]; exact I3H.out.later (B11.out.trans (h.mono B11.out.size))); rw [RL] at this; exact this
  have FE := hid (fun w' (h : Below w11.heap.size w11 w') => FW.out w' (B11.out.trans (h.mono B11.out.size)))
  clear RL
  refine wp_region_class (by kernel_rfl) (by kernel_rfl) ?_
  repeat (first
    | go_big_quiet_skip
    | (go_big_quiet_want
       apply quiet_by
       · intro w1 hw1
         go_simp
         first
           | rfl
           | (go_at_call 13; exact class_of hw1 (LC.out _))
           | (go_at_call 6; exact class_same hw1 (FE.out _ hw1))
       · go_simp; rfl
       go_big_quiet_on))
  refine wpQuiet_nil ?_
  intro w9 hw9
  go_wp2
  go_ret
  exact ⟨rfl, B11.out.trans (hw9.mono B11.out.size)⟩
set_option maxHeartbeats 8000000 in
theorem recordNodes_tff (x : Nd) (a : Option Addr) (ca : Nat) (b : Option Addr) (cb : Nat) (ns : List Nd) (ss : List St) (lca : ns.length ≤ ca) (lcb : ss.length ≤ cb) (a2 : Option Addr) (len2 cap2 : Nat) (z2 : List Int) (lc2 : len2 ≤ cap2) (w : World) (hx : x.Ok w) (hn : IsNs w a ns) (hs : IsSs w b ss) (h2 : IsB w a2 len2 z2) (rx : nodeOk x = true) (rs : ¬ RSnap (ns.take 50) (ss.take 50)) (rz : ∀ ms ts, ¬ GoodZ (z2.take (few7 len2)) ms ts) :
    Calls Try.prog 5 #[x.val, snV a ns.length ca b ss.length cb, .slice a2 len2 cap2] w fun e w' => e = .returned (.bool true) ∧ Below w.heap.size w w' := by
  have I3 := h2.front (few7 len2) (few7_le _)
  have hcf : few7 len2 ≤ cap2 := Nat.le_trans (few7_le _) lc2
  have FW := hid (fun W (hW : Below w.heap.size w W) => few7_c a2 len2 cap2 z2 W (h2.later hW) lc2)
  have RA := hid (fun W (hW : Below w.heap.size w W) => readSnapAny_c a2 (few7 len2) cap2 _ W (I3.later hW) hcf)
  have RZ := hid rz
  have LC := hid rlive_c
  generalize z2.take (few7 len2) = R at *
  generalize few7 len2 = n3 at *
  clear rz h2 lc2 hcf I3
  have b0 := below_1 w (.cells x.cells.toArray 39)
  have h0 := heap_alloc_new w (.cells x.cells.toArray 39)
  have b1 := below_1 (w.alloc (.cells x.cells.toArray 39)) (.cells #[.slice a ns.length ca, .slice b ss.length cb] 49)
  have h1 := heap_alloc_new (w.alloc (.cells x.cells.toArray 39)) (.cells #[.slice a ns.length ca, .slice b ss.length cb] 49)
  rw [show (w.alloc (.cells x.cells.toArray 39)).heap.size = w.heap.size + 1 by simp] at h1
  have h0' := (b1.block _ (lt_blkR h0)).trans h0
  have bV := b0.trans (b1.mono b0.size)
  have B0 := hid bV
  have H0 := hid h0'
  have H1 := hid h1
  obtain ⟨p0, p1, p2, p3, p4, p5⟩ := nd_cells h0'
  obtain ⟨s0, s1⟩ := sn_cells h1
  have OX := hid (node_c x ((w.alloc (.cells x.cells.toArray 39)).alloc (.cells #[.slice a ns.length ca, .slice b ss.length cb] 49)) (hx.later bV))
  have HX := hid hx
  have SM := hid (fun W => small_c a b ca cb ns.length ss.length W (fun h => by obtain ⟨p, o, e, _⟩ := hn.2.2 (by omega); exact ⟨p, o, e⟩) (fun h => by obtain ⟨p, o, e, _⟩ := hs.2.2 (by omega); exact ⟨p, o, e⟩) lca lcb)
  rw [n50_take, n50_take] at SM
  have L1 := hid (show (ns.take 50).length ≤ 50 by rw [List.length_take]; omega)
  have L2 := hid (show (ss.take 50).length ≤ 50 by rw [List.length_take]; omega)
  have HN := hid (hn.take 50)
  have HS := hid (hs.take 50)
  have WF : Hid (RSnap (ns.take 50) (ss.take 50) → ∀ y ∈ ns.take 50, y.Wf) := hid (fun hr y hy => nd_wf ((hn.take 50).2.1 y hy) (right_ok hr.1 y hy))
  generalize ns.take 50 = ns5 at *
  generalize ss.take 50 = ss5 at *
  have SC := hid (fun W (hW : Below w.heap.size w W) => snapshot_c a b ca cb ns5 ss5 W (HN.out.later hW) (HS.out.later hW) (by have := L1.out; omega) (by have := L2.out; omega) WF.out)
  clear b0 b1 h0 h1 h0' bV hn hs lca lcb
  rw [rx] at OX
  simp only [if_true] at OX
  have xw := nd_wf hx rx
  have HAL := hid (nodeAll_nodeB xw rx)
  have HYI := hid (nodeB_inS x)
  have KX := hid xw.2.2.2.2.2.2.2
  generalize nodeB x = ys at *
  clear xw
  clear hx rx
  have SC2 := hid (fun W (hW : Below w.heap.size w W) => (SC.out W hW).mono (fun e9 w9 (h9 : SnapPost ns5 ss5 W e9 w9) => show e9 = .returned (.tuple #[.slice none 0 0, .int .i64 3]) ∧ Below W.heap.size W w9 from by
    obtain ⟨⟨h, _⟩ | ⟨_, h⟩, hb⟩ := h9
    · exact absurd h rs
    · exact ⟨h, hb⟩))
  clear SC rs WF
  have RR := hid (fun W (hW : Below w.heap.size w W) => (RA.out W hW).mono (fun e9 w9 (h9 : ReadsZ W R e9 w9) => readsZ_bad h9 RZ.out))
  clear RA
  obtain ⟨fid, k, md, ln, da0, dc0, dz, ka0, kc0, dk⟩ := x
  simp only [Nd.val, Nd.cells, snV] at *
  have t0 := hid True.intro
  go_enter Try.func5, Try.ntmps5
  go_wp2_with (first
    | (have _q := t0.out; clear _q; go_at_call 22; refine OX.out.mono ?_; rintro _ w1 ⟨⟨v1, rfl, hO1⟩, hb1⟩
       have S1 := hid hb1
       obtain ⟨ay, cy, rfl, hI1, hcy, hL1⟩ := isB_ownR hO1 HYI.out
       have RN := hid (readNode_c ay ys.length cy ys w1 hI1 hcy hL1)
       rw [HAL.out] at RN
       have t0b := hid True.intro
       clear hb1 hO1 hI1 hL1 t0 OX)
    | (have _q := t0b.out; clear _q; go_at_call 11; refine RN.out.mono ?_; rintro _ w2 ⟨hb2, da, dc, ka, kc, rfl, hO2⟩
       have b2 := below_1 w2 (.cells (⟨fid, k, md, ln, da, dc, dz, ka, kc, dk⟩ : Nd).cells.toArray 39)
       have h2 := heap_alloc_new w2 (.cells (⟨fid, k, md, ln, da, dc, dz, ka, kc, dk⟩ : Nd).cells.toArray 39)
       have S2 := S1.out.trans ((hb2.trans (b2.mono hb2.size)).mono S1.out.size)
       have S2h := hid S2
       have B2 := hid (B0.out.trans (S2.mono B0.out.size))
       obtain ⟨q0, q1, q2, q3, q4, q5⟩ := nd_cells h2
       obtain ⟨p0, p1, p2, p3, p4, p5⟩ := nd_cells (x := ⟨fid, k, md, ln, da0, dc0, dz, ka0, kc0, dk⟩) ((S2.block _ (lt_blkR H0.out)).trans H0.out)
       have SN := hid (sameNode_c ⟨fid, k, md, ln, da0, dc0, dz, ka0, kc0, dk⟩ da dc ka kc da0 dc0 ka0 kc0 _ (hO2.later b2).ok (HX.out.later B2.out) (by have := KX.out; simp only at this ⊢; omega))
       simp only [Nd.lie, Nd.val, Nd.er, Nd.cells] at SN q0 q1 q2 q3 q4 q5 p0 p1 p2 p3 p4 p5 ⊢
       have t0c := hid True.intro
       clear hb2 hO2 b2 h2 S2 t0b RN)
    | (have _q := t0c.out; clear _q; go_at_call 15; refine SN.out.mono ?_; rintro _ w3 ⟨rfl, hb3⟩
       have S3 := hid (S2h.out.trans (hb3.mono S2h.out.size))
       have B3 := hid (B0.out.trans (S3.out.mono B0.out.size))
       have H1c := hid ((S3.out.block _ (lt_blkR H1.out)).trans H1.out)
       obtain ⟨s0, s1⟩ := sn_cells H1c.out
       have fs := frz H1c.out
       have t1 := hid True.intro
       clear hb3 t0c SN)
    | (have _q := t1.out; clear _q; go_at_call 16; refine (SM.out _).mono ?_; rintro _ w4 ⟨rfl, hb4⟩
       have H1d := hid ((hb4.block _ (lt_blkR H1c.out)).trans H1c.out)
       obtain ⟨s0, s1⟩ := sn_cells H1d.out
       have fs := frz H1d.out
       have bb4 := B3.out.trans (hb4.mono B3.out.size)
       have B5 : Hid (Below w.heap.size w ((w4.setCell ⟨w.heap.size + 1, 0, none⟩ (.slice a ns5.length ca)).setCell ⟨w.heap.size + 1, 1, none⟩ (.slice b ss5.length cb))) := hid ((bb4.setCell (p := ⟨w.heap.size + 1, 0, none⟩) (Nat.le_succ _) _).setCell (p := ⟨w.heap.size + 1, 1, none⟩) (Nat.le_succ _) _)
       have C5a : Hid (((w4.setCell ⟨w.heap.size + 1, 0, none⟩ (.slice a ns5.length ca)).setCell ⟨w.heap.size + 1, 1, none⟩ (.slice b ss5.length cb)).cell? ⟨w.heap.size + 1, 0, none⟩ = some (.slice a ns5.length ca)) := hid (by simp [go_sem, s0, s1])
       have C5b : Hid (((w4.setCell ⟨w.heap.size + 1, 0, none⟩ (.slice a ns5.length ca)).setCell ⟨w.heap.size + 1, 1, none⟩ (.slice b ss5.length cb)).cell? ⟨w.heap.size + 1, 1, none⟩ = some (.slice b ss5.length cb)) := hid (by simp [go_sem, s0, s1])
       have t2 := hid True.intro
       clear hb4 bb4 t1 SM H1c)
    | (have _q := t2.out; clear _q; go_at_call 17; refine (SC2.out _ B5.out).mono ?_; rintro _ w9 ⟨rfl, hb9⟩
       have B9 := hid (B5.out.trans (hb9.mono B5.out.size))
       have t3 := hid True.intro
       clear hb9 t2 SC2 C5a C5b H1d s0 s1 fs)
    | (have _q := t3.out; clear _q; go_at_call 6; refine (FW.out _ B9.out).mono ?_; rintro _ wf ⟨rfl, hwf⟩; have hwf2 := hwf.symm; clear hwf; subst hwf2
       have RB := hid (RR.out _ B9.out)
       have t4 := hid True.intro
       clear t3)
    | (have _q := t4.out; clear _q; go_at_call 19; refine RB.out.mono ?_; rintro _ w10 ⟨hb10, rfl⟩
       have b10 := below_1 w10 (.cells #[.slice none 0 0, .slice none 0 0] 49)
       have H10 := hid (heap_alloc_new w10 (.cells #[.slice none 0 0, .slice none 0 0] 49))
       have B10 := hid (B9.out.trans ((hb10.trans (b10.mono hb10.size)).mono B9.out.size))
       obtain ⟨m0, m1⟩ := sn_cells H10.out
       try unfold snNo
       have t5 := hid True.intro
       clear hb10 b10 t4 RB)
    | (have _q := t5.out; clear _q; go_at_call 13; refine (LC.out _).mono ?_; rintro _ wL ⟨rfl, hbL⟩
       have BL := hid (B10.out.trans (hbL.mono B10.out.size))
       obtain ⟨m0, m1⟩ := sn_cells ((hbL.block _ (lt_blkR H10.out)).trans H10.out)
       clear hbL t5))
  go_ret
  exact ⟨by first | rfl | simp, BL.out⟩
set_option maxHeartbeats 8000000 in
theorem recordNodes_tft (x : Nd) (a : Option Addr) (ca : Nat) (b : Option Addr) (cb : Nat) (ns : List Nd) (ss : List St) (lca : ns.length ≤ ca) (lcb : ss.length ≤ cb) (a2 : Option Addr) (len2 cap2 : Nat) (z2 : List Int) (lc2 : len2 ≤ cap2) (w : World) (hx : x.Ok w) (hn : IsNs w a ns) (hs : IsSs w b ss) (h2 : IsB w a2 len2 z2) (rx : nodeOk x = true) (rs : ¬ RSnap (ns.take 50) (ss.take 50)) (ms : List Nd) (ts : List St) (rz : GoodZ (z2.take (few7 len2)) ms ts) :
    Calls Try.prog 5 #[x.val, snV a ns.length ca b ss.length cb, .slice a2 len2 cap2] w fun e w' => e = .returned (.bool true) ∧ Below w.heap.size w w' := by
  have I3 := h2.front (few7 len2) (few7_le _)
  have hcf : few7 len2 ≤ cap2 := Nat.le_trans (few7_le _) lc2
  have FW := hid (fun W (hW : Below w.heap.size w W) => few7_c a2 len2 cap2 z2 W (h2.later hW) lc2)
  have RA := hid (fun W (hW : Below w.heap.size w W) => readSnapAny_c a2 (few7 len2) cap2 _ W (I3.later hW) hcf)
  have RZ := hid rz
  have LC := hid rlive_c
  obtain ⟨zb, zn1, zn2, zw, zv⟩ := snapP_back I3.2.2.2 rz.1
  rw [List.append_nil] at zb
  have ZB := hid zb
  have ZN1 := hid zn1
  have ZN2 := hid zn2
  have FE0 := FW
  have I3H := hid I3
  clear zb zn1 zn2 zw zv
  generalize z2.take (few7 len2) = R at *
  generalize few7 len2 = n3 at *
  clear rz h2 lc2 hcf I3
  have b0 := below_1 w (.cells x.cells.toArray 39)
  have h0 := heap_alloc_new w (.cells x.cells.toArray 39)
  have b1 := below_1 (w.alloc (.cells x.cells.toArray 39)) (.cells #[.slice a ns.length ca, .slice b ss.length cb] 49)
  have h1 := heap_alloc_new (w.alloc (.cells x.cells.toArray 39)) (.cells #[.slice a ns.length ca, .slice b ss.length cb] 49)
  rw [show (w.alloc (.cells x.cells.toArray 39)).heap.size = w.heap.size + 1 by simp] at h1
  have h0' := (b1.block _ (lt_blkR h0)).trans h0
  have bV := b0.trans (b1.mono b0.size)
  have B0 := hid bV
  have H0 := hid h0'
  have H1 := hid h1
  obtain ⟨p0, p1, p2, p3, p4, p5⟩ := nd_cells h0'
  obtain ⟨s0, s1⟩ := sn_cells h1
  have OX := hid (node_c x ((w.alloc (.cells x.cells.toArray 39)).alloc (.cells #[.slice a ns.length ca, .slice b ss.length cb] 49)) (hx.later bV))
  have HX := hid hx
  have SM := hid (fun W => small_c a b ca cb ns.length ss.length W (fun h => by obtain ⟨p, o, e, _⟩ := hn.2.2 (by omega); exact ⟨p, o, e⟩) (fun h => by obtain ⟨p, o, e, _⟩ := hs.2.2 (by omega); exact ⟨p, o, e⟩) lca lcb)
  rw [n50_take, n50_take] at SM
  have L1 := hid (show (ns.take 50).length ≤ 50 by rw [List.length_take]; omega)
  have L2 := hid (show (ss.take 50).length ≤ 50 by rw [List.length_take]; omega)
  have HN := hid (hn.take 50)
  have HS := hid (hs.take 50)
  have WF : Hid (RSnap (ns.take 50) (ss.take 50) → ∀ y ∈ ns.take 50, y.Wf) := hid (fun hr y hy => nd_wf ((hn.take 50).2.1 y hy) (right_ok hr.1 y hy))
  generalize ns.take 50 = ns5 at *
  generalize ss.take 50 = ss5 at *
  have SC := hid (fun W (hW : Below w.heap.size w W) => snapshot_c a b ca cb ns5 ss5 W (HN.out.later hW) (HS.out.later hW) (by have := L1.out; omega) (by have := L2.out; omega) WF.out)
  clear b0 b1 h0 h1 h0' bV hn hs lca lcb
  rw [rx] at OX
  simp only [if_true] at OX
  have xw := nd_wf hx rx
  have HAL := hid (nodeAll_nodeB xw rx)
  have HYI := hid (nodeB_inS x)
  have KX := hid xw.2.2.2.2.2.2.2
  generalize nodeB x = ys at *
  clear xw
  clear hx rx
  have SC2 := hid (fun W (hW : Below w.heap.size w W) => (SC.out W hW).mono (fun e9 w9 (h9 : SnapPost ns5 ss5 W e9 w9) => show e9 = .returned (.tuple #[.slice none 0 0, .int .i64 3]) ∧ Below W.heap.size W w9 from by
    obtain ⟨⟨h, _⟩ | ⟨_, h⟩, hb⟩ := h9
    · exact absurd h rs
    · exact ⟨h, hb⟩))
  clear SC rs WF
  have RR := hid (fun W (hW : Below w.heap.size w W) => (RA.out W hW).mono (fun e9 w9 (h9 : ReadsZ W R e9 w9) => readsZ_good h9 RZ.out))
  clear RA
  obtain ⟨fid, k, md, ln, da0, dc0, dz, ka0, kc0, dk⟩ := x
  simp only [Nd.val, Nd.cells, snV] at *
  have RI : Hid (∀ y ∈ R, 0 ≤ y ∧ y ≤ 255) := hid (fun y hy => by
    obtain ⟨i, hi, rfl⟩ := List.getElem_of_mem hy
    have := I3H.out.2.2.2 i
    simpa [List.getD, hi] using this)
  have t0 := hid True.intro
  go_enter Try.func5, Try.ntmps5
  go_wp2_with (first
    | (have _q := t0.out; clear _q; go_at_call 22; refine OX.out.mono ?_; rintro _ w1 ⟨⟨v1, rfl, hO1⟩, hb1⟩
       have S1 := hid hb1
       obtain ⟨ay, cy, rfl, hI1, hcy, hL1⟩ := isB_ownR hO1 HYI.out
       have RN := hid (readNode_c ay ys.length cy ys w1 hI1 hcy hL1)
       rw [HAL.out] at RN
       have t0b := hid True.intro
       clear hb1 hO1 hI1 hL1 t0 OX)
    | (have _q := t0b.out; clear _q; go_at_call 11; refine RN.out.mono ?_; rintro _ w2 ⟨hb2, da, dc, ka, kc, rfl, hO2⟩
       have b2 := below_1 w2 (.cells (⟨fid, k, md, ln, da, dc, dz, ka, kc, dk⟩ : Nd).cells.toArray 39)
       have h2 := heap_alloc_new w2 (.cells (⟨fid, k, md, ln, da, dc, dz, ka, kc, dk⟩ : Nd).cells.toArray 39)
       have S2 := S1.out.trans ((hb2.trans (b2.mono hb2.size)).mono S1.out.size)
       have S2h := hid S2
       have B2 := hid (B0.out.trans (S2.mono B0.out.size))
       obtain ⟨q0, q1, q2, q3, q4, q5⟩ := nd_cells h2
       obtain ⟨p0, p1, p2, p3, p4, p5⟩ := nd_cells (x := ⟨fid, k, md, ln, da0, dc0, dz, ka0, kc0, dk⟩) ((S2.block _ (lt_blkR H0.out)).trans H0.out)
       have SN := hid (sameNode_c ⟨fid, k, md, ln, da0, dc0, dz, ka0, kc0, dk⟩ da dc ka kc da0 dc0 ka0 kc0 _ (hO2.later b2).ok (HX.out.later B2.out) (by have := KX.out; simp only at this ⊢; omega))
       simp only [Nd.lie, Nd.val, Nd.er, Nd.cells] at SN q0 q1 q2 q3 q4 q5 p0 p1 p2 p3 p4 p5 ⊢
       have t0c := hid True.intro
       clear hb2 hO2 b2 h2 S2 t0b RN)
    | (have _q := t0c.out; clear _q; go_at_call 15; refine SN.out.mono ?_; rintro _ w3 ⟨rfl, hb3⟩
       have S3 := hid (S2h.out.trans (hb3.mono S2h.out.size))
       have B3 := hid (B0.out.trans (S3.out.mono B0.out.size))
       have H1c := hid ((S3.out.block _ (lt_blkR H1.out)).trans H1.out)
       obtain ⟨s0, s1⟩ := sn_cells H1c.out
       have fs := frz H1c.out
       have t1 := hid True.intro
       clear hb3 t0c SN)
    | (have _q := t1.out; clear _q; go_at_call 16; refine (SM.out _).mono ?_; rintro _ w4 ⟨rfl, hb4⟩
       have H1d := hid ((hb4.block _ (lt_blkR H1c.out)).trans H1c.out)
       obtain ⟨s0, s1⟩ := sn_cells H1d.out
       have fs := frz H1d.out
       have bb4 := B3.out.trans (hb4.mono B3.out.size)
       have B5 : Hid (Below w.heap.size w ((w4.setCell ⟨w.heap.size + 1, 0, none⟩ (.slice a ns5.length ca)).setCell ⟨w.heap.size + 1, 1, none⟩ (.slice b ss5.length cb))) := hid ((bb4.setCell (p := ⟨w.heap.size + 1, 0, none⟩) (Nat.le_succ _) _).setCell (p := ⟨w.heap.size + 1, 1, none⟩) (Nat.le_succ _) _)
       have C5a : Hid (((w4.setCell ⟨w.heap.size + 1, 0, none⟩ (.slice a ns5.length ca)).setCell ⟨w.heap.size + 1, 1, none⟩ (.slice b ss5.length cb)).cell? ⟨w.heap.size + 1, 0, none⟩ = some (.slice a ns5.length ca)) := hid (by simp [go_sem, s0, s1])
       have C5b : Hid (((w4.setCell ⟨w.heap.size + 1, 0, none⟩ (.slice a ns5.length ca)).setCell ⟨w.heap.size + 1, 1, none⟩ (.slice b ss5.length cb)).cell? ⟨w.heap.size + 1, 1, none⟩ = some (.slice b ss5.length cb)) := hid (by simp [go_sem, s0, s1])
       have t2 := hid True.intro
       clear hb4 bb4 t1 SM H1c)
    | (have _q := t2.out; clear _q; go_at_call 17; refine (SC2.out _ B5.out).mono ?_; rintro _ w9 ⟨rfl, hb9⟩
       have B9 := hid (B5.out.trans (hb9.mono B5.out.size))
       have t3 := hid True.intro
       clear hb9 t2 SC2 C5a C5b H1d s0 s1 fs)
    | (have _q := t3.out; clear _q; go_at_call 6; refine (FW.out _ B9.out).mono ?_; rintro _ wf ⟨rfl, hwf⟩; have hwf2 := hwf.symm; clear hwf; subst hwf2
       have RB := hid (RR.out _ B9.out)
       have t4 := hid True.intro
       clear t3)
    | (have _q := t4.out; clear _q; go_at_call 19; refine RB.out.mono ?_; rintro _ w10 ⟨hb10, va2, vc2, vb2, vd2, M, rfl, hM10, hO10⟩
       have b10 := below_1 w10 (.cells #[.slice va2 M.length vc2, .slice vb2 ts.length vd2] 49)
       have h10 := heap_alloc_new w10 (.cells #[.slice va2 M.length vc2, .slice vb2 ts.length vd2] 49)
       have B10 := hid (B9.out.trans ((hb10.trans (b10.mono hb10.size)).mono B9.out.size))
       have O10 := hO10.later b10
       have ML : M.length = ms.length := by have := congrArg List.length hM10; simpa using this
       have RM : RSnap M ts := by rw [← rsnap_er, hM10, rsnap_er]; exact RZ.out.2
       have SB : snapB M ts = R := by rw [← snapB_er, hM10, snapB_er]; exact ZB.out.symm
       have SD := hid ((snapshot_c va2 vb2 vc2 vd2 M ts _ O10.ns O10.st (by have := ZN1.out; omega) (by have := ZN2.out; omega) (fun _ y hy => (O10.1.2 y hy).1)).mono (fun e9 w9 (h9 : SnapPost M ts _ e9 w9) => show (∃ v, e9 = .returned (.tuple #[v, .int .i64 0]) ∧ OwB w9 (w10.alloc (.cells #[.slice va2 M.length vc2, .slice vb2 ts.length vd2] 49)).heap.size v R) ∧ Below (w10.alloc (.cells #[.slice va2 M.length vc2, .slice vb2 ts.length vd2] 49)).heap.size (w10.alloc (.cells #[.slice va2 M.length vc2, .slice vb2 ts.length vd2] 49)) w9 from by
         obtain ⟨⟨_, h⟩ | ⟨h, _⟩, hb⟩ := h9
         · rw [SB] at h; exact ⟨h, hb⟩
         · exact absurd RM h))
       obtain ⟨m0, m1⟩ := sn_cells h10
       try unfold snV
       have t5 := hid True.intro
       clear hb10 b10 h10 O10 ML RM SB hM10 hO10 t4 RB)
    | (have _q := t5.out; clear _q; go_at_call 17; refine SD.out.mono ?_; rintro _ w11 ⟨⟨v11, rfl, hO11⟩, hb11⟩
       have B11 := hid (B10.out.trans (hb11.mono B10.out.size))
       obtain ⟨aw, cw, rfl, hI11, _, _⟩ := isB_ownR hO11 RI.out
       have I11 := hid hI11
       clear hb11 hO11 hI11 t5 SD m0 m1))
  have RL : R.length = n3 := I3H.out.1
  have cvx : ∀ w', Below w11.heap.size w11 w' → (convert 22 9 (.slice aw R.length cw)).run Try.prog w' = .ok (.string (Fr.tx R)) w' := fun w' h => conv_anyN (I11.out.later h)
  have cva : ∀ w', Below w11.heap.size w11 w' → (convert 22 9 (.slice a2 n3 cap2)).run Try.prog w' = .ok (.string (Fr.tx R)) w' := fun w' h => by have := conv_anyN (pc := cap2) (zs := R) (by rw [RL]; exact I3H.out.later (B11.out.trans (h.mono B11.out.size))); rw [RL] at this; exact this
  have FE := hid (fun w' (h : Below w11.heap.size w11 w') => FW.out w' (B11.out.trans (h.mono B11.out.size)))
  clear RL
  refine wp_region_class (by kernel_rfl) (by kernel_rfl) ?_
  repeat (first
    | go_big_quiet_skip
    | (go_big_quiet_want
       apply quiet_by
       · intro w1 hw1
         go_simp
         first
           | rfl
           | (go_at_call 13; exact class_of hw1 (LC.out _))
           | (go_at_call 6; exact class_same hw1 (FE.out _ hw1))
       · go_simp; rfl
       go_big_quiet_on))
  refine wpQuiet_nil ?_
  intro w9 hw9
  go_wp2
  go_ret
  exact ⟨rfl, B11.out.trans (hw9.mono B11.out.size)⟩
set_option maxHeartbeats 8000000 in
theorem recordNodes_ttf (x : Nd) (a : Option Addr) (ca : Nat) (b : Option Addr) (cb : Nat) (ns : List Nd) (ss : List St) (lca : ns.length ≤ ca) (lcb : ss.length ≤ cb) (a2 : Option Addr) (len2 cap2 : Nat) (z2 : List Int) (lc2 : len2 ≤ cap2) (w : World) (hx : x.Ok w) (hn : IsNs w a ns) (hs : IsSs w b ss) (h2 : IsB w a2 len2 z2) (rx : nodeOk x = true) (rs : RSnap (ns.take 50) (ss.take 50)) (rz : ∀ ms ts, ¬ GoodZ (z2.take (few7 len2)) ms ts) :
    Calls Try.prog 5 #[x.val, snV a ns.length ca b ss.length cb, .slice a2 len2 cap2] w fun e w' => e = .returned (.bool true) ∧ Below w.heap.size w w' := by
  have I3 := h2.front (few7 len2) (few7_le _)
  have hcf : few7 len2 ≤ cap2 := Nat.le_trans (few7_le _) lc2
  have FW := hid (fun W (hW : Below w.heap.size w W) => few7_c a2 len2 cap2 z2 W (h2.later hW) lc2)
  have RA := hid (fun W (hW : Below w.heap.size w W) => readSnapAny_c a2 (few7 len2) cap2 _ W (I3.later hW) hcf)
  have RZ := hid rz
  have LC := hid rlive_c
  generalize z2.take (few7 len2) = R at *
  generalize few7 len2 = n3 at *
  clear rz h2 lc2 hcf I3
  have b0 := below_1 w (.cells x.cells.toArray 39)
  have h0 := heap_alloc_new w (.cells x.cells.toArray 39)
  have b1 := below_1 (w.alloc (.cells x.cells.toArray 39)) (.cells #[.slice a ns.length ca, .slice b ss.length cb] 49)
  have h1 := heap_alloc_new (w.alloc (.cells x.cells.toArray 39)) (.cells #[.slice a ns.length ca, .slice b ss.length cb] 49)
  rw [show (w.alloc (.cells x.cells.toArray 39)).heap.size = w.heap.size + 1 by simp] at h1
  have h0' := (b1.block _ (lt_blkR h0)).trans h0
  have bV := b0.trans (b1.mono b0.size)
  have B0 := hid bV
  have H0 := hid h0'
  have H1 := hid h1
  obtain ⟨p0, p1, p2, p3, p4, p5⟩ := nd_cells h0'
  obtain ⟨s0, s1⟩ := sn_cells h1
  have OX := hid (node_c x ((w.alloc (.cells x.cells.toArray 39)).alloc (.cells #[.slice a ns.length ca, .slice b ss.length cb] 49)) (hx.later bV))
  have HX := hid hx
  have SM := hid (fun W => small_c a b ca cb ns.length ss.length W (fun h => by obtain ⟨p, o, e, _⟩ := hn.2.2 (by omega); exact ⟨p, o, e⟩) (fun h => by obtain ⟨p, o, e, _⟩ := hs.2.2 (by omega); exact ⟨p, o, e⟩) lca lcb)
  rw [n50_take, n50_take] at SM
  have L1 := hid (show (ns.take 50).length ≤ 50 by rw [List.length_take]; omega)
  have L2 := hid (show (ss.take 50).length ≤ 50 by rw [List.length_take]; omega)
  have HN := hid (hn.take 50)
  have HS := hid (hs.take 50)
  have WF : Hid (RSnap (ns.take 50) (ss.take 50) → ∀ y ∈ ns.take 50, y.Wf) := hid (fun hr y hy => nd_wf ((hn.take 50).2.1 y hy) (right_ok hr.1 y hy))
  generalize ns.take 50 = ns5 at *
  generalize ss.take 50 = ss5 at *
  have SC := hid (fun W (hW : Below w.heap.size w W) => snapshot_c a b ca cb ns5 ss5 W (HN.out.later hW) (HS.out.later hW) (by have := L1.out; omega) (by have := L2.out; omega) WF.out)
  clear b0 b1 h0 h1 h0' bV hn hs lca lcb
  rw [rx] at OX
  simp only [if_true] at OX
  have xw := nd_wf hx rx
  have HAL := hid (nodeAll_nodeB xw rx)
  have HYI := hid (nodeB_inS x)
  have KX := hid xw.2.2.2.2.2.2.2
  generalize nodeB x = ys at *
  clear xw
  clear hx rx
  have SC2 := hid (fun W (hW : Below w.heap.size w W) => (SC.out W hW).mono (fun e9 w9 (h9 : SnapPost ns5 ss5 W e9 w9) => show (∃ v, e9 = .returned (.tuple #[v, .int .i64 0]) ∧ OwB w9 W.heap.size v (snapB ns5 ss5)) ∧ Below W.heap.size W w9 from by
    obtain ⟨⟨_, h⟩ | ⟨h, _⟩, hb⟩ := h9
    · exact ⟨h, hb⟩
    · exact absurd rs h))
  have GB : Hid (GoodZ (snapB ns5 ss5) (ns5.map Nd.er) ss5) := hid ⟨snapP_B (fun y hy => ⟨WF.out rs y hy, right_ok rs.1 y hy⟩) HS.out.2.1 rs.1.1 (by
    have h1 := rs.2
    unfold stOk at h1
    rw [Bool.and_eq_true, decide_eq_true_eq] at h1
    have := rs.1.1
    omega), (rsnap_er _ _).2 rs⟩
  have SBI := hid (snapB_inS ns5 ss5)
  have N40 := hid rs.1.1
  have KK : Hid (∀ y ∈ ns5, y.ks.length ≤ 255) := hid (fun y hy => (WF.out rs y hy).2.2.2.2.2.2.2)
  generalize snapB ns5 ss5 = zb at *
  clear SC rs WF
  have RR := hid (fun W (hW : Below w.heap.size w W) => (RA.out W hW).mono (fun e9 w9 (h9 : ReadsZ W R e9 w9) => readsZ_bad h9 RZ.out))
  clear RA
  obtain ⟨fid, k, md, ln, da0, dc0, dz, ka0, kc0, dk⟩ := x
  simp only [Nd.val, Nd.cells, snV] at *
  have t0 := hid True.intro
  go_enter Try.func5, Try.ntmps5
  go_wp2_with (first
    | (have _q := t0.out; clear _q; go_at_call 22; refine OX.out.mono ?_; rintro _ w1 ⟨⟨v1, rfl, hO1⟩, hb1⟩
       have S1 := hid hb1
       obtain ⟨ay, cy, rfl, hI1, hcy, hL1⟩ := isB_ownR hO1 HYI.out
       have RN := hid (readNode_c ay ys.length cy ys w1 hI1 hcy hL1)
       rw [HAL.out] at RN
       have t0b := hid True.intro
       clear hb1 hO1 hI1 hL1 t0 OX)
    | (have _q := t0b.out; clear _q; go_at_call 11; refine RN.out.mono ?_; rintro _ w2 ⟨hb2, da, dc, ka, kc, rfl, hO2⟩
       have b2 := below_1 w2 (.cells (⟨fid, k, md, ln, da, dc, dz, ka, kc, dk⟩ : Nd).cells.toArray 39)
       have h2 := heap_alloc_new w2 (.cells (⟨fid, k, md, ln, da, dc, dz, ka, kc, dk⟩ : Nd).cells.toArray 39)
       have S2 := S1.out.trans ((hb2.trans (b2.mono hb2.size)).mono S1.out.size)
       have S2h := hid S2
       have B2 := hid (B0.out.trans (S2.mono B0.out.size))
       obtain ⟨q0, q1, q2, q3, q4, q5⟩ := nd_cells h2
       obtain ⟨p0, p1, p2, p3, p4, p5⟩ := nd_cells (x := ⟨fid, k, md, ln, da0, dc0, dz, ka0, kc0, dk⟩) ((S2.block _ (lt_blkR H0.out)).trans H0.out)
       have SN := hid (sameNode_c ⟨fid, k, md, ln, da0, dc0, dz, ka0, kc0, dk⟩ da dc ka kc da0 dc0 ka0 kc0 _ (hO2.later b2).ok (HX.out.later B2.out) (by have := KX.out; simp only at this ⊢; omega))
       simp only [Nd.lie, Nd.val, Nd.er, Nd.cells] at SN q0 q1 q2 q3 q4 q5 p0 p1 p2 p3 p4 p5 ⊢
       have t0c := hid True.intro
       clear hb2 hO2 b2 h2 S2 t0b RN)
    | (have _q := t0c.out; clear _q; go_at_call 15; refine SN.out.mono ?_; rintro _ w3 ⟨rfl, hb3⟩
       have S3 := hid (S2h.out.trans (hb3.mono S2h.out.size))
       have B3 := hid (B0.out.trans (S3.out.mono B0.out.size))
       have H1c := hid ((S3.out.block _ (lt_blkR H1.out)).trans H1.out)
       obtain ⟨s0, s1⟩ := sn_cells H1c.out
       have fs := frz H1c.out
       have t1 := hid True.intro
       clear hb3 t0c SN)
    | (have _q := t1.out; clear _q; go_at_call 16; refine (SM.out _).mono ?_; rintro _ w4 ⟨rfl, hb4⟩
       have H1d := hid ((hb4.block _ (lt_blkR H1c.out)).trans H1c.out)
       obtain ⟨s0, s1⟩ := sn_cells H1d.out
       have fs := frz H1d.out
       have bb4 := B3.out.trans (hb4.mono B3.out.size)
       have B5 : Hid (Below w.heap.size w ((w4.setCell ⟨w.heap.size + 1, 0, none⟩ (.slice a ns5.length ca)).setCell ⟨w.heap.size + 1, 1, none⟩ (.slice b ss5.length cb))) := hid ((bb4.setCell (p := ⟨w.heap.size + 1, 0, none⟩) (Nat.le_succ _) _).setCell (p := ⟨w.heap.size + 1, 1, none⟩) (Nat.le_succ _) _)
       have C5a : Hid (((w4.setCell ⟨w.heap.size + 1, 0, none⟩ (.slice a ns5.length ca)).setCell ⟨w.heap.size + 1, 1, none⟩ (.slice b ss5.length cb)).cell? ⟨w.heap.size + 1, 0, none⟩ = some (.slice a ns5.length ca)) := hid (by simp [go_sem, s0, s1])
       have C5b : Hid (((w4.setCell ⟨w.heap.size + 1, 0, none⟩ (.slice a ns5.length ca)).setCell ⟨w.heap.size + 1, 1, none⟩ (.slice b ss5.length cb)).cell? ⟨w.heap.size + 1, 1, none⟩ = some (.slice b ss5.length cb)) := hid (by simp [go_sem, s0, s1])
       have t2 := hid True.intro
       clear hb4 bb4 t1 SM H1c)
    | (have _q := t2.out; clear _q; go_at_call 17; refine (SC2.out _ B5.out).mono ?_; rintro _ w6 ⟨⟨v6, rfl, hO6⟩, hb6⟩
       have B6 := hid (B5.out.trans (hb6.mono B5.out.size))
       have C6a := hid (cell_later hb6 C5a.out)
       have C6b := hid (cell_later hb6 C5b.out)
       obtain ⟨az, cz, rfl, hI6, hcz, hL6⟩ := isB_ownR hO6 SBI.out
       have RS := hid ((readSnapAny_c az zb.length cz zb w6 hI6 hcz).mono (fun e9 w9 (h9 : ReadsZ w6 zb e9 w9) => readsZ_good h9 GB.out))
       have t2b := hid True.intro
       clear hb6 hO6 hI6 hL6 t2 SC2 C5a C5b H1d s0 s1 fs)
    | (have _q := t2b.out; clear _q; go_at_call 19; refine RS.out.mono ?_; rintro _ w7 ⟨hb7, va, vc, vb, vd, L, rfl, hL7, hO7⟩
       have b7 := below_1 w7 (.cells #[.slice va L.length vc, .slice vb ss5.length vd] 49)
       have h7 := heap_alloc_new w7 (.cells #[.slice va L.length vc, .slice vb ss5.length vd] 49)
       have S7 := hb7.trans (b7.mono hb7.size)
       have B7 := hid (B6.out.trans (S7.mono B6.out.size))
       have O7 := hO7.later b7
       have LE : L.map Nd.er = ns5.map Nd.er := by rw [hL7, List.map_map]; rfl
       have LL : L.length = ns5.length := by have := congrArg List.length LE; simpa using this
       have SX := hid (same7_c va vb a b vc vd ca cb L ns5 ss5 _ O7.ns (HN.out.later B7.out) LE O7.st (HS.out.later B7.out) (by have := L1.out; omega) (by have := L2.out; omega) (fun y hy => by have := (O7.1.2 y hy).1.2.2.2.2.2.2.2; omega))
       simp only [snV] at SX
       obtain ⟨q0, q1⟩ := sn_cells h7
       have s0 := cell_later S7 C6a.out
       have s1 := cell_later S7 C6b.out
       have t2c := hid True.intro
       try unfold snV
       clear hb7 b7 h7 S7 O7 LE LL hL7 hO7 t2b RS)
    | (have _q := t2c.out; clear _q; go_at_call 21; refine SX.out.mono ?_; rintro _ w9 ⟨rfl, hb9⟩
       have B9 := hid (B7.out.trans (hb9.mono B7.out.size))
       have t3 := hid True.intro
       clear hb9 t2c SX q0 q1 s0 s1 C6a C6b)
    | (have _q := t3.out; clear _q; go_at_call 6; refine (FW.out _ B9.out).mono ?_; rintro _ wf ⟨rfl, hwf⟩; have hwf2 := hwf.symm; clear hwf; subst hwf2
       have RB := hid (RR.out _ B9.out)
       have t4 := hid True.intro
       clear t3)
    | (have _q := t4.out; clear _q; go_at_call 19; refine RB.out.mono ?_; rintro _ w10 ⟨hb10, rfl⟩
       have b10 := below_1 w10 (.cells #[.slice none 0 0, .slice none 0 0] 49)
       have H10 := hid (heap_alloc_new w10 (.cells #[.slice none 0 0, .slice none 0 0] 49))
       have B10 := hid (B9.out.trans ((hb10.trans (b10.mono hb10.size)).mono B9.out.size))
       obtain ⟨m0, m1⟩ := sn_cells H10.out
       try unfold snNo
       have t5 := hid True.intro
       clear hb10 b10 t4 RB)
    | (have _q := t5.out; clear _q; go_at_call 13; refine (LC.out _).mono ?_; rintro _ wL ⟨rfl, hbL⟩
       have BL := hid (B10.out.trans (hbL.mono B10.out.size))
       obtain ⟨m0, m1⟩ := sn_cells ((hbL.block _ (lt_blkR H10.out)).trans H10.out)
       clear hbL t5))
  go_ret
  exact ⟨by first | rfl | simp, BL.out⟩
set_option maxHeartbeats 8000000 in
theorem recordNodes_ttt (x : Nd) (a : Option Addr) (ca : Nat) (b : Option Addr) (cb : Nat) (ns : List Nd) (ss : List St) (lca : ns.length ≤ ca) (lcb : ss.length ≤ cb) (a2 : Option Addr) (len2 cap2 : Nat) (z2 : List Int) (lc2 : len2 ≤ cap2) (w : World) (hx : x.Ok w) (hn : IsNs w a ns) (hs : IsSs w b ss) (h2 : IsB w a2 len2 z2) (rx : nodeOk x = true) (rs : RSnap (ns.take 50) (ss.take 50)) (ms : List Nd) (ts : List St) (rz : GoodZ (z2.take (few7 len2)) ms ts) :
    Calls Try.prog 5 #[x.val, snV a ns.length ca b ss.length cb, .slice a2 len2 cap2] w fun e w' => e = .returned (.bool true) ∧ Below w.heap.size w w' := by
  have I3 := h2.front (few7 len2) (few7_le _)
  have hcf : few7 len2 ≤ cap2 := Nat.le_trans (few7_le _) lc2
  have FW := hid (fun W (hW : Below w.heap.size w W) => few7_c a2 len2 cap2 z2 W (h2.later hW) lc2)
  have RA := hid (fun W (hW : Below w.heap.size w W) => readSnapAny_c a2 (few7 len2) cap2 _ W (I3.later hW) hcf)
  have RZ := hid rz
  have LC := hid rlive_c
  obtain ⟨zb, zn1, zn2, zw, zv⟩ := snapP_back I3.2.2.2 rz.1
  rw [List.append_nil] at zb
  have ZB := hid zb
  have ZN1 := hid zn1
  have ZN2 := hid zn2
  have FE0 := FW
  have I3H := hid I3
  clear zb zn1 zn2 zw zv
  generalize z2.take (few7 len2) = R at *
  generalize few7 len2 = n3 at *
  clear rz h2 lc2 hcf I3
  have b0 := below_1 w (.cells x.cells.toArray 39)
  have h0 := heap_alloc_new w (.cells x.cells.toArray 39)
  have b1 := below_1 (w.alloc (.cells x.cells.toArray 39)) (.cells #[.slice a ns.length ca, .slice b ss.length cb] 49)
  have h1 := heap_alloc_new (w.alloc (.cells x.cells.toArray 39)) (.cells #[.slice a ns.length ca, .slice b ss.length cb] 49)
  rw [show (w.alloc (.cells x.cells.toArray 39)).heap.size = w.heap.size + 1 by simp] at h1
  have h0' := (b1.block _ (lt_blkR h0)).trans h0
  have bV := b0.trans (b1.mono b0.size)
  have B0 := hid bV
  have H0 := hid h0'
  have H1 := hid h1
  obtain ⟨p0, p1, p2, p3, p4, p5⟩ := nd_cells h0'
  obtain ⟨s0, s1⟩ := sn_cells h1
  have OX := hid (node_c x ((w.alloc (.cells x.cells.toArray 39)).alloc (.cells #[.slice a ns.length ca, .slice b ss.length cb] 49)) (hx.later bV))
  have HX := hid hx
  have SM := hid (fun W => small_c a b ca cb ns.length ss.length W (fun h => by obtain ⟨p, o, e, _⟩ := hn.2.2 (by omega); exact ⟨p, o, e⟩) (fun h => by obtain ⟨p, o, e, _⟩ := hs.2.2 (by omega); exact ⟨p, o, e⟩) lca lcb)
  rw [n50_take, n50_take] at SM
  have L1 := hid (show (ns.take 50).length ≤ 50 by rw [List.length_take]; omega)
  have L2 := hid (show (ss.take 50).length ≤ 50 by rw [List.length_take]; omega)
  have HN := hid (hn.take 50)
  have HS := hid (hs.take 50)
  have WF : Hid (RSnap (ns.take 50) (ss.take 50) → ∀ y ∈ ns.take 50, y.Wf) := hid (fun hr y hy => nd_wf ((hn.take 50).2.1 y hy) (right_ok hr.1 y hy))
  generalize ns.take 50 = ns5 at *
  generalize ss.take 50 = ss5 at *
  have SC := hid (fun W (hW : Below w.heap.size w W) => snapshot_c a b ca cb ns5 ss5 W (HN.out.later hW) (HS.out.later hW) (by have := L1.out; omega) (by have := L2.out; omega) WF.out)
  clear b0 b1 h0 h1 h0' bV hn hs lca lcb
  rw [rx] at OX
  simp only [if_true] at OX
  have xw := nd_wf hx rx
  have HAL := hid (nodeAll_nodeB xw rx)
  have HYI := hid (nodeB_inS x)
  have KX := hid xw.2.2.2.2.2.2.2
  generalize nodeB x = ys at *
  clear xw
  clear hx rx
  have SC2 := hid (fun W (hW : Below w.heap.size w W) => (SC.out W hW).mono (fun e9 w9 (h9 : SnapPost ns5 ss5 W e9 w9) => show (∃ v, e9 = .returned (.tuple #[v, .int .i64 0]) ∧ OwB w9 W.heap.size v (snapB ns5 ss5)) ∧ Below W.heap.size W w9 from by
    obtain ⟨⟨_, h⟩ | ⟨h, _⟩, hb⟩ := h9
    · exact ⟨h, hb⟩
    · exact absurd rs h))
  have GB : Hid (GoodZ (snapB ns5 ss5) (ns5.map Nd.er) ss5) := hid ⟨snapP_B (fun y hy => ⟨WF.out rs y hy, right_ok rs.1 y hy⟩) HS.out.2.1 rs.1.1 (by
    have h1 := rs.2
    unfold stOk at h1
    rw [Bool.and_eq_true, decide_eq_true_eq] at h1
    have := rs.1.1
    omega), (rsnap_er _ _).2 rs⟩
  have SBI := hid (snapB_inS ns5 ss5)
  have N40 := hid rs.1.1
  have KK : Hid (∀ y ∈ ns5, y.ks.length ≤ 255) := hid (fun y hy => (WF.out rs y hy).2.2.2.2.2.2.2)
  generalize snapB ns5 ss5 = zb at *
  clear SC rs WF
  have RR := hid (fun W (hW : Below w.heap.size w W) => (RA.out W hW).mono (fun e9 w9 (h9 : ReadsZ W R e9 w9) => readsZ_good h9 RZ.out))
  clear RA
  obtain ⟨fid, k, md, ln, da0, dc0, dz, ka0, kc0, dk⟩ := x
  simp only [Nd.val, Nd.cells, snV] at *
  have RI : Hid (∀ y ∈ R, 0 ≤ y ∧ y ≤ 255) := hid (fun y hy => by
    obtain ⟨i, hi, rfl⟩ := List.getElem_of_mem hy
    have := I3H.out.2.2.2 i
    simpa [List.getD, hi] using this)
  have t0 := hid True.intro
  go_enter Try.func5, Try.ntmps5
  go_wp2_with (first
    | (have _q := t0.out; clear _q; go_at_call 22; refine OX.out.mono ?_; rintro _ w1 ⟨⟨v1, rfl, hO1⟩, hb1⟩
       have S1 := hid hb1
       obtain ⟨ay, cy, rfl, hI1, hcy, hL1⟩ := isB_ownR hO1 HYI.out
       have RN := hid (readNode_c ay ys.length cy ys w1 hI1 hcy hL1)
       rw [HAL.out] at RN
       have t0b := hid True.intro
       clear hb1 hO1 hI1 hL1 t0 OX)
    | (have _q := t0b.out; clear _q; go_at_call 11; refine RN.out.mono ?_; rintro _ w2 ⟨hb2, da, dc, ka, kc, rfl, hO2⟩
       have b2 := below_1 w2 (.cells (⟨fid, k, md, ln, da, dc, dz, ka, kc, dk⟩ : Nd).cells.toArray 39)
       have h2 := heap_alloc_new w2 (.cells (⟨fid, k, md, ln, da, dc, dz, ka, kc, dk⟩ : Nd).cells.toArray 39)
       have S2 := S1.out.trans ((hb2.trans (b2.mono hb2.size)).mono S1.out.size)
       have S2h := hid S2
       have B2 := hid (B0.out.trans (S2.mono B0.out.size))
       obtain ⟨q0, q1, q2, q3, q4, q5⟩ := nd_cells h2
       obtain ⟨p0, p1, p2, p3, p4, p5⟩ := nd_cells (x := ⟨fid, k, md, ln, da0, dc0, dz, ka0, kc0, dk⟩) ((S2.block _ (lt_blkR H0.out)).trans H0.out)
       have SN := hid (sameNode_c ⟨fid, k, md, ln, da0, dc0, dz, ka0, kc0, dk⟩ da dc ka kc da0 dc0 ka0 kc0 _ (hO2.later b2).ok (HX.out.later B2.out) (by have := KX.out; simp only at this ⊢; omega))
       simp only [Nd.lie, Nd.val, Nd.er, Nd.cells] at SN q0 q1 q2 q3 q4 q5 p0 p1 p2 p3 p4 p5 ⊢
       have t0c := hid True.intro
       clear hb2 hO2 b2 h2 S2 t0b RN)
    | (have _q := t0c.out; clear _q; go_at_call 15; refine SN.out.mono ?_; rintro _ w3 ⟨rfl, hb3⟩
       have S3 := hid (S2h.out.trans (hb3.mono S2h.out.size))
       have B3 := hid (B0.out.trans (S3.out.mono B0.out.size))
       have H1c := hid ((S3.out.block _ (lt_blkR H1.out)).trans H1.out)
       obtain ⟨s0, s1⟩ := sn_cells H1c.out
       have fs := frz H1c.out
       have t1 := hid True.intro
       clear hb3 t0c SN)
    | (have _q := t1.out; clear _q; go_at_call 16; refine (SM.out _).mono ?_; rintro _ w4 ⟨rfl, hb4⟩
       have H1d := hid ((hb4.block _ (lt_blkR H1c.out)).trans H1c.out)
       obtain ⟨s0, s1⟩ := sn_cells H1d.out
       have fs := frz H1d.out
       have bb4 := B3.out.trans (hb4.mono B3.out.size)
       have B5 : Hid (Below w.heap.size w ((w4.setCell ⟨w.heap.size + 1, 0, none⟩ (.slice a ns5.length ca)).setCell ⟨w.heap.size + 1, 1, none⟩ (.slice b ss5.length cb))) := hid ((bb4.setCell (p := ⟨w.heap.size + 1, 0, none⟩) (Nat.le_succ _) _).setCell (p := ⟨w.heap.size + 1, 1, none⟩) (Nat.le_succ _) _)
       have C5a : Hid (((w4.setCell ⟨w.heap.size + 1, 0, none⟩ (.slice a ns5.length ca)).setCell ⟨w.heap.size + 1, 1, none⟩ (.slice b ss5.length cb)).cell? ⟨w.heap.size + 1, 0, none⟩ = some (.slice a ns5.length ca)) := hid (by simp [go_sem, s0, s1])
       have C5b : Hid (((w4.setCell ⟨w.heap.size + 1, 0, none⟩ (.slice a ns5.length ca)).setCell ⟨w.heap.size + 1, 1, none⟩ (.slice b ss5.length cb)).cell? ⟨w.heap.size + 1, 1, none⟩ = some (.slice b ss5.length cb)) := hid (by simp [go_sem, s0, s1])
       have t2 := hid True.intro
       clear hb4 bb4 t1 SM H1c)
    | (have _q := t2.out; clear _q; go_at_call 17; refine (SC2.out _ B5.out).mono ?_; rintro _ w6 ⟨⟨v6, rfl, hO6⟩, hb6⟩
       have B6 := hid (B5.out.trans (hb6.mono B5.out.size))
       have C6a := hid (cell_later hb6 C5a.out)
       have C6b := hid (cell_later hb6 C5b.out)
       obtain ⟨az, cz, rfl, hI6, hcz, hL6⟩ := isB_ownR hO6 SBI.out
       have RS := hid ((readSnapAny_c az zb.length cz zb w6 hI6 hcz).mono (fun e9 w9 (h9 : ReadsZ w6 zb e9 w9) => readsZ_good h9 GB.out))
       have t2b := hid True.intro
       clear hb6 hO6 hI6 hL6 t2 SC2 C5a C5b H1d s0 s1 fs)
    | (have _q := t2b.out; clear _q; go_at_call 19; refine RS.out.mono ?_; rintro _ w7 ⟨hb7, va, vc, vb, vd, L, rfl, hL7, hO7⟩
       have b7 := below_1 w7 (.cells #[.slice va L.length vc, .slice vb ss5.length vd] 49)
       have h7 := heap_alloc_new w7 (.cells #[.slice va L.length vc, .slice vb ss5.length vd] 49)
       have S7 := hb7.trans (b7.mono hb7.size)
       have B7 := hid (B6.out.trans (S7.mono B6.out.size))
       have O7 := hO7.later b7
       have LE : L.map Nd.er = ns5.map Nd.er := by rw [hL7, List.map_map]; rfl
       have LL : L.length = ns5.length := by have := congrArg List.length LE; simpa using this
       have SX := hid (same7_c va vb a b vc vd ca cb L ns5 ss5 _ O7.ns (HN.out.later B7.out) LE O7.st (HS.out.later B7.out) (by have := L1.out; omega) (by have := L2.out; omega) (fun y hy => by have := (O7.1.2 y hy).1.2.2.2.2.2.2.2; omega))
       simp only [snV] at SX
       obtain ⟨q0, q1⟩ := sn_cells h7
       have s0 := cell_later S7 C6a.out
       have s1 := cell_later S7 C6b.out
       have t2c := hid True.intro
       try unfold snV
       clear hb7 b7 h7 S7 O7 LE LL hL7 hO7 t2b RS)
    | (have _q := t2c.out; clear _q; go_at_call 21; refine SX.out.mono ?_; rintro _ w9 ⟨rfl, hb9⟩
       have B9 := hid (B7.out.trans (hb9.mono B7.out.size))
       have t3 := hid True.intro
       clear hb9 t2c SX q0 q1 s0 s1 C6a C6b)
    | (have _q := t3.out; clear _q; go_at_call 6; refine (FW.out _ B9.out).mono ?_; rintro _ wf ⟨rfl, hwf⟩; have hwf2 := hwf.symm; clear hwf; subst hwf2
       have RB := hid (RR.out _ B9.out)
       have t4 := hid True.intro
       clear t3)
    | (have _q := t4.out; clear _q; go_at_call 19; refine RB.out.mono ?_; rintro _ w10 ⟨hb10, va2, vc2, vb2, vd2, M, rfl, hM10, hO10⟩
       have b10 := below_1 w10 (.cells #[.slice va2 M.length vc2, .slice vb2 ts.length vd2] 49)
       have h10 := heap_alloc_new w10 (.cells #[.slice va2 M.length vc2, .slice vb2 ts.length vd2] 49)
       have B10 := hid (B9.out.trans ((hb10.trans (b10.mono hb10.size)).mono B9.out.size))
       have O10 := hO10.later b10
       have ML : M.length = ms.length := by have := congrArg List.length hM10; simpa using this
       have RM : RSnap M ts := by rw [← rsnap_er, hM10, rsnap_er]; exact RZ.out.2
       have SB : snapB M ts = R := by rw [← snapB_er, hM10, snapB_er]; exact ZB.out.symm
       have SD := hid ((snapshot_c va2 vb2 vc2 vd2 M ts _ O10.ns O10.st (by have := ZN1.out; omega) (by have := ZN2.out; omega) (fun _ y hy => (O10.1.2 y hy).1)).mono (fun e9 w9 (h9 : SnapPost M ts _ e9 w9) => show (∃ v, e9 = .returned (.tuple #[v, .int .i64 0]) ∧ OwB w9 (w10.alloc (.cells #[.slice va2 M.length vc2, .slice vb2 ts.length vd2] 49)).heap.size v R) ∧ Below (w10.alloc (.cells #[.slice va2 M.length vc2, .slice vb2 ts.length vd2] 49)).heap.size (w10.alloc (.cells #[.slice va2 M.length vc2, .slice vb2 ts.length vd2] 49)) w9 from by
         obtain ⟨⟨_, h⟩ | ⟨h, _⟩, hb⟩ := h9
         · rw [SB] at h; exact ⟨h, hb⟩
         · exact absurd RM h))
       obtain ⟨m0, m1⟩ := sn_cells h10
       try unfold snV
       have t5 := hid True.intro
       clear hb10 b10 h10 O10 ML RM SB hM10 hO10 t4 RB)
    | (have _q := t5.out; clear _q; go_at_call 17; refine SD.out.mono ?_; rintro _ w11 ⟨⟨v11, rfl, hO11⟩, hb11⟩
       have B11 := hid (B10.out.trans (hb11.mono B10.out.size))
       obtain ⟨aw, cw, rfl, hI11, _, _⟩ := isB_ownR hO11 RI.out
       have I11 := hid hI11
       clear hb11 hO11 hI11 t5 SD m0 m1))
  have RL : R.length = n3 := I3H.out.1
  have cvx : ∀ w', Below w11.heap.size w11 w' → (convert 22 9 (.slice aw R.length cw)).run Try.prog w' = .ok (.string (Fr.tx R)) w' := fun w' h => conv_anyN (I11.out.later h)
  have cva : ∀ w', Below w11.heap.size w11 w' → (convert 22 9 (.slice a2 n3 cap2)).run Try.prog w' = .ok (.string (Fr.tx R)) w' := fun w' h => by have := conv_anyN (pc := cap2) (zs := R) (by rw [RL]; exact I3H.out.later (B11.out.trans (h.mono B11.out.size))); rw [RL] at this; exact this
  have FE := hid (fun w' (h : Below w11.heap.size w11 w') => FW.out w' (B11.out.trans (h.mono B11.out.size)))
  clear RL
  refine wp_region_class (by kernel_rfl) (by kernel_rfl) ?_
  repeat (first
    | go_big_quiet_skip
    | (go_big_quiet_want
       apply quiet_by
       · intro w1 hw1
         go_simp
         first
           | rfl
           | (go_at_call 13; exact class_of hw1 (LC.out _))
           | (go_at_call 6; exact class_same hw1 (FE.out _ hw1))
       · go_simp; rfl
       go_big_quiet_on))
  refine wpQuiet_nil ?_
  intro w9 hw9
  go_wp2
  go_ret
  exact ⟨rfl, B11.out.trans (hw9.mono B11.out.size)⟩
theorem recordNodes_walk (x : Nd) (a : Option Addr) (ca : Nat) (b : Option Addr) (cb : Nat) (ns : List Nd) (ss : List St) (lca : ns.length ≤ ca) (lcb : ss.length ≤ cb) (a2 : Option Addr) (len2 cap2 : Nat) (z2 : List Int) (lc2 : len2 ≤ cap2) (_ : a2 = none → cap2 = 0) (w : World) (hx : x.Ok w) (hn : IsNs w a ns) (hs : IsSs w b ss) (h2 : IsB w a2 len2 z2) :
    Calls Try.prog 5 #[x.val, snV a ns.length ca b ss.length cb, .slice a2 len2 cap2] w fun e w' => e = .returned (.bool true) ∧ Below w.heap.size w w' := by
  by_cases rs : RSnap (ns.take 50) (ss.take 50)
  · by_cases rz : ∃ ms ts, GoodZ (z2.take (few7 len2)) ms ts
    · obtain ⟨ms, ts, rz⟩ := rz
      cases rx : nodeOk x with
      | false => exact recordNodes_ftt x a ca b cb ns ss lca lcb a2 len2 cap2 z2 lc2 w hx hn hs h2 rx rs ms ts rz
      | true => exact recordNodes_ttt x a ca b cb ns ss lca lcb a2 len2 cap2 z2 lc2 w hx hn hs h2 rx rs ms ts rz
    · have rz' : ∀ ms ts, ¬ GoodZ (z2.take (few7 len2)) ms ts := fun ms ts h => rz ⟨ms, ts, h⟩
      cases rx : nodeOk x with
      | false => exact recordNodes_ftf x a ca b cb ns ss lca lcb a2 len2 cap2 z2 lc2 w hx hn hs h2 rx rs rz'
      | true => exact recordNodes_ttf x a ca b cb ns ss lca lcb a2 len2 cap2 z2 lc2 w hx hn hs h2 rx rs rz'
  · by_cases rz : ∃ ms ts, GoodZ (z2.take (few7 len2)) ms ts
    · obtain ⟨ms, ts, rz⟩ := rz
      cases rx : nodeOk x with
      | false => exact recordNodes_fft x a ca b cb ns ss lca lcb a2 len2 cap2 z2 lc2 w hx hn hs h2 rx rs ms ts rz
      | true => exact recordNodes_tft x a ca b cb ns ss lca lcb a2 len2 cap2 z2 lc2 w hx hn hs h2 rx rs ms ts rz
    · have rz' : ∀ ms ts, ¬ GoodZ (z2.take (few7 len2)) ms ts := fun ms ts h => rz ⟨ms, ts, h⟩
      cases rx : nodeOk x with
      | false => exact recordNodes_fff x a ca b cb ns ss lca lcb a2 len2 cap2 z2 lc2 w hx hn hs h2 rx rs rz'
      | true => exact recordNodes_tff x a ca b cb ns ss lca lcb a2 len2 cap2 z2 lc2 w hx hn hs h2 rx rs rz'
/-! ### The row of RecordNodes -/
theorem recordNodes_own : ownKnob Try.prog.godebug = none := by kernel_rfl
theorem recordNodes_laidOut : laidOutB Try.prog = true := by kernel_rfl
set_option maxRecDepth 100000 in
theorem recordNodes_lifted (os : Os) (started : os.Started) (H : Type) (enc : TypeId × Value → H) :
    ReturnsInHanded {} Try.checked os 5 .any (Rows.recordNodesSpec.pre6 enc Try.prog Try.f5 Rows.recordNodesRow.domain false) (Rows.recordNodesSpec.post enc Try.prog Try.f5 false true false false) := by
  refine returnsInHanded_of_change (C := Try.checked) recordNodes_own started (by kernel_rfl) Try.func5
    (ChangeSpec.witness6 (enc := enc) (C := Try.checked) false ⟨#[], #[.agg #[.int .u32 0, .int .u8 0, .int .u16 0, .int .u16 0, .slice none 0 0, .slice none 0 0], .agg #[.slice none 0 0, .slice none 0 0], .slice none 0 0], []⟩ 8 (by kernel_rfl) (by kernel_rfl) (by kernel_rfl) (by kernel_rfl)) ?_
  intro W base args ds gs before hval0 hW hcnd _
  have hval : ∀ (j : Nat) t v, Try.f5.params[j]? = some t → args[j]? = some v → Value.okWide Try.prog W .any base t v := hval0
  have hW' := hW
  obtain ⟨p, q, hA0, hV, rfl, hfz, hnd⟩ := hW
  have hA : DataW.TrodAll enc Try.prog W 0 (fun _ => true) true Try.f5.params.toList args.toList ds p := hA0
  rw [Try.params5] at hA hval
  obtain ⟨v0, vs0, d0, ds0, p0, q0, hargs, rfl, rfl, h0, r0⟩ := trodAll_cons hA
  obtain ⟨v1, vs1, d1, ds1, p1, q1, rfl, rfl, rfl, h1, r1⟩ := trodAll_cons r0
  obtain ⟨v2, vs2, d2, ds2, p2, q2, rfl, rfl, rfl, h2, r2⟩ := trodAll_cons r1
  obtain ⟨rfl, rfl, rfl⟩ := trodAll_nil r2
  obtain rfl : args = #[v0, v1, v2] := by cases args; simp_all
  obtain ⟨rfl, rfl⟩ := trodVars_none hV
  have k0 := h0
  have lt0 : ∀ x ∈ p0, x.block < W.heap.size := by obtain ⟨m, hm⟩ := k0; exact DataW.trod_lt m _ _ _ hm
  obtain ⟨q0, rfl, wq0⟩ := open_node (hval 0 39 v0 rfl rfl) h0
  have k1 := h1
  have lt1 : ∀ x ∈ p1, x.block < W.heap.size := by obtain ⟨m, hm⟩ := k1; exact DataW.trod_lt m _ _ _ hm
  obtain ⟨a1, ca1, b1, cb1, ns1, ss1, rfl, hn1, hs1, la1, lb1⟩ := open_snap (hval 1 49 v1 rfl rfl) h1
  have k2 := h2
  have lt2 : ∀ x ∈ p2, x.block < W.heap.size := by obtain ⟨m, hm⟩ := k2; exact DataW.trod_lt m _ _ _ hm
  obtain ⟨a2, len2, cap2, rfl⟩ := okWide_slice Try.underlying22 (hval 2 22 v2 rfl rfl)
  obtain ⟨z2, w2, lc2⟩ := isB_of Try.underlying22 Try.underlying5 (by kernel_rfl) h2
  clear hA0 hval0
  refine (recordNodes_walk q0 a1 ca1 b1 cb1 ns1 ss1 la1 lb1 a2 len2 cap2 z2 lc2 (isB_cap Try.underlying22 Try.underlying5 (by kernel_rfl) h2) W wq0 hn1 hs1 w2).mono fun e W' ⟨he, bel⟩ => ?_
  subst he
  exact ⟨_, rfl, _, _, _, [], _, [], hW', trodAll_mk1 (shut_bool Try.underlying4 _), (trodAll_cons_mk (Below.trod recordNodes_laidOut (by kernel_rfl) (of_decide_eq_true (by kernel_rfl)) k0 bel lt0) (trodAll_cons_mk (Below.trod recordNodes_laidOut (by kernel_rfl) (of_decide_eq_true (by kernel_rfl)) k1 bel lt1) (trodAll_cons_mk (Below.trod recordNodes_laidOut (by kernel_rfl) (of_decide_eq_true (by kernel_rfl)) k2 bel lt2) trodAll_mk0))), rfl, bel.frame _, fun h => by cases h⟩
theorem recordNodes_over : Rows.recordNodesRow.holds Try.pinned (OpenSpec.ofChange Rows.recordNodesSpec) :=
  OpenClaim.holds_of_wide 5 Try.f5 rfl rfl rfl rfl rfl rfl rfl ⟨rfl, rfl, rfl, rfl, rfl⟩ rfl rfl rfl rfl rfl (by kernel_rfl) Try.func5 (by kernel_rfl)
    (of_decide_eq_true (by kernel_rfl)) (by unfold Func.isWrapper; first | (rw [if_pos (by decide +kernel)]; kernel_rfl) | (rw [if_neg (by decide +kernel)]; exact ⟨rfl, rfl⟩))
    (fun os started H enc _ => recordNodes_lifted os started H enc)
/-- The statement. -/
theorem recordNodes_holds : Rows.RecordNodesSaid := recordNodes_over
#print axioms recordNodes_holds

end Go.Proofs.Ytbgninmkglgfeaa
