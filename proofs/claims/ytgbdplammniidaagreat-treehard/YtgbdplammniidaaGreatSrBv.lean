/-
  What the tree's laws share: a tree that holds no places; trees compared.
  What is made and removed leaves all as it was; what is stored last is what is there.
  Get of the program's tree.
  What is stored last is what is there; nothing else changes by it. A pair of texts that comes in.
  A file with two entries is one file; a directory is never put below itself.
  Get and Look of a tree whose contents are known.
  Operations of an input, in memory.
-/
import Derived.Test.YtgbdplammniidaaGreatSrBt
import Derived.Test.YtgbdplammniidaaGreatSrBu
import Derived.Test.YtgbdplammniidaaGreatSrAo
namespace Go.Proofs.YtgbdplammniidaaGreat
open Go.RowKit Go.ChangeShapes Go.WideShapes Go.ChangeAt
set_option linter.unusedVariables false
set_option linter.unusedSimpArgs false
theorem applyL_of {l : List Nd} {o : Rec} (h : (ApplyL l o).1 = 0) : rightF o = true ∧ ApplyL l o = applyL l o := by
 unfold ApplyL at h ⊢
 split at h
 · rename_i q
   rw [Bool.and_eq_true] at q
   exact ⟨q.2, by rw [if_pos (by rw [q.1, q.2]; rfl)]⟩
 · cases h
theorem ApplyL_do {l : List Nd} {o : Rec} (R : Rt l) (hr : rightF o = true) : ApplyL l o = applyL l o := by
 unfold ApplyL
 rw [rightD_rt.2 R, hr]
 rfl
theorem foldS_erm {l : List Nd} (h : Er l) (R : Rt l) {ops : List Rec} (hw : ∀ x ∈ ops, x.Wf) (m : Nat) (e : List Int) : Er ((ops.take m).foldl foldS (l, e)).1 := by
 induction m with
 | zero => exact h
 | succ m ih =>
   by_cases hm : m < ops.length
   · rw [fold_take _ _ _ Rec.no hm]
     simp only [foldS]
     split
     · rename_i q
       obtain ⟨_, eq⟩ := applyL_of q
       rw [eq] at q ⊢
       exact ih.apply (foldS_rtm R hw m e) q
     · exact ih
   · rw [List.take_of_length_le (by omega)] at ih ⊢
     exact ih
theorem pm_er {ops : List Rec} (hw : ∀ x ∈ ops, x.Wf) (m : Nat) : Er (PmL ops m) := foldS_erm (l := newL) (fun x hx => by
 rw [newL, List.mem_singleton] at hx
 subst hx
 rfl) newRt hw m []
theorem tre_same {a b : Option Addr} {ca cb : Nat} {L M l m : List Nd} {w : World} (h : TrE w a L l) (k : TrE w b M m) (hl : l.length ≤ 100000) (hm : m.length ≤ 100000) : Calls Tryz.prog 8 #[.slice a L.length ca, .slice b M.length cb] w (Yes (l = m) w) := by
 have := tSame_c a b ca cb L M w h.1 k.1 (by rw [h.len]; exact hl) (by rw [k.len]; exact hm)
 rw [h.2, k.2] at this
 exact this
theorem Yes.is_t {P : Prop} {w w' : World} {e : Ending} (h : Yes P w e w') (hp : P) : e = .returned (.bool true) ∧ Below w.heap.size w w' := by
 obtain ⟨⟨r, rfl, hr⟩, hb⟩ := h
 exact ⟨by rw [hr.2 hp], hb⟩
end Go.Proofs.YtgbdplammniidaaGreat
namespace Go.Proofs.YtgbdplammniidaaGreat
set_option linter.unusedVariables false
set_option linter.unusedSimpArgs false
def bkO (o : Rec) (k : Int) : Rec := ⟨k, 0, o.dir, o.nm, 0, ⟨#[]⟩, 0, ⟨#[]⟩, 0⟩
theorem bk_right {o : Rec} {k : Int} (hr : rightF o = true) (hk : pEnt o.k = true) (h56 : k = 5 ∨ k = 6) : rightF (bkO o k) = true := by
 unfold rightF at hr
 rw [hk] at hr
 have h1 : entF true o.dir o.nm = true := by
   simp only [Bool.and_eq_true] at hr
   exact hr.2.1.1.1
 have e0 : (⟨#[]⟩ : ByteArray).toList = [] := by rw [Lib.toList_data]
 unfold rightF bkO
 rcases h56 with rfl | rfl
 · simp only [show pEnt 5 = true by decide, h1, show pOk 5 = true by decide, show pFid 5 = false by decide, show mkF 5 = false by decide, show pGoal 5 = false by decide, show pData 5 = false by decide]
   simp [entF, datF, e0]
 · simp only [show pEnt 6 = true by decide, h1, show pOk 6 = true by decide, show pFid 6 = false by decide, show mkF 6 = false by decide, show pGoal 6 = false by decide, show pData 6 = false by decide]
   simp [entF, datF, e0]
theorem bk_wf {o : Rec} {k : Int} (hw : o.Wf) (h56 : k = 5 ∨ k = 6) : (bkO o k).Wf := by
 obtain ⟨h1, h2, h3, h4, h5, h6, h7, h8, h9⟩ := hw
 refine ⟨⟨?_, ?_⟩, ⟨by show (0 : Int) ≤ 0; omega, by show (0 : Int) < _; omega⟩, h3, ⟨by show (0 : Int) ≤ 0; omega, by show (0 : Int) < _; omega⟩, ⟨by show (0 : Int) ≤ 0; omega, by show (0 : Int) < _; omega⟩, ⟨by show (0 : Int) ≤ 0; omega, by show (0 : Int) < _; omega⟩, h7, by show 0 ≤ _; exact Nat.zero_le _, by show 0 ≤ _; exact Nat.zero_le _⟩
 · show 0 ≤ k; omega
 · show k < 256; omega
theorem kids_back {d : Nd} (he : d.er = d) (hk : KSrt d.ks) {s : ByteArray} {f : Int} (hf : f ≠ 0) (hq : kq d.ks s = none) : (d.kids none 0 (entL d.ks s f)).kids none 0 (entL (d.kids none 0 (entL d.ks s f)).ks s 0) = d := by
 have e1 : entL (entL d.ks s f) s 0 = d.ks := ksrt_ext (ksrt_ent _ _ (ksrt_ent _ _ hk)) hk (fun t => by
   rw [kq_ent, kq_ent]
   by_cases e : t = s
   · rw [if_pos e, if_pos rfl, e, hq]
   · rw [if_neg e, if_neg e])
 show d.kids none 0 (entL (entL d.ks s f) s 0) = d
 rw [e1]
 obtain ⟨e2, e3⟩ := er_ka he
 obtain ⟨a1, a2, a3, a4, a5, a6, a7, a8, a9, a10⟩ := d
 simp only at e2 e3
 subst e2 e3
 rfl
theorem undo_create {l : List Nd} (R : Rt l) (E : Er l) {o : Rec} (hr : rightF o = true) (hk : o.k = 1 ∨ o.k = 2 ∨ o.k = 3) (h : (createL l o).1 = 0) : removeL (createL l o).2 (bkO o (if o.k = 2 then 6 else 5)) = (0, l) ∧ (createL l o).2 ≠ l := by
 obtain ⟨d, h1, h2, h3, h4, h5, h6, e⟩ := create_ok R h
 have hm : mkF o.k = true := by rcases hk with h | h | h <;> rw [h] <;> rfl
 obtain ⟨f0, f1⟩ := rightF_make hr hm
 have fd := (getF_mem h1).2
 have hne : o.dir ≠ o.fid := fun e2 => by rw [e2, h4] at h1; cases h1
 have hkd := (R.kok h1 h2).1
 rw [e]
 have G : ∀ g, getF (setL (setL l (d.kids none 0 (entL d.ks o.nm o.fid))) (newN o)) g = if g = o.fid then some (newN o) else if g = o.dir then some (d.kids none 0 (entL d.ks o.nm o.fid)) else getF l g := fun g => by
   rw [getF_set, getF_set]
   show (if g = o.fid then _ else if g = d.fid then _ else _) = _
   rw [fd]
 have S0 : Srt (setL (setL l (d.kids none 0 (entL d.ks o.nm o.fid))) (newN o)) := srt_set _ (srt_set _ R.srt)
 generalize setL (setL l (d.kids none 0 (entL d.ks o.nm o.fid))) (newN o) = x at *
 constructor
 · have hkk : (bkO o (if o.k = 2 then 6 else 5)).k = if o.k = 2 then 6 else 5 := rfl
   rw [remove_do (l := x) (o := bkO o (if o.k = 2 then 6 else 5)) (d := d.kids none 0 (entL d.ks o.nm o.fid)) (n := newN o) (by show getF x o.dir = _; rw [G, if_neg hne, if_pos rfl]) h2 (by show kq (entL d.ks o.nm o.fid) o.nm = _; rw [kq_ent, if_pos rfl, if_neg f0]; rfl) (by show getF x o.fid = _; rw [G, if_pos rfl]) f0 (by rw [hkk]; split <;> simp) (by
     rw [hkk]
     show _ ↔ (if o.k = 2 then (2 : Int) else if o.k = 3 then 3 else 1) = 2
     by_cases q : o.k = 2
     · simp [q]
     · rw [if_neg q, if_neg q]
       split <;> simp) rfl]
   refine congrArg (Prod.mk (0 : Int)) (srt_ext (srt_less _ (srt_set _ S0)) R.srt (fun g => ?_))
   rw [getF_less, getF_set, G]
   show (if g = o.fid then (if (1 : Int) = 1 then none else _) else if g = d.fid then some ((d.kids none 0 (entL d.ks o.nm o.fid)).kids none 0 (entL (d.kids none 0 (entL d.ks o.nm o.fid)).ks o.nm 0)) else _) = _
   by_cases q1 : g = o.fid
   · rw [if_pos q1, if_pos rfl, q1, h4]
   · rw [if_neg q1, if_neg q1]
     by_cases q2 : g = o.dir
     · rw [if_pos (by rw [fd]; exact q2), kids_back (E.get h1) hkd f0 h3, q2, h1]
     · rw [if_neg (by rw [fd]; exact q2), if_neg q2]
 · intro e2
   have := G o.fid
   rw [if_pos rfl, e2, h4] at this
   cases this
theorem undo_hard {l : List Nd} (R : Rt l) (E : Er l) {o : Rec} (hr : rightF o = true) (hk : o.k = 4) (h : (hardL l o).1 = 0) : removeL (hardL l o).2 (bkO o 5) = (0, l) ∧ (hardL l o).2 ≠ l := by
 obtain ⟨d, n, n1, n2, h1, h2, h3, h6, e⟩ := hard_ok R h
 have fd := (getF_mem h1).2
 have fn := (getF_mem n1).2
 have hne : o.dir ≠ o.fid := fun e2 => by rw [e2, n1] at h1; cases h1; exact n2 h2
 have hkd := (R.kok h1 h2).1
 obtain ⟨⟨f0, _, _, nk⟩, fp, _⟩ := R.at n1
 have n0 : o.fid ≠ 0 := by omega
 have nks : n.ks = [] := by
   rcases nk with ⟨_, b⟩ | ⟨b, _⟩
   · exact b
   · exact absurd b n2
 have n11 : o.fid ≠ 1 := fun e2 => by
   obtain ⟨r, r1, r2, _⟩ := R.root
   rw [e2, r1] at n1
   cases n1
   exact n2 r2
 have lk := R.links n1 n11
 have hl1 : n.ln + 1 ≠ 1 := by omega
 rw [e]
 have G : ∀ g, getF (setL (setL l (d.kids none 0 (entL d.ks o.nm o.fid))) (n.lnk (n.ln + 1))) g = if g = o.fid then some (n.lnk (n.ln + 1)) else if g = o.dir then some (d.kids none 0 (entL d.ks o.nm o.fid)) else getF l g := fun g => by
   rw [getF_set, getF_set]
   show (if g = n.fid then _ else if g = d.fid then _ else _) = _
   rw [fd, fn]
 have S0 : Srt (setL (setL l (d.kids none 0 (entL d.ks o.nm o.fid))) (n.lnk (n.ln + 1))) := srt_set _ (srt_set _ R.srt)
 generalize setL (setL l (d.kids none 0 (entL d.ks o.nm o.fid))) (n.lnk (n.ln + 1)) = x at *
 constructor
 · rw [remove_do (l := x) (o := bkO o 5) (d := d.kids none 0 (entL d.ks o.nm o.fid)) (n := n.lnk (n.ln + 1)) (by show getF x o.dir = _; rw [G, if_neg hne, if_pos rfl]) h2 (by show kq (entL d.ks o.nm o.fid) o.nm = some ⟨o.nm, n.fid⟩; rw [kq_ent, if_pos rfl, if_neg n0, fn]) (by show getF x n.fid = _; rw [G, if_pos fn]) (by show n.fid ≠ 0; rw [fn]; exact n0) (.inl rfl) (by show (5 : Int) = 6 ↔ n.k = 2; constructor; (intro q; cases q); (intro q; exact absurd q n2)) nks]
   refine congrArg (Prod.mk (0 : Int)) (srt_ext (srt_less _ (srt_set _ S0)) R.srt (fun g => ?_))
   rw [getF_less, getF_set, G]
   show (if g = n.fid then (if n.ln + 1 = 1 then none else some ((n.lnk (n.ln + 1)).lnk (n.ln + 1 - 1))) else if g = d.fid then some ((d.kids none 0 (entL d.ks o.nm o.fid)).kids none 0 (entL (d.kids none 0 (entL d.ks o.nm o.fid)).ks o.nm 0)) else _) = _
   by_cases q1 : g = o.fid
   · rw [if_pos (by rw [fn]; exact q1), if_neg hl1, q1, n1]
     show some (n.lnk (n.ln + 1 - 1)) = some n
     rw [Int.add_sub_cancel]
     rfl
   · rw [if_neg (by rw [fn]; exact q1), if_neg q1]
     by_cases q2 : g = o.dir
     · rw [if_pos (by rw [fd]; exact q2), kids_back (E.get h1) hkd n0 h3, q2, h1]
     · rw [if_neg (by rw [fd]; exact q2), if_neg q2]
 · intro e2
   have := G o.fid
   rw [if_pos rfl, e2, n1] at this
   have h9 : n.ln = n.ln + 1 := congrArg Nd.ln (Option.some.inj this)
   omega
theorem undo_all {l : List Nd} (R : Rt l) (E : Er l) {o : Rec} (hw : o.Wf) (hk : o.k = 1 ∨ o.k = 2 ∨ o.k = 3 ∨ o.k = 4) (h : (ApplyL l o).1 = 0) : ApplyL (ApplyL l o).2 (bkO o (if o.k = 2 then 6 else 5)) = (0, l) ∧ (ApplyL l o).2 ≠ l := by
 have RX := ApplyL_rt hw h
 obtain ⟨hr, e⟩ := applyL_of h
 have he : pEnt o.k = true := by rcases hk with h | h | h | h <;> rw [h] <;> rfl
 have hb : rightF (bkO o (if o.k = 2 then 6 else 5)) = true := bk_right hr he (by split <;> simp)
 rw [ApplyL_do RX hb]
 rw [e] at h ⊢
 have hbk : ∀ x, applyL x (bkO o (if o.k = 2 then 6 else 5)) = removeL x (bkO o (if o.k = 2 then 6 else 5)) := fun x => by
   unfold applyL
   have hkk : (bkO o (if o.k = 2 then 6 else 5)).k = if o.k = 2 then 6 else 5 := rfl
   by_cases q : o.k = 2
   · rw [hkk, if_pos q, if_neg (by omega), if_neg (by omega), if_pos (by omega)]
   · rw [hkk, if_neg q, if_neg (by omega), if_neg (by omega), if_pos (by omega)]
 rw [hbk]
 by_cases q : o.k = 4
 · have e4 : applyL l o = hardL l o := by unfold applyL; rw [if_neg (by omega), if_pos q]
   rw [e4] at h ⊢
   have := undo_hard R E hr q h
   rw [if_neg (by omega)]
   exact this
 · have e1 : applyL l o = createL l o := by unfold applyL; rw [if_pos (by omega)]
   rw [e1] at h ⊢
   exact undo_create R E hr (by omega) h
end Go.Proofs.YtgbdplammniidaaGreat
namespace Go.Proofs.YtgbdplammniidaaGreat
open Go.RowKit Go.ChangeShapes Go.WideShapes Go.ChangeAt
set_option linter.unusedVariables false
set_option linter.unusedSimpArgs false
set_option maxRecDepth 100000
def GtP (o : Option Nd) (w : World) (e : Ending) (w' : World) : Prop := (match o with
 | none => e = .returned (.tuple #[Nd.no.val, .bool false])
 | some x => ∃ y : Nd, e = .returned (.tuple #[y.val, .bool true]) ∧ y.er = x.er ∧ NdP w' y) ∧ Below w.heap.size w w'
set_option maxHeartbeats 2000000 in
theorem tGet_c (a : Option Addr) (cap : Nat) (l : List Nd) (f : Int) (w : World) (h : Tr w a l) (hm : l.length ≤ 100000) :
   Calls Tryz.prog 11 #[.slice a l.length cap, .int .u32 f] w (GtP (getF l f) w) := by
 have b0 := below_1 w (.cells Nd.no.cells.toArray 38)
 have h0 := heap_alloc_new w (.cells Nd.no.cells.toArray 38)
 have hV := h.later b0
 have PC := hid (placeOf_c a cap l f _ hV.1 hm)
 have B0 := hid b0
 have H0 := hid h0
 have hsV : w.heap.size < (w.alloc (.cells Nd.no.cells.toArray 38)).heap.size := lt_blkR h0
 have H := hid hV
 clear b0 h0 h hV
 cases hx : getF l f with
 | none =>
   rw [pl_none hx] at PC
   clear H hx
   generalize l.length = n at *
   go_enter Tryz.func11, Tryz.ntmps11
   go_upto_region 1 with fail
   change Code.wp _ _ _ _ (w.alloc (.cells Nd.no.cells.toArray 38))
   generalize (w.alloc (.cells Nd.no.cells.toArray 38)) = V at *
   go_wp2_with (go_at_call 23; refine PC.out.mono ?_; rintro _ w1 ⟨rfl, hb1⟩; have h1 := (hb1.block _ hsV).trans H0.out; have fz : ∀ i, w1.frozen? ⟨w.heap.size, i, none⟩ = false := (fun i => by simp [World.frozen?, h1]); obtain ⟨q0, q1, q2, q3, q4, q5⟩ := nd_cells h1; simp only [Nd.no, List.length_nil] at q0 q1 q2 q3 q4 q5; have B1 := hid (B0.out.trans (hb1.mono B0.out.size)); clear hb1 h1)
   refine bodyPost_ret (v := .tuple #[Nd.no.val, .bool false]) (by simp [results, Tryz.results11, go_sem, Nd.val, Nd.no, q0, q1, q2, q3, q4, q5]) rfl ⟨rfl, ?_⟩
   exact (((((B1.out.setCell (p := ⟨w.heap.size, 0, none⟩) (Nat.le_refl _) _).setCell (p := ⟨w.heap.size, 1, none⟩) (Nat.le_refl _) _).setCell (p := ⟨w.heap.size, 2, none⟩) (Nat.le_refl _) _).setCell (p := ⟨w.heap.size, 3, none⟩) (Nat.le_refl _) _).setCell (p := ⟨w.heap.size, 4, none⟩) (Nat.le_refl _) _).setCell (p := ⟨w.heap.size, 5, none⟩) (Nat.le_refl _) _
 | some x =>
   obtain ⟨i, e1, e2, e3⟩ := pl_some hx
   rw [e1] at PC
   obtain ⟨b, off, rfl, _⟩ := H.out.1.2.2 (by omega)
   have hxm : x ∈ l := by rw [← e3]; exact getD_mem _ _ e2
   have NP := hid (H.out.nd hxm)
   have HA := hid (H.out.1.at (i := i) e2)
   rw [e3] at HA
   have e2I : (i : Int) < l.length := by omega
   clear H hx e1 e3 hxm
   generalize l.length = n at *
   go_enter Tryz.func11, Tryz.ntmps11
   go_upto_region 1 with fail
   change Code.wp _ _ _ _ (w.alloc (.cells Nd.no.cells.toArray 38))
   generalize (w.alloc (.cells Nd.no.cells.toArray 38)) = V at *
   obtain ⟨xf, xk, xm, xl, xda, xdc, xzs, xka, xkc, xks⟩ := x
   have CO : Hid (∀ W, Below V.heap.size V W → Calls Tryz.prog 24 #[.agg #[.int .u32 xf, .int .u8 xk, .int .u16 xm, .int .u16 xl, .slice xda xzs.length xdc, .slice xka xks.length xkc]] W fun e w' => ∃ da dc ka kc, e = .returned (.agg #[.int .u32 xf, .int .u8 xk, .int .u16 xm, .int .u16 xl, .slice da xzs.length dc, .slice ka xks.length kc]) ∧ NdW w' W.heap.size ⟨xf, xk, xm, xl, da, dc, xzs, ka, kc, xks⟩ ∧ Below W.heap.size W w') := hid (fun W hW => copyOf_c ⟨xf, xk, xm, xl, xda, xdc, xzs, xka, xkc, xks⟩ W (NP.out.later hW))
   have CC : Hid (∀ W, Below V.heap.size V W → NdC W b (off + i * 6) ⟨xf, xk, xm, xl, xda, xdc, xzs, xka, xkc, xks⟩) := hid (fun W hW => HA.out.later hW)
   clear NP HA
   go_wp2_with (first
     | (go_at_call 23; refine PC.out.mono ?_; rintro _ w1 ⟨rfl, hb1⟩; have B1 := hid hb1; clear hb1; obtain ⟨y0, y1, y2, y3, y4, y5⟩ := (CC.out w1 B1.out).all; have E1 := hid (CO.out w1 B1.out))
     | (go_at_call 24; refine E1.out.mono ?_; rintro _ w2 ⟨da, dc, ka, kc, rfl, hW2, hb2⟩; have B2 := hid (B1.out.trans (hb2.mono B1.out.size)); have W2 := hid hW2.r; clear hb2 hW2; have h1 := (B2.out.block _ hsV).trans H0.out; have fz : ∀ i, w2.frozen? ⟨w.heap.size, i, none⟩ = false := (fun i => by simp [World.frozen?, h1]); obtain ⟨q0, q1, q2, q3, q4, q5⟩ := nd_cells h1; simp only [Nd.no, List.length_nil] at q0 q1 q2 q3 q4 q5; clear h1))
   have hs1 : w.heap.size < w1.heap.size := Nat.lt_of_lt_of_le hsV B1.out.size
   have B3 : Below w.heap.size w w2 := B0.out.trans (B2.out.mono B0.out.size)
   refine bodyPost_ret (v := .tuple #[(⟨xf, xk, xm, xl, da, dc, xzs, ka, kc, xks⟩ : Nd).val, .bool true]) (by simp [results, Tryz.results11, go_sem, Nd.val, q0, q1, q2, q3, q4, q5]) rfl ⟨⟨⟨xf, xk, xm, xl, da, dc, xzs, ka, kc, xks⟩, rfl, rfl, ?_⟩, ?_⟩
   · exact ((((((W2.out.setLow hs1).setLow hs1).setLow hs1).setLow hs1).setLow hs1).setLow hs1).p
   · exact (((((B3.setCell (p := ⟨w.heap.size, 0, none⟩) (Nat.le_refl _) _).setCell (p := ⟨w.heap.size, 1, none⟩) (Nat.le_refl _) _).setCell (p := ⟨w.heap.size, 2, none⟩) (Nat.le_refl _) _).setCell (p := ⟨w.heap.size, 3, none⟩) (Nat.le_refl _) _).setCell (p := ⟨w.heap.size, 4, none⟩) (Nat.le_refl _) _).setCell (p := ⟨w.heap.size, 5, none⟩) (Nat.le_refl _) _
end Go.Proofs.YtgbdplammniidaaGreat
namespace Go.Proofs.YtgbdplammniidaaGreat
open Go.RowKit Go.ChangeShapes Go.WideShapes Go.ChangeAt
set_option linter.unusedVariables false
set_option linter.unusedSimpArgs false
def stO (f : Int) (s : ByteArray) : Rec := ⟨8, f, 0, ⟨#[]⟩, 0, ⟨#[]⟩, 0, s, 0⟩
theorem st_wf {f : Int} {s : ByteArray} (h0 : 0 ≤ f) (h1 : f < 4294967296) (hs : s.size ≤ maxLen) : (stO f s).Wf :=
 ⟨⟨by show (0 : Int) ≤ 8; omega, by show (8 : Int) < 256; omega⟩, ⟨h0, h1⟩, ⟨by show (0 : Int) ≤ 0; omega, by show (0 : Int) < _; omega⟩, ⟨by show (0 : Int) ≤ 0; omega, by show (0 : Int) < _; omega⟩, ⟨by show (0 : Int) ≤ 0; omega, by show (0 : Int) < _; omega⟩, ⟨by show (0 : Int) ≤ 0; omega, by show (0 : Int) < _; omega⟩, by show 0 ≤ _; exact Nat.zero_le _, by show 0 ≤ _; exact Nat.zero_le _, hs⟩
theorem st_write (l : List Nd) (f : Int) (s : ByteArray) : applyL l (stO f s) = writeL l (stO f s) := by
 unfold applyL
 have hk : (stO f s).k = 8 := rfl
 rw [if_neg (by omega), if_neg (by omega), if_neg (by omega), if_neg (by omega)]
theorem tx_txB (s : ByteArray) : Fr.tx (txB s) = s := Fr.tx_bs s
end Go.Proofs.YtgbdplammniidaaGreat
namespace Go.Proofs.YtgbdplammniidaaGreat
set_option linter.unusedVariables false
set_option linter.unusedSimpArgs false
def hdO (f d : Int) (s : ByteArray) : Rec := ⟨4, f, d, s, 0, ⟨#[]⟩, 0, ⟨#[]⟩, 0⟩
def mvO (d : Int) (s : ByteArray) (g : Int) : Rec := ⟨7, 0, d, s, g, ⟨#[105, 110]⟩, 0, ⟨#[]⟩, 0⟩
theorem hd_wf {f d : Int} {s : ByteArray} (h0 : 0 ≤ f) (h1 : f < 4294967296) (d0 : 0 ≤ d) (d1 : d < 4294967296) (hs : s.size ≤ maxLen) : (hdO f d s).Wf :=
 ⟨⟨by show (0 : Int) ≤ 4; omega, by show (4 : Int) < 256; omega⟩, ⟨h0, h1⟩, ⟨d0, d1⟩, ⟨by show (0 : Int) ≤ 0; omega, by show (0 : Int) < _; omega⟩, ⟨by show (0 : Int) ≤ 0; omega, by show (0 : Int) < _; omega⟩, ⟨by show (0 : Int) ≤ 0; omega, by show (0 : Int) < _; omega⟩, hs, by show 0 ≤ _; exact Nat.zero_le _, by show 0 ≤ _; exact Nat.zero_le _⟩
theorem mv_wf {d g : Int} {s : ByteArray} (d0 : 0 ≤ d) (d1 : d < 4294967296) (g0 : 0 ≤ g) (g1 : g < 4294967296) (hs : s.size ≤ maxLen) : (mvO d s g).Wf :=
 ⟨⟨by show (0 : Int) ≤ 7; omega, by show (7 : Int) < 256; omega⟩, ⟨by show (0 : Int) ≤ 0; omega, by show (0 : Int) < _; omega⟩, ⟨d0, d1⟩, ⟨g0, g1⟩, ⟨by show (0 : Int) ≤ 0; omega, by show (0 : Int) < _; omega⟩, ⟨by show (0 : Int) ≤ 0; omega, by show (0 : Int) < _; omega⟩, hs, by show 2 ≤ maxLen; decide, by show 0 ≤ _; exact Nat.zero_le _⟩
theorem hard_all {t : List Nd} (R : Rt t) (E : Er t) {f d : Int} {s : ByteArray} (hw : (hdO f d s).Wf) (h : (ApplyL t (hdO f d s)).1 = 0) :
   ∃ n N, getF t f = some n ∧ getF (ApplyL t (hdO f d s)).2 f = some N ∧ N.ln = n.ln + 1 ∧ plkE (getF (ApplyL t (hdO f d s)).2 d) s = 0 ∧ plkI (getF (ApplyL t (hdO f d s)).2 d) s = f ∧ ApplyL (ApplyL t (hdO f d s)).2 (bkO (hdO f d s) 5) = (0, t) := by
 have hu := (undo_all R E hw (.inr (.inr (.inr rfl))) h).1
 obtain ⟨hr, e⟩ := applyL_of h
 have e4 : applyL t (hdO f d s) = hardL t (hdO f d s) := by
   unfold applyL
   have hk : (hdO f d s).k = 4 := rfl
   rw [if_neg (by omega), if_pos hk]
 have h2 : (hardL t (hdO f d s)).1 = 0 := by rw [← e4, ← e]; exact h
 obtain ⟨D, n, n1, n2, h1, hk2, h3, h6, e5⟩ := hard_ok R h2
 have e6 : (ApplyL t (hdO f d s)).2 = setL (setL t (D.kids none 0 (entL D.ks s f))) (n.lnk (n.ln + 1)) := by rw [e, e4]; exact e5
 have fn : n.fid = f := (getF_mem n1).2
 have fd : D.fid = d := (getF_mem h1).2
 have f0 : f ≠ 0 := by have := (R.at n1).2.1; show f ≠ 0; have h9 : (hdO f d s).fid = f := rfl; omega
 have hne : d ≠ f := fun q => by
   have a1 : getF t d = some D := h1
   have a2 : getF t f = some n := n1
   rw [q, a2] at a1
   cases a1
   exact n2 hk2
 refine ⟨n, n.lnk (n.ln + 1), n1, ?_, rfl, ?_, ?_, ?_⟩
 · rw [e6, getF_set]
   exact if_pos fn.symm
 · rw [e6, getF_set, getF_set]
   show plkE (if d = n.fid then _ else if d = D.fid then _ else _) s = 0
   rw [if_neg (by rw [fn]; exact hne), if_pos fd.symm]
   show (if D.k = 2 then (match kq (entL D.ks s f) s with | some _ => (0 : Int) | none => 5) else 7) = 0
   rw [if_pos hk2, kq_ent, if_pos rfl, if_neg f0]
 · rw [e6, getF_set, getF_set]
   show plkI (if d = n.fid then _ else if d = D.fid then _ else _) s = f
   rw [if_neg (by rw [fn]; exact hne), if_pos fd.symm]
   show (if D.k = 2 then (match kq (entL D.ks s f) s with | some q => q.fid | none => 0) else 0) = f
   rw [if_pos hk2, kq_ent, if_pos rfl, if_neg f0]
 · rw [← hu]
   rfl
theorem st_there {t : List Nd} (R : Rt t) {f : Int} {s : ByteArray} (h : (ApplyL t (stO f s)).1 = 0) : ∃ n, getF (ApplyL t (stO f s)).2 f = some n ∧ n.zs = txB s := by
 obtain ⟨r0, e0⟩ := applyL_of h
 rw [e0, st_write] at h ⊢
 obtain ⟨n, n1, n2, n3⟩ := write_ok h
 have fn : n.fid = f := (getF_mem n1).2
 have w0 : n.wr (stO f s) = ⟨n.fid, n.k, n.md, n.ln, none, 0, txB s, none, 0, n.ks⟩ := by unfold Nd.wr; rw [if_neg (by show ¬ (8 : Int) = 9; decide)]; rfl
 refine ⟨n.wr (stO f s), ?_, by rw [w0]⟩
 rw [n3, getF_set, w0]
 exact if_pos fn.symm
theorem mv_right {d g : Int} {s : ByteArray} (hd : d ≠ 0) (hg : g ≠ 0) (hs : Pa.nameB s.data.toList = true) : rightF (mvO d s g) = true := by
 have e0 : (⟨#[]⟩ : ByteArray).toList = [] := by rw [Lib.toList_data]
 have e1 : Pa.nameB [105, 110] = true := by decide
 unfold rightF mvO
 simp only [show pEnt 7 = true by decide, show pOk 7 = true by decide, show pFid 7 = false by decide, show mkF 7 = false by decide, show pGoal 7 = true by decide, show pData 7 = false by decide]
 simp [datF, entF, e0, e1, hs, hd, hg]
theorem loop_all {t : List Nd} (R : Rt t) {d f g : Int} {s : ByteArray} (hs : Pa.nameB s.data.toList = true) {a n k : Nd} (ha : getF t d = some a) (hak : a.k = 2) (hq : kq a.ks s = some ⟨s, f⟩) (hn : getF t f = some n) (hnk : n.k = 2) (hk : getF t g = some k) (hkk : k.k = 2) (hb : g = f ∨ ∃ q ∈ n.ks, q.fid = g) :
   (ApplyL t (mvO d s g)).1 = 10 := by
 have f0 := (R.at hn).2.1
 have g0 := (R.at hk).2.1
 have d0 := (R.at ha).2.1
 rw [ApplyL_do R (mv_right (by omega) (by omega) hs)]
 have e7 : applyL t (mvO d s g) = renameL t (mvO d s g) := by
   unfold applyL
   have hk : (mvO d s g).k = 7 := rfl
   rw [if_neg (by omega), if_neg (by omega), if_neg (by omega), if_pos hk]
 rw [e7]
 obtain ⟨l1, l2⟩ := look_of (s := s) (g := f) ha hak hq (by omega)
 obtain ⟨l3, l4⟩ := dir_of hk hkk
 have hlen : 0 < t.length := List.length_pos_of_mem (getF_mem hn).1
 have hab : abN t f (t.length + 1) g = true := by
   rcases hb with rfl | ⟨q, q1, q2⟩
   · unfold abN; simp
   · have hu := R.up (f := f) (g := g) ⟨n, k, hn, ⟨q, q1, q2⟩, hk, hkk⟩
     obtain ⟨m, hm⟩ : ∃ m, t.length = m + 1 := ⟨t.length - 1, by omega⟩
     rw [hm]
     unfold abN
     rw [hu]
     cases h9 : (g == f) with
     | true => rfl
     | false =>
       simp only [cond_false]
       rw [beq_eq_false_iff_ne.2 (by omega : f ≠ 0)]
       simp only [cond_false]
       unfold abN
       simp
 unfold renameL
 have m1 : (mvO d s g).dir = d := rfl
 have m2 : (mvO d s g).nm = s := rfl
 have m3 : (mvO d s g).to = g := rfl
 rw [m1, m2, m3, l1, l2, l3, if_neg (by simp), if_neg (by simp), hn]
 rw [if_pos ⟨hnk, hab⟩]
end Go.Proofs.YtgbdplammniidaaGreat
namespace Go.Proofs.YtgbdplammniidaaGreat
open Go.RowKit Go.ChangeShapes Go.WideShapes Go.ChangeAt
set_option linter.unusedVariables false
set_option linter.unusedSimpArgs false
def GeP (l : List Nd) (f : Int) (w : World) (e : Ending) (w' : World) : Prop := ∃ (fid k md ln : Int) (da : Option Addr) (dc : Nat) (zs : List Int) (ka : Option Addr) (kc : Nat) (ks : List Kd) (b : Bool), e = .returned (.tuple #[.agg #[.int .u32 fid, .int .u8 k, .int .u16 md, .int .u16 ln, .slice da zs.length dc, .slice ka ks.length kc], .bool b]) ∧
 (∀ n, getF l f = some n → b = true ∧ fid = n.fid ∧ k = n.k ∧ ln = n.ln ∧ zs = n.zs ∧ ks = n.ks) ∧ (getF l f = none → k = 0) ∧ (⟨fid, k, md, ln, da, dc, zs, ka, kc, ks⟩ : Nd).Ok w' ∧ Below w.heap.size w w'
theorem getE_c {a : Option Addr} {L l : List Nd} (c : Nat) (f : Int) (w : World) (h : TrE w a L l) (hm : l.length ≤ 100000) :
   Calls Tryz.prog 11 #[.slice a L.length c, .int .u32 f] w (GeP l f w) := by
 have hh := tGet_c a c L f w h.1 (by rw [h.len]; exact hm)
 have e1 := getF_er L f
 rw [h.2] at e1
 refine hh.mono ?_
 rintro e w' ⟨h1, hb⟩
 cases q : getF L f with
 | none =>
   rw [q] at h1 e1
   rw [h1]
   exact ⟨0, 0, 0, 0, none, 0, [], none, 0, [], false, rfl, (fun n hn => by rw [e1] at hn; cases hn), fun _ => rfl, no_ok w', hb⟩
 | some y =>
   rw [q] at h1 e1
   obtain ⟨z, rfl, ez, hz⟩ := h1
   obtain ⟨fid, k, md, ln, da, dc, zs, ka, kc, ks⟩ := z
   refine ⟨fid, k, md, ln, da, dc, zs, ka, kc, ks, true, rfl, fun n hn => ?_, (fun hn => by rw [e1] at hn; cases hn), hz.1, hb⟩
   rw [e1] at hn
   have e2 : y.er = n := Option.some.inj hn
   rw [← e2]
   have e3 := er_eq.1 ez
   exact ⟨rfl, e3.1, e3.2.1, e3.2.2.2.1, e3.2.2.2.2.1, e3.2.2.2.2.2⟩
theorem lookE_c {a : Option Addr} {L l : List Nd} (c : Nat) (d : Int) (s : ByteArray) (w : World) (h : TrE w a L l) (hm : l.length ≤ 100000) :
   Calls Tryz.prog 13 #[.slice a L.length c, .int .u32 d, .string s] w fun e w' => e = .returned (.tuple #[.int .u32 (plkI (getF l d) s), .int .i64 (plkE (getF l d) s)]) ∧ Below w.heap.size w w' := by
 have hh := tLook_c a c L d s w h.1.1 (by rw [h.len]; exact hm) (fun x hx => by have := (h.1.2 x hx).2.2; omega)
 have e1 := getF_er L d
 rw [h.2] at e1
 rw [← (plk_er (getF L d) s).1, ← (plk_er (getF L d) s).2, ← e1] at hh
 exact hh
end Go.Proofs.YtgbdplammniidaaGreat
namespace Go.Proofs.YtgbdplammniidaaGreat
open Go.RowKit Go.ChangeShapes Go.WideShapes Go.ChangeAt Go.Maps Go.Shelf
set_option linter.unusedVariables false
set_option linter.unusedSimpArgs false
theorem isOs_of {H : Type} {enc : TypeId × Value → H} {W : World} {t : TypeId} {a : Option Addr} {len cap : Nat} {d : DataW H} {p : List MemPlace} (ht : Tryz.prog.underlying t = some (.slice 32))
   (h : DataW.Trod enc Tryz.prog W 0 (fun _ => true) true t (.slice a len cap) d p) : ∃ l : List Rec, l.length = len ∧ IsOs W a l ∧ len ≤ cap := by
 obtain ⟨fuel, hf⟩ := h
 have hct : Tryz.prog.cellsOf 32 = 8 := by kernel_rfl
 rcases DataW.trod_slice ht hf with ⟨hcs, _⟩ | ⟨x, l, c, elems, rest, n, _, hcs, _, hb, hl, hm, hlen, hel, _⟩
 · simp [Value.cells] at hcs
   obtain ⟨rfl, rfl, rfl⟩ := hcs
   exact ⟨[], rfl, ⟨Nat.zero_le _, (fun x hx => by cases hx), (fun h => absurd h (by simp))⟩, by omega⟩
 · simp [Value.cells] at hcs
   obtain ⟨rfl, rfl, rfl⟩ := hcs
   rw [hct] at hel
   have each : ∀ i, i < len → ∃ q : Rec, (∀ j, j < 8 → W.cell? ((x.add (i * 8)).add j) = (q.ops)[j]?) ∧ q.Wf := by
     intro i hi
     have h1 := hel i hi
     have h2 : elems[i]? = some elems[i] := List.getElem?_eq_getElem (by omega)
     rw [h2, Option.bind_eq_some_iff] at h1
     obtain ⟨cs, hc, hy⟩ := h1
     obtain ⟨q, hq, hw, _⟩ := trod_op hy
     obtain ⟨_, hl6, hg⟩ := World.cells?_some hc
     refine ⟨q, fun j hj => ?_, hw⟩
     rw [hg j hj, hq]
   obtain ⟨f, hf'⟩ : ∃ f : Nat → Rec, ∀ i, i < len → (∀ j, j < 8 → W.cell? ((x.add (i * 8)).add j) = ((f i).ops)[j]?) ∧ (f i).Wf := by
     classical
     refine ⟨fun i => if h : i < len then (each i h).choose else Rec.no, fun i hi => ?_⟩
     simp only [hi, dif_pos]
     exact (each i hi).choose_spec
   refine ⟨(List.range len).map f, by simp, ⟨by simp; omega, fun q hq => ?_, fun hp => ?_⟩, by omega⟩
   · obtain ⟨i, hi, rfl⟩ := List.mem_map.1 hq
     exact (hf' i (List.mem_range.1 hi)).2
   · rw [List.length_map, List.length_range] at hp
     obtain ⟨b, off, spot⟩ := x
     have hc0 := (hf' 0 hp).1 0 (by omega)
     have hspot : spot = none := by
       have e0 : ((f 0).ops)[0]? = some (.int .u8 (f 0).k) := rfl
       rw [e0] at hc0
       simpa [Addr.add] using World.cell?_spot hc0
     subst hspot
     refine ⟨b, off, rfl, fun i hi j v hv => ?_⟩
     rw [List.length_map, List.length_range] at hi
     have hadd : ∀ j, ((⟨b, off, none⟩ : Addr).add (i * 8)).add j = ⟨b, off + i * 8 + j, none⟩ := fun j => by unfold Addr.add; split <;> split <;> simp_all <;> omega
     have key := (hf' i hi).1
     have g : ((List.range len).map f).getD i Rec.no = f i := by simp [List.getD, hi]
     rw [g] at hv
     have hj : j < 8 := (List.getElem?_eq_some_iff.1 hv).1
     have := key j hj
     rw [hadd] at this
     rw [this]; exact hv
end Go.Proofs.YtgbdplammniidaaGreat
