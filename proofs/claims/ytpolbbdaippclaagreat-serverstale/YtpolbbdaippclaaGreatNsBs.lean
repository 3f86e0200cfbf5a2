/-
  
-/
import Derived.Test.YtpolbbdaippclaaGreatNsBq
import Derived.Test.YtpolbbdaippclaaGreatNsBr
namespace Go.Proofs.YtpolbbdaippclaaGreat
open Go.RowKit Go.ChangeShapes Go.WideShapes Go.ChangeAt Go.Maps Go.Shelf
set_option linter.unusedVariables false
set_option linter.unusedSimpArgs false
set_option maxRecDepth 100000
theorem CRow.less {w : World} {g cap : Nat} {P : List Kd} {z : Kd} (h : CRow w g cap (kcells (P ++ [z]))) : CRow w g cap (kcells P) := by
 obtain ⟨cur, h1, h2, h3, h4⟩ := h
 refine ⟨cur, h1, h2, h3, ?_⟩
 have : (kcells (P ++ [z])).take (kcells P).length = kcells P := by rw [kcells_append, List.take_left']; rfl
 rw [← h4, List.take_take, kcells_len, kcells_len] at this
 rw [kcells_len]
 rw [Nat.min_eq_left (by simp only [List.length_append, List.length_singleton]; omega)] at this
 exact this
theorem ins_at (s : ByteArray) (g : Int) : ∀ (l : List Kd) (i : Nat), i ≤ l.length → (∀ j, j < i → ltK (l.getD j Kd.no) s = true) → (∀ j, i ≤ j → j < l.length → ltK (l.getD j Kd.no) s = false) → kq l s = none → insR Kd.nm leS ⟨s, g⟩ l = l.take i ++ ⟨s, g⟩ :: l.drop i
 | [], i, _, _, _, _ => by simp [insR]
 | x :: t, 0, _, _, h2, hq => by
   have h0 : ltK x s = false := h2 0 (Nat.le_refl _) (by simp)
   rw [ltK_leS] at h0
   have h1 : leS s x.nm = true := by cases q : leS s x.nm with | true => rfl | false => rw [q] at h0; cases h0
   unfold insR
   rw [if_pos h1, filter_all Kd.nm (fst_ne hq)]
   rfl
 | x :: t, i + 1, hi, h1, h2, hq => by
   have h0 : ltK x s = true := h1 0 (by omega)
   rw [ltK_leS] at h0
   have h3 : leS s x.nm = false := by cases q : leS s x.nm with | false => rfl | true => rw [q] at h0; cases h0
   have hq' : kq t s = none := by
     unfold kq at hq ⊢
     rw [fnd_cons] at hq
     split at hq
     · cases hq
     · exact hq
   unfold insR
   rw [if_neg (by simp [h3]), ins_at s g t i (by simpa using hi) (fun j hj => h1 (j + 1) (by omega)) (fun j h4 h5 => h2 (j + 1) (by omega) (by simpa using h5)) hq']
   rfl
where fst_ne {l : List Kd} {s : ByteArray} (h : kq l s = none) : ∀ y ∈ l, y.nm ≠ s := fnd_none Kd.nm h
theorem ka_shape {w : World} {base c : Nat} {l : List Kd} {a : Option Addr} (h : OwK w base (.slice a l.length c) l) : a = none ∧ l = [] ∨ ∃ g, a = some ⟨g, 0, none⟩ := by
 rcases h.2 with ⟨e1, e2⟩ | ⟨g, cap, cur, e1, _⟩
 · simp only [Value.slice.injEq] at e1
   exact .inl ⟨e1.1, List.eq_nil_of_length_eq_zero e2⟩
 · simp only [Value.slice.injEq] at e1
   exact .inr ⟨g, e1.1⟩
theorem insert_c (a : Option Addr) (cap : Nat) (l : List Kd) (i : Nat) (y : Kd) (w : World) (base g : Nat) (h : OwK w base (.slice a l.length cap) l) (hg : w.heap[g]? = some (.cells y.cells.toArray 117 (0, 0))) (hne : ∀ gr o s, a = some ⟨gr, o, s⟩ → g ≠ gr) (hb : base ≤ w.heap.size) (hi : i ≤ l.length) (hm : l.length ≤ 500) :
   Calls Tryz.prog 238 #[.slice a l.length cap, .int .i64 i, .slice (some ⟨g, 0, none⟩) 1 1] w (InsP w base (.slice a l.length cap) (l.take i ++ y :: l.drop i)) := by
 by_cases e : i = l.length
 · subst e
   rw [List.take_length, List.drop_length]
   exact insert_end a cap l y w base g h hg hb hm
 · rcases ka_shape h with ⟨_, e2⟩ | ⟨gr, e2⟩
   · subst e2
     simp at hi e
     omega
   · subst e2
     obtain ⟨_, hlc, _⟩ := h.row
     by_cases q : l.length + 1 ≤ cap
     · exact insert_room gr cap l i y w base g h hg (hne gr 0 none rfl) (by omega) q hm
     · have ec : cap = l.length := by omega
       subst ec
       exact insert_grow gr l i y w base g h hg hb (by omega) hm
theorem own_kb (x : Nd) (n c : Nat) : (Value.slice x.ka n c).ownBlock = kb x := by
 unfold kb
 cases x.ka <;> rfl
theorem MT.lie' {w w' : World} {base tb m : Nat} {N : Tab} (h : MT w base tb m N) {f : Int} {p : Addr} {x : Nd} (hN : N f = some (p, x)) (hg : w.grownBy w' (Value.slice x.ka x.ks.length x.kc).ownBlock) : Lie w' p x := by
 obtain ⟨_, h2, h3, _⟩ := h.nd f p x hN
 have h2' := h2
 obtain ⟨_, cs, hb, _⟩ := h2
 exact h2'.keep (hg.block _ (lt_blkR hb) (row_ne (b := 0) h3 hb (fun _ e => by cases e)))
theorem MT.size {w : World} {base tb m : Nat} {N : Tab} (h : MT w base tb m N) : base ≤ w.heap.size := by
 have h1 := h.low
 have h2 := h.map.lt
 omega
def EntP (w : World) (base tb m : Nat) (N : Tab) (f : Int) (p : Addr) (x : Nd) (L : List Kd) (e : Ending) (w' : World) : Prop := e = .returned (.tuple #[]) ∧ (∃ a c, MT w' base tb m (updT N f p (x.kids a c L))) ∧ Below base w w' ∧ KeepT w w'
theorem MT.entP {w w2 w' : World} {base tb m : Nat} {N : Tab} (h : MT w2 base tb m N) {f : Int} {p : Addr} {x : Nd} (hN : N f = some (p, x)) (hb : Below base w w2) (hkp : KeepT w w2) {L : List Kd} {a : Option Addr} {c : Nat} (hw : ∀ q ∈ L, q.Wf) (hl : L.length ≤ 1000)
   (hO : OwK w' base (.slice a L.length c) L) (hn : a = none → c = 0) (hg : w2.grownBy w' (Value.slice x.ka x.ks.length x.kc).ownBlock) (ha : ∀ b, a.map (·.block) = some b → (Value.slice x.ka x.ks.length x.kc).ownBlock = some b ∨ w2.heap.size ≤ b) :
   EntP w base tb m N f p x L (.returned (.tuple #[])) (w'.setCell ⟨p.block, p.off + 5, none⟩ (.slice a L.length c)) := by
 obtain ⟨h1, _, h3, _⟩ := h.nd f p x hN
 have hl3 := h.lie' hN hg
 refine ⟨rfl, ⟨a, c, h.kids hN hg hO hn hw hl (fun b hb2 => by rw [← own_kb x x.ks.length x.kc]; exact ha b hb2)⟩, ?_, ?_⟩
 · exact (below_grownK hb h3.2.2.2 (Nat.le_refl _) h.size hg).setCell (p := ⟨p.block, p.off + 5, none⟩) h1 _
 · obtain ⟨_, cs3, hb3, _⟩ := hl3
   refine KeepT.trans hkp (KeepT.trans ?_ (KeepT.set hb3 _ _))
   intro i cs t fr e h5 h6
   exact (hg.block i (lt_blkR e) (row_ne (b := 0) h3 e (fun cs2 e2 => by cases e2; exact h6 rfl))).trans e
set_option maxHeartbeats 2000000 in
theorem tenter_c {w : World} {base tb m : Nat} {N : Tab} (h : MT w base tb m N) {f : Int} {p : Addr} {x : Nd} (hN : N f = some (p, x)) {s : ByteArray} {g : Int} (hs : KSrt x.ks) (hq : kq x.ks s = none) (hm : x.ks.length ≤ 500) (hsz : s.size ≤ maxLen) (hg0 : g ≠ 0) (hg1 : 0 ≤ g ∧ g < 4294967296) :
   Calls Tryz.prog 222 #[.pointer (some p), .string s, .int .u32 g] w (EntP w base tb m N f p x (entL x.ks s g)) := by
 obtain ⟨_, hl, hw, _⟩ := h.nd f p x hN
 have hsp := hl.1
 obtain ⟨_, _, _, _, _, y5⟩ := hl.ndc.all
 have BC := hid (bsearch_c x.ka x.kc x.ks s w hw.r.ok.2.2.2.2.2 hs (by omega))
 have HQ : Hid (∀ i, i ≤ x.ks.length → (∀ j, j < i → ltK (x.ks.getD j Kd.no) s = true) → (∀ j, i ≤ j → j < x.ks.length → ltK (x.ks.getD j Kd.no) s = false) → x.ks.take i ++ ⟨s, g⟩ :: x.ks.drop i = entL x.ks s g) := hid (fun i h1 h2 h3 => by rw [entL_insR x.ks s hg0, ins_at s g x.ks i h1 h2 h3 hq])
 have HW : Hid (∀ q ∈ entL x.ks s g, q.Wf) := hid (fun q hq2 => by
   rw [entL_insR x.ks s hg0] at hq2
   rcases insR_mem Kd.nm leS hq2 with e | e
   · rw [e]; exact ⟨hsz, hg1⟩
   · exact hw.1.2.2.2.2.2.1 q e)
 have HL : Hid ((entL x.ks s g).length ≤ 1000) := hid (by
   have := klen_ent s g hs
   rw [hq, if_neg hg0] at this
   simp only [Option.elim_none] at this
   omega)
 have H := hid h
 have HN := hid hN
 have HM : Hid (x.ks.length ≤ 500) := hid hm
 have C5 : Hid (∀ W, Below w.heap.size w W → W.cell? ⟨p.block, p.off + 5, none⟩ = some (.slice x.ka x.ks.length x.kc)) := hid (fun W hW => cell_later hW y5)
 obtain ⟨pb, po, ps⟩ := p
 simp only at hsp y5 C5
 subst hsp
 clear h hN hl hw hs hq hsz hg1 hg0 hm
 obtain ⟨n, hn⟩ : ∃ n, n = x.ks.length := ⟨_, rfl⟩
 have HNN := hid hn
 rw [← hn] at y5 BC C5
 clear hn
 go_enter Tryz.func222, Tryz.ntmps222
 go_upto_region 1 with (go_at_call 235; refine BC.out.mono ?_; intro e1 w1 h1; obtain ⟨i, fb, rfl, i1, i2, i3, hb1⟩ := h1; have I1 := hid (HQ.out i i1 i2 i3); have J1 := hid i1; have B1 := hid hb1; have c5 := C5.out w1 hb1; clear i1 i2 i3 hb1)
 clear HQ BC y5
 have b2 := below_1 w1 (.cells #[.string s, .int .u32 g] 117)
 have h2 := heap_alloc_new w1 (.cells #[.string s, .int .u32 g] 117)
 have M2 := hid ((H.out.later B1.out).later b2)
 have B2 := hid (B1.out.trans (b2.mono B1.out.size))
 have NE : Hid (∀ gr o s, x.ka = some ⟨gr, o, s⟩ → w1.heap.size ≠ gr) := hid (fun gr o s e e2 => by
   have hk : kb x = some gr := by unfold kb; rw [e]; rfl
   have := (((H.out.later B1.out).nd f _ x HN.out).2.2.1.kblk hk).2
   omega)
 have IC := hid (insert_c x.ka x.kc x.ks i ⟨s, g⟩ _ base w1.heap.size (M2.out.nd f _ x HN.out).2.2.1.2.2.2 h2 NE.out M2.out.size J1.out HM.out)
 rw [I1.out, ← HNN.out] at IC
 clear h2 b2
 have FN : Hid (∀ a3 c3 w3, OwK w3 base (.slice a3 (entL x.ks s g).length c3) (entL x.ks s g) → (a3 = none → c3 = 0) → (w1.alloc (.cells #[.string s, .int .u32 g] 117)).grownBy w3 (Value.slice x.ka n x.kc).ownBlock → (∀ b, a3.map (·.block) = some b → (Value.slice x.ka n x.kc).ownBlock = some b ∨ (w1.alloc (.cells #[.string s, .int .u32 g] 117)).heap.size ≤ b) → EntP w base tb m N f ⟨pb, po, none⟩ x (entL x.ks s g) (.returned (.tuple #[])) (w3.setCell ⟨pb, po + 5, none⟩ (.slice a3 (entL x.ks s g).length c3))) := hid (fun a3 c3 w3 o3 n3 g3 k3 => by
   rw [HNN.out] at g3 k3
   exact M2.out.entP HN.out (B2.out.mono H.out.size) (KeepT.of B2.out) HW.out HL.out o3 n3 g3 k3)
 have L3 : Hid (∀ w3, (w1.alloc (.cells #[.string s, .int .u32 g] 117)).grownBy w3 (Value.slice x.ka n x.kc).ownBlock → Lie w3 ⟨pb, po, none⟩ x) := hid (fun w3 g3 => by rw [HNN.out] at g3; exact M2.out.lie' HN.out g3)
 have c5' : (w1.alloc (.cells #[.string s, .int .u32 g] 117)).cell? ⟨pb, po + 5, none⟩ = some (.slice x.ka n x.kc) := C5.out _ B2.out
 generalize entL x.ks s g = L at *
 clear M2 B2 H HW HL NE C5
 go_wp2_with (go_at_call 238; refine IC.out.mono ?_; intro e3 w3 h3; obtain ⟨a3, c3, rfl, o3, n3, g3, k3⟩ := h3; have F3 := hid (FN.out a3 c3 w3 o3 n3 g3 k3); have l3 := L3.out w3 g3; have z5 := l3.ndc.all.2.2.2.2.2; have fz := l3.fz; clear o3 n3 g3 k3 l3; simp only at z5 fz)
 exact body_end (by kernel_rfl) rfl F3.out
def Keeps (base : Nat) (w w' : World) : Prop := Below base w w' ∧ KeepT w w'
theorem Keeps.of {base : Nat} {w w' : World} (h : Below w.heap.size w w') (hz : base ≤ w.heap.size) : Keeps base w w' := ⟨h.mono hz, KeepT.of h⟩
theorem Keeps.trans {base : Nat} {a b c : World} (h : Keeps base a b) (k : Keeps base b c) : Keeps base a c := ⟨h.1.trans k.1, h.2.trans k.2⟩
theorem Keeps.drew {base : Nat} {a b : World} (h : Keeps base a b) : Keeps base a b.drew := ⟨Below.drew h.1, fun k cs t fr e h1 h2 => h.2 k cs t fr e h1 h2⟩
theorem MT.keeps {w : World} {base tb m : Nat} {N : Tab} (h : MT w base tb m N) {f : Int} {p : Addr} {x : Nd} (hN : N f = some (p, x)) (i : Nat) (v : Value) : Keeps base w (w.setCell ⟨p.block, i, none⟩ v) := by
 obtain ⟨h1, ⟨_, cs, hcs, _⟩, _, _⟩ := h.nd f p x hN
 exact ⟨(Below.refl base _).setCell (p := ⟨p.block, i, none⟩) h1 _, KeepT.set hcs _ _⟩
def DoP (w : World) (base tb : Nat) (r : Int × List Nd) (e : Ending) (w' : World) : Prop :=
 (r.1 = 0 ∧ e = .returned (.tuple #[]) ∧ (∃ N', MT w' base tb r.2.length N' ∧ Rel N' r.2) ∧ Keeps base w w') ∨ (r.1 ≠ 0 ∧ e = PT r.1 ∧ Below w.heap.size w w')
theorem DoP.err {w w' : World} {base tb : Nat} {r : Int × List Nd} {c : Int} (h : r = (c, [])) (hc : c ≠ 0) (hb : Below w.heap.size w w') : DoP w base tb r (PT c) w' := by
 subst h
 exact .inr ⟨hc, rfl, hb⟩
theorem DoP.ok {w w' : World} {base tb m : Nat} {r : Int × List Nd} {L : List Nd} {N' : Tab} (h : r = (0, L)) (hm : m = L.length) (hM : MT w' base tb m N') (hR : Rel N' L) (hb : Keeps base w w') : DoP w base tb r (.returned (.tuple #[])) w' := by
 subst h hm
 exact .inl ⟨rfl, rfl, ⟨N', hM, hR⟩, hb⟩
theorem set_len {l : List Nd} (h : Srt l) {n x : Nd} (hx : getF l n.fid = some x) : (setL l n).length = l.length := by
 have := len_set n h
 rw [hx] at this
 simp only [Option.elim_some] at this
 omega
theorem write_n {l : List Nd} {o : Rec} (h : getF l o.fid = none) : writeL l o = (5, []) := by
 unfold writeL
 rw [h]
 rfl
theorem write_d {l : List Nd} {o : Rec} {x : Nd} (h : getF l o.fid = some x) (h9 : o.k ≠ 9) (hk : x.k = 2) : writeL l o = (8, []) := by
 unfold writeL
 rw [h]
 simp [h9, hk]
theorem write_l {l : List Nd} {o : Rec} {x : Nd} (h : getF l o.fid = some x) (h9 : o.k ≠ 9) (hk : x.k = 3) : writeL l o = (3, []) := by
 unfold writeL
 rw [h]
 simp [h9, hk]
theorem dirE_n {o : Option Nd} (h : o = none) : dirE o = 5 := by rw [h]; rfl
theorem dirE_k {o : Option Nd} {x : Nd} (h : o = some x) (hk : x.k ≠ 2) : dirE o = 7 := by rw [h]; simp [dirE, hk]
theorem conv_tx (W : World) (dt : ByteArray) (hd : dt.size ≤ 1000) : ∃ W' a c, (convert 9 49 (.string dt)).run Tryz.prog W = .ok (.slice a dt.size c) W' ∧ RowAt W' W.heap.size 5 a ((txB dt).map u8V) ∧ Below W.heap.size W W' ∧ (a = none → c = 0) := by
 have kc := run_bytes_of_string (P := Tryz.prog) W 9 49 5 dt Tryz.underlying9 Tryz.underlying49 Tryz.underlying5
 exact ⟨_, _, _, kc, row_text (heap_alloc_new W.drew _) (Nat.le_refl _), (Below.drew (Below.refl _ _)).alloc (Nat.le_refl _) _, fun e => by cases e⟩
theorem NdW.data {w : World} {base : Nat} {x : Nd} (h : NdW w base x) {a : Option Addr} {c : Nat} {dt : ByteArray} (hd : dt.size ≤ 1000) (hr : RowAt w base 5 a ((txB dt).map u8V)) (hn : a = none → c = 0) : NdW w base ⟨x.fid, x.k, x.md, x.ln, a, c, txB dt, x.ka, x.kc, x.ks⟩ := by
 obtain ⟨⟨f1, f2, f3, f4, f5, f6, f7, f8⟩, ⟨n1, n2⟩, r1, r2⟩ := h
 exact ⟨⟨f1, f2, f3, f4, txB_in dt, f6, by show (txB dt).length ≤ 1000; rw [txB_len]; exact hd, f8⟩, ⟨hn, n2⟩, hr, r2⟩
set_option maxHeartbeats 2000000 in
theorem tstore_c {w : World} {base tb : Nat} {N : Tab} {l : List Nd} (o : Rec) (h : MT w base tb l.length N) (hR : Rel N l) (R : Rt l) (ho : o.Wf) (h9 : o.k ≠ 9) (hdt : o.dt.size ≤ 1000) :
   Calls Tryz.prog 210 #[.map (some tb), o.opV] w (DoP w base tb (writeL l o)) := by
 obtain ⟨r, hr⟩ : ∃ r, r = writeL l o := ⟨_, rfl⟩
 rw [← hr]
 have HR := hid hr
 clear hr
 obtain ⟨k, fid, dir, nm, tof, nm2, md, dt, sn⟩ := o
 have b0 := below_1 w (.cells #[.int .u8 k, .int .u32 fid, .int .u32 dir, .string nm, .int .u32 tof, .string nm2, .int .u16 md, .string dt] 36)
 have h0 := heap_alloc_new w (.cells #[.int .u8 k, .int .u32 fid, .int .u32 dir, .string nm, .int .u32 tof, .string nm2, .int .u16 md, .string dt] 36)
 have MV := hid (h.later b0)
 have B0 := hid b0
 have H0 := hid h0
 have OPL : Hid (∀ W, Below (w.alloc (.cells #[.int .u8 k, .int .u32 fid, .int .u32 dir, .string nm, .int .u32 tof, .string nm2, .int .u16 md, .string dt] 36)).heap.size (w.alloc (.cells #[.int .u8 k, .int .u32 fid, .int .u32 dir, .string nm, .int .u32 tof, .string nm2, .int .u16 md, .string dt] 36)) W → W.heap[w.heap.size]? = some (.cells #[.int .u8 k, .int .u32 fid, .int .u32 dir, .string nm, .int .u32 tof, .string nm2, .int .u16 md, .string dt] 36)) := hid (fun W hW => (hW.block _ (lt_blkR h0)).trans h0)
 obtain ⟨_, hf, hdr, hto, hmd, _, hz1, hz2, hz3⟩ := ho
 simp only [Rec.opV] at *
 clear b0 h0
 have HZ := hid h.size
 cases hN : N fid with
 | none =>
   have RE : Hid (r = (5, [])) := hid (by rw [HR.out]; exact write_n (hR.no hN))
   have NC := hid (tnode_n MV.out hf.1 hf.2 hN)
   clear h hR R hN h9 hdt HR HZ OPL MV hf hdr hto hmd hz1 hz2 hz3
   go_enter Tryz.func210, Tryz.ntmps210
   go_upto_region 1 with fail
   generalize w.alloc (.cells #[.int .u8 k, .int .u32 fid, .int .u32 dir, .string nm, .int .u32 tof, .string nm2, .int .u16 md, .string dt] 36) = V at *
   have o1 : V.cell? ⟨w.heap.size, 1, none⟩ = some (.int .u32 fid) := cell_of_row2 H0.out 1 rfl
   go_wp2_with (go_at_call 211; refine NC.out.mono ?_; rintro _ w1 ⟨rfl, hw1⟩; have hw2 := hw1.symm; clear hw1; subst hw2)
   exact ⟨rfl, DoP.err RE.out (by decide) B0.out⟩
 | some z =>
   obtain ⟨p, x⟩ := z
   have hl := hR.got hN
   have NC := hid (tnode_s MV.out hf.1 hf.2 hN)
   obtain ⟨hbp, hli, hw, hfd⟩ := MV.out.nd fid p x hN
   have hsp := hli.1
   obtain ⟨_, y1, _, _, y4, _⟩ := hli.ndc.all
   by_cases q2 : x.k = 2
   · have RE : Hid (r = (8, [])) := hid (by rw [HR.out]; exact write_d hl h9 q2)
     obtain ⟨pb, po, ps⟩ := p
     simp only at hsp y1
     subst hsp
     rw [q2] at y1
     clear h hR R hN h9 hdt HR HZ OPL MV hf hdr hto hmd hz1 hz2 hz3 hl hli hw y4 q2
     go_enter Tryz.func210, Tryz.ntmps210
     go_upto_region 1 with fail
     generalize w.alloc (.cells #[.int .u8 k, .int .u32 fid, .int .u32 dir, .string nm, .int .u32 tof, .string nm2, .int .u16 md, .string dt] 36) = V at *
     have o1 : V.cell? ⟨w.heap.size, 1, none⟩ = some (.int .u32 fid) := cell_of_row2 H0.out 1 rfl
     go_wp2_with (first
       | (go_at_call 204; refine (trefuse_t _ _).mono ?_; rintro _ wz ⟨rfl, hwz⟩; have hwz2 := hwz.symm; clear hwz; subst hwz2)
       | (go_at_call 211; refine NC.out.mono ?_; rintro _ w1 ⟨rfl, hw1⟩; have hw2 := hw1.symm; clear hw1; subst hw2))
     exact ⟨rfl, DoP.err RE.out (by decide) B0.out⟩
   · by_cases q3 : x.k = 3
     · have RE : Hid (r = (3, [])) := hid (by rw [HR.out]; exact write_l hl h9 q3)
       obtain ⟨pb, po, ps⟩ := p
       simp only at hsp y1
       subst hsp
       rw [q3] at y1
       clear h hR R hN h9 hdt HR HZ OPL MV hf hdr hto hmd hz1 hz2 hz3 hl hli hw y4 q2 q3
       go_enter Tryz.func210, Tryz.ntmps210
       go_upto_region 1 with fail
       generalize w.alloc (.cells #[.int .u8 k, .int .u32 fid, .int .u32 dir, .string nm, .int .u32 tof, .string nm2, .int .u16 md, .string dt] 36) = V at *
       have o1 : V.cell? ⟨w.heap.size, 1, none⟩ = some (.int .u32 fid) := cell_of_row2 H0.out 1 rfl
       go_wp2_with (first
         | (go_at_call 204; have K2 := K1.out; refine (trefuse_t _ _).mono ?_; rintro _ wz ⟨rfl, hwz⟩; have hwz2 := hwz.symm; clear hwz; subst hwz2)
         | (go_at_call 204; refine (trefuse_f _ _).mono ?_; rintro _ wz ⟨rfl, hwz⟩; have hwz2 := hwz.symm; clear hwz; subst hwz2; have K1 := hid True.intro)
         | (go_at_call 211; refine NC.out.mono ?_; rintro _ w1 ⟨rfl, hw1⟩; have hw2 := hw1.symm; clear hw1; subst hw2))
       exact ⟨rfl, DoP.err RE.out (by decide) B0.out⟩
     · have RE : Hid (r = (0, setL l (x.er.wr ⟨k, fid, dir, nm, tof, nm2, md, dt, sn⟩))) := hid (by rw [HR.out]; exact write_do hl (.inr ⟨q2, q3⟩))
       obtain ⟨W, ca, cc, CE, CR, CB, CN⟩ := conv_tx (w.alloc (.cells #[.int .u8 k, .int .u32 fid, .int .u32 dir, .string nm, .int .u32 tof, .string nm2, .int .u16 md, .string dt] 36)) dt hdt
       have MW := MV.out.later CB
       have M4 := MW.put hN (i := 4) (by omega) (x' := ⟨x.fid, x.k, x.md, x.ln, ca, cc, txB dt, x.ka, x.kc, x.ks⟩) (v := .slice ca dt.size cc) (by unfold Nd.cells; rw [txB_len]; rfl) hfd ((MW.nd fid p x hN).2.2.1.data hdt (CR.lowR (Nat.le_trans HZ.out B0.out.size)) CN) rfl
       have RL := hR.set (p := p) (x := ⟨x.fid, x.k, x.md, x.ln, ca, cc, txB dt, x.ka, x.kc, x.ks⟩) (y := x.er.wr ⟨k, fid, dir, nm, tof, nm2, md, dt, sn⟩) (f := fid) (by unfold Nd.wr; rw [if_neg h9]; rfl) (by rw [wr_fid]; exact hfd)
       have FIN : Hid (∀ W2, W2 = W.setCell ⟨p.block, p.off + 4, none⟩ (.slice ca dt.size cc) → DoP w base tb r (.returned (.tuple #[])) W2) := hid (fun W2 e => by
         subst e
         refine DoP.ok RE.out (set_len R.srt (by rw [wr_fid]; show getF l x.fid = _; rw [hfd]; exact hl)).symm M4 RL ?_
         exact (Keeps.of (B0.out.trans (CB.mono B0.out.size)) HZ.out).trans (MW.keeps hN _ _))
       have z4 : W.cell? ⟨p.block, p.off + 4, none⟩ = some (.slice x.da x.zs.length x.dc) := cell_later CB y4
       have fz := (MW.nd fid p x hN).2.1.fz
       obtain ⟨pb, po, ps⟩ := p
       simp only at hsp y1 z4 fz FIN
       subst hsp
       have qB2 : (x.k == 2) = false := beq_eq_false_iff_ne.2 q2
       have qB3 : (x.k == 3) = false := beq_eq_false_iff_ne.2 q3
       generalize x.k = xk at *
       clear h hR R hN h9 hdt HR HZ OPL MV MW M4 RL hf hdr hto hmd hz1 hz2 hz3 hl hli hw y4 q2 q3 CR CB CN RE
       go_enter Tryz.func210, Tryz.ntmps210
       go_upto_region 1 with fail
       generalize w.alloc (.cells #[.int .u8 k, .int .u32 fid, .int .u32 dir, .string nm, .int .u32 tof, .string nm2, .int .u16 md, .string dt] 36) = V at *
       have o1 : V.cell? ⟨w.heap.size, 1, none⟩ = some (.int .u32 fid) := cell_of_row2 H0.out 1 rfl
       have o7 : V.cell? ⟨w.heap.size, 7, none⟩ = some (.string dt) := cell_of_row2 H0.out 7 rfl
       go_wp2_with (first
         | (go_at_call 204; refine (trefuse_f _ _).mono ?_; rintro _ wz ⟨rfl, hwz⟩; have hwz2 := hwz.symm; clear hwz; subst hwz2)
         | (go_at_call 211; refine NC.out.mono ?_; rintro _ w1 ⟨rfl, hw1⟩; have hw2 := hw1.symm; clear hw1; subst hw2))
       exact body_end (by kernel_rfl) rfl (FIN.out _ rfl)
theorem tab_dir {w : World} {base tb m : Nat} {N : Tab} {l : List Nd} (h : MT w base tb m N) (hR : Rel N l) (R : Rt l) {f : Int} {p : Addr} {x : Nd} (hN : N f = some (p, x)) (hk : x.k = 2) : KSrt x.ks ∧ x.ks.length ≤ 12 ∧ ∀ q ∈ x.ks, q.fid ≠ 0 := by
 have hl := hR.got hN
 have h1 := R.kok hl hk
 have h2 := (R.at hl).1
 exact ⟨h1.1, h2.2.2.1, fun q hq => (h1.2 q hq).2⟩
theorem kid_of {l : List Kd} {s : ByteArray} {q : Kd} (hq : kq l s = some q) (h0 : ∀ q ∈ l, q.fid ≠ 0) : kidI l s ≠ 0 := by
 rw [kidI_kq, hq]
 exact h0 q (kq_some hq).1
theorem Rel.set2 {N : Tab} {l : List Nd} (h : Rel N l) {f g : Int} {p q : Addr} {x y X Y : Nd} (hx : x.er = X) (hy : y.er = Y) (hf : X.fid = f) (hg : Y.fid = g) (hne : f ≠ g) : Rel (updT (updT N g q y) f p x) (setL (setL l X) Y) := fun t => by
 rw [getF_set, getF_set, hf, hg]
 unfold updT
 by_cases e : t = g
 · subst e
   rw [if_pos rfl, if_neg (fun e => hne e.symm), if_pos rfl, ← hy]
   rfl
 · rw [if_neg e, if_neg e]
   by_cases e2 : t = f
   · rw [if_pos e2, if_pos e2, ← hx]
     rfl
   · rw [if_neg e2, if_neg e2]
     exact h t
end Go.Proofs.YtpolbbdaippclaaGreat
