/-
  The package tree: rename.
  A drawn region walked by hand: the class of worlds may be drawn narrower on the way.
  The package tree: rename, one way.
  The package tree: rename, one way.
  The package tree: rename, one way.
-/
import Derived.Test.YtloojakcknnilaaGreatSyAx
import Derived.Deep.RegionWith
import Derived.Deep.CutRange
import Derived.LaidEql
import Derived.Test.YtloojakcknnilaaGreatSyAa
import Derived.Deep.RegionHeld3
namespace Go.Proofs.YtloojakcknnilaaGreat
open Go.RowKit Go.ChangeShapes Go.WideShapes Go.ChangeAt Go.Maps Go.Shelf
set_option linter.unusedVariables false
set_option linter.unusedSimpArgs false
set_option maxRecDepth 100000
theorem rename_e {l : List Nd} {o : Rec} {c : Int} (h : lookE (getF l o.dir) o.nm = c) (hc : c ≠ 0) : renameL l o = (c, []) := by
  unfold renameL
  rw [h, if_pos hc]
theorem rename_t {l : List Nd} {o : Rec} {d : Nd} {g c : Int} (h1 : getF l o.dir = some d) (h2 : d.k = 2) (h3 : kq d.ks o.nm = some ⟨o.nm, g⟩) (h0 : g ≠ 0) (h : dirE (getF l o.to) = c) (hc : c ≠ 0) : renameL l o = (c, []) := by
  obtain ⟨e1, e2⟩ := look_of h1 h2 h3 h0
  unfold renameL
  rw [e1, h, if_neg (by simp), if_pos hc]
theorem rename_w {l : List Nd} {o : Rec} {d n b : Nd} {g : Int} (h1 : getF l o.dir = some d) (h2 : d.k = 2) (h3 : kq d.ks o.nm = some ⟨o.nm, g⟩) (h0 : g ≠ 0) (h4 : getF l g = some n) (hb : getF l o.to = some b) (hbk : b.k = 2) :
    (n.k = 2 → abN l g (l.length + 1) o.to = true → renameL l o = (10, [])) ∧
    (¬ (n.k = 2 ∧ abN l g (l.length + 1) o.to = true) → ∀ z f2, kidI b.ks o.nm2 = f2 → f2 ≠ g → getF l f2 = some z → plE z n ≠ 0 → renameL l o = (plE z n, [])) ∧
    (¬ (n.k = 2 ∧ abN l g (l.length + 1) o.to = true) → kidI b.ks o.nm2 = 0 → getF l 0 = none → o.to ≠ o.dir → 12 ≤ b.ks.length → renameL l o = (4, [])) := by
  obtain ⟨e1, e2⟩ := look_of h1 h2 h3 h0
  obtain ⟨e3, e4⟩ := dir_of hb hbk
  unfold renameL
  rw [e1, e2, e3, e4, h4]
  simp only [Option.getD_some]
  refine ⟨fun a b => ?_, fun hn z f2 a b c e => ?_, fun hn a b c d => ?_⟩
  · rw [if_neg (by simp), if_neg (by simp), if_pos ⟨a, b⟩]
  · rw [a, c]
    simp only [Option.isSome_some, Option.getD_some, Bool.true_and]
    rw [if_neg (by simp), if_neg (by simp), if_neg hn, if_neg b]
    unfold plE at e ⊢
    by_cases q1 : z.k = 2 ∧ n.k ≠ 2
    · rw [if_pos q1, if_pos (by simp [q1.1, q1.2])]
    · rw [if_neg q1] at e ⊢
      rw [if_neg (by simp only [Bool.and_eq_true, beq_iff_eq, bne_iff_ne]; exact q1)]
      by_cases q2 : z.k ≠ 2 ∧ n.k = 2
      · rw [if_pos q2, if_pos (by simp [q2.1, q2.2])]
      · rw [if_neg q2] at e ⊢
        rw [if_neg (by simp only [Bool.and_eq_true, beq_iff_eq, bne_iff_ne]; exact q2)]
        by_cases q3 : 0 < z.ks.length
        · rw [if_pos q3, if_pos (by simpa using q3)]
        · rw [if_neg q3] at e
          exact absurd rfl e
  · rw [a, b]
    simp only [Option.isSome_none, Bool.false_and, Bool.not_false, Bool.true_and, if_neg (show ¬ (false = true) by decide)]
    rw [if_neg (by simp), if_neg (by simp), if_neg hn, if_neg (fun e => h0 e.symm), if_pos (by simp [c, d])]
theorem moved_len {l : List Nd} {o : Rec} {f : Int} {d : List Nd} {a b : Nd} (hs : Srt d) (ha : getF d o.dir = some a) (hb : getF d o.to = some b) : (movedL l o f d).length = d.length := by
  refine len_same (srt_moved hs) hs (fun g => ?_)
  rw [getF_moved l o f d ha hb]
  by_cases e : g = o.to
  · rw [if_pos e, e, hb]; rfl
  · rw [if_neg e]
    by_cases e2 : g = o.dir
    · rw [if_pos e2, e2, ha]; rfl
    · rw [if_neg e2]
theorem ent_again {K : List Kd} (hK : KSrt K) (s : ByteArray) {f : Int} : entL (entL K s 0) s f = entL K s f :=
  ksrt_ext (ksrt_ent _ _ (ksrt_ent _ _ hK)) (ksrt_ent _ _ hK) (fun t => by
    rw [kq_ent, kq_ent, kq_ent]
    by_cases e : t = s
    · rw [if_pos e, if_pos e]
    · rw [if_neg e, if_neg e, if_neg e])
/-- The bounds of what a directory stands in. -/
theorem par_bd {w : World} {base tb m : Nat} {N : Tab} (h : MT w base tb m N) {G : Int → Option Int} (hP : IsPar N G) : ∀ g p, G g = some p → 0 ≤ p ∧ p < 4294967296 := fun g p hg => by
  obtain ⟨q, x, _, h1, _⟩ := (hP p g).1 hg
  obtain ⟨_, _, h3, h4⟩ := h.nd p q x h1
  rw [← h4]
  exact h3.1.1
/-- The entries of the goal, when the entry is taken off. -/
def goalN (same : Bool) (x b : Nd) (a : Option Addr) (c : Nat) (L : List Kd) : Nd := bif same then x.kids a c L else b
/-- Pointers to nodes compared. -/
theorem eql_none (W : World) (p : Addr) : (binOp .eql 68 (.pointer none) (.pointer (some p))).run Tryz.prog W = .ok (.bool false) W := by
  have h : ∀ d : Nat, (Op.equalIn (d + 1) 68 (.pointer none) (.pointer (some p))).run Tryz.prog W = .ok false W := fun d => by simp [Op.equalIn, run_underlying Tryz.underlying68]
  simp only [binOp]
  simp [Op.equal, Op.maxDepth, h 9999]
theorem eql_same (W : World) (p : Addr) : (binOp .eql 68 (.pointer (some p)) (.pointer (some p))).run Tryz.prog W = .ok (.bool true) W := by
  have h : ∀ d : Nat, (Op.equalIn (d + 1) 68 (.pointer (some p)) (.pointer (some p))).run Tryz.prog W = .ok true W := fun d => by simp [Op.equalIn, run_underlying Tryz.underlying68, Tryz.sizeOf58, run_sameAddr_same]
  simp only [binOp]
  simp [Op.equal, Op.maxDepth, h 9999]
theorem eql_other {W : World} {p q : Addr} {x y : Nd} (hp : Lie W p x) (hq : Lie W q y) (hne : p ≠ q) : (binOp .eql 68 (.pointer (some p)) (.pointer (some q))).run Tryz.prog W = .ok (.bool false) W := by
  obtain ⟨_, ca, ha, _⟩ := hp
  obtain ⟨_, cb, hb, _⟩ := hq
  have h : ∀ d : Nat, (Op.equalIn (d + 1) 68 (.pointer (some p)) (.pointer (some q))).run Tryz.prog W = .ok false W := fun d => by simp [Op.equalIn, run_underlying Tryz.underlying68, Tryz.sizeOf58, run_sameAddr_other W hne ha hb]
  simp only [binOp]
  simp [Op.equal, Op.maxDepth, h 9999]
/-- A Rename whose entry and goal are there. -/
structure RenH (w : World) (base tb : Nat) (N : Tab) (l : List Nd) (o : Rec) (p : Addr) (x : Nd) (q : Kd) (p2 : Addr) (y : Nd) (p4 : Addr) (b : Nd) : Prop where
  mt : MT w base tb l.length N
  rel : Rel N l
  rt : Rt l
  wf : o.Wf
  n1 : N o.dir = some (p, x)
  k1 : x.k = 2
  q1 : kq x.ks o.nm = some q
  n2 : N q.fid = some (p2, y)
  n4 : N o.to = some (p4, b)
  k4 : b.k = 2
/-- parents, then leadUpTo. -/
theorem par_lead {w W : World} {base tb : Nat} {N : Tab} {l : List Nd} (h : MT w base tb l.length N) (hR : Rel N l) (R : Rt l) (hW : Below w.heap.size w W) {t : Int} {d : Nd} (ht : getF l t = some d) (hd : d.k = 2) (h0 : 0 ≤ t) (h1 : t < 4294967296) (top : Int) :
    Calls Tryz.prog 68 #[.map (some tb)] W fun e w' => e = .returned (.map (some W.heap.size)) ∧ (∀ W', Below w'.heap.size w' W' → Calls Tryz.prog 69 #[.map (some W.heap.size), .int .u32 top, .int .u32 t] W' fun e w'' => e = .returned (.bool (abN l top (l.length + 1) t)) ∧ Below W'.heap.size W' w'') ∧ Below W.heap.size W w' := by
  refine (parents_c tb l.length N W (h.later hW).tab (by have := R.few; omega) (whole_rel hR R) (oneup_rel hR R)).mono ?_
  rintro e w' ⟨rfl, ⟨c, G, hF, hc, hP⟩, hb⟩
  refine ⟨rfl, fun W' hW' => ?_, hb⟩
  have := leadUpTo_c W.heap.size c G W' (hF.keep (hW'.block _ hF.lt)) (by omega) (par_bd h hP) top t h0 h1
  rw [lead_ab hR R hP hF.list ht hd] at this
  exact this
end Go.Proofs.YtloojakcknnilaaGreat
namespace Go.Proofs.YtloojakcknnilaaGreat
open Go.RowKit Go.ChangeShapes Go.WideShapes Go.ChangeAt
set_option linter.unusedVariables false
set_option maxRecDepth 100000
theorem at_drop {l r : List Oper} {i : Nat} {o : Oper} (h : l.drop i = o :: r) : l.toArray[i]? = some o := by
  have := congrArg (fun x : List Oper => x[0]?) h
  simpa using this
theorem take_l {P : Program} {md : Region.Mode} {l r : List Oper} {Q : Exit → Act → World → Prop} {S : World → Prop} (i : Nat) {oi : Oper} {v : Value} {fuel : Nat} {listed : Array Bool} {a : Act} {w : World} (hi : l.drop i = oi :: r)
    (hs : Region.noSelect l.toArray = true) (hf : Region.free md l.toArray listed i = true) (hr : (Region.ready md l.toArray listed).contains i = true)
    (hQ : ∀ c a w, Q (.panic c) (a.put oi.dst v) w → Q (.panic c) a w) (hy : YieldsIf P l.toArray S oi v a) (hS : S w)
    (h : wpAnyH P md l.toArray Q S fuel (listed.setIfInBounds i true) (a.put oi.dst v) w) : wpAnyH P md l.toArray Q S (fuel + 1) listed a w :=
  wpAnyH_take (at_drop hi) hs hf hr hQ hy hS h
theorem cons_l {P : Program} {md : Region.Mode} {l r : List Oper} {Q : Exit → Act → World → Prop} {S : World → Prop} (i : Nat) {fuel : Nat} {listed : Array Bool} {a : Act} {w : World} {o : Oper} (ho : l.drop i = o :: r)
    (hr : Region.ready md l.toArray listed = [i])
    (h : ∀ K' : Act → World → Prop, Shut (∀ a w, S w → (S w → wpAnyH P md l.toArray Q S fuel (listed.setIfInBounds i true) a w) → K' a w) → if Region.wanted o (yielded l.toArray a.tmps) = true then Oper.wp P o a w K' Q else K' (a.put o.dst undef) w) :
    wpAnyH P md l.toArray Q S (fuel + 1) listed a w :=
  wpAnyH_ready hr (by simp) (AllReadyH.cons (at_drop ho) h AllReadyH.nil)
end Go.Proofs.YtloojakcknnilaaGreat
namespace Go.Proofs.YtloojakcknnilaaGreat
open Go.RowKit Go.ChangeShapes Go.WideShapes Go.ChangeAt Go.Maps Go.Shelf
set_option linter.unusedVariables false
set_option linter.unusedSimpArgs false
set_option maxRecDepth 100000
set_option maxHeartbeats 4000000 in
theorem ren_10 {w : World} {base tb : Nat} {N : Tab} {l : List Nd} {o : Rec} {p : Addr} {x : Nd} {q : Kd} {p2 : Addr} {y : Nd} {p4 : Addr} {b : Nd} (H : RenH w base tb N l o p x q p2 y p4 b) (hab : abN l y.fid (l.length + 1) o.to = true) : Calls Tryz.prog 84 #[.map (some tb), o.opV] w (DoP w base tb (renameL l o)) := by
  obtain ⟨r, hr⟩ : ∃ r, r = renameL l o := ⟨_, rfl⟩
  rw [← hr]
  have HR := hid hr
  clear hr
  obtain ⟨hmt, hrel, hrt, ho, n1, k1, q1, n2, n4, k4⟩ := H
  have h := hmt
  obtain ⟨k, fid, dir, nm, tof, nm2, md, dt, sn⟩ := o
  have b0 := below_1 w (.cells #[.int .u8 k, .int .u32 fid, .int .u32 dir, .string nm, .int .u32 tof, .string nm2, .int .u16 md, .string dt] 28)
  have h0 := heap_alloc_new w (.cells #[.int .u8 k, .int .u32 fid, .int .u32 dir, .string nm, .int .u32 tof, .string nm2, .int .u16 md, .string dt] 28)
  have MV := hid (h.later b0)
  have B0 := hid b0
  have H0 := hid h0
  have OPL : Hid (∀ W, Below (w.alloc (.cells #[.int .u8 k, .int .u32 fid, .int .u32 dir, .string nm, .int .u32 tof, .string nm2, .int .u16 md, .string dt] 28)).heap.size (w.alloc (.cells #[.int .u8 k, .int .u32 fid, .int .u32 dir, .string nm, .int .u32 tof, .string nm2, .int .u16 md, .string dt] 28)) W → W.heap[w.heap.size]? = some (.cells #[.int .u8 k, .int .u32 fid, .int .u32 dir, .string nm, .int .u32 tof, .string nm2, .int .u16 md, .string dt] 28)) := hid (fun W hW => (hW.block _ (lt_blkR h0)).trans h0)
  obtain ⟨_, hf, hdr, hto, hmd, _, hz1, hz2, hz3⟩ := ho
  simp only [Rec.opV] at *
  clear b0 h0
  have HZ := hid hmt.size
  have hl := hrel.got n1
  have hly := hrel.got n2
  have hlb := hrel.got n4
  have hfx := (hmt.nd _ p x n1).2.2.2
  have hfy := (hmt.nd _ p2 y n2).2.2.2
  have hfb := (hmt.nd _ p4 b n4).2.2.2
  obtain ⟨hks, hk12, hk0⟩ := tab_dir hmt hrel hrt n1 k1
  obtain ⟨hks4, hk412, hk40⟩ := tab_dir hmt hrel hrt n4 k4
  obtain ⟨_, _, n2', eq, hq0, hq1, hqd, _, _, _⟩ := tab_ent hmt hrel hrt n1 k1 q1
  clear n2'
  have LC := hid (tlook_s MV.out hdr.1 hdr.2 n1 k1 q1 n2)
  have DCL : Hid (∀ W, Below (w.alloc (.cells #[.int .u8 k, .int .u32 fid, .int .u32 dir, .string nm, .int .u32 tof, .string nm2, .int .u16 md, .string dt] 28)).heap.size (w.alloc (.cells #[.int .u8 k, .int .u32 fid, .int .u32 dir, .string nm, .int .u32 tof, .string nm2, .int .u16 md, .string dt] 28)) W → Calls Tryz.prog 100 #[.map (some tb), .int .u32 tof] W fun e w' => e = .returned (.pointer (some p4)) ∧ w' = W) := hid (fun W hW => tdir_s (MV.out.later hW) hto.1 hto.2 n4 k4)
  have PCL := hid (fun (W : World) (hW : Below (w.alloc (.cells #[.int .u8 k, .int .u32 fid, .int .u32 dir, .string nm, .int .u32 tof, .string nm2, .int .u16 md, .string dt] 28)).heap.size (w.alloc (.cells #[.int .u8 k, .int .u32 fid, .int .u32 dir, .string nm, .int .u32 tof, .string nm2, .int .u16 md, .string dt] 28)) W) => par_lead MV.out hrel hrt hW hlb k4 hto.1 hto.2 y.fid)
  have YC : Hid (∀ W, Below (w.alloc (.cells #[.int .u8 k, .int .u32 fid, .int .u32 dir, .string nm, .int .u32 tof, .string nm2, .int .u16 md, .string dt] 28)).heap.size (w.alloc (.cells #[.int .u8 k, .int .u32 fid, .int .u32 dir, .string nm, .int .u32 tof, .string nm2, .int .u16 md, .string dt] 28)) W → NdC W p2.block p2.off y) := hid (fun W hW => ((MV.out.later hW).nd _ p2 y n2).2.1.ndc)
  have XC : Hid (∀ W, Below (w.alloc (.cells #[.int .u8 k, .int .u32 fid, .int .u32 dir, .string nm, .int .u32 tof, .string nm2, .int .u16 md, .string dt] 28)).heap.size (w.alloc (.cells #[.int .u8 k, .int .u32 fid, .int .u32 dir, .string nm, .int .u32 tof, .string nm2, .int .u16 md, .string dt] 28)) W → NdC W p4.block p4.off b) := hid (fun W hW => ((MV.out.later hW).nd _ p4 b n4).2.1.ndc)
  have hp := (hmt.nd _ p x n1).2.1.1
  have hp2 := (hmt.nd _ p2 y n2).2.1.1
  have hp4 := (hmt.nd _ p4 b n4).2.1.1
  have RE : Hid (r = (10, [])) := hid (by
    rw [HR.out]
    rw [hfy] at hab
    obtain ⟨y', h1, h2⟩ := ab_dir hrt q.fid _ hlb k4 hab
    rw [hly] at h1
    cases h1
    exact (rename_w (o := ⟨k, fid, dir, nm, tof, nm2, md, dt, sn⟩) (d := x.er) (n := y.er) (b := b.er) (g := q.fid) hl k1 (by show kq x.ks nm = _; rw [← eq]; exact q1) hq0 hly hlb k4).1 h2 hab)
  have HAB := hid hab
  rw [hab] at PCL
  clear hab
  obtain ⟨p2b, p2o, p2s⟩ := p2
  obtain ⟨p4b, p4o, p4s⟩ := p4
  obtain ⟨pb, po, ps⟩ := p
  simp only at hp hp2 hp4 YC XC
  subst hp hp2 hp4
  clear hmt hrel hrt n1 k1 q1 n2 n4 k4 h hf hdr hto hmd hz1 hz2 hz3 hly hl hlb hfy hfx hfb hks hk12 hk0 hks4 hk412 hk40 eq hq0 hq1 hqd HR MV
  go_enter Tryz.func84, Tryz.ntmps84
  go_upto_region 1 with fail
  generalize w.alloc (.cells #[.int .u8 k, .int .u32 fid, .int .u32 dir, .string nm, .int .u32 tof, .string nm2, .int .u16 md, .string dt] 28) = V at *
  have o2 : V.cell? ⟨w.heap.size, 2, none⟩ = some (.int .u32 dir) := cell_of_row2 H0.out 2 rfl
  have o3 : V.cell? ⟨w.heap.size, 3, none⟩ = some (.string nm) := cell_of_row2 H0.out 3 rfl
  have o4 : V.cell? ⟨w.heap.size, 4, none⟩ = some (.int .u32 tof) := cell_of_row2 H0.out 4 rfl
  have o5 : V.cell? ⟨w.heap.size, 5, none⟩ = some (.string nm2) := cell_of_row2 H0.out 5 rfl
  go_upto_region 3 with (first
    | (go_at_call 100; refine DC1.out.mono ?_; rintro _ wd ⟨rfl, hwd⟩; have hwd2 := hwd.symm; clear hwd; subst hwd2)
    | (go_at_call 102; refine LC.out.mono ?_; rintro _ w1 ⟨rfl, hb1⟩; have n0 := (YC.out w1 hb1).all.1; have n0d : w1.drew.cell? ⟨p2b, p2o, none⟩ = some (.int .u32 y.fid) := n0; have u4 : w1.cell? ⟨w.heap.size, 4, none⟩ = some (.int .u32 tof) := cell_of_row2 (OPL.out w1 hb1) 4 rfl; have u4d : w1.drew.cell? ⟨w.heap.size, 4, none⟩ = some (.int .u32 tof) := u4; have DC1 := hid (DCL.out w1 hb1); have PC1 := hid (PCL.out w1.drew (Below.drew hb1)); have B1 := hid hb1; clear hb1))
  have YD : ∀ w', Below w1.drew.heap.size w1.drew w' → w'.cell? ⟨p2b, p2o, none⟩ = some (.int .u32 y.fid) := fun w' hb => cell_later hb n0d
  have OD : ∀ w', Below w1.drew.heap.size w1.drew w' → w'.cell? ⟨w.heap.size, 4, none⟩ = some (.int .u32 tof) := fun w' hb => cell_later hb u4d
  clear n0 n0d u4 u4d
  go_wp2_with fail
  refine wp_region_held_drew (S := fun w' => Below w1.drew.heap.size w1.drew w') (by kernel_rfl) (Below.refl _ _) (fun hHeld => ?_)
  refine take_l 0 (v := ?_) rfl (by kernel_rfl) (by kernel_rfl) (by kernel_rfl) (fun _ _ _ h => h) (Or.inl ⟨by rfl, ?_⟩) (by assumption) ?_
  rotate_left
  · (intro w' hSw; clear hSw; go_simp; first | done | with_reducible rfl)
  try simp only [Act.put, List.setIfInBounds_toArray, List.set_cons_zero, List.set_cons_succ]
  refine take_l 2 (v := ?_) rfl (by kernel_rfl) (by kernel_rfl) (by kernel_rfl) (fun _ _ _ h => h) (Or.inl ⟨by rfl, ?_⟩) (by assumption) ?_
  rotate_left
  · (intro w' hSw; clear hSw; go_simp; first | done | with_reducible rfl)
  try simp only [Act.put, List.setIfInBounds_toArray, List.set_cons_zero, List.set_cons_succ]
  refine take_l 3 (v := ?_) rfl (by kernel_rfl) (by kernel_rfl) (by kernel_rfl) (fun _ _ _ h => h) (Or.inl ⟨by rfl, ?_⟩) (by assumption) ?_
  rotate_left
  · (intro w' hSw; clear hSw; go_simp; first | done | with_reducible rfl)
  try simp only [Act.put, List.setIfInBounds_toArray, List.set_cons_zero, List.set_cons_succ]
  refine take_l 4 (v := ?_) rfl (by kernel_rfl) (by kernel_rfl) (by kernel_rfl) (fun _ _ _ h => h) (Or.inl ⟨by rfl, ?_⟩) (by assumption) ?_
  rotate_left
  · (intro w' hSw; clear hSw; go_simp; first | done | with_reducible rfl)
  try simp only [Act.put, List.setIfInBounds_toArray, List.set_cons_zero, List.set_cons_succ]
  refine take_l 5 (v := ?_) rfl (by kernel_rfl) (by kernel_rfl) (by kernel_rfl) (fun _ _ _ h => h) (Or.inl ⟨by rfl, ?_⟩) (by assumption) ?_
  rotate_left
  · (intro w' hSw; (have kq := YD _ hSw); clear hSw; go_simp; first | done | with_reducible rfl)
  try simp only [Act.put, List.setIfInBounds_toArray, List.set_cons_zero, List.set_cons_succ]
  refine take_l 6 (v := ?_) rfl (by kernel_rfl) (by kernel_rfl) (by kernel_rfl) (fun _ _ _ h => h) (Or.inl ⟨by rfl, ?_⟩) (by assumption) ?_
  rotate_left
  · (intro w' hSw; clear hSw; go_simp; first | done | with_reducible rfl)
  try simp only [Act.put, List.setIfInBounds_toArray, List.set_cons_zero, List.set_cons_succ]
  refine take_l 7 (v := ?_) rfl (by kernel_rfl) (by kernel_rfl) (by kernel_rfl) (fun _ _ _ h => h) (Or.inl ⟨by rfl, ?_⟩) (by assumption) ?_
  rotate_left
  · (intro w' hSw; (have kq := OD _ hSw); clear hSw; go_simp; first | done | with_reducible rfl)
  try simp only [Act.put, List.setIfInBounds_toArray, List.set_cons_zero, List.set_cons_succ]
  refine cons_l 1 rfl (by kernel_rfl) (fun K hK => ?_)
  go_simp
  refine PC1.out.mono ?_; intro e2 w2 h2; obtain ⟨rfl, L2', hb2⟩ := h2; have L2 := hid L2'; have B2 := hid hb2; clear L2' hb2
  go_simp
  refine hK.out _ _ B2.out (fun hHeld => ?_)
  clear hK K
  try simp only [Act.put, List.setIfInBounds_toArray, List.set_cons_zero, List.set_cons_succ]
  refine cons_l 8 rfl (by kernel_rfl) (fun K hK => ?_)
  go_simp
  refine (L2.out _ (Below.refl _ _)).mono ?_; rintro _ w3 ⟨rfl, hb3⟩
  have B3 := hid (B2.out.trans (hb3.mono B2.out.size))
  clear hb3
  go_simp
  refine hK.out _ _ B3.out (fun hHeld => ?_)
  clear hK K
  try simp only [Act.put, List.setIfInBounds_toArray, List.set_cons_zero, List.set_cons_succ]
  refine cons_l 9 rfl (by kernel_rfl) (fun K hK => ?_)
  go_simp
  refine (trefuse_t _ _).mono ?_; rintro _ wz ⟨rfl, hwz⟩
  rw [hwz]
  exact ⟨rfl, DoP.err RE.out (by decide) (B0.out.trans (((Below.drew B1.out).trans (B3.out.mono (Below.drew B1.out).size)).mono B0.out.size))⟩
end Go.Proofs.YtloojakcknnilaaGreat
namespace Go.Proofs.YtloojakcknnilaaGreat
open Go.RowKit Go.ChangeShapes Go.WideShapes Go.ChangeAt Go.Maps Go.Shelf
set_option linter.unusedVariables false
set_option linter.unusedSimpArgs false
set_option maxRecDepth 100000
set_option maxHeartbeats 4000000 in
theorem ren_4 {w : World} {base tb : Nat} {N : Tab} {l : List Nd} {o : Rec} {p : Addr} {x : Nd} {q : Kd} {p2 : Addr} {y : Nd} {p4 : Addr} {b : Nd} (H : RenH w base tb N l o p x q p2 y p4 b) (hab : abN l y.fid (l.length + 1) o.to = false) (hq2 : kq b.ks o.nm2 = none) (hne : o.to ≠ o.dir) (h12 : b.ks.length = 12) : Calls Tryz.prog 84 #[.map (some tb), o.opV] w (DoP w base tb (renameL l o)) := by
  obtain ⟨r, hr⟩ : ∃ r, r = renameL l o := ⟨_, rfl⟩
  rw [← hr]
  have HR := hid hr
  clear hr
  obtain ⟨hmt, hrel, hrt, ho, n1, k1, q1, n2, n4, k4⟩ := H
  have h := hmt
  obtain ⟨k, fid, dir, nm, tof, nm2, md, dt, sn⟩ := o
  have b0 := below_1 w (.cells #[.int .u8 k, .int .u32 fid, .int .u32 dir, .string nm, .int .u32 tof, .string nm2, .int .u16 md, .string dt] 28)
  have h0 := heap_alloc_new w (.cells #[.int .u8 k, .int .u32 fid, .int .u32 dir, .string nm, .int .u32 tof, .string nm2, .int .u16 md, .string dt] 28)
  have MV := hid (h.later b0)
  have B0 := hid b0
  have H0 := hid h0
  have OPL : Hid (∀ W, Below (w.alloc (.cells #[.int .u8 k, .int .u32 fid, .int .u32 dir, .string nm, .int .u32 tof, .string nm2, .int .u16 md, .string dt] 28)).heap.size (w.alloc (.cells #[.int .u8 k, .int .u32 fid, .int .u32 dir, .string nm, .int .u32 tof, .string nm2, .int .u16 md, .string dt] 28)) W → W.heap[w.heap.size]? = some (.cells #[.int .u8 k, .int .u32 fid, .int .u32 dir, .string nm, .int .u32 tof, .string nm2, .int .u16 md, .string dt] 28)) := hid (fun W hW => (hW.block _ (lt_blkR h0)).trans h0)
  obtain ⟨_, hf, hdr, hto, hmd, _, hz1, hz2, hz3⟩ := ho
  simp only [Rec.opV] at *
  clear b0 h0
  have HZ := hid hmt.size
  have hl := hrel.got n1
  have hly := hrel.got n2
  have hlb := hrel.got n4
  have hfx := (hmt.nd _ p x n1).2.2.2
  have hfy := (hmt.nd _ p2 y n2).2.2.2
  have hfb := (hmt.nd _ p4 b n4).2.2.2
  obtain ⟨hks, hk12, hk0⟩ := tab_dir hmt hrel hrt n1 k1
  obtain ⟨hks4, hk412, hk40⟩ := tab_dir hmt hrel hrt n4 k4
  obtain ⟨_, _, n2', eq, hq0, hq1, hqd, _, _, _⟩ := tab_ent hmt hrel hrt n1 k1 q1
  clear n2'
  have LC := hid (tlook_s MV.out hdr.1 hdr.2 n1 k1 q1 n2)
  have DCL : Hid (∀ W, Below (w.alloc (.cells #[.int .u8 k, .int .u32 fid, .int .u32 dir, .string nm, .int .u32 tof, .string nm2, .int .u16 md, .string dt] 28)).heap.size (w.alloc (.cells #[.int .u8 k, .int .u32 fid, .int .u32 dir, .string nm, .int .u32 tof, .string nm2, .int .u16 md, .string dt] 28)) W → Calls Tryz.prog 100 #[.map (some tb), .int .u32 tof] W fun e w' => e = .returned (.pointer (some p4)) ∧ w' = W) := hid (fun W hW => tdir_s (MV.out.later hW) hto.1 hto.2 n4 k4)
  have PCL := hid (fun (W : World) (hW : Below (w.alloc (.cells #[.int .u8 k, .int .u32 fid, .int .u32 dir, .string nm, .int .u32 tof, .string nm2, .int .u16 md, .string dt] 28)).heap.size (w.alloc (.cells #[.int .u8 k, .int .u32 fid, .int .u32 dir, .string nm, .int .u32 tof, .string nm2, .int .u16 md, .string dt] 28)) W) => par_lead MV.out hrel hrt hW hlb k4 hto.1 hto.2 y.fid)
  have YC : Hid (∀ W, Below (w.alloc (.cells #[.int .u8 k, .int .u32 fid, .int .u32 dir, .string nm, .int .u32 tof, .string nm2, .int .u16 md, .string dt] 28)).heap.size (w.alloc (.cells #[.int .u8 k, .int .u32 fid, .int .u32 dir, .string nm, .int .u32 tof, .string nm2, .int .u16 md, .string dt] 28)) W → NdC W p2.block p2.off y) := hid (fun W hW => ((MV.out.later hW).nd _ p2 y n2).2.1.ndc)
  have XC : Hid (∀ W, Below (w.alloc (.cells #[.int .u8 k, .int .u32 fid, .int .u32 dir, .string nm, .int .u32 tof, .string nm2, .int .u16 md, .string dt] 28)).heap.size (w.alloc (.cells #[.int .u8 k, .int .u32 fid, .int .u32 dir, .string nm, .int .u32 tof, .string nm2, .int .u16 md, .string dt] 28)) W → NdC W p4.block p4.off b) := hid (fun W hW => ((MV.out.later hW).nd _ p4 b n4).2.1.ndc)
  have hp := (hmt.nd _ p x n1).2.1.1
  have hp2 := (hmt.nd _ p2 y n2).2.1.1
  have hp4 := (hmt.nd _ p4 b n4).2.1.1
  have HNO : Hid (¬ (y.er.k = 2 ∧ abN l q.fid (l.length + 1) tof = true)) := hid (fun e => by rw [← hfy] at e; rw [hab] at e; cases e.2)
  rw [hab] at PCL
  clear hab
  have RE : Hid (r = (4, [])) := hid (by
    rw [HR.out]
    exact (rename_w (o := ⟨k, fid, dir, nm, tof, nm2, md, dt, sn⟩) (d := x.er) (n := y.er) (b := b.er) (g := q.fid) hl k1 (by show kq x.ks nm = _; rw [← eq]; exact q1) hq0 hly hlb k4).2.2 HNO.out (kidI_no hq2) (by cases e : getF l 0 with | none => rfl | some z => have := (hrt.at e).2.1; omega) hne (by show 12 ≤ b.ks.length; omega))
  have BCL : Hid (∀ W, Below (w.alloc (.cells #[.int .u8 k, .int .u32 fid, .int .u32 dir, .string nm, .int .u32 tof, .string nm2, .int .u16 md, .string dt] 28)).heap.size (w.alloc (.cells #[.int .u8 k, .int .u32 fid, .int .u32 dir, .string nm, .int .u32 tof, .string nm2, .int .u16 md, .string dt] 28)) W → Calls Tryz.prog 105 #[.map (some tb), .pointer (some p4), .string nm2] W fun e w' => e = .returned (.pointer none) ∧ Below W.heap.size W w') := hid (fun W hW => tbehind_n (MV.out.later hW) n4 hq2)
  have neB : (tof != dir) = true := by unfold bne; rw [beq_eq_false_iff_ne.2 hne]; rfl
  have kB : ((b.ks.length : Int) == 12) = true := by rw [h12]; rfl
  obtain ⟨p2b, p2o, p2s⟩ := p2
  obtain ⟨p4b, p4o, p4s⟩ := p4
  obtain ⟨pb, po, ps⟩ := p
  simp only at hp hp2 hp4 YC XC BCL
  subst hp hp2 hp4
  clear hmt hrel hrt n1 k1 q1 n2 n4 k4 h hf hdr hto hmd hz1 hz2 hz3 hly hl hlb hfy hfx hfb hks hk12 hk0 hks4 hk412 hk40 eq hq0 hq1 hqd HR MV hq2 hne h12 HNO
  go_enter Tryz.func84, Tryz.ntmps84
  go_upto_region 1 with fail
  generalize w.alloc (.cells #[.int .u8 k, .int .u32 fid, .int .u32 dir, .string nm, .int .u32 tof, .string nm2, .int .u16 md, .string dt] 28) = V at *
  have o2 : V.cell? ⟨w.heap.size, 2, none⟩ = some (.int .u32 dir) := cell_of_row2 H0.out 2 rfl
  have o3 : V.cell? ⟨w.heap.size, 3, none⟩ = some (.string nm) := cell_of_row2 H0.out 3 rfl
  have o4 : V.cell? ⟨w.heap.size, 4, none⟩ = some (.int .u32 tof) := cell_of_row2 H0.out 4 rfl
  have o5 : V.cell? ⟨w.heap.size, 5, none⟩ = some (.string nm2) := cell_of_row2 H0.out 5 rfl
  go_upto_region 3 with (first
    | (go_at_call 100; refine DC1.out.mono ?_; rintro _ wd ⟨rfl, hwd⟩; have hwd2 := hwd.symm; clear hwd; subst hwd2)
    | (go_at_call 102; refine LC.out.mono ?_; rintro _ w1 ⟨rfl, hb1⟩; have n0 := (YC.out w1 hb1).all.1; have n0d : w1.drew.cell? ⟨p2b, p2o, none⟩ = some (.int .u32 y.fid) := n0; have u4 : w1.cell? ⟨w.heap.size, 4, none⟩ = some (.int .u32 tof) := cell_of_row2 (OPL.out w1 hb1) 4 rfl; have u4d : w1.drew.cell? ⟨w.heap.size, 4, none⟩ = some (.int .u32 tof) := u4; have DC1 := hid (DCL.out w1 hb1); have PC1 := hid (PCL.out w1.drew (Below.drew hb1)); have B1 := hid hb1; clear hb1))
  go_cut [30] from 21 to 79 (fun s30 wx => ∃ wy, wy = wx ∧ Hid (Below V.heap.size V wy))
  case first =>
    go_region_with (first
      | (go_at_call 79; refine (trefuse_f _ _).mono ?_; rintro _ wz ⟨rfl, hwz⟩; have hwz2 := hwz.symm; clear hwz; subst hwz2)
      | (go_at_call 69; refine (L2.out _ (Below.refl _ _)).mono ?_; rintro _ w3 ⟨rfl, hb3⟩; have B3 := hid (B2.out.trans (hb3.mono B2.out.size)); clear hb3)
      | (go_at_call 68; refine PC1.out.mono ?_; intro e2 w2 h2; obtain ⟨rfl, L2', hb2⟩ := h2; have L2 := hid L2'; have B2 := hid ((Below.drew B1.out).trans (hb2.mono (Below.drew B1.out).size)); have n0e := (YC.out w2 B2.out).all.1; have v4 : w2.cell? ⟨w.heap.size, 4, none⟩ = some (.int .u32 tof) := cell_of_row2 (OPL.out w2 B2.out) 4 rfl; clear hb2 L2'))
    all_goals (go_wp2_with fail; go_meet; exact ⟨_, rfl, B3⟩)
  obtain ⟨wy, hwy, HBY⟩ := hcut
  subst hwy
  clear n0 n0d u4 u4d DC1 PC1 PCL DCL LC
  have BC := hid (BCL.out wy HBY.out)
  have t5 : wy.cell? ⟨w.heap.size, 5, none⟩ = some (.string nm2) := cell_of_row2 (OPL.out wy HBY.out) 5 rfl
  go_wp2_with (first
    | (go_at_call 79; refine (trefuse_t _ _).mono ?_; rintro _ wz ⟨rfl, hwz⟩; have hwz2 := hwz.symm; clear hwz; subst hwz2)
    | (go_at_call 105; refine BC.out.mono ?_; rintro _ w4 ⟨rfl, hb4⟩; have B4 := hid (HBY.out.trans (hb4.mono HBY.out.size)); have x5 := (XC.out w4 B4.out).all.2.2.2.2.2; have s2 : w4.cell? ⟨w.heap.size, 2, none⟩ = some (.int .u32 dir) := cell_of_row2 (OPL.out w4 B4.out) 2 rfl; have s3 : w4.cell? ⟨w.heap.size, 3, none⟩ = some (.string nm) := cell_of_row2 (OPL.out w4 B4.out) 3 rfl; have s4 : w4.cell? ⟨w.heap.size, 4, none⟩ = some (.int .u32 tof) := cell_of_row2 (OPL.out w4 B4.out) 4 rfl; have s5 : w4.cell? ⟨w.heap.size, 5, none⟩ = some (.string nm2) := cell_of_row2 (OPL.out w4 B4.out) 5 rfl; have pe := eql_none w4 ⟨p2b, p2o, none⟩; clear hb4))
  exact ⟨rfl, DoP.err RE.out (by decide) (B0.out.trans (B4.out.mono B0.out.size))⟩
end Go.Proofs.YtloojakcknnilaaGreat
namespace Go.Proofs.YtloojakcknnilaaGreat
open Go.RowKit Go.ChangeShapes Go.WideShapes Go.ChangeAt Go.Maps Go.Shelf
set_option linter.unusedVariables false
set_option linter.unusedSimpArgs false
set_option maxRecDepth 100000
set_option maxHeartbeats 4000000 in
theorem ren_same {w : World} {base tb : Nat} {N : Tab} {l : List Nd} {o : Rec} {p : Addr} {x : Nd} {q : Kd} {p2 : Addr} {y : Nd} {p4 : Addr} {b : Nd} (H : RenH w base tb N l o p x q p2 y p4 b) (hab : abN l y.fid (l.length + 1) o.to = false) {q2 : Kd} (hq2 : kq b.ks o.nm2 = some q2) (he : q2.fid = q.fid) : Calls Tryz.prog 84 #[.map (some tb), o.opV] w (DoP w base tb (renameL l o)) := by
  obtain ⟨r, hr⟩ : ∃ r, r = renameL l o := ⟨_, rfl⟩
  rw [← hr]
  have HR := hid hr
  clear hr
  obtain ⟨hmt, hrel, hrt, ho, n1, k1, q1, n2, n4, k4⟩ := H
  have h := hmt
  obtain ⟨k, fid, dir, nm, tof, nm2, md, dt, sn⟩ := o
  have b0 := below_1 w (.cells #[.int .u8 k, .int .u32 fid, .int .u32 dir, .string nm, .int .u32 tof, .string nm2, .int .u16 md, .string dt] 28)
  have h0 := heap_alloc_new w (.cells #[.int .u8 k, .int .u32 fid, .int .u32 dir, .string nm, .int .u32 tof, .string nm2, .int .u16 md, .string dt] 28)
  have MV := hid (h.later b0)
  have B0 := hid b0
  have H0 := hid h0
  have OPL : Hid (∀ W, Below (w.alloc (.cells #[.int .u8 k, .int .u32 fid, .int .u32 dir, .string nm, .int .u32 tof, .string nm2, .int .u16 md, .string dt] 28)).heap.size (w.alloc (.cells #[.int .u8 k, .int .u32 fid, .int .u32 dir, .string nm, .int .u32 tof, .string nm2, .int .u16 md, .string dt] 28)) W → W.heap[w.heap.size]? = some (.cells #[.int .u8 k, .int .u32 fid, .int .u32 dir, .string nm, .int .u32 tof, .string nm2, .int .u16 md, .string dt] 28)) := hid (fun W hW => (hW.block _ (lt_blkR h0)).trans h0)
  obtain ⟨_, hf, hdr, hto, hmd, _, hz1, hz2, hz3⟩ := ho
  simp only [Rec.opV] at *
  clear b0 h0
  have HZ := hid hmt.size
  have hl := hrel.got n1
  have hly := hrel.got n2
  have hlb := hrel.got n4
  have hfx := (hmt.nd _ p x n1).2.2.2
  have hfy := (hmt.nd _ p2 y n2).2.2.2
  have hfb := (hmt.nd _ p4 b n4).2.2.2
  obtain ⟨hks, hk12, hk0⟩ := tab_dir hmt hrel hrt n1 k1
  obtain ⟨hks4, hk412, hk40⟩ := tab_dir hmt hrel hrt n4 k4
  obtain ⟨_, _, n2', eq, hq0, hq1, hqd, _, _, _⟩ := tab_ent hmt hrel hrt n1 k1 q1
  clear n2'
  have LC := hid (tlook_s MV.out hdr.1 hdr.2 n1 k1 q1 n2)
  have DCL : Hid (∀ W, Below (w.alloc (.cells #[.int .u8 k, .int .u32 fid, .int .u32 dir, .string nm, .int .u32 tof, .string nm2, .int .u16 md, .string dt] 28)).heap.size (w.alloc (.cells #[.int .u8 k, .int .u32 fid, .int .u32 dir, .string nm, .int .u32 tof, .string nm2, .int .u16 md, .string dt] 28)) W → Calls Tryz.prog 100 #[.map (some tb), .int .u32 tof] W fun e w' => e = .returned (.pointer (some p4)) ∧ w' = W) := hid (fun W hW => tdir_s (MV.out.later hW) hto.1 hto.2 n4 k4)
  have PCL := hid (fun (W : World) (hW : Below (w.alloc (.cells #[.int .u8 k, .int .u32 fid, .int .u32 dir, .string nm, .int .u32 tof, .string nm2, .int .u16 md, .string dt] 28)).heap.size (w.alloc (.cells #[.int .u8 k, .int .u32 fid, .int .u32 dir, .string nm, .int .u32 tof, .string nm2, .int .u16 md, .string dt] 28)) W) => par_lead MV.out hrel hrt hW hlb k4 hto.1 hto.2 y.fid)
  have YC : Hid (∀ W, Below (w.alloc (.cells #[.int .u8 k, .int .u32 fid, .int .u32 dir, .string nm, .int .u32 tof, .string nm2, .int .u16 md, .string dt] 28)).heap.size (w.alloc (.cells #[.int .u8 k, .int .u32 fid, .int .u32 dir, .string nm, .int .u32 tof, .string nm2, .int .u16 md, .string dt] 28)) W → NdC W p2.block p2.off y) := hid (fun W hW => ((MV.out.later hW).nd _ p2 y n2).2.1.ndc)
  have XC : Hid (∀ W, Below (w.alloc (.cells #[.int .u8 k, .int .u32 fid, .int .u32 dir, .string nm, .int .u32 tof, .string nm2, .int .u16 md, .string dt] 28)).heap.size (w.alloc (.cells #[.int .u8 k, .int .u32 fid, .int .u32 dir, .string nm, .int .u32 tof, .string nm2, .int .u16 md, .string dt] 28)) W → NdC W p4.block p4.off b) := hid (fun W hW => ((MV.out.later hW).nd _ p4 b n4).2.1.ndc)
  have hp := (hmt.nd _ p x n1).2.1.1
  have hp2 := (hmt.nd _ p2 y n2).2.1.1
  have hp4 := (hmt.nd _ p4 b n4).2.1.1
  have HNO : Hid (¬ (y.er.k = 2 ∧ abN l q.fid (l.length + 1) tof = true)) := hid (fun e => by rw [← hfy] at e; rw [hab] at e; cases e.2)
  rw [hab] at PCL
  clear hab
  have RE : Hid (r = (0, l)) := hid (by
    rw [HR.out]
    exact rename_same (o := ⟨k, fid, dir, nm, tof, nm2, md, dt, sn⟩) (a := x.er) (b := b.er) (n := y.er) (g := q.fid) hl k1 hlb k4 (by show kq x.ks nm = some ⟨nm, y.fid⟩; rw [hfy, ← eq]; exact q1) (by show getF l y.fid = _; rw [hfy]; exact hly) (by show y.fid ≠ 0; rw [hfy]; exact hq0) (fun e1 e2 => HNO.out ⟨e1, by rw [← hfy]; exact e2⟩) (by show kidI b.ks nm2 = y.fid; rw [kidI_kq, hq2, hfy]; exact he))
  have BCL : Hid (∀ W, Below (w.alloc (.cells #[.int .u8 k, .int .u32 fid, .int .u32 dir, .string nm, .int .u32 tof, .string nm2, .int .u16 md, .string dt] 28)).heap.size (w.alloc (.cells #[.int .u8 k, .int .u32 fid, .int .u32 dir, .string nm, .int .u32 tof, .string nm2, .int .u16 md, .string dt] 28)) W → Calls Tryz.prog 105 #[.map (some tb), .pointer (some p4), .string nm2] W fun e w' => e = .returned (.pointer (some p2)) ∧ Below W.heap.size W w') := hid (fun W hW => tbehind_s (MV.out.later hW) n4 hq2 (by rw [he]; exact n2))
  have FIN : Hid (∀ W, Below (w.alloc (.cells #[.int .u8 k, .int .u32 fid, .int .u32 dir, .string nm, .int .u32 tof, .string nm2, .int .u16 md, .string dt] 28)).heap.size (w.alloc (.cells #[.int .u8 k, .int .u32 fid, .int .u32 dir, .string nm, .int .u32 tof, .string nm2, .int .u16 md, .string dt] 28)) W → DoP w base tb r (.returned (.tuple #[])) W) := hid (fun W hW => DoP.ok RE.out rfl (MV.out.later hW) hrel (Keeps.of (B0.out.trans (hW.mono B0.out.size)) HZ.out))
  obtain ⟨p2b, p2o, p2s⟩ := p2
  obtain ⟨p4b, p4o, p4s⟩ := p4
  obtain ⟨pb, po, ps⟩ := p
  simp only at hp hp2 hp4 YC XC BCL
  subst hp hp2 hp4
  clear hmt hrel hrt n1 k1 q1 n2 n4 k4 h hf hdr hto hmd hz1 hz2 hz3 hly hl hlb hfy hfx hfb hks hk12 hk0 hks4 hk412 hk40 eq hq0 hq1 hqd HR MV hq2 he HNO RE
  go_enter Tryz.func84, Tryz.ntmps84
  go_upto_region 1 with fail
  generalize w.alloc (.cells #[.int .u8 k, .int .u32 fid, .int .u32 dir, .string nm, .int .u32 tof, .string nm2, .int .u16 md, .string dt] 28) = V at *
  have o2 : V.cell? ⟨w.heap.size, 2, none⟩ = some (.int .u32 dir) := cell_of_row2 H0.out 2 rfl
  have o3 : V.cell? ⟨w.heap.size, 3, none⟩ = some (.string nm) := cell_of_row2 H0.out 3 rfl
  have o4 : V.cell? ⟨w.heap.size, 4, none⟩ = some (.int .u32 tof) := cell_of_row2 H0.out 4 rfl
  have o5 : V.cell? ⟨w.heap.size, 5, none⟩ = some (.string nm2) := cell_of_row2 H0.out 5 rfl
  go_upto_region 3 with (first
    | (go_at_call 100; refine DC1.out.mono ?_; rintro _ wd ⟨rfl, hwd⟩; have hwd2 := hwd.symm; clear hwd; subst hwd2)
    | (go_at_call 102; refine LC.out.mono ?_; rintro _ w1 ⟨rfl, hb1⟩; have n0 := (YC.out w1 hb1).all.1; have n0d : w1.drew.cell? ⟨p2b, p2o, none⟩ = some (.int .u32 y.fid) := n0; have u4 : w1.cell? ⟨w.heap.size, 4, none⟩ = some (.int .u32 tof) := cell_of_row2 (OPL.out w1 hb1) 4 rfl; have u4d : w1.drew.cell? ⟨w.heap.size, 4, none⟩ = some (.int .u32 tof) := u4; have DC1 := hid (DCL.out w1 hb1); have PC1 := hid (PCL.out w1.drew (Below.drew hb1)); have B1 := hid hb1; clear hb1))
  go_cut [30] from 21 to 79 (fun s30 wx => ∃ wy, wy = wx ∧ Hid (Below V.heap.size V wy))
  case first =>
    go_region_with (first
      | (go_at_call 79; refine (trefuse_f _ _).mono ?_; rintro _ wz ⟨rfl, hwz⟩; have hwz2 := hwz.symm; clear hwz; subst hwz2)
      | (go_at_call 69; refine (L2.out _ (Below.refl _ _)).mono ?_; rintro _ w3 ⟨rfl, hb3⟩; have B3 := hid (B2.out.trans (hb3.mono B2.out.size)); clear hb3)
      | (go_at_call 68; refine PC1.out.mono ?_; intro e2 w2 h2; obtain ⟨rfl, L2', hb2⟩ := h2; have L2 := hid L2'; have B2 := hid ((Below.drew B1.out).trans (hb2.mono (Below.drew B1.out).size)); have n0e := (YC.out w2 B2.out).all.1; have v4 : w2.cell? ⟨w.heap.size, 4, none⟩ = some (.int .u32 tof) := cell_of_row2 (OPL.out w2 B2.out) 4 rfl; clear hb2 L2'))
    all_goals (go_wp2_with fail; go_meet; exact ⟨_, rfl, B3⟩)
  obtain ⟨wy, hwy, HBY⟩ := hcut
  subst hwy
  clear n0 n0d u4 u4d DC1 PC1 PCL DCL LC
  have BC := hid (BCL.out wy HBY.out)
  have t5 : wy.cell? ⟨w.heap.size, 5, none⟩ = some (.string nm2) := cell_of_row2 (OPL.out wy HBY.out) 5 rfl
  go_wp2_with (go_at_call 105; refine BC.out.mono ?_; rintro _ w4 ⟨rfl, hb4⟩; have B4 := hid (HBY.out.trans (hb4.mono HBY.out.size)); have x5 := (XC.out w4 B4.out).all.2.2.2.2.2; have s2 : w4.cell? ⟨w.heap.size, 2, none⟩ = some (.int .u32 dir) := cell_of_row2 (OPL.out w4 B4.out) 2 rfl; have s3 : w4.cell? ⟨w.heap.size, 3, none⟩ = some (.string nm) := cell_of_row2 (OPL.out w4 B4.out) 3 rfl; have s4 : w4.cell? ⟨w.heap.size, 4, none⟩ = some (.int .u32 tof) := cell_of_row2 (OPL.out w4 B4.out) 4 rfl; have s5 : w4.cell? ⟨w.heap.size, 5, none⟩ = some (.string nm2) := cell_of_row2 (OPL.out w4 B4.out) 5 rfl; have pe := eql_same w4 ⟨p2b, p2o, none⟩; clear hb4)
  exact body_end (by kernel_rfl) rfl (FIN.out _ B4.out)
end Go.Proofs.YtloojakcknnilaaGreat
