/-
  The package tree: refuseIf, and what looks into the table: node, dir, behind, look; release.
-/
import Derived.Test.YtloojakcknnilaaGreatSyAq
namespace Go.Proofs.YtloojakcknnilaaGreat
open Go.RowKit Go.ChangeShapes Go.WideShapes Go.ChangeAt Go.Maps Go.Shelf
set_option linter.unusedVariables false
set_option linter.unusedSimpArgs false
set_option maxRecDepth 100000
/-- How an operation is refused. -/
abbrev PT (e : Int) : Ending := .panicked [{ v := .iface 89 (.agg #[.int .i64 e]), recovered := false }]
set_option maxHeartbeats 400000 in
theorem trefuse_f (e : Int) (w : World) : Calls Tryz.prog 79 #[.bool false, .int .i64 e] w fun r w' => r = .returned (.tuple #[]) ∧ w' = w := by
  go_enter Tryz.func79, Tryz.ntmps79
  go_wp2
  exact body_end (by kernel_rfl) rfl ⟨rfl, rfl⟩
set_option maxHeartbeats 400000 in
theorem trefuse_t (e : Int) (w : World) : Calls Tryz.prog 79 #[.bool true, .int .i64 e] w fun r w' => r = PT e ∧ w' = w := by
  go_enter Tryz.func79, Tryz.ntmps79
  go_wp2
  exact ⟨rfl, rfl, rfl⟩
theorem MT.look {w : World} {base tb m : Nat} {N : Tab} (h : MT w base tb m N) {f : Int} (h0 : 0 ≤ f) (h1 : f < 4294967296) : (Instr.lookup 63 (.map (some tb)) (.int .u32 f) false).run Tryz.prog w = .ok (.pointer ((N f).map (·.1))) w := by
  have := h.map.look ht_tab zeroPt h0 h1
  rw [this]
  unfold Tab.ptr
  cases N f <;> rfl
set_option maxHeartbeats 400000 in
theorem tnode_s {w : World} {base tb m : Nat} {N : Tab} (h : MT w base tb m N) {f : Int} (h0 : 0 ≤ f) (h1 : f < 4294967296) {p : Addr} {x : Nd} (hN : N f = some (p, x)) :
    Calls Tryz.prog 86 #[.map (some tb), .int .u32 f] w fun e w' => e = .returned (.pointer (some p)) ∧ w' = w := by
  have LK := h.look h0 h1
  rw [hN] at LK
  simp only [Option.map_some] at LK
  clear hN h
  go_enter Tryz.func86, Tryz.ntmps86
  go_wp2_with (go_at_call 79; refine (trefuse_f _ _).mono ?_; rintro _ w1 ⟨rfl, hw1⟩; have hw2 := hw1.symm; clear hw1; subst hw2)
  go_ret
  exact ⟨rfl, rfl⟩
set_option maxHeartbeats 400000 in
theorem tnode_n {w : World} {base tb m : Nat} {N : Tab} (h : MT w base tb m N) {f : Int} (h0 : 0 ≤ f) (h1 : f < 4294967296) (hN : N f = none) :
    Calls Tryz.prog 86 #[.map (some tb), .int .u32 f] w fun e w' => e = PT 5 ∧ w' = w := by
  have LK := h.look h0 h1
  rw [hN] at LK
  simp only [Option.map_none] at LK
  clear hN h
  go_enter Tryz.func86, Tryz.ntmps86
  go_wp2_with (go_at_call 79; refine (trefuse_t _ _).mono ?_; rintro _ w1 ⟨rfl, hw1⟩; have hw2 := hw1.symm; clear hw1; subst hw2)
  exact ⟨rfl, rfl, rfl⟩
set_option maxHeartbeats 400000 in
theorem tdir_n {w : World} {base tb m : Nat} {N : Tab} (h : MT w base tb m N) {f : Int} (h0 : 0 ≤ f) (h1 : f < 4294967296) (hN : N f = none) :
    Calls Tryz.prog 100 #[.map (some tb), .int .u32 f] w fun e w' => e = PT 5 ∧ w' = w := by
  have NC := hid (tnode_n h h0 h1 hN)
  clear hN h
  go_enter Tryz.func100, Tryz.ntmps100
  go_wp2_with (go_at_call 86; refine NC.out.mono ?_; rintro _ w1 ⟨rfl, hw1⟩; have hw2 := hw1.symm; clear hw1; subst hw2)
  exact ⟨rfl, rfl, rfl⟩
set_option maxHeartbeats 400000 in
theorem tdir_k {w : World} {base tb m : Nat} {N : Tab} (h : MT w base tb m N) {f : Int} (h0 : 0 ≤ f) (h1 : f < 4294967296) {p : Addr} {x : Nd} (hN : N f = some (p, x)) (hk : x.k ≠ 2) :
    Calls Tryz.prog 100 #[.map (some tb), .int .u32 f] w fun e w' => e = PT 7 ∧ w' = w := by
  have NC := hid (tnode_s h h0 h1 hN)
  obtain ⟨_, hl, _, _⟩ := h.nd f p x hN
  have hsp := hl.1
  obtain ⟨_, y1, _⟩ := hl.ndc.all
  obtain ⟨pb, po, ps⟩ := p
  simp only at hsp y1
  subst hsp
  have hkB : (x.k == 2) = false := beq_eq_false_iff_ne.2 hk
  have hkN : (x.k != 2) = true := by unfold bne; rw [hkB]; rfl
  clear hN h hl
  generalize x.k = k at *
  go_enter Tryz.func100, Tryz.ntmps100
  go_wp2_with (first
    | (go_at_call 79; refine (trefuse_t _ _).mono ?_; rintro _ w1 ⟨rfl, hw1⟩; have hw2 := hw1.symm; clear hw1; subst hw2)
    | (go_at_call 86; refine NC.out.mono ?_; rintro _ w1 ⟨rfl, hw1⟩; have hw2 := hw1.symm; clear hw1; subst hw2))
  exact ⟨rfl, rfl, rfl⟩
set_option maxHeartbeats 400000 in
theorem tdir_s {w : World} {base tb m : Nat} {N : Tab} (h : MT w base tb m N) {f : Int} (h0 : 0 ≤ f) (h1 : f < 4294967296) {p : Addr} {x : Nd} (hN : N f = some (p, x)) (hk : x.k = 2) :
    Calls Tryz.prog 100 #[.map (some tb), .int .u32 f] w fun e w' => e = .returned (.pointer (some p)) ∧ w' = w := by
  have NC := hid (tnode_s h h0 h1 hN)
  obtain ⟨_, hl, _, _⟩ := h.nd f p x hN
  have hsp := hl.1
  obtain ⟨_, y1, _⟩ := hl.ndc.all
  obtain ⟨pb, po, ps⟩ := p
  simp only at hsp y1
  subst hsp
  rw [hk] at y1
  clear hN h hl hk
  go_enter Tryz.func100, Tryz.ntmps100
  go_wp2_with (first
    | (go_at_call 79; refine (trefuse_f _ _).mono ?_; rintro _ w1 ⟨rfl, hw1⟩; have hw2 := hw1.symm; clear hw1; subst hw2)
    | (go_at_call 86; refine NC.out.mono ?_; rintro _ w1 ⟨rfl, hw1⟩; have hw2 := hw1.symm; clear hw1; subst hw2))
  go_ret
  exact ⟨rfl, rfl⟩
theorem en_none {l : List Kd} {s : ByteArray} (h : kq l s = none) : enI l s = -1 := by
  unfold enI
  have : l.findIdx? (fun k => decide (k.nm = s)) = none := by
    rw [List.findIdx?_eq_none_iff]
    intro x hx
    have := fnd_none Kd.nm h x hx
    simpa using this
  rw [this]
theorem en_some {l : List Kd} {s : ByteArray} {q : Kd} (h : kq l s = some q) : ∃ i : Nat, enI l s = (i : Int) ∧ i < l.length ∧ l.getD i Kd.no = q := by
  induction l with
  | nil => cases h
  | cons x t ih =>
    unfold kq at h
    rw [fnd_cons] at h
    by_cases e : x.nm = s
    · rw [if_pos e] at h
      cases h
      refine ⟨0, ?_, by simp, rfl⟩
      unfold enI
      simp [List.findIdx?_cons, e]
    · rw [if_neg e] at h
      obtain ⟨i, h1, h2, h3⟩ := ih h
      refine ⟨i + 1, ?_, by simpa using h2, by simpa [List.getD] using h3⟩
      unfold enI at h1 ⊢
      rw [List.findIdx?_cons]
      have ed : decide (x.nm = s) = false := decide_eq_false e
      rw [ed]
      cases hf : t.findIdx? (fun k => decide (k.nm = s)) with
      | none => rw [hf] at h1; simp only at h1; omega
      | some j =>
        rw [hf] at h1
        simp only at h1
        have : j = i := by omega
        subst this
        simp
set_option maxHeartbeats 800000 in
theorem tbehind_n {w : World} {base tb m : Nat} {N : Tab} (h : MT w base tb m N) {f : Int} {p : Addr} {x : Nd} (hN : N f = some (p, x)) {s : ByteArray} (hq : kq x.ks s = none) :
    Calls Tryz.prog 105 #[.map (some tb), .pointer (some p), .string s] w fun e w' => e = .returned (.pointer none) ∧ Below w.heap.size w w' := by
  obtain ⟨_, hl, hw, _⟩ := h.nd f p x hN
  have hsp := hl.1
  obtain ⟨_, _, _, _, _, y5⟩ := hl.ndc.all
  obtain ⟨pb, po, ps⟩ := p
  simp only at hsp y5
  subst hsp
  have EC := hid (entryOf_c pb po x s w y5 hw.r.ok.2.2.2.2.2 (by have := hw.1.2.2.2.2.2.2.2; omega))
  rw [en_none hq] at EC
  clear hN h hl hw hq y5
  go_enter Tryz.func105, Tryz.ntmps105
  go_wp2_with (go_at_call 55; refine EC.out.mono ?_; rintro _ w1 ⟨rfl, hb1⟩)
  go_ret
  exact ⟨rfl, hb1⟩
set_option maxHeartbeats 800000 in
theorem tbehind_s {w : World} {base tb m : Nat} {N : Tab} (h : MT w base tb m N) {f : Int} {p : Addr} {x : Nd} (hN : N f = some (p, x)) {s : ByteArray} {q : Kd} (hq : kq x.ks s = some q) {p2 : Addr} {y : Nd} (hN2 : N q.fid = some (p2, y)) :
    Calls Tryz.prog 105 #[.map (some tb), .pointer (some p), .string s] w fun e w' => e = .returned (.pointer (some p2)) ∧ Below w.heap.size w w' := by
  obtain ⟨_, hl, hw, _⟩ := h.nd f p x hN
  have hsp := hl.1
  obtain ⟨_, _, _, _, _, y5⟩ := hl.ndc.all
  obtain ⟨pb, po, ps⟩ := p
  simp only at hsp y5
  subst hsp
  have hks := hw.r.ok.2.2.2.2.2
  have EC := hid (entryOf_c pb po x s w y5 hks (by have := hw.1.2.2.2.2.2.2.2; omega))
  obtain ⟨i, e1, e2, e3⟩ := en_some hq
  rw [e1] at EC
  have KS := hid hks
  have H := hid h
  have C5 : Hid (∀ W, Below w.heap.size w W → W.cell? ⟨pb, po + 5, none⟩ = some (.slice x.ka x.ks.length x.kc)) := hid (fun W hW => cell_later hW y5)
  obtain ⟨b1, off1, hka, _⟩ := hks.2.2 (by omega)
  have hwf := hks.wf (i := i) e2
  rw [e3] at hwf
  have K1 : Hid (∀ W, Below w.heap.size w W → W.cell? ⟨b1, off1 + i * 2 + 1, none⟩ = some (.int .u32 q.fid)) := hid (fun W hW => by
    have h2 := hks.later hW
    rw [hka] at h2
    have h3 := (h2.at (i := i) e2).2
    rw [e3] at h3
    exact h3)
  have LK : Hid (∀ W, Below w.heap.size w W → (Instr.lookup 63 (.map (some tb)) (.int .u32 q.fid) false).run Tryz.prog W = .ok (.pointer (some p2)) W) := hid (fun W hW => by
    have := (h.later hW).look hwf.2.1 hwf.2.2
    rw [hN2] at this
    exact this)
  rw [hka] at C5
  have e2I : (i : Int) < x.ks.length := by omega
  clear hN h hl hw hq y5 hN2 hks e1 e3 hka hwf
  obtain ⟨n, hn⟩ : ∃ n, n = x.ks.length := ⟨_, rfl⟩
  rw [← hn] at C5 e2 e2I
  clear hn
  go_enter Tryz.func105, Tryz.ntmps105
  go_wp2_with (go_at_call 55; refine EC.out.mono ?_; rintro _ w1 ⟨rfl, hb1⟩; have c5 := C5.out w1 hb1; have k1 := K1.out w1 hb1; have lk := LK.out w1 hb1; have B1 := hid hb1; clear hb1)
  go_ret
  exact ⟨rfl, B1.out⟩
set_option maxHeartbeats 400000 in
theorem tlook_n {w : World} {base tb m : Nat} {N : Tab} (h : MT w base tb m N) {f : Int} (h0 : 0 ≤ f) (h1 : f < 4294967296) (hN : N f = none) (s : ByteArray) :
    Calls Tryz.prog 102 #[.map (some tb), .int .u32 f, .string s] w fun e w' => e = PT 5 ∧ Below w.heap.size w w' := by
  have NC := hid (tdir_n h h0 h1 hN)
  clear hN h
  go_enter Tryz.func102, Tryz.ntmps102
  go_wp2_with (go_at_call 100; refine NC.out.mono ?_; rintro _ w1 ⟨rfl, hw1⟩; have hw2 := hw1.symm; clear hw1; subst hw2)
  exact ⟨rfl, rfl, Below.refl _ _⟩
set_option maxHeartbeats 400000 in
theorem tlook_k {w : World} {base tb m : Nat} {N : Tab} (h : MT w base tb m N) {f : Int} (h0 : 0 ≤ f) (h1 : f < 4294967296) {p : Addr} {x : Nd} (hN : N f = some (p, x)) (hk : x.k ≠ 2) (s : ByteArray) :
    Calls Tryz.prog 102 #[.map (some tb), .int .u32 f, .string s] w fun e w' => e = PT 7 ∧ Below w.heap.size w w' := by
  have NC := hid (tdir_k h h0 h1 hN hk)
  clear hN h
  go_enter Tryz.func102, Tryz.ntmps102
  go_wp2_with (go_at_call 100; refine NC.out.mono ?_; rintro _ w1 ⟨rfl, hw1⟩; have hw2 := hw1.symm; clear hw1; subst hw2)
  exact ⟨rfl, rfl, Below.refl _ _⟩
set_option maxHeartbeats 400000 in
theorem tlook_q {w : World} {base tb m : Nat} {N : Tab} (h : MT w base tb m N) {f : Int} (h0 : 0 ≤ f) (h1 : f < 4294967296) {p : Addr} {x : Nd} (hN : N f = some (p, x)) (hk : x.k = 2) {s : ByteArray} (hq : kq x.ks s = none) :
    Calls Tryz.prog 102 #[.map (some tb), .int .u32 f, .string s] w fun e w' => e = PT 5 ∧ Below w.heap.size w w' := by
  have NC := hid (tdir_s h h0 h1 hN hk)
  have BC := hid (tbehind_n h hN hq)
  clear hN h
  go_enter Tryz.func102, Tryz.ntmps102
  go_wp2_with (first
    | (go_at_call 79; refine (trefuse_t _ _).mono ?_; rintro _ w1 ⟨rfl, hw1⟩; have hw2 := hw1.symm; clear hw1; subst hw2)
    | (go_at_call 105; refine BC.out.mono ?_; rintro _ w3 ⟨rfl, hb3⟩; have B3 := hid hb3; clear hb3)
    | (go_at_call 100; refine NC.out.mono ?_; rintro _ w1 ⟨rfl, hw1⟩; have hw2 := hw1.symm; clear hw1; subst hw2))
  exact ⟨rfl, rfl, B3.out⟩
set_option maxHeartbeats 400000 in
theorem tlook_s {w : World} {base tb m : Nat} {N : Tab} (h : MT w base tb m N) {f : Int} (h0 : 0 ≤ f) (h1 : f < 4294967296) {p : Addr} {x : Nd} (hN : N f = some (p, x)) (hk : x.k = 2) {s : ByteArray} {q : Kd} (hq : kq x.ks s = some q) {p2 : Addr} {y : Nd} (hN2 : N q.fid = some (p2, y)) :
    Calls Tryz.prog 102 #[.map (some tb), .int .u32 f, .string s] w fun e w' => e = .returned (.tuple #[.pointer (some p), .pointer (some p2)]) ∧ Below w.heap.size w w' := by
  have NC := hid (tdir_s h h0 h1 hN hk)
  have BC := hid (tbehind_s h hN hq hN2)
  clear hN h hN2
  go_enter Tryz.func102, Tryz.ntmps102
  go_wp2_with (first
    | (go_at_call 79; refine (trefuse_f _ _).mono ?_; rintro _ w1 ⟨rfl, hw1⟩; have hw2 := hw1.symm; clear hw1; subst hw2)
    | (go_at_call 105; refine BC.out.mono ?_; rintro _ w3 ⟨rfl, hb3⟩; have B3 := hid hb3; clear hb3)
    | (go_at_call 100; refine NC.out.mono ?_; rintro _ w1 ⟨rfl, hw1⟩; have hw2 := hw1.symm; clear hw1; subst hw2))
  refine bodyPost_ret (v := .tuple #[.pointer (some p), .pointer (some p2)]) (by simp [results, Tryz.results102, go_sem]) rfl ⟨rfl, B3.out⟩
theorem NdW.lnk {w : World} {base : Nat} {x : Nd} (h : NdW w base x) {n : Int} (h0 : 0 ≤ n) (h1 : n < 65536) : NdW w base (x.lnk n) := by
  obtain ⟨⟨f1, f2, f3, f4, f5⟩, n1, r1, r2⟩ := h
  exact ⟨⟨f1, f2, f3, ⟨h0, h1⟩, f5⟩, n1, r1, r2⟩
theorem delT_upd (N : Tab) (f : Int) (p : Addr) (x : Nd) : delT (updT N f p x) f = delT N f := by
  funext g
  unfold delT updT
  split
  · rfl
  · rfl
/-- What a release leaves of a table. -/
def lessT (N : Tab) (f : Int) (p : Addr) (x : Nd) : Tab := if x.ln = 1 then delT N f else updT N f p (x.lnk (x.ln - 1))
def lessM (m : Nat) (x : Nd) : Nat := if x.ln = 1 then m - 1 else m
theorem Rel.less {N : Tab} {l : List Nd} (h : Rel N l) {f : Int} {p : Addr} {x : Nd} (hf : x.fid = f) : Rel (lessT N f p x) (lessL l x.er) := fun g => by
  rw [getF_less]
  show _ = if g = x.fid then (if x.ln = 1 then none else some ((x.er).lnk (x.ln - 1))) else getF l g
  rw [hf]
  unfold lessT
  by_cases e : x.ln = 1
  · rw [if_pos e, if_pos e]
    unfold delT
    split
    · rfl
    · exact h g
  · rw [if_neg e, if_neg e]
    unfold updT
    split
    · rfl
    · exact h g
set_option maxHeartbeats 1000000 in
theorem trelease_c {w : World} {base tb m : Nat} {N : Tab} (h : MT w base tb m N) {f : Int} {p : Addr} {x : Nd} (hN : N f = some (p, x)) (hl1 : 1 ≤ x.ln) :
    Calls Tryz.prog 104 #[.map (some tb), .pointer (some p)] w fun e w' => e = .returned (.tuple #[]) ∧ MT w' base tb (lessM m x) (lessT N f p x) ∧ Below base w w' ∧ KeepT w w' := by
  obtain ⟨hbp, hl, hw, hfd⟩ := h.nd f p x hN
  have hsp := hl.1
  obtain ⟨y0, _, _, y3, _, _⟩ := hl.ndc.all
  have hfz := hl.fz
  have hbd := hw.1.1
  have hlb := hw.1.2.2.2.1
  have hpz := hl.lt
  have KS : Hid (KeepT w (w.setCell ⟨p.block, p.off + 3, none⟩ (.int .u16 (x.ln - 1)))) := hid (by obtain ⟨_, cs, hcs, _⟩ := hl; exact KeepT.set hcs _ _)
  have M1 := h.put hN (i := 3) (by omega) (x' := x.lnk (x.ln - 1)) (v := .int .u16 (x.ln - 1)) rfl hfd (hw.lnk (by omega) (by omega)) rfl
  have BW : Hid (Below base w (w.setCell ⟨p.block, p.off + 3, none⟩ (.int .u16 (x.ln - 1)))) := hid ((Below.refl _ _).setCell (p := ⟨p.block, p.off + 3, none⟩) hbp _)
  obtain ⟨pb, po, ps⟩ := p
  simp only at hsp y0 y3 hfz hbp BW hpz KS
  subst hsp
  have hwr : IntKind.u16.wrap (x.ln - 1) = x.ln - 1 := by rw [IntKind.wrap_u16]; omega
  by_cases e : x.ln = 1
  · have z0 : (w.setCell ⟨pb, po + 3, none⟩ (.int .u16 (x.ln - 1))).cell? ⟨pb, po, none⟩ = some (.int .u32 x.fid) := by
      rw [World.cell?_setCell_other _ _ _ _ (by simp)]; exact y0
    have z3 : (w.setCell ⟨pb, po + 3, none⟩ (.int .u16 (x.ln - 1))).cell? ⟨pb, po + 3, none⟩ = some (.int .u16 (x.ln - 1)) := World.cell?_setCell_same _ _ _ y3
    obtain ⟨w3, DR, IM, MTn⟩ := M1.map.drop ht_tab hbd.1 hbd.2 0
    have M3 := M1.del IM (Ou.turned MTn rfl)
    rw [hfd, delT_upd] at M3
    have hdn : delN (updT N f ⟨pb, po, none⟩ (x.lnk (x.ln - 1))).ptr f m = lessM m x := by
      unfold delN lessM
      rw [if_pos e]
      simp [Tab.ptr, updT]
    rw [hdn] at M3
    have R3 : Hid (MT w3 base tb (lessM m x) (lessT N f ⟨pb, po, none⟩ x)) := hid (by unfold lessT; rw [if_pos e]; exact M3)
    have B3 : Hid (Below base w w3) := hid (BW.out.trans ((Ou.turned (S := fun k => k = tb) MTn rfl).below (Nat.le_trans hbp (Nat.le_trans (Nat.le_of_lt hpz) BW.out.size)) (fun k ek => by rw [ek]; exact h.low)))
    have K3 : Hid (KeepT w w3) := hid (KS.out.trans (KeepT.map (Ou.turned MTn rfl) (fun cs t fr e => by obtain ⟨es, cl, hm⟩ := M1.map.obj; rw [hm] at e; cases e)))
    rw [e] at y3 DR z0 z3
    simp only [Int.sub_self] at DR z0 z3
    clear h hN hl hw M1 M3 IM MTn hdn e hwr hlb hl1 hfd
    go_enter Tryz.func104, Tryz.ntmps104
    go_wp2
    exact body_end (by kernel_rfl) rfl ⟨rfl, R3.out, B3.out, K3.out⟩
  · have z3 : (w.setCell ⟨pb, po + 3, none⟩ (.int .u16 (x.ln - 1))).cell? ⟨pb, po + 3, none⟩ = some (.int .u16 (x.ln - 1)) := World.cell?_setCell_same _ _ _ y3
    have R3 : Hid (MT (w.setCell ⟨pb, po + 3, none⟩ (.int .u16 (x.ln - 1))) base tb (lessM m x) (lessT N f ⟨pb, po, none⟩ x)) := hid (by unfold lessT lessM; rw [if_neg e, if_neg e]; exact M1)
    have hz : ((x.ln - 1) == 0) = false := beq_eq_false_iff_ne.2 (by omega)
    clear h hN hl hw M1 e hl1 hfd
    go_enter Tryz.func104, Tryz.ntmps104
    go_wp2
    exact body_end (by kernel_rfl) rfl ⟨rfl, R3.out, BW.out, KS.out⟩
end Go.Proofs.YtloojakcknnilaaGreat
