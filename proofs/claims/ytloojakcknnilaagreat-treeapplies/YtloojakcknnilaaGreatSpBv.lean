/-
  The law's live: two operations, a path, and whether that is a tree.
  The document's Fold once more: the tree that it answers is the call's own.
  What the tree's laws share: a tree of operations.
  Fold of the program's tree.
  Nodes of an input, in memory.
  Apply and Fold of nodes that are no tree; the law's few; the document's SameErrs.
  The fids that an operation names, on both sides; fids compared.
-/
import Derived.Test.YtloojakcknnilaaGreatSpBu
import Derived.Test.YtloojakcknnilaaGreatSpAo
import Derived.Deep.OwnRows
namespace Go.Proofs.YtloojakcknnilaaGreat
open Go.RowKit Go.ChangeShapes Go.WideShapes Go.ChangeAt
set_option linter.unusedVariables false
set_option linter.unusedSimpArgs false
set_option maxRecDepth 100000
def lvA : ByteArray := ⟨#[97]⟩
def lvB : ByteArray := ⟨#[98]⟩
def lvO1 : Rec := ⟨2, 2, 1, lvA, 0, ⟨#[]⟩, 0, ⟨#[]⟩, 0⟩
def lvO2 : Rec := ⟨1, 3, 2, lvB, 0, ⟨#[]⟩, 0, ⟨#[]⟩, 0⟩
def lvT1 : List Nd := [⟨1, 2, 0, 0, none, 0, [], none, 0, [⟨lvA, 2⟩]⟩, ⟨2, 2, 0, 1, none, 0, [], none, 0, []⟩]
def lvT2 : List Nd := [⟨1, 2, 0, 0, none, 0, [], none, 0, [⟨lvA, 2⟩]⟩, ⟨2, 2, 0, 1, none, 0, [], none, 0, [⟨lvB, 3⟩]⟩, ⟨3, 1, 0, 1, none, 0, [], none, 0, []⟩]
theorem lvF1 : rightF lvO1 = true := by
 unfold rightF entF datF
 simp only [Lib.toList_data]
 decide
theorem lvF2 : rightF lvO2 = true := by
 unfold rightF entF datF
 simp only [Lib.toList_data]
 decide
theorem lvW1 : lvO1.Wf := ⟨⟨by decide, by decide⟩, ⟨by decide, by decide⟩, ⟨by decide, by decide⟩, ⟨by decide, by decide⟩, ⟨by decide, by decide⟩, ⟨by decide, by decide⟩, by decide, by decide, by decide⟩
theorem lvW2 : lvO2.Wf := ⟨⟨by decide, by decide⟩, ⟨by decide, by decide⟩, ⟨by decide, by decide⟩, ⟨by decide, by decide⟩, ⟨by decide, by decide⟩, ⟨by decide, by decide⟩, by decide, by decide, by decide⟩
theorem newRt : Rt newL := rightD_rt.1 (by decide)
theorem lvE1 : applyL newL lvO1 = (0, lvT1) := by rfl
theorem lvE2 : applyL lvT1 lvO2 = (0, lvT2) := by rfl
theorem lv1 : ApplyL (newL.map Nd.er) lvO1 = (0, lvT1) := by
 show ApplyL newL lvO1 = _
 unfold ApplyL
 rw [rightD_rt.2 newRt, lvF1]
 exact lvE1
theorem lvR1 : Rt lvT1 := by have h := ApplyL_rt (l := newL.map Nd.er) (o := lvO1) lvW1 (by rw [lv1]); rw [lv1] at h; exact h
theorem lv2 : ApplyL lvT1 lvO2 = (0, lvT2) := by
 unfold ApplyL
 rw [rightD_rt.2 lvR1, lvF2]
 exact lvE2
theorem lvR2 : Rt lvT2 := by have h := ApplyL_rt (l := lvT1) (o := lvO2) lvW2 (by rw [lv2]); rw [lv2] at h; exact h
theorem lv3 : rightD lvT2 = true := rightD_rt.2 lvR2
theorem lv4 : Pa.splitF [47, 97, 47, 98] = some [[97], [98]] := by decide
theorem lv5 : fnL lvT2 1 [[97], [98]] = (3, 0) := by rfl
theorem plk_er (o : Option Nd) (s : ByteArray) : plkI (o.map Nd.er) s = plkI o s ∧ plkE (o.map Nd.er) s = plkE o s := by
 cases o <;> exact ⟨rfl, rfl⟩
theorem fnL_er (l : List Nd) : ∀ (ns : List (List UInt8)) (at_ : Int), fnL (l.map Nd.er) at_ ns = fnL l at_ ns
 | [], _ => rfl
 | nm :: ns, at_ => by
   unfold fnL
   rw [getF_er, (plk_er _ _).1, (plk_er _ _).2, fnL_er l ns]
theorem Rt.leads {l : List Nd} (h : Rt l) : Leads l := by
 intro f s he
 cases hx : getF l f with
 | none => rw [hx] at he; exact absurd he (by show ¬ (5 : Int) = 0; decide)
 | some x =>
   rw [hx] at he
   unfold plkE at he
   simp only at he
   unfold plkI
   simp only
   by_cases hk : x.k = 2
   · rw [if_pos hk] at he ⊢
     cases hq : kq x.ks s with
     | none => rw [hq] at he; exact absurd he (by decide)
     | some q =>
       have hm : q ∈ x.ks := by
         obtain ⟨i, _, h2, h3⟩ := en_some hq
         rw [← h3]
         exact getD_mem _ _ h2
       have := (h.kid x (getF_mem hx).1 q hm).2
       obtain ⟨y, hy⟩ := Option.isSome_iff_exists.1 this
       exact ⟨y, hy⟩
   · rw [if_neg hk] at he
     exact absurd he (by decide)
theorem Leads.er {l : List Nd} (h : Leads (l.map Nd.er)) : Leads l := by
 intro f s he
 have h1 := h f s (by rw [getF_er, (plk_er _ _).2]; exact he)
 obtain ⟨y, hy⟩ := h1
 rw [getF_er, getF_er, (plk_er _ _).1] at hy
 cases q : getF l (plkI (getF l f) s) with
 | none => rw [q] at hy; cases hy
 | some z => exact ⟨z, rfl⟩
theorem er_mem {l : List Nd} {x : Nd} (h : x ∈ l) : x.er ∈ l.map Nd.er := List.mem_map_of_mem h
theorem er_len {l L : List Nd} (h : l.map Nd.er = L) : l.length = L.length := by rw [← h, List.length_map]
set_option maxHeartbeats 4000000 in
theorem tlive_c (w : World) : Calls Tryz.prog 12 #[] w fun e w' => e = .returned (.bool true) ∧ Below w.heap.size w w' := by
 have NC := hid (tNew_c w)
 have A1 : Hid (∀ (a : Option Addr) (c : Nat) (W : World), Tr W a newL → Calls Tryz.prog 10 #[.slice a 1 c, .agg #[.int .u8 2, .int .u32 2, .int .u32 1, .string ⟨#[97]⟩, .int .u32 0, .string ⟨#[]⟩, .int .u16 0, .string ⟨#[]⟩]] W (ResO W (0, lvT1))) := hid (fun a c W h => by have := tApply_c sortOK a c newL lvO1 W h (by decide) lvW1; rw [lv1] at this; exact this)
 have A2 : Hid (∀ (a : Option Addr) (c : Nat) (l : List Nd) (W : World), Tr W a l → l.map Nd.er = lvT1 → Calls Tryz.prog 10 #[.slice a l.length c, .agg #[.int .u8 1, .int .u32 3, .int .u32 2, .string ⟨#[98]⟩, .int .u32 0, .string ⟨#[]⟩, .int .u16 0, .string ⟨#[]⟩]] W (ResO W (0, lvT2))) := hid (fun a c l W h he => by have := tApply_c sortOK a c l lvO2 W h (by rw [er_len he]; decide) lvW2; rw [he, lv2] at this; exact this)
 have A3 : Hid (∀ (a : Option Addr) (c : Nat) (l : List Nd) (W : World), Tr W a l → l.map Nd.er = lvT2 → Calls Tryz.prog 35 #[.slice a l.length c, .string ⟨#[47, 97, 47, 98]⟩] W (FnP (3, 0) W)) := hid (fun a c l W h he => by
   have := tFind_c a c l ⟨#[47, 97, 47, 98]⟩ [[97], [98]] W h.1 (by rw [er_len he]; decide) (fun x hx => by have := (h.2 x hx).2.2; omega) (fun x hx e => by
     have h9 := er_mem hx
     rw [he] at h9
     have h8 : x.er.k = 3 := e
     generalize x.er = y at *
     have : ∀ y ∈ lvT2, y.k ≠ 3 := by decide
     exact this y h9 h8) (by rw [← rightD_er, he]; exact lv3) (Leads.er (by rw [he]; exact lvR2.leads)) (by decide) lv4
   rw [← fnL_er, he, lv5] at this
   exact this)
 have A4 : Hid (∀ (a : Option Addr) (c : Nat) (l : List Nd) (W : World), Tr W a l → l.map Nd.er = lvT2 → Calls Tryz.prog 14 #[.slice a l.length c] W fun e w' => e = .returned (.bool true) ∧ Below W.heap.size W w') := hid (fun a c l W h he => by
   have := rightT_c a c l W h.1 (by rw [er_len he]; decide)
   rw [← rightD_er, he, lv3] at this
   exact this)
 go_enter Tryz.func12, Tryz.ntmps12
 go_wp2_with (first
   | (go_at_call 14; refine (A4.out a2 c2 l2 _ (T2.out.later B3.out) E2.out).mono ?_; rintro _ w4 ⟨rfl, hb4⟩; have B4 := hid (B2.out.trans ((B3.out.trans (hb4.mono B3.out.size)).mono B2.out.size)); have hl2 : l2.length = 3 := er_len E2.out; clear hb4)
   | (go_at_call 35; refine (A3.out a2 c2 l2 _ T2.out E2.out).mono ?_; rintro _ w3 ⟨rfl, hb3⟩; have B3 := hid hb3; clear hb3)
   | (go_at_call 10; refine (A2.out a1 c1 l1 _ T1.out E1.out).mono ?_; rintro _ w2 ⟨v2, l2, rfl, hn2, he2, hb2⟩; have E2 := hid he2; have B2 := hid (B1.out.trans (hb2.mono B1.out.size)); obtain ⟨a2, c2, hv2, ht2⟩ := hn2.tr (by rw [er_len he2]; decide); subst hv2; have T2 := hid ht2; clear hn2 he2 hb2 ht2)
   | (go_at_call 10; refine (A1.out a0 c0 _ T0.out).mono ?_; rintro _ w1 ⟨v1, l1, rfl, hn1, he1, hb1⟩; have E1 := hid he1; have B1 := hid (B0.out.trans (hb1.mono B0.out.size)); obtain ⟨a1, c1, hv1, ht1⟩ := hn1.tr (by rw [er_len he1]; decide); subst hv1; have T1 := hid ht1; clear hn1 he1 hb1 ht1)
   | (go_at_call 24; refine NC.out.mono ?_; rintro _ w0 ⟨a0, c0, rfl, ht0, hb0⟩; have T0 := hid ht0; have B0 := hid hb0; clear ht0 hb0))
 go_ret
 exact ⟨rfl, B4.out⟩
def TrE (w : World) (a : Option Addr) (L l : List Nd) : Prop := Tr w a L ∧ L.map Nd.er = l
theorem TrE.later {w w' : World} {a : Option Addr} {L l : List Nd} (h : TrE w a L l) (hb : Below w.heap.size w w') : TrE w' a L l := ⟨h.1.later hb, h.2⟩
theorem TrE.len {w : World} {a : Option Addr} {L l : List Nd} (h : TrE w a L l) : L.length = l.length := er_len h.2
def OpP (w : World) (r : Int × List Nd) (e : Ending) (w' : World) : Prop := ∃ a c L, e = .returned (.tuple #[.slice a L.length c, .int .i64 r.1]) ∧ TrE w' a L r.2 ∧ Below w.heap.size w w'
theorem ApplyL_few {l : List Nd} {o : Rec} : (ApplyL l o).2.length ≤ 43 := (ApplyL_gd l o).2
theorem apply_c {a : Option Addr} {L l : List Nd} (c : Nat) (o : Rec) (w : World) (h : TrE w a L l) (hm : l.length ≤ 900) (ho : o.Wf) :
   Calls Tryz.prog 10 #[.slice a L.length c, o.opV] w (OpP w (ApplyL l o)) := by
 have hk := tApply_c sortOK a c L o w h.1 (by rw [h.len]; exact hm) ho
 rw [h.2] at hk
 refine hk.mono ?_
 rintro e w' ⟨v, L', rfl, hn, he, hb⟩
 obtain ⟨a', c', rfl, ht⟩ := hn.tr (by rw [er_len he]; have := ApplyL_few (l := l) (o := o); omega)
 exact ⟨a', c', L', rfl, ⟨ht, he⟩, hb⟩
end Go.Proofs.YtloojakcknnilaaGreat
namespace Go.Proofs.YtloojakcknnilaaGreat
open Go.RowKit Go.ChangeShapes Go.WideShapes Go.ChangeAt Go.Maps Go.Shelf
set_option linter.unusedVariables false
set_option linter.unusedSimpArgs false
set_option maxRecDepth 100000
theorem slice_nil {H : Type} {enc : TypeId × Value → H} {P : Program} {W : World} {t e : TypeId} {v : Value} {fuel : Nat} {y : DataW H × List MemPlace} {sp : Nat → Bool} {hd : Bool} {b0 : Nat} (ht : P.underlying t = some (.slice e))
   (hf : DataW.trod enc P W b0 sp hd fuel t [v] = some y) {a : Option Addr} {n c : Nat} (hv : v = .slice a n c) : a = none → c = 0 := by
 subst hv
 intro ha
 subst ha
 rcases DataW.trod_slice ht hf with ⟨hcs, _⟩ | ⟨x, len, c', elems, rest, n', _, hcs, _⟩
 · simp at hcs
   exact hcs.2
 · simp at hcs
theorem trod_nodeN {H : Type} {enc : TypeId × Value → H} {W : World} {cs : List Value} {fuel : Nat} {x : DataW H × List MemPlace} {sp : Nat → Bool} {hd : Bool} {b0 : Nat} (hf : DataW.trod enc Tryz.prog W b0 sp hd fuel 58 cs = some x) (hsp : ∀ k, sp k = true) :
   ∃ q : Nd, cs = q.cells ∧ q.Ok W ∧ q.Nil := by
 obtain ⟨xs, m, _, _, hlc, hlen, hel⟩ := DataW.trod_struct Tryz.underlying58 hf
 have hct : Tryz.prog.cellsOf 58 = 6 := by kernel_rfl
 have e1 : Tryz.prog.cellsOf 25 = 1 := by kernel_rfl
 have e2 : Tryz.prog.cellsOf 54 = 1 := by kernel_rfl
 have e3 : Tryz.prog.cellsOf 26 = 1 := by kernel_rfl
 have e4 : Tryz.prog.cellsOf 55 = 1 := by kernel_rfl
 have e5 : Tryz.prog.cellsOf 56 = 1 := by kernel_rfl
 rw [hct] at hlc
 match cs, hlc with
 | [c0, c1, c2, c3, c4, c5], _ =>
   match xs, hlen with
   | [x0, x1, x2, x3, x4, x5], _ =>
     have h0 := hel 0 _ rfl
     have h1 := hel 1 _ rfl
     have h2 := hel 2 _ rfl
     have h3 := hel 3 _ rfl
     have h4 := hel 4 _ rfl
     have h5 := hel 5 _ rfl
     simp [e1, e2, e3, e4, e5] at h0 h1 h2 h3 h4 h5
     obtain ⟨n0, q0, _, w0⟩ := DataW.trod_int Tryz.underlying25 h0
     obtain ⟨n1, q1, _, w1⟩ := DataW.trod_int Tryz.underlying54 h1
     obtain ⟨n2, q2, _, w2⟩ := DataW.trod_int Tryz.underlying26 h2
     obtain ⟨n3, q3, _, w3⟩ := DataW.trod_int Tryz.underlying26 h3
     obtain ⟨da, dc, zs, q4, hz⟩ := isB_trod Tryz.underlying55 Tryz.underlying5 (by kernel_rfl) h4 hsp
     obtain ⟨ka, kc, ks, q5, hk⟩ := isKs_trod Tryz.underlying56 h5 hsp
     have nd := slice_nil Tryz.underlying55 h4 q4
     have nk := slice_nil Tryz.underlying56 h5 q5
     simp at q0 q1 q2 q3
     subst q0 q1 q2 q3 q4 q5
     exact ⟨⟨n0, n1, n2, n3, da, dc, zs, ka, kc, ks⟩, rfl, ⟨bd_u32 w0, bd_u8 w1, bd_u16r w2, bd_u16r w3, hz, hk⟩, nd, nk⟩
theorem isNs_trodN {H : Type} {enc : TypeId × Value → H} {W : World} {t : TypeId} {v : Value} {fuel : Nat} {y : DataW H × List MemPlace} {sp : Nat → Bool} {hd : Bool} {b0 : Nat} (ht : Tryz.prog.underlying t = some (.slice 58))
   (hf : DataW.trod enc Tryz.prog W b0 sp hd fuel t [v] = some y) (hsp : ∀ k, sp k = true) : ∃ a cap, ∃ l : List Nd, v = .slice a l.length cap ∧ IsNs W a l ∧ (∀ x ∈ l, x.Nil) ∧ l.length ≤ cap := by
 have hct : Tryz.prog.cellsOf 58 = 6 := by kernel_rfl
 rcases DataW.trod_slice ht hf with ⟨hcs, _⟩ | ⟨x, len, c, elems, rest, n, _, hcs, _, hb, hl, hm, hlen, hel, _⟩
 · simp at hcs
   exact ⟨none, 0, [], hcs, ⟨Nat.zero_le _, (fun x hx => by cases hx), (fun h => absurd h (by simp))⟩, (fun x hx => by cases hx), by simp⟩
 · simp at hcs
   rw [hct] at hel
   have each : ∀ i, i < len → ∃ q : Nd, (∀ j, j < 6 → W.cell? ((x.add (i * 6)).add j) = (q.cells)[j]?) ∧ q.Ok W ∧ q.Nil := by
     intro i hi
     have h1 := hel i (by omega)
     have h2 : elems[i]? = some elems[i] := List.getElem?_eq_getElem (by omega)
     rw [h2, Option.bind_eq_some_iff] at h1
     obtain ⟨cs, hc, hy⟩ := h1
     obtain ⟨q, hq, hw⟩ := trod_nodeN hy hsp
     obtain ⟨_, hl6, hg⟩ := World.cells?_some hc
     refine ⟨q, fun j hj => ?_, hw⟩
     rw [hg j hj, hq]
   obtain ⟨f, hf'⟩ : ∃ f : Nat → Nd, ∀ i, i < len → (∀ j, j < 6 → W.cell? ((x.add (i * 6)).add j) = ((f i).cells)[j]?) ∧ (f i).Ok W ∧ (f i).Nil := by
     classical
     refine ⟨fun i => if h : i < len then (each i h).choose else Nd.no, fun i hi => ?_⟩
     simp only [hi, dif_pos]
     exact (each i hi).choose_spec
   refine ⟨some x, c, (List.range len).map f, by simpa using hcs, ⟨by simp; omega, fun q hq => ?_, fun hp => ?_⟩, fun q hq => ?_, by simp; omega⟩
   · obtain ⟨i, hi, rfl⟩ := List.mem_map.1 hq
     exact (hf' i (List.mem_range.1 hi)).2.1
   · rw [List.length_map, List.length_range] at hp
     obtain ⟨b, off, spot⟩ := x
     have hc0 := (hf' 0 hp).1 0 (by omega)
     have hspot : spot = none := by
       have e0 : ((f 0).cells)[0]? = some (.int .u32 (f 0).fid) := rfl
       rw [e0] at hc0
       simpa [Addr.add] using World.cell?_spot hc0
     subst hspot
     refine ⟨b, off, rfl, fun i hi => ?_⟩
     rw [List.length_map, List.length_range] at hi
     have hadd : ∀ j, ((⟨b, off, none⟩ : Addr).add (i * 6)).add j = ⟨b, off + i * 6 + j, none⟩ := fun j => by unfold Addr.add; split <;> split <;> simp_all <;> omega
     have key := (hf' i hi).1
     have g : ((List.range len).map f).getD i Nd.no = f i := by simp [List.getD, hi]
     rw [g]
     intro j u hu
     have hj : j < 6 := by
       have := (List.getElem?_eq_some_iff.1 hu).1
       simpa [Nd.cells] using this
     have kj := key j hj
     rw [hadd] at kj
     rw [kj]; exact hu
   · obtain ⟨i, hi, rfl⟩ := List.mem_map.1 hq
     exact (hf' i (List.mem_range.1 hi)).2.2
theorem isNs_of {H : Type} {enc : TypeId × Value → H} {W : World} {t : TypeId} {a : Option Addr} {len cap : Nat} {d : DataW H} {p : List MemPlace} (ht : Tryz.prog.underlying t = some (.slice 58))
   (h : DataW.Trod enc Tryz.prog W 0 (fun _ => true) true t (.slice a len cap) d p) : ∃ l : List Nd, l.length = len ∧ (IsNs W a l ∧ ∀ x ∈ l, x.Nil) ∧ len ≤ cap := by
 obtain ⟨fuel, hf⟩ := h
 obtain ⟨a', cap', l, hv, h1, h2, h3⟩ := isNs_trodN ht hf (fun _ => rfl)
 simp only [Value.slice.injEq] at hv
 obtain ⟨rfl, rfl, rfl⟩ := hv
 exact ⟨l, rfl, ⟨h1, h2⟩, h3⟩
end Go.Proofs.YtloojakcknnilaaGreat
namespace Go.Proofs.YtloojakcknnilaaGreat
open Go.RowKit Go.ChangeShapes Go.WideShapes Go.ChangeAt
set_option linter.unusedVariables false
set_option linter.unusedSimpArgs false
set_option maxRecDepth 100000
def TrI (w : World) (a : Option Addr) (l : List Nd) : Prop := IsNs w a l ∧ ∀ x ∈ l, x.Nil
theorem TrI.later {w w' : World} {a : Option Addr} {l : List Nd} (h : TrI w a l) (hb : Below w.heap.size w w') : TrI w' a l := ⟨h.1.later hb, h.2⟩
theorem TrI.tr {w : World} {a : Option Addr} {l : List Nd} (h : TrI w a l) (hr : rightD l = true) : Tr w a l := by
 refine ⟨h.1, fun x hx => ⟨h.2 x hx, ?_⟩⟩
 have R := rightD_rt.1 hr
 have h1 := (nodeOk_iff x).1 (R.ok x hx).1
 have := h1.2.1
 have := h1.2.2.1
 exact ⟨by omega, by omega⟩
set_option maxHeartbeats 2000000 in
theorem tApply_f (a : Option Addr) (cap : Nat) (l : List Nd) (o : Rec) (w : World) (h : IsNs w a l) (hm : l.length ≤ 900) (hr : rightD l = false) :
   Calls Tryz.prog 10 #[.slice a l.length cap, o.opV] w (OpP w (3, [])) := by
 obtain ⟨k, fid, dir, nm, tof, nm2, md, dt, sn⟩ := o
 simp only [Rec.opV]
 have b0 := below_1 w (.cells #[.int .u8 k, .int .u32 fid, .int .u32 dir, .string nm, .int .u32 tof, .string nm2, .int .u16 md, .string dt] 28)
 have RV := hid (rightT_c a cap l _ (h.later b0) (by omega))
 rw [hr] at RV
 have B0 := hid b0
 clear b0 h hr
 generalize l.length = n at *
 go_enter Tryz.func10, Tryz.ntmps10
 go_upto_region 1 with fail
 generalize w.alloc (.cells #[.int .u8 k, .int .u32 fid, .int .u32 dir, .string nm, .int .u32 tof, .string nm2, .int .u16 md, .string dt] 28) = V at *
 go_wp2_with (go_at_call 14; refine RV.out.mono ?_; rintro _ w1 ⟨rfl, hb1⟩; have B1 := hid (B0.out.trans (hb1.mono B0.out.size)); clear hb1)
 exact bodyPost_ret (v := .tuple #[.slice none 0 0, .int .i64 3]) (by simp [results, Tryz.results10, go_sem]) rfl ⟨none, 0, [], rfl, ⟨Tr.nil _, rfl⟩, B1.out⟩
set_option maxHeartbeats 2000000 in
theorem rApply_f (a : Option Addr) (cap : Nat) (l : List Nd) (o : Rec) (w : World) (h : IsNs w a l) (hm : l.length ≤ 900) (hr : rightD l = false) :
   Calls Tryz.prog 11 #[.slice a l.length cap, o.opV] w (OpP w (3, [])) := by
 obtain ⟨k, fid, dir, nm, tof, nm2, md, dt, sn⟩ := o
 simp only [Rec.opV]
 have b0 := below_1 w (.cells #[.int .u8 k, .int .u32 fid, .int .u32 dir, .string nm, .int .u32 tof, .string nm2, .int .u16 md, .string dt] 28)
 have RV := hid (rRight_c a cap l _ (h.later b0) (by omega))
 rw [hr] at RV
 have B0 := hid b0
 clear b0 h hr
 generalize l.length = n at *
 go_enter Tryz.func11, Tryz.ntmps11
 go_upto_region 1 with fail
 generalize w.alloc (.cells #[.int .u8 k, .int .u32 fid, .int .u32 dir, .string nm, .int .u32 tof, .string nm2, .int .u16 md, .string dt] 28) = V at *
 go_wp2_with (go_at_call 15; refine RV.out.mono ?_; rintro _ w1 ⟨rfl, hb1⟩; have B1 := hid (B0.out.trans (hb1.mono B0.out.size)); clear hb1)
 exact bodyPost_ret (v := .tuple #[.slice none 0 0, .int .i64 3]) (by simp [results, Tryz.results11, go_sem]) rfl ⟨none, 0, [], rfl, ⟨Tr.nil _, rfl⟩, B1.out⟩
theorem ApplyL_f {l : List Nd} {o : Rec} (hr : rightD l = false) : ApplyL (l.map Nd.er) o = (3, []) := by unfold ApplyL; rw [rightD_er, hr]; rfl
theorem applyI_c {a : Option Addr} {l : List Nd} (c : Nat) (o : Rec) (w : World) (h : TrI w a l) (hm : l.length ≤ 900) (ho : o.Wf) :
   Calls Tryz.prog 10 #[.slice a l.length c, o.opV] w (OpP w (ApplyL (l.map Nd.er) o)) := by
 cases hr : rightD l with
 | false => rw [ApplyL_f hr]; exact tApply_f a c l o w h.1 hm hr
 | true => exact apply_c c o w ⟨h.tr hr, rfl⟩ (by rw [List.length_map]; exact hm) ho
theorem rapplyI_c {a : Option Addr} {l : List Nd} (c : Nat) (o : Rec) (w : World) (h : TrI w a l) (hm : l.length ≤ 900) (ho : o.Wf) :
   Calls Tryz.prog 11 #[.slice a l.length c, o.opV] w (OpP w (ApplyL (l.map Nd.er) o)) := by
 cases hr : rightD l with
 | false => rw [ApplyL_f hr]; exact rApply_f a c l o w h.1 hm hr
 | true =>
   refine (rApply_c a c l o w (h.tr hr) hm ho).mono ?_
   rintro e w' ⟨v, L', rfl, hn, he, hb⟩
   obtain ⟨a', c', rfl, ht⟩ := hn.tr (by rw [er_len he]; have := ApplyL_few (l := l.map Nd.er) (o := o); omega)
   exact ⟨a', c', L', rfl, ⟨ht, he⟩, hb⟩
theorem TrI.take {w : World} {a : Option Addr} {l : List Nd} (h : TrI w a l) (n : Nat) : TrI w a (l.take n) := by
 refine ⟨⟨by have := h.1.1; rw [List.length_take]; omega, fun x hx => h.1.2.1 x (List.mem_of_mem_take hx), fun hp => ?_⟩, fun x hx => h.2 x (List.mem_of_mem_take hx)⟩
 rw [List.length_take] at hp
 obtain ⟨b, off, e, hc⟩ := h.1.2.2 (by omega)
 refine ⟨b, off, e, fun i hi => ?_⟩
 rw [List.length_take] at hi
 have := hc i (by omega)
 rwa [show (l.take n).getD i Nd.no = l.getD i Nd.no by simp [List.getD, List.getElem?_take, show i < n by omega]]
set_option maxHeartbeats 1000000 in
theorem few6_c (a : Option Addr) (len cap : Nat) (l : List Nd) (w : World) (lz : l.length = len) (lc : len ≤ cap) :
   Calls Tryz.prog 9 #[.slice a len cap] w fun e w' => e = .returned (.slice a (l.take 42).length cap) ∧ w' = w := by
 by_cases q : 42 < len
 · have q1 : (42 : Int) < (len : Int) := by omega
   have q2 : (42 : Int) ≤ (cap : Int) := by omega
   have e : (l.take 42).length = 42 := by rw [List.length_take]; omega
   rw [e]
   clear e lz
   go_enter Tryz.func9, Tryz.ntmps9
   go_wp2
   go_ret
   exact ⟨rfl, rfl⟩
 · have q1 : decide ((42 : Int) < (len : Int)) = false := decide_eq_false (by omega)
   have e : (l.take 42).length = len := by rw [List.length_take]; omega
   rw [e]
   clear e lz
   go_enter Tryz.func9, Tryz.ntmps9
   go_wp2
   go_ret
   exact ⟨rfl, rfl⟩
end Go.Proofs.YtloojakcknnilaaGreat
namespace Go.Proofs.YtloojakcknnilaaGreat
open Go.RowKit Go.ChangeShapes Go.WideShapes Go.ChangeAt Go.Maps Go.Shelf
set_option linter.unusedVariables false
set_option linter.unusedSimpArgs false
set_option maxRecDepth 100000
theorem own_shapeR {w : World} {base e size n : Nat} {v : Value} {xs : List Value} (h : w.ownsRow base e size v n xs) : ∃ a cap, v = .slice a n cap := by
 rcases h.2 with ⟨hv, hn⟩ | ⟨g, cap, cur, hv, _⟩
 · exact ⟨_, _, by rw [hv, hn]⟩
 · exact ⟨_, _, hv⟩
theorem below_grownR {B : Nat} {a w w' : World} {base : Nat} {e size n : Nat} {v : Value} {xs : List Value} (h : Below B a w) (hown : w.ownsRow base e size v n xs) (hB : B ≤ base) (hBw : B ≤ w.heap.size) (hg : w.grownBy w' v.ownBlock) : Below B a w' :=
 Below.grown h hg hBw (fun k hk => by have := (hown.lt k hk).1; omega)
def u32N (x : Int) : Value := .int .u32 x
def nameL (x : Rec) : List Int := (if x.fid != 0 then [x.fid] else []) ++ ((if x.dir != 0 then [x.dir] else []) ++ (if x.to != 0 then [x.to] else []))
theorem info_fid : ∃ i : TypeInfo, Tryz.prog.info? 25 = some i ∧ i.zero = some (.int .u32 0) ∧ i.size = 1 ∧ i.bytes = 4 := by
 have h : (Tryz.prog.info? 25).map (fun i => (i.zero, i.size, i.bytes)) = some (some (.int .u32 0), 1, 4) := by kernel_rfl
 cases hi : Tryz.prog.info? 25 with
 | none => rw [hi] at h; cases h
 | some i => rw [hi] at h; simp at h; exact ⟨i, rfl, h.1, h.2.1, h.2.2⟩
theorem own_snoc32 {w : World} {B T : Nat} {v : Value} {zs : List Int} {f : Int} (h : w.ownsRow B T 1 v (zs.length + 1) (zs.map u32N ++ [.int .u32 f])) : w.ownsRow B T 1 v (zs ++ [f]).length ((zs ++ [f]).map u32N) := by
 rw [List.length_append, List.map_append]; exact h
theorem below_one (w : World) (o : Obj) : Below w.heap.size w (w.alloc o) := (Below.refl _ _).alloc (Nat.le_refl _) _
theorem fid_news (w : World) (f : Int) (t : TypeId) (g : Nat) (hg : g = w.heap.size) : ∀ j u, ([.int .u32 f] : List Value)[j]? = some u → (w.alloc (.cells #[.int .u32 f] t)).cell? ((⟨g, 0, none⟩ : Addr).add j) = some u := fun j u hu => by
 subst hg
 have e : (⟨w.heap.size, 0, none⟩ : Addr).add j = ⟨w.heap.size, 0 + j, none⟩ := by unfold Addr.add; split <;> simp_all
 rw [e, cell_of_row _ _ _ _ _ _ (heap_alloc_new w (.cells #[.int .u32 f] t))]
 simpa using hu
theorem fid_one (f : Int) : ∀ u ∈ ([.int .u32 f] : List Value), u.oneCell' = true := fun u hu => by
 rw [List.mem_singleton.1 hu]; rfl
theorem op_box {w : World} {g : Nat} {x : Rec} {t : TypeId} {fr : Nat × Nat} (h : w.heap[g]? = some (.cells x.ops.toArray t fr)) : w.cell? ⟨g, 1, none⟩ = some (.int .u32 x.fid) ∧ w.cell? ⟨g, 2, none⟩ = some (.int .u32 x.dir) ∧ w.cell? ⟨g, 4, none⟩ = some (.int .u32 x.to) := by
 refine ⟨?_, ?_, ?_⟩ <;> (rw [cell_of_row w g _ _ t fr h]; rfl)
set_option maxRecDepth 20000 in
set_option maxHeartbeats 2000000 in
theorem rnames_c (x : Rec) (w : World) :
   Calls Tryz.prog 20 #[x.opV] w fun e w' => ∃ v, e = .returned v ∧ w'.ownsRow w.heap.size 25 1 v (nameL x).length ((nameL x).map u32N) ∧ Below w.heap.size w w' := by
 obtain ⟨i0, hi, hz0, hz1, hz2⟩ := info_fid
 have hx : (w.alloc (.cells x.ops.toArray 28)).heap[w.heap.size]? = some (.cells x.ops.toArray 28 (0, 0)) := heap_alloc_new w _
 have HX := hid hx
 have hb0 := below_one w (.cells x.ops.toArray 28)
 have HB0 := hid hb0
 obtain ⟨y1, y2, y4⟩ := op_box hx
 obtain ⟨B, hB⟩ : ∃ B, B = (w.alloc (.cells x.ops.toArray 28)).heap.size := ⟨_, rfl⟩
 have HB : Hid (Below B (w.alloc (.cells x.ops.toArray 28)) (w.alloc (.cells x.ops.toArray 28))) := hid (Below.refl _ _)
 have HS : Hid (B ≤ (w.alloc (.cells x.ops.toArray 28)).heap.size) := hid (by omega)
 have HO : Hid ((w.alloc (.cells x.ops.toArray 28)).ownsRow B 25 1 (.slice none 0 0) ([] : List Int).length (([] : List Int).map u32N)) := hid (World.ownsRow_nil _ _ _ _)
 have HBB := hid hB
 have HLT : Hid (w.heap.size < B) := hid (by rw [hB]; simp)
 clear hx hb0 hB
 unfold Rec.opV nameL
 cases e1 : (x.fid != 0) <;> cases e2 : (x.dir != 0) <;> cases e3 : (x.to != 0)
 all_goals
   have f1 : (x.fid == 0) = !(x.fid != 0) := by simp [bne]
   have f2 : (x.dir == 0) = !(x.dir != 0) := by simp [bne]
   have f3 : (x.to == 0) = !(x.to != 0) := by simp [bne]
   rw [e1] at f1
   rw [e2] at f2
   rw [e3] at f3
   simp only [Bool.not_true, Bool.not_false] at f1 f2 f3
   go_enter Tryz.func20, Tryz.ntmps20
   go_wp2_with (first
     | (at_builtin; refine wpList_append_own _ rfl _ _ 38 rfl B 25 i0 (.int .u32 0) 1 4 Tryz.underlying38 hi hz0 hz1 hz2 (by rfl) (by decide) _ _ _ rfl (own_latR HO.out (below_one _ _)) ⟨_, 0, none⟩ 1 1 [.int .u32 _] rfl rfl (fid_news _ _ _ _ (by simp)) (fid_one _) (by unfold maxLen; simp) (by simp) (Nat.le_trans HS.out (below_one _ _).size) ?_; intro v9 w9 hown9 hgrow9 hnil9
        have HB9 := hid (below_grownR (HB.out.trans ((below_one _ _).mono HS.out)) (own_latR HO.out (below_one _ _)) (Nat.le_refl _) (Nat.le_trans HS.out (below_one _ _).size) hgrow9)
        have HO9 := hid (own_snoc32 hown9)
        have HS9 : Hid (B ≤ w9.heap.size) := hid (Nat.le_trans (Nat.le_of_eq HBB.out) HB9.out.size)
        obtain ⟨z1, z2, z4⟩ := op_box ((HB9.out.block _ HLT.out).trans HX.out)
        obtain ⟨a9, c9, rfl⟩ := own_shapeR hown9
        clear hown9 hgrow9 hnil9 HO HB HS
        have HO := HO9
        have HB := HB9
        have HS := HS9
        clear HO9 HB9 HS9))
   go_ret
   exact ⟨_, rfl, own_low HO.out (Nat.le_of_lt HLT.out), HB0.out.trans (HB.out.mono (Nat.le_of_lt HLT.out))⟩
theorem fidx0 (a b c : Int) (w : World) : (Instr.index 83 (.agg #[.int .u32 a, .int .u32 b, .int .u32 c]) (.int .i64 0)).run Tryz.prog w = .ok (.int .u32 a) w := by
 simp [Instr.index, run_underlying Tryz.underlying83, asIntOf, part, Tryz.sizeOf25, run_underlying Tryz.underlying25, Result.andThen, go_sem]
theorem fidx1 (a b c : Int) (w : World) : (Instr.index 83 (.agg #[.int .u32 a, .int .u32 b, .int .u32 c]) (.int .i64 1)).run Tryz.prog w = .ok (.int .u32 b) w := by
 simp [Instr.index, run_underlying Tryz.underlying83, asIntOf, part, Tryz.sizeOf25, run_underlying Tryz.underlying25, Result.andThen, go_sem]
theorem fidx2 (a b c : Int) (w : World) : (Instr.index 83 (.agg #[.int .u32 a, .int .u32 b, .int .u32 c]) (.int .i64 2)).run Tryz.prog w = .ok (.int .u32 c) w := by
 simp [Instr.index, run_underlying Tryz.underlying83, asIntOf, part, Tryz.sizeOf25, run_underlying Tryz.underlying25, Result.andThen, go_sem]
set_option maxRecDepth 20000 in
set_option maxHeartbeats 2000000 in
theorem tnames_c (x : Rec) (w : World) :
   Calls Tryz.prog 19 #[x.opV] w fun e w' => ∃ v, e = .returned v ∧ w'.ownsRow w.heap.size 25 1 v (nameL x).length ((nameL x).map u32N) ∧ Below w.heap.size w w' := by
 obtain ⟨i0, hi, hz0, hz1, hz2⟩ := info_fid
 have hx : (w.alloc (.cells x.ops.toArray 28)).heap[w.heap.size]? = some (.cells x.ops.toArray 28 (0, 0)) := heap_alloc_new w _
 have HX := hid hx
 have hb0 := below_one w (.cells x.ops.toArray 28)
 have HB0 := hid hb0
 obtain ⟨y1, y2, y4⟩ := op_box hx
 obtain ⟨B, hB⟩ : ∃ B, B = (w.alloc (.cells x.ops.toArray 28)).heap.size := ⟨_, rfl⟩
 have HB : Hid (Below B (w.alloc (.cells x.ops.toArray 28)) (w.alloc (.cells x.ops.toArray 28))) := hid (Below.refl _ _)
 have HS : Hid (B ≤ (w.alloc (.cells x.ops.toArray 28)).heap.size) := hid (by omega)
 have HO : Hid ((w.alloc (.cells x.ops.toArray 28)).ownsRow B 25 1 (.slice none 0 0) ([] : List Int).length (([] : List Int).map u32N)) := hid (World.ownsRow_nil _ _ _ _)
 have HBB := hid hB
 have HLT : Hid (w.heap.size < B) := hid (by rw [hB]; simp)
 clear hx hb0 hB
 unfold Rec.opV nameL
 cases e1 : (x.fid != 0) <;> cases e2 : (x.dir != 0) <;> cases e3 : (x.to != 0)
 all_goals
   have f1 : (x.fid == 0) = !(x.fid != 0) := by simp [bne]
   have f2 : (x.dir == 0) = !(x.dir != 0) := by simp [bne]
   have f3 : (x.to == 0) = !(x.to != 0) := by simp [bne]
   rw [e1] at f1
   rw [e2] at f2
   rw [e3] at f3
   simp only [Bool.not_true, Bool.not_false] at f1 f2 f3
   have ix0 := fidx0 x.fid x.dir x.to
   have ix1 := fidx1 x.fid x.dir x.to
   have ix2 := fidx2 x.fid x.dir x.to
   go_enter Tryz.func19, Tryz.ntmps19
   go_wp2
   refine wp_loop_rounds 4 ?_
   rw [rounds_succ]
   go_wp2_with (first
     | (at_builtin; refine wpList_append_own _ rfl _ _ 38 rfl B 25 i0 (.int .u32 0) 1 4 Tryz.underlying38 hi hz0 hz1 hz2 (by rfl) (by decide) _ _ _ rfl (own_latR HO.out (below_one _ _)) ⟨_, 0, none⟩ 1 1 [.int .u32 _] rfl rfl (fid_news _ _ _ _ (by simp)) (fid_one _) (by unfold maxLen; simp) (by simp) (Nat.le_trans HS.out (below_one _ _).size) ?_; intro v9 w9 hown9 hgrow9 hnil9
        have HB9 := hid (below_grownR (HB.out.trans ((below_one _ _).mono HS.out)) (own_latR HO.out (below_one _ _)) (Nat.le_refl _) (Nat.le_trans HS.out (below_one _ _).size) hgrow9)
        have HO9 := hid (own_snoc32 hown9)
        have HS9 : Hid (B ≤ w9.heap.size) := hid (Nat.le_trans (Nat.le_of_eq HBB.out) HB9.out.size)
        obtain ⟨z1, z2, z4⟩ := op_box ((HB9.out.block _ HLT.out).trans HX.out)
        obtain ⟨a9, c9, rfl⟩ := own_shapeR hown9
        clear hown9 hgrow9 hnil9 HO HB HS
        have HO := HO9
        have HB := HB9
        have HS := HS9
        clear HO9 HB9 HS9))
   rw [rounds_succ]
   go_wp2_with (first
     | (at_builtin; refine wpList_append_own _ rfl _ _ 38 rfl B 25 i0 (.int .u32 0) 1 4 Tryz.underlying38 hi hz0 hz1 hz2 (by rfl) (by decide) _ _ _ rfl (own_latR HO.out (below_one _ _)) ⟨_, 0, none⟩ 1 1 [.int .u32 _] rfl rfl (fid_news _ _ _ _ (by simp)) (fid_one _) (by unfold maxLen; simp) (by simp) (Nat.le_trans HS.out (below_one _ _).size) ?_; intro v9 w9 hown9 hgrow9 hnil9
        have HB9 := hid (below_grownR (HB.out.trans ((below_one _ _).mono HS.out)) (own_latR HO.out (below_one _ _)) (Nat.le_refl _) (Nat.le_trans HS.out (below_one _ _).size) hgrow9)
        have HO9 := hid (own_snoc32 hown9)
        have HS9 : Hid (B ≤ w9.heap.size) := hid (Nat.le_trans (Nat.le_of_eq HBB.out) HB9.out.size)
        obtain ⟨z1, z2, z4⟩ := op_box ((HB9.out.block _ HLT.out).trans HX.out)
        obtain ⟨a9, c9, rfl⟩ := own_shapeR hown9
        clear hown9 hgrow9 hnil9 HO HB HS
        have HO := HO9
        have HB := HB9
        have HS := HS9
        clear HO9 HB9 HS9))
   rw [rounds_succ]
   go_wp2_with (first
     | (at_builtin; refine wpList_append_own _ rfl _ _ 38 rfl B 25 i0 (.int .u32 0) 1 4 Tryz.underlying38 hi hz0 hz1 hz2 (by rfl) (by decide) _ _ _ rfl (own_latR HO.out (below_one _ _)) ⟨_, 0, none⟩ 1 1 [.int .u32 _] rfl rfl (fid_news _ _ _ _ (by simp)) (fid_one _) (by unfold maxLen; simp) (by simp) (Nat.le_trans HS.out (below_one _ _).size) ?_; intro v9 w9 hown9 hgrow9 hnil9
        have HB9 := hid (below_grownR (HB.out.trans ((below_one _ _).mono HS.out)) (own_latR HO.out (below_one _ _)) (Nat.le_refl _) (Nat.le_trans HS.out (below_one _ _).size) hgrow9)
        have HO9 := hid (own_snoc32 hown9)
        have HS9 : Hid (B ≤ w9.heap.size) := hid (Nat.le_trans (Nat.le_of_eq HBB.out) HB9.out.size)
        obtain ⟨z1, z2, z4⟩ := op_box ((HB9.out.block _ HLT.out).trans HX.out)
        obtain ⟨a9, c9, rfl⟩ := own_shapeR hown9
        clear hown9 hgrow9 hnil9 HO HB HS
        have HO := HO9
        have HB := HB9
        have HS := HS9
        clear HO9 HB9 HS9))
   rw [rounds_succ]
   go_wp2_with (first
     | (at_builtin; refine wpList_append_own _ rfl _ _ 38 rfl B 25 i0 (.int .u32 0) 1 4 Tryz.underlying38 hi hz0 hz1 hz2 (by rfl) (by decide) _ _ _ rfl (own_latR HO.out (below_one _ _)) ⟨_, 0, none⟩ 1 1 [.int .u32 _] rfl rfl (fid_news _ _ _ _ (by simp)) (fid_one _) (by unfold maxLen; simp) (by simp) (Nat.le_trans HS.out (below_one _ _).size) ?_; intro v9 w9 hown9 hgrow9 hnil9
        have HB9 := hid (below_grownR (HB.out.trans ((below_one _ _).mono HS.out)) (own_latR HO.out (below_one _ _)) (Nat.le_refl _) (Nat.le_trans HS.out (below_one _ _).size) hgrow9)
        have HO9 := hid (own_snoc32 hown9)
        have HS9 : Hid (B ≤ w9.heap.size) := hid (Nat.le_trans (Nat.le_of_eq HBB.out) HB9.out.size)
        obtain ⟨z1, z2, z4⟩ := op_box ((HB9.out.block _ HLT.out).trans HX.out)
        obtain ⟨a9, c9, rfl⟩ := own_shapeR hown9
        clear hown9 hgrow9 hnil9 HO HB HS
        have HO := HO9
        have HB := HB9
        have HS := HS9
        clear HO9 HB9 HS9))
   go_ret
   exact ⟨_, rfl, own_low HO.out (Nat.le_of_lt HLT.out), HB0.out.trans (HB.out.mono (Nat.le_of_lt HLT.out))⟩
theorem own_at32 {w : World} {B T n c : Nat} {a : Option Addr} {zs : List Int} (h : w.ownsRow B T 1 (.slice a n c) zs.length (zs.map u32N)) {k : Nat} (hk : k < zs.length) : ∃ g, a = some ⟨g, 0, none⟩ ∧ w.cell? ⟨g, k, none⟩ = some (.int .u32 (zs.getD k 0)) := by
 rcases h.2 with ⟨h1, hn⟩ | ⟨g, cap, cur, h1, hb, hg, hn, hc, hs, ht⟩
 · omega
 · cases h1
   refine ⟨g, rfl, ?_⟩
   rw [cell_of_row w g k cur _ _ hg]
   have : (zs.map u32N)[k]? = some (.int .u32 (zs.getD k 0)) := by simp [List.getD, hk, u32N]
   rw [← ht, List.getElem?_take, if_pos (by omega)] at this
   simpa using this
set_option maxHeartbeats 2000000 in
theorem sameFids_c (v1 v2 : Value) (B1 B2 : Nat) (zs : List Int) (w : World) (h : w.ownsRow B1 25 1 v1 zs.length (zs.map u32N)) (k : w.ownsRow B2 25 1 v2 zs.length (zs.map u32N)) (hm : zs.length ≤ 100000) :
   Calls Tryz.prog 18 #[v1, v2] w fun e w' => e = .returned (.bool true) ∧ Below w.heap.size w w' := by
 obtain ⟨a, ca, rfl⟩ := own_shapeR h
 obtain ⟨b, cb, rfl⟩ := own_shapeR k
 have HX := hid h
 have HY := hid k
 obtain ⟨n, hn⟩ : ∃ n, n = zs.length := ⟨_, rfl⟩
 have HN := hid hn
 rw [← hn] at hm ⊢
 clear h k hn
 go_enter Tryz.func18, Tryz.ntmps18
 go_wp2
 go_loopg [5] n (fun gk i wr => ∃ m : Nat, m + gk = n ∧ i = .int .i64 m ∧ Hid (Below w.heap.size w wr))
 case atStart => exact ⟨0, by omega, rfl, hid (Below.refl _ _)⟩
 case round =>
   obtain ⟨m, hm2, rfl, HB⟩ := hrel
   by_cases hlt : m < n
   · have hltI : (m : Int) < n := by omega
     have h1 : m < zs.length := by rw [← HN.out]; exact hlt
     obtain ⟨b1, rfl, hc1⟩ := own_at32 HX.out h1
     obtain ⟨b2, rfl, hc2⟩ := own_at32 HY.out h1
     have p0 := cell_later HB.out hc1
     have q0 := cell_later HB.out hc2
     clear hc1 hc2 h1
     generalize zs.getD m 0 = x at *
     go_wp2
     go_region
     go_wp2
     go_roundg (gk - 1)
     case measure => omega
     case rel => exact ⟨m + 1, by omega, by go_num, hid (Below.drew HB.out)⟩
   · have hge : ¬ (m : Int) < n := by omega
     go_wp2
     go_ret
     exact ⟨rfl, HB.out⟩
end Go.Proofs.YtloojakcknnilaaGreat
