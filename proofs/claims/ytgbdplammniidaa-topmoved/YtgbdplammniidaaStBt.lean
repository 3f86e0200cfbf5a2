/-
  Look and Get of the program's tree.
  Find of the program's tree, where no symbolic link is in the tree.
  The law's live: two operations, a path, and whether that is a tree.
  The document's Fold once more: the tree that it answers is the call's own.
  What the tree's laws share: a tree of operations.
  A tree of directories that is moved: what the operations leave, by computing.
-/
import Derived.Test.YtgbdplammniidaaStBs
import Derived.Test.YtgbdplammniidaaStAm
namespace Go.Proofs.Ytgbdplammniidaa
open Go.RowKit Go.ChangeShapes Go.WideShapes Go.ChangeAt
set_option linter.unusedVariables false
set_option linter.unusedSimpArgs false
set_option maxRecDepth 100000
theorem pl_none {l : List Nd} {f : Int} (h : getF l f = none) : plI l f = -1 := by
 unfold plI
 have e : l.findIdx? (fun x => x.fid == f) = none := by
   rw [List.findIdx?_eq_none_iff]
   intro x hx
   unfold getF at h
   rw [List.find?_eq_none] at h
   have := h x hx
   simpa using this
 rw [e]
theorem pl_some {l : List Nd} {f : Int} {x : Nd} (h : getF l f = some x) : ∃ i : Nat, plI l f = (i : Int) ∧ i < l.length ∧ l.getD i Nd.no = x := by
 induction l with
 | nil => cases h
 | cons y t ih =>
   unfold getF at h
   rw [List.find?_cons] at h
   cases e : y.fid == f with
   | true =>
     rw [e] at h
     cases h
     refine ⟨0, ?_, by simp, rfl⟩
     unfold plI
     simp only [List.findIdx?_cons, e, if_true]
   | false =>
     rw [e] at h
     obtain ⟨i, h1, h2, h3⟩ := ih h
     refine ⟨i + 1, ?_, by simpa using h2, by simpa [List.getD] using h3⟩
     unfold plI at h1 ⊢
     rw [List.findIdx?_cons, e]
     cases q : t.findIdx? (fun x => x.fid == f) with
     | none => rw [q] at h1; simp only at h1; omega
     | some k => rw [q] at h1; simp only at h1 ⊢; simp; omega
def plkI (o : Option Nd) (s : ByteArray) : Int := match o with
 | none => 0
 | some x => if x.k = 2 then (match kq x.ks s with | some q => q.fid | none => 0) else 0
def plkE (o : Option Nd) (s : ByteArray) : Int := match o with
 | none => 5
 | some x => if x.k = 2 then (match kq x.ks s with | some _ => 0 | none => 5) else 7
set_option maxHeartbeats 2000000 in
theorem tLook_c (a : Option Addr) (cap : Nat) (l : List Nd) (f : Int) (s : ByteArray) (w : World) (h : IsNs w a l) (hm : l.length ≤ 100000) (hk : ∀ x ∈ l, x.ks.length ≤ 100000) :
   Calls Try.prog 13 #[.slice a l.length cap, .int .u32 f, .string s] w fun e w' => e = .returned (.tuple #[.int .u32 (plkI (getF l f) s), .int .i64 (plkE (getF l f) s)]) ∧ Below w.heap.size w w' := by
 have PC := hid (placeOf_c a cap l f w h hm)
 cases hx : getF l f with
 | none =>
   rw [pl_none hx] at PC
   clear h hx hk
   generalize l.length = n at *
   show Calls _ _ _ _ fun e w' => e = .returned (.tuple #[.int .u32 0, .int .i64 5]) ∧ _
   go_enter Try.func13, Try.ntmps13
   go_wp2_with (go_at_call 14; refine PC.out.mono ?_; rintro _ w1 ⟨rfl, hb1⟩)
   go_ret2
   exact ⟨rfl, hb1⟩
 | some x =>
   obtain ⟨i, e1, e2, e3⟩ := pl_some hx
   rw [e1] at PC
   obtain ⟨b, off, rfl, _⟩ := h.2.2 (by omega)
   have hxm : x ∈ l := by rw [← e3]; exact getD_mem _ _ e2
   have hkx := hk x hxm
   have OKX := hid (h.2.1 x hxm)
   have HA := hid (h.at (i := i) e2)
   rw [e3] at HA
   have e2I : (i : Int) < l.length := by omega
   clear h hx hk e1 e3 hxm
   generalize l.length = n at *
   by_cases hk2 : x.k = 2
   · have CC : Hid (∀ W, Below w.heap.size w W → W.cell? ⟨b, off + i * 6 + 1, none⟩ = some (.int .u8 2)) := hid (fun W hW => by have := (HA.out.later hW).all.2.1; rw [hk2] at this; exact this)
     have EC : Hid (∀ W, Below w.heap.size w W → Calls Try.prog 29 #[.pointer (some ⟨b, off + i * 6, none⟩), .string s] W fun e w' => e = .returned (.int .i64 (enI x.ks s)) ∧ Below W.heap.size W w') := hid (fun W hW => entryOf_c b (off + i * 6) x s W (HA.out.later hW).all.2.2.2.2.2 (OKX.out.later hW).2.2.2.2.2 hkx)
     cases hq : kq x.ks s with
     | none =>
       have e9 := en_none hq
       rw [e9] at EC
       have R1 : plkI (some x) s = 0 := by unfold plkI; simp only [if_pos hk2, hq]
       have R2 : plkE (some x) s = 5 := by unfold plkE; simp only [if_pos hk2, hq]
       rw [R1, R2]
       clear R1 R2 hq e9 OKX HA hk2 hkx
       go_enter Try.func13, Try.ntmps13
       go_wp2_with (first
         | (go_at_call 14; refine PC.out.mono ?_; rintro _ w1 ⟨rfl, hb1⟩; have B1 := hid hb1; clear hb1; have c1 := CC.out w1 B1.out; have E1 := hid (EC.out w1 B1.out))
         | (go_at_call 29; refine E1.out.mono ?_; rintro _ w2 ⟨rfl, hb2⟩; have B2 := hid (B1.out.trans (hb2.mono B1.out.size)); clear hb2))
       go_ret2
       exact ⟨rfl, B2.out⟩
     | some q =>
       obtain ⟨k, e9, k2, k3⟩ := en_some hq
       rw [e9] at EC
       have R1 : plkI (some x) s = q.fid := by unfold plkI; simp only [if_pos hk2, hq]
       have R2 : plkE (some x) s = 0 := by unfold plkE; simp only [if_pos hk2, hq]
       rw [R1, R2]
       obtain ⟨b2, off2, hka, _⟩ := OKX.out.2.2.2.2.2.2.2 (by omega)
       have K5 : Hid (∀ W, Below w.heap.size w W → W.cell? ⟨b, off + i * 6 + 5, none⟩ = some (.slice (some ⟨b2, off2, none⟩) x.ks.length x.kc)) := hid (fun W hW => by have := (HA.out.later hW).all.2.2.2.2.2; rw [hka] at this; exact this)
       have K1 : Hid (∀ W, Below w.heap.size w W → W.cell? ⟨b2, off2 + k * 2 + 1, none⟩ = some (.int .u32 q.fid)) := hid (fun W hW => by
         have h2 := (OKX.out.later hW).2.2.2.2.2
         rw [hka] at h2
         have h3 := (h2.at (i := k) k2).2
         rw [k3] at h3
         exact h3)
       have k2I : (k : Int) < x.ks.length := by omega
       clear R1 R2 hq e9 OKX HA hk2 k3 hka
       generalize x.ks.length = nk at *
       generalize x.kc = kc at *
       generalize q.fid = qf at *
       go_enter Try.func13, Try.ntmps13
       go_wp2_with (first
         | (go_at_call 14; refine PC.out.mono ?_; rintro _ w1 ⟨rfl, hb1⟩; have B1 := hid hb1; clear hb1; have c1 := CC.out w1 B1.out; have E1 := hid (EC.out w1 B1.out))
         | (go_at_call 29; refine E1.out.mono ?_; rintro _ w2 ⟨rfl, hb2⟩; have B2 := hid (B1.out.trans (hb2.mono B1.out.size)); clear hb2; have c5 := K5.out w2 B2.out; have c6 := K1.out w2 B2.out))
       go_ret2
       exact ⟨rfl, B2.out⟩
   · have CC : Hid (∀ W, Below w.heap.size w W → W.cell? ⟨b, off + i * 6 + 1, none⟩ = some (.int .u8 x.k)) := hid (fun W hW => (HA.out.later hW).all.2.1)
     have hkb : (x.k != 2) = true := by simp [hk2]
     have R1 : plkI (some x) s = 0 := by unfold plkI; simp only [if_neg hk2]
     have R2 : plkE (some x) s = 7 := by unfold plkE; simp only [if_neg hk2]
     rw [R1, R2]
     clear R1 R2 OKX HA hkx
     generalize x.k = xk at *
     go_enter Try.func13, Try.ntmps13
     go_wp2_with (go_at_call 14; refine PC.out.mono ?_; rintro _ w1 ⟨rfl, hb1⟩; have B1 := hid hb1; clear hb1; have c1 := CC.out w1 B1.out)
     go_ret2
     exact ⟨rfl, B1.out⟩
def baF (l : List UInt8) : ByteArray := ⟨l.toArray⟩
def NmR (w : World) (v : Value) (ns : List (List UInt8)) : Prop := ∃ a cap, v = .slice a ns.length cap ∧ ns.length ≤ cap ∧ (0 < ns.length → ∃ b off, a = some ⟨b, off, none⟩ ∧ ∀ i, i < ns.length → w.cell? ⟨b, off + i, none⟩ = some (.string (baF (ns.getD i []))))
theorem NmR.later {w w' : World} {v : Value} {ns : List (List UInt8)} (h : NmR w v ns) (hb : Below w.heap.size w w') : NmR w' v ns := by
 obtain ⟨a, cap, h1, h2, h3⟩ := h
 refine ⟨a, cap, h1, h2, fun hp => ?_⟩
 obtain ⟨b, off, e, hc⟩ := h3 hp
 exact ⟨b, off, e, fun i hi => cell_later hb (hc i hi)⟩
theorem NmR.own {w : World} {base : Nat} {v : Value} {ns : List (List UInt8)} (h : w.ownsRow base 9 1 v ns.length (ns.map strV)) : NmR w v ns := by
 rcases h.2 with ⟨e, e0⟩ | ⟨g, cap, cur, e, hb, hg, h1, h2, h3, h4⟩
 · exact ⟨none, 0, by rw [e, e0], by omega, fun hp => by omega⟩
 · refine ⟨_, cap, e, h1, fun _ => ⟨g, 0, rfl, fun i hi => ?_⟩⟩
   have h9 : cur[0 + i]? = some (.string (baF (ns.getD i []))) := by
     rw [Nat.zero_add, ← Array.getElem?_toList]
     have h8 : (cur.toList.take (ns.length * 1))[i]? = (ns.map strV)[i]? := by rw [h4]
     rw [List.getElem?_take_of_lt (by omega), List.getElem?_map] at h8
     rw [h8, List.getD, List.getElem?_eq_getElem hi]
     rfl
   rw [Nat.zero_add] at h9 ⊢
   exact cell_of_row2 hg i h9
def fnL (l : List Nd) : Int → List (List UInt8) → Int × Int
 | at_, [] => (at_, 0)
 | at_, nm :: ns => if plkE (getF l at_) (baF nm) = 0 then fnL l (plkI (getF l at_) (baF nm)) ns else (0, plkE (getF l at_) (baF nm))
theorem rightT_c (a : Option Addr) (cap : Nat) (l : List Nd) (w : World) (h : IsNs w a l) (hm : l.length ≤ 100000) :
   Calls Try.prog 7 #[.slice a l.length cap] w fun e w' => e = .returned (.bool (rightD l)) ∧ Below w.heap.size w w' := by
 refine (right_c a cap l w h hm).mono ?_
 rintro e w' ⟨b, rfl, h1, h2⟩
 refine ⟨?_, h2⟩
 rw [rightD_iff] at h1
 have : b = rightD l := by
   cases b <;> cases q : rightD l <;> simp_all
 rw [this]
def FnP (r : Int × Int) (w : World) (e : Ending) (w' : World) : Prop := e = .returned (.tuple #[.int .u32 r.1, .int .i64 r.2]) ∧ Below w.heap.size w w'
def Leads (l : List Nd) : Prop := ∀ f s, plkE (getF l f) s = 0 → ∃ y, getF l (plkI (getF l f) s) = some y
set_option maxHeartbeats 4000000 in
theorem tFind_c (a : Option Addr) (cap : Nat) (l : List Nd) (s : ByteArray) (ns : List (List UInt8)) (w : World) (h : IsNs w a l) (hm : l.length ≤ 40) (hk : ∀ x ∈ l, x.ks.length ≤ 100000) (hn3 : ∀ x ∈ l, x.k ≠ 3) (hr : rightD l = true) (hl : Leads l) (hs : s.size ≤ 1000) (hsp : Pa.splitF s.data.toList = some ns) :
   Calls Try.prog 6 #[.slice a l.length cap, .string s] w (FnP (fnL l 1 ns) w) := by
 have SC := hid (split_c s w (by unfold maxLen; omega))
 have SP := hid hsp
 have H := hid h
 have RC : Hid (∀ W, Below w.heap.size w W → Calls Try.prog 7 #[.slice a l.length cap] W fun e w' => e = .returned (.bool true) ∧ Below W.heap.size W w') := hid (fun W hW => by have := rightT_c a cap l W (h.later hW) (by omega); rw [hr] at this; exact this)
 have LC : Hid (∀ W f s, Below w.heap.size w W → Calls Try.prog 13 #[.slice a l.length cap, .int .u32 f, .string s] W fun e w' => e = .returned (.tuple #[.int .u32 (plkI (getF l f) s), .int .i64 (plkE (getF l f) s)]) ∧ Below W.heap.size W w') := hid (fun W f s hW => tLook_c a cap l f s W (h.later hW) (by omega) hk)
 have PC : Hid (∀ W f, Below w.heap.size w W → Calls Try.prog 14 #[.slice a l.length cap, .int .u32 f] W fun e w' => e = .returned (.int .i64 (plI l f)) ∧ Below W.heap.size W w') := hid (fun W f hW => placeOf_c a cap l f W (h.later hW) (by omega))
 have LD := hid hl
 have N3 := hid hn3
 obtain ⟨R, HR⟩ : ∃ R, Hid (fnL l 1 ns = R) := ⟨_, hid rfl⟩
 rw [HR.out]
 obtain ⟨n, hn⟩ : ∃ n, n = l.length := ⟨_, rfl⟩
 have HN := hid hn
 rw [← hn] at RC LC PC hm ⊢
 clear h hk hn3 hr hl hsp hn
 go_enter Try.func6, Try.ntmps6
 go_upto_region 2 with (go_at_call 12; refine SC.out.mono ?_; rintro _ w1 ⟨⟨ns', v, hsn, rfl, hown⟩ | ⟨hsn, rfl⟩, hb1⟩)
 rotate_left
 · exact absurd (SP.out.symm.trans hsn) (by simp)
 · have hns : ns' = ns := by have := SP.out.symm.trans hsn; simp only [Option.some.injEq] at this; exact this.symm
   subst hns
   have NR := hid (NmR.own hown)
   have B1 := hid hb1
   clear hown hb1 SC SP hsn
   have RC1 := hid (RC.out w1 B1.out)
   obtain ⟨a0, cap0, rfl, _⟩ := NR.out
   go_wp2_with (go_at_call 7; refine RC1.out.mono ?_; rintro _ w2 ⟨rfl, hb2⟩; have B2 := hid (B1.out.trans (hb2.mono B1.out.size)); have NR2 := hid (NR.out.later hb2); clear hb2)
   clear RC RC1 NR
   go_loopg [6, 8, 9] ns'.length (fun gk v6 v8 v9 wr => ∃ (at_ : Int) (ns : List (List UInt8)), ns.length = gk ∧ v8 = .int .u32 at_ ∧ v9 = .int .i64 0 ∧ Hid (NmR wr v6 ns) ∧ Hid (fnL l at_ ns = R) ∧ Hid (Below w.heap.size w wr))
   case atStart => exact ⟨1, ns', rfl, rfl, rfl, NR2, HR, B2⟩
   case round =>
     clear NR2 B2 HR
     obtain ⟨at_, ns, rfl, rfl, rfl, NX, FX, BX⟩ := hrel
     obtain ⟨a1, cap1, hv6, hcap1, hce⟩ := NX.out
     subst hv6
     cases ns with
     | nil =>
       have ER : Hid (R = (at_, 0)) := hid FX.out.symm
       clear hce
       go_wp2
       go_ret2
       rw [ER.out]
       exact ⟨rfl, BX.out⟩
     | cons nm ns =>
       obtain ⟨b1, off1, rfl, hc⟩ := hce (by simp)
       have c0 := hc 0 (by simp)
       have HC := hid hc
       clear hc hce
       simp only [Nat.add_zero, List.getD_cons_zero] at c0
       obtain ⟨nk, Hnk⟩ : ∃ nk, Hid (nk = ns.length) := ⟨_, hid rfl⟩
       have hlen : (nm :: ns).length = nk + 1 := by rw [Hnk.out]; rfl
       have LC1 := hid (LC.out wr at_ (baF nm) BX.out)
       rw [hlen]
       rw [hlen] at hcap1
       by_cases he : plkE (getF l at_) (baF nm) = 0
       · obtain ⟨y, hy⟩ := LD.out at_ (baF nm) he
         have FX2 : Hid (fnL l (plkI (getF l at_) (baF nm)) ns = R) := hid (by have := FX.out; rw [fnL, if_pos he] at this; exact this)
         rw [he] at LC1
         obtain ⟨i, e1, e2, e3⟩ := pl_some hy
         have PC1 := PC.out
         generalize plkI (getF l at_) (baF nm) = f at *
         rw [← HN.out] at e2
         have e2I : (i : Int) < (n : Int) := by omega
         obtain ⟨b, off, rfl, _⟩ := H.out.2.2 (by have := HN.out; omega)
         have K1 : Hid (∀ W, Below w.heap.size w W → W.cell? ⟨b, off + i * 6 + 1, none⟩ = some (.int .u8 y.k)) := hid (fun W hW => by have := ((H.out.later hW).at (i := i) (by rw [← HN.out]; exact e2)).all.2.1; rw [e3] at this; exact this)
         have hy3 : y.k ≠ 3 := N3.out y (by rw [← e3]; exact getD_mem _ _ (by rw [← HN.out]; exact e2))
         have hyb : (y.k != 3) = true := by simp [hy3]
         have PC2 : Hid (∀ W, Below w.heap.size w W → Calls Try.prog 14 #[.slice (some ⟨b, off, none⟩) n cap, .int .u32 f] W fun e w' => e = .returned (.int .i64 (i : Int)) ∧ Below W.heap.size W w') := hid (fun W hW => by have := PC1 W f hW; rw [e1] at this; exact this)
         clear PC1 e1 e3 hy he FX hy3
         generalize y.k = yk at *
         go_upto_region 9 with (go_at_call 13; refine LC1.out.mono ?_; rintro _ w3 ⟨rfl, hb3⟩; have B3 := hid (BX.out.trans (hb3.mono BX.out.size)); have Z3 := hid hb3; clear hb3)
         have hc1 : 1 ≤ cap1 := by omega
         have hc1I : (1 : Int) ≤ (cap1 : Int) := by omega
         go_region
         have B4 := hid (B3.out.drew)
         have NW : Hid (NmR w3.drew (.slice (if cap1 = 1 then some ⟨b1, off1, none⟩ else some ⟨b1, off1 + 1, none⟩) nk (cap1 - 1)) ns) := hid (by
           refine ⟨_, cap1 - 1, by rw [Hnk.out], by rw [← Hnk.out]; omega, fun hp => ⟨b1, off1 + 1, by rw [if_neg (by have := Hnk.out; omega)], fun j hj => ?_⟩⟩
           have h7 := HC.out (j + 1) (by simpa using hj)
           have h8 : w3.cell? ⟨b1, off1 + (j + 1), none⟩ = some (.string (baF ((nm :: ns).getD (j + 1) []))) := cell_later Z3.out h7
           rw [List.getD_cons_succ] at h8
           rw [show off1 + 1 + j = off1 + (j + 1) by omega]
           exact h8)
         generalize (if cap1 = 1 then some (⟨b1, off1, none⟩ : Addr) else some ⟨b1, off1 + 1, none⟩) = a9 at *
         generalize w3.drew = w4 at *
         have PC3 := hid (PC2.out w4 B4.out)
         go_wp2_with (go_at_call 14; refine PC3.out.mono ?_; rintro _ w5 ⟨rfl, hb5⟩; have B5 := hid (B4.out.trans (hb5.mono B4.out.size)); have N5 := hid (NW.out.later hb5); clear hb5; have k1 := K1.out w5 B5.out)
         go_roundg ns.length
         case measure => simp
         case rel => exact ⟨f, ns, rfl, rfl, rfl, N5, FX2, B5⟩
       · have heb : (plkE (getF l at_) (baF nm) != 0) = true := by simp [he]
         have ER : Hid (R = (0, plkE (getF l at_) (baF nm))) := hid (by rw [← FX.out, fnL, if_neg he])
         generalize plkE (getF l at_) (baF nm) = ee at *
         generalize plkI (getF l at_) (baF nm) = ff at *
         go_wp2_with (go_at_call 13; refine LC1.out.mono ?_; rintro _ w3 ⟨rfl, hb3⟩; have B3 := hid (BX.out.trans (hb3.mono BX.out.size)); clear hb3)
         go_ret2
         rw [ER.out]
         exact ⟨rfl, B3.out⟩
theorem plk_er (o : Option Nd) (s : ByteArray) : plkI (o.map Nd.er) s = plkI o s ∧ plkE (o.map Nd.er) s = plkE o s := by
 cases o <;> exact ⟨rfl, rfl⟩
theorem fnL_er (l : List Nd) : ∀ (ns : List (List UInt8)) (at_ : Int), fnL (l.map Nd.er) at_ ns = fnL l at_ ns
 | [], _ => rfl
 | nm :: ns, at_ => by
   unfold fnL
   rw [getF_er, (plk_er _ _).1, (plk_er _ _).2, fnL_er l ns]
theorem Rt.leads {l : List Nd} (h : Rt l) : Leads l := by
 intro f s he
 cases hx : getF l f with
 | none => rw [hx] at he; exact absurd he (by show ¬ (5 : Int) = 0; decide)
 | some x =>
   rw [hx] at he
   unfold plkE at he
   simp only at he
   unfold plkI
   simp only
   by_cases hk : x.k = 2
   · rw [if_pos hk] at he ⊢
     cases hq : kq x.ks s with
     | none => rw [hq] at he; exact absurd he (by decide)
     | some q =>
       have hm : q ∈ x.ks := by
         obtain ⟨i, _, h2, h3⟩ := en_some hq
         rw [← h3]
         exact getD_mem _ _ h2
       have := (h.kid x (getF_mem hx).1 q hm).2
       obtain ⟨y, hy⟩ := Option.isSome_iff_exists.1 this
       exact ⟨y, hy⟩
   · rw [if_neg hk] at he
     exact absurd he (by decide)
theorem Leads.er {l : List Nd} (h : Leads (l.map Nd.er)) : Leads l := by
 intro f s he
 have h1 := h f s (by rw [getF_er, (plk_er _ _).2]; exact he)
 obtain ⟨y, hy⟩ := h1
 rw [getF_er, getF_er, (plk_er _ _).1] at hy
 cases q : getF l (plkI (getF l f) s) with
 | none => rw [q] at hy; cases hy
 | some z => exact ⟨z, rfl⟩
theorem er_mem {l : List Nd} {x : Nd} (h : x ∈ l) : x.er ∈ l.map Nd.er := List.mem_map_of_mem h
theorem er_len {l L : List Nd} (h : l.map Nd.er = L) : l.length = L.length := by rw [← h, List.length_map]
def TrE (w : World) (a : Option Addr) (L l : List Nd) : Prop := Tr w a L ∧ L.map Nd.er = l
theorem TrE.later {w w' : World} {a : Option Addr} {L l : List Nd} (h : TrE w a L l) (hb : Below w.heap.size w w') : TrE w' a L l := ⟨h.1.later hb, h.2⟩
theorem TrE.len {w : World} {a : Option Addr} {L l : List Nd} (h : TrE w a L l) : L.length = l.length := er_len h.2
def OpP (w : World) (r : Int × List Nd) (e : Ending) (w' : World) : Prop := ∃ a c L, e = .returned (.tuple #[.slice a L.length c, .int .i64 r.1]) ∧ TrE w' a L r.2 ∧ Below w.heap.size w w'
theorem ApplyL_few {l : List Nd} {o : Rec} : (ApplyL l o).2.length ≤ 43 := (ApplyL_gd l o).2
theorem apply_c {a : Option Addr} {L l : List Nd} (c : Nat) (o : Rec) (w : World) (h : TrE w a L l) (hm : l.length ≤ 900) (ho : o.Wf) :
   Calls Try.prog 5 #[.slice a L.length c, o.opV] w (OpP w (ApplyL l o)) := by
 have hk := tApply_c sortOK a c L o w h.1 (by rw [h.len]; exact hm) ho
 rw [h.2] at hk
 refine hk.mono ?_
 rintro e w' ⟨v, L', rfl, hn, he, hb⟩
 obtain ⟨a', c', rfl, ht⟩ := hn.tr (by rw [er_len he]; have := ApplyL_few (l := l) (o := o); omega)
 exact ⟨a', c', L', rfl, ⟨ht, he⟩, hb⟩
def mkO (f d : Int) (s : ByteArray) : Rec := ⟨2, f, d, s, 0, ⟨#[]⟩, 0, ⟨#[]⟩, 0⟩
def moO (g : Int) : Rec := ⟨7, 0, 1, ⟨#[97]⟩, g, ⟨#[99]⟩, 0, ⟨#[]⟩, 0⟩
def upO : Rec := ⟨7, 0, 1, ⟨#[98]⟩, 10, ⟨#[100]⟩, 0, ⟨#[]⟩, 0⟩
def atA : Nat → Int
 | 0 => 1
 | i + 1 => 10 + (i : Int)
def atB : Nat → Int
 | 0 => 1
 | i + 1 => 30 + (i : Int)
def tA : Nat → List Nd
 | 0 => newL
 | i + 1 => (ApplyL (tA i) (mkO (10 + (i : Int)) (atA i) ⟨#[97]⟩)).2
def tB (d : Nat) : Nat → List Nd
 | 0 => tA d
 | i + 1 => (ApplyL (tB d i) (mkO (30 + (i : Int)) (atB i) ⟨#[98]⟩)).2
def tX (d j : Nat) : List Nd := (ApplyL (tB d j) (moO (atB j))).2
def rep (c : UInt8) : Nat → List UInt8
 | 0 => []
 | i + 1 => rep c i ++ [47, c]
def nC (d j : Nat) : List (List UInt8) := List.replicate j [98] ++ ([99] :: List.replicate (d - 1) [97])
def okT (l : List Nd) : Bool := rightD l && decide (l.length ≤ 40) && l.all (fun x => x.k != 3)
def six : List Nat := [1, 2, 3, 4, 5, 6]
def five : List Nat := [1, 2, 3, 4, 5]
theorem mvA : ([0, 1, 2, 3, 4, 5].all fun i => (ApplyL (tA i) (mkO (10 + (i : Int)) (atA i) ⟨#[97]⟩)).1 == 0 && decide ((tA i).length ≤ 40)) = true := by kernel_rfl
theorem mvB : (six.all fun d => [0, 1, 2, 3, 4].all fun i => (ApplyL (tB d i) (mkO (30 + (i : Int)) (atB i) ⟨#[98]⟩)).1 == 0 && decide ((tB d i).length ≤ 40)) = true := by kernel_rfl
theorem mvC : (six.all fun d => five.all fun j => okT (tB d j) && (ApplyL (tB d j) (moO (atB j))).1 == 0 && okT (tX d j) && decide ((tX d j).length = (tB d j).length)) = true := by kernel_rfl
theorem mvD : (six.all fun d => five.all fun j => decide (fnL (tB d j) 1 (List.replicate d [97]) = (atA d, 0)) && decide (fnL (tX d j) 1 (nC d j) = (atA d, 0)) && decide (fnL (tX d j) 1 (List.replicate d [97]) = (0, 5)) && decide ((ApplyL (tX d j) upO).1 = 10)) = true := by kernel_rfl
theorem mvE : (six.all fun d => five.all fun j => decide (Pa.splitF (rep 97 d) = some (List.replicate d [97])) && decide (Pa.splitF (rep 98 j ++ [47, 99] ++ (rep 97 d).drop 2) = some (nC d j)) && decide ((rep 97 d).length ≤ 12) && decide ((rep 98 j).length ≤ 10)) = true := by kernel_rfl
theorem six_mem {d : Nat} (h1 : 1 ≤ d) (h2 : d ≤ 6) : d ∈ six := by unfold six; simp only [List.mem_cons, List.not_mem_nil, or_false]; omega
theorem five_mem {d : Nat} (h1 : 1 ≤ d) (h2 : d ≤ 5) : d ∈ five := by unfold five; simp only [List.mem_cons, List.not_mem_nil, or_false]; omega
theorem mvA' {i : Nat} (h : i < 6) : (ApplyL (tA i) (mkO (10 + (i : Int)) (atA i) ⟨#[97]⟩)).1 = 0 ∧ (tA i).length ≤ 40 := by
 have := List.all_eq_true.1 mvA i (by simp only [List.mem_cons, List.not_mem_nil, or_false]; omega)
 simpa using this
theorem mvB' {d i : Nat} (h1 : 1 ≤ d) (h2 : d ≤ 6) (h : i < 5) : (ApplyL (tB d i) (mkO (30 + (i : Int)) (atB i) ⟨#[98]⟩)).1 = 0 ∧ (tB d i).length ≤ 40 := by
 have := List.all_eq_true.1 (List.all_eq_true.1 mvB d (six_mem h1 h2)) i (by simp only [List.mem_cons, List.not_mem_nil, or_false]; omega)
 simpa using this
theorem mvC' {d j : Nat} (h1 : 1 ≤ d) (h2 : d ≤ 6) (h3 : 1 ≤ j) (h4 : j ≤ 5) : okT (tB d j) = true ∧ (ApplyL (tB d j) (moO (atB j))).1 = 0 ∧ okT (tX d j) = true ∧ (tX d j).length = (tB d j).length := by
 have := List.all_eq_true.1 (List.all_eq_true.1 mvC d (six_mem h1 h2)) j (five_mem h3 h4)
 simp only [Bool.and_eq_true, beq_iff_eq, decide_eq_true_eq] at this
 exact ⟨this.1.1.1, this.1.1.2, this.1.2, this.2⟩
theorem mvD' {d j : Nat} (h1 : 1 ≤ d) (h2 : d ≤ 6) (h3 : 1 ≤ j) (h4 : j ≤ 5) : fnL (tB d j) 1 (List.replicate d [97]) = (atA d, 0) ∧ fnL (tX d j) 1 (nC d j) = (atA d, 0) ∧ fnL (tX d j) 1 (List.replicate d [97]) = (0, 5) ∧ (ApplyL (tX d j) upO).1 = 10 := by
 have := List.all_eq_true.1 (List.all_eq_true.1 mvD d (six_mem h1 h2)) j (five_mem h3 h4)
 simp only [Bool.and_eq_true, decide_eq_true_eq] at this
 exact ⟨this.1.1.1, this.1.1.2, this.1.2, this.2⟩
theorem mvE' {d j : Nat} (h1 : 1 ≤ d) (h2 : d ≤ 6) (h3 : 1 ≤ j) (h4 : j ≤ 5) : Pa.splitF (rep 97 d) = some (List.replicate d [97]) ∧ Pa.splitF (rep 98 j ++ [47, 99] ++ (rep 97 d).drop 2) = some (nC d j) ∧ (rep 97 d).length ≤ 12 ∧ (rep 98 j).length ≤ 10 := by
 have := List.all_eq_true.1 (List.all_eq_true.1 mvE d (six_mem h1 h2)) j (five_mem h3 h4)
 simp only [Bool.and_eq_true, decide_eq_true_eq] at this
 exact ⟨this.1.1.1, this.1.1.2, this.1.2, this.2⟩
theorem rep_len (c : UInt8) : ∀ i, (rep c i).length = 2 * i
 | 0 => rfl
 | i + 1 => by rw [rep, List.length_append, rep_len c i]; simp; omega
theorem findE_c {a : Option Addr} {L l : List Nd} (c : Nat) {s : ByteArray} {ns : List (List UInt8)} (w : World) (h : TrE w a L l) (ho : okT l = true) (hq : s.size ≤ 1000) (hs : Pa.splitF s.data.toList = some ns) :
   Calls Try.prog 6 #[.slice a L.length c, .string s] w (FnP (fnL l 1 ns) w) := by
 unfold okT at ho
 simp only [Bool.and_eq_true, decide_eq_true_eq, List.all_eq_true] at ho
 have he := h.2
 have := tFind_c a c L s ns w h.1.1 (by rw [er_len he]; exact ho.1.2) (fun x hx => by have := (h.1.2 x hx).2.2; omega) (fun x hx e => by
   have h9 := er_mem hx
   rw [he] at h9
   have h8 : x.er.k = 3 := e
   have := ho.2 _ h9
   rw [h8] at this
   cases this) (by rw [← rightD_er, he]; exact ho.1.1) (Leads.er (by rw [he]; exact (rightD_rt.1 ho.1.1).leads)) hq hs
 rw [← fnL_er, he] at this
 exact this
theorem mk_wf {f d : Int} {s : ByteArray} (h0 : 0 ≤ f) (h1 : f < 4294967296) (d0 : 0 ≤ d) (d1 : d < 4294967296) (hs : s.size ≤ maxLen) : (mkO f d s).Wf :=
 ⟨⟨by show (0 : Int) ≤ 2; omega, by show (2 : Int) < 256; omega⟩, ⟨h0, h1⟩, ⟨d0, d1⟩, ⟨by show (0 : Int) ≤ 0; omega, by show (0 : Int) < _; omega⟩, ⟨by show (0 : Int) ≤ 0; omega, by show (0 : Int) < _; omega⟩, ⟨by show (0 : Int) ≤ 0; omega, by show (0 : Int) < _; omega⟩, hs, by show 0 ≤ _; exact Nat.zero_le _, by show 0 ≤ _; exact Nat.zero_le _⟩
theorem rn_wf {d g : Int} {s t : ByteArray} (d0 : 0 ≤ d) (d1 : d < 4294967296) (g0 : 0 ≤ g) (g1 : g < 4294967296) (hs : s.size ≤ maxLen) (ht : t.size ≤ maxLen) : (⟨7, 0, d, s, g, t, 0, ⟨#[]⟩, 0⟩ : Rec).Wf :=
 ⟨⟨by show (0 : Int) ≤ 7; omega, by show (7 : Int) < 256; omega⟩, ⟨by show (0 : Int) ≤ 0; omega, by show (0 : Int) < _; omega⟩, ⟨d0, d1⟩, ⟨g0, g1⟩, ⟨by show (0 : Int) ≤ 0; omega, by show (0 : Int) < _; omega⟩, ⟨by show (0 : Int) ≤ 0; omega, by show (0 : Int) < _; omega⟩, hs, ht, by show 0 ≤ _; exact Nat.zero_le _⟩
theorem atA_b (i : Nat) (h : i ≤ 6) : 0 ≤ atA i ∧ atA i < 4294967296 := by
 cases i with
 | zero => show (0 : Int) ≤ 1 ∧ (1 : Int) < _; omega
 | succ i => show 0 ≤ 10 + (i : Int) ∧ 10 + (i : Int) < _; omega
theorem atB_b (i : Nat) (h : i ≤ 6) : 0 ≤ atB i ∧ atB i < 4294967296 := by
 cases i with
 | zero => show (0 : Int) ≤ 1 ∧ (1 : Int) < _; omega
 | succ i => show 0 ≤ 30 + (i : Int) ∧ 30 + (i : Int) < _; omega
theorem app_d (a b : ByteArray) : (a ++ b).data.toList = a.data.toList ++ b.data.toList := by simp [ByteArray.data_append]
theorem app_s (a b : ByteArray) : (a ++ b).size = a.size + b.size := by
 have h := congrArg List.length (app_d a b)
 have h1 : ∀ y : ByteArray, y.data.toList.length = y.size := fun _ => rfl
 rw [List.length_append, h1, h1, h1] at h
 exact h
theorem ext_d (a : ByteArray) (n : Nat) : (a.extract n a.size).data.toList = a.data.toList.drop n := by
 rw [ByteArray.data_extract, Array.toList_extract, List.extract_eq_take_drop]
 exact List.take_of_length_le (by rw [List.length_drop]; exact Nat.le_refl _)
theorem mkA_c {a : Option Addr} {L : List Nd} (c i : Nat) (W : World) (hi : i < 6) (h : TrE W a L (tA i)) :
   Calls Try.prog 5 #[.slice a L.length c, .agg #[.int .u8 2, .int .u32 (10 + (i : Int)), .int .u32 (atA i), .string ⟨#[97]⟩, .int .u32 0, .string ⟨#[]⟩, .int .u16 0, .string ⟨#[]⟩]] W (OpP W (0, tA (i + 1))) := by
 have := apply_c c (mkO (10 + (i : Int)) (atA i) ⟨#[97]⟩) W h (by have := (mvA' hi).2; omega) (mk_wf (by omega) (by omega) (atA_b i (by omega)).1 (atA_b i (by omega)).2 (by decide))
 rw [show ApplyL (tA i) (mkO (10 + (i : Int)) (atA i) ⟨#[97]⟩) = (0, tA (i + 1)) from Prod.ext (mvA' hi).1 rfl] at this
 exact this
theorem mkB_c {a : Option Addr} {L : List Nd} (c i : Nat) {d : Nat} (W : World) (h1 : 1 ≤ d) (h2 : d ≤ 6) (hi : i < 5) (h : TrE W a L (tB d i)) :
   Calls Try.prog 5 #[.slice a L.length c, .agg #[.int .u8 2, .int .u32 (30 + (i : Int)), .int .u32 (atB i), .string ⟨#[98]⟩, .int .u32 0, .string ⟨#[]⟩, .int .u16 0, .string ⟨#[]⟩]] W (OpP W (0, tB d (i + 1))) := by
 have := apply_c c (mkO (30 + (i : Int)) (atB i) ⟨#[98]⟩) W h (by have := (mvB' h1 h2 hi).2; omega) (mk_wf (by omega) (by omega) (atB_b i (by omega)).1 (atB_b i (by omega)).2 (by decide))
 rw [show ApplyL (tB d i) (mkO (30 + (i : Int)) (atB i) ⟨#[98]⟩) = (0, tB d (i + 1)) from Prod.ext (mvB' h1 h2 hi).1 rfl] at this
 exact this
theorem okT_few {l : List Nd} (h : okT l = true) : l.length ≤ 40 := by
 unfold okT at h
 simp only [Bool.and_eq_true, decide_eq_true_eq] at h
 exact h.1.2
theorem moX_c {a : Option Addr} {L : List Nd} (c : Nat) {d j : Nat} (W : World) (h1 : 1 ≤ d) (h2 : d ≤ 6) (h3 : 1 ≤ j) (h4 : j ≤ 5) (h : TrE W a L (tB d j)) :
   Calls Try.prog 5 #[.slice a L.length c, .agg #[.int .u8 7, .int .u32 0, .int .u32 1, .string ⟨#[97]⟩, .int .u32 (atB j), .string ⟨#[99]⟩, .int .u16 0, .string ⟨#[]⟩]] W (OpP W (0, tX d j)) := by
 have := apply_c c (moO (atB j)) W h (by have := okT_few (mvC' h1 h2 h3 h4).1; omega) (rn_wf (by omega) (by omega) (atB_b j (by omega)).1 (atB_b j (by omega)).2 (by decide) (by decide))
 rw [show ApplyL (tB d j) (moO (atB j)) = (0, tX d j) from Prod.ext (mvC' h1 h2 h3 h4).2.1 rfl] at this
 exact this
theorem upX_c {a : Option Addr} {L : List Nd} (c : Nat) {d j : Nat} (W : World) (h1 : 1 ≤ d) (h2 : d ≤ 6) (h3 : 1 ≤ j) (h4 : j ≤ 5) (h : TrE W a L (tX d j)) :
   Calls Try.prog 5 #[.slice a L.length c, .agg #[.int .u8 7, .int .u32 0, .int .u32 1, .string ⟨#[98]⟩, .int .u32 10, .string ⟨#[100]⟩, .int .u16 0, .string ⟨#[]⟩]] W (OpP W (10, (ApplyL (tX d j) upO).2)) := by
 have := apply_c c upO W h (by have := okT_few (mvC' h1 h2 h3 h4).2.2.1; omega) (rn_wf (by omega) (by omega) (by omega) (by omega) (by decide) (by decide))
 rw [show ApplyL (tX d j) upO = (10, (ApplyL (tX d j) upO).2) from Prod.ext (mvD' h1 h2 h3 h4).2.2.2 rfl] at this
 exact this
end Go.Proofs.Ytgbdplammniidaa
