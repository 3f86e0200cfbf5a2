/-
  Look and Get of the program's tree.
  Find of the program's tree, where no symbolic link is in the tree.
  The law's live: two operations, a path, and whether that is a tree.
  The document's Fold once more: the tree that it answers is the call's own.
  What the tree's laws share: a tree of operations.
-/
import Derived.Test.YtgbdplammniidaaGreatSrBs
import Derived.Test.YtgbdplammniidaaGreatSrAo
namespace Go.Proofs.YtgbdplammniidaaGreat
open Go.RowKit Go.ChangeShapes Go.WideShapes Go.ChangeAt
set_option linter.unusedVariables false
set_option linter.unusedSimpArgs false
set_option maxRecDepth 100000
theorem pl_none {l : List Nd} {f : Int} (h : getF l f = none) : plI l f = -1 := by
 unfold plI
 have e : l.findIdx? (fun x => x.fid == f) = none := by
   rw [List.findIdx?_eq_none_iff]
   intro x hx
   unfold getF at h
   rw [List.find?_eq_none] at h
   have := h x hx
   simpa using this
 rw [e]
theorem pl_some {l : List Nd} {f : Int} {x : Nd} (h : getF l f = some x) : ∃ i : Nat, plI l f = (i : Int) ∧ i < l.length ∧ l.getD i Nd.no = x := by
 induction l with
 | nil => cases h
 | cons y t ih =>
   unfold getF at h
   rw [List.find?_cons] at h
   cases e : y.fid == f with
   | true =>
     rw [e] at h
     cases h
     refine ⟨0, ?_, by simp, rfl⟩
     unfold plI
     simp only [List.findIdx?_cons, e, if_true]
   | false =>
     rw [e] at h
     obtain ⟨i, h1, h2, h3⟩ := ih h
     refine ⟨i + 1, ?_, by simpa using h2, by simpa [List.getD] using h3⟩
     unfold plI at h1 ⊢
     rw [List.findIdx?_cons, e]
     cases q : t.findIdx? (fun x => x.fid == f) with
     | none => rw [q] at h1; simp only at h1; omega
     | some k => rw [q] at h1; simp only at h1 ⊢; simp; omega
def plkI (o : Option Nd) (s : ByteArray) : Int := match o with
 | none => 0
 | some x => if x.k = 2 then (match kq x.ks s with | some q => q.fid | none => 0) else 0
def plkE (o : Option Nd) (s : ByteArray) : Int := match o with
 | none => 5
 | some x => if x.k = 2 then (match kq x.ks s with | some _ => 0 | none => 5) else 7
set_option maxHeartbeats 2000000 in
theorem tLook_c (a : Option Addr) (cap : Nat) (l : List Nd) (f : Int) (s : ByteArray) (w : World) (h : IsNs w a l) (hm : l.length ≤ 100000) (hk : ∀ x ∈ l, x.ks.length ≤ 100000) :
   Calls Tryz.prog 13 #[.slice a l.length cap, .int .u32 f, .string s] w fun e w' => e = .returned (.tuple #[.int .u32 (plkI (getF l f) s), .int .i64 (plkE (getF l f) s)]) ∧ Below w.heap.size w w' := by
 have PC := hid (placeOf_c a cap l f w h hm)
 cases hx : getF l f with
 | none =>
   rw [pl_none hx] at PC
   clear h hx hk
   generalize l.length = n at *
   show Calls _ _ _ _ fun e w' => e = .returned (.tuple #[.int .u32 0, .int .i64 5]) ∧ _
   go_enter Tryz.func13, Tryz.ntmps13
   go_wp2_with (go_at_call 23; refine PC.out.mono ?_; rintro _ w1 ⟨rfl, hb1⟩)
   go_ret2
   exact ⟨rfl, hb1⟩
 | some x =>
   obtain ⟨i, e1, e2, e3⟩ := pl_some hx
   rw [e1] at PC
   obtain ⟨b, off, rfl, _⟩ := h.2.2 (by omega)
   have hxm : x ∈ l := by rw [← e3]; exact getD_mem _ _ e2
   have hkx := hk x hxm
   have OKX := hid (h.2.1 x hxm)
   have HA := hid (h.at (i := i) e2)
   rw [e3] at HA
   have e2I : (i : Int) < l.length := by omega
   clear h hx hk e1 e3 hxm
   generalize l.length = n at *
   by_cases hk2 : x.k = 2
   · have CC : Hid (∀ W, Below w.heap.size w W → W.cell? ⟨b, off + i * 6 + 1, none⟩ = some (.int .u8 2)) := hid (fun W hW => by have := (HA.out.later hW).all.2.1; rw [hk2] at this; exact this)
     have EC : Hid (∀ W, Below w.heap.size w W → Calls Tryz.prog 29 #[.pointer (some ⟨b, off + i * 6, none⟩), .string s] W fun e w' => e = .returned (.int .i64 (enI x.ks s)) ∧ Below W.heap.size W w') := hid (fun W hW => entryOf_c b (off + i * 6) x s W (HA.out.later hW).all.2.2.2.2.2 (OKX.out.later hW).2.2.2.2.2 hkx)
     cases hq : kq x.ks s with
     | none =>
       have e9 := en_none hq
       rw [e9] at EC
       have R1 : plkI (some x) s = 0 := by unfold plkI; simp only [if_pos hk2, hq]
       have R2 : plkE (some x) s = 5 := by unfold plkE; simp only [if_pos hk2, hq]
       rw [R1, R2]
       clear R1 R2 hq e9 OKX HA hk2 hkx
       go_enter Tryz.func13, Tryz.ntmps13
       go_wp2_with (first
         | (go_at_call 23; refine PC.out.mono ?_; rintro _ w1 ⟨rfl, hb1⟩; have B1 := hid hb1; clear hb1; have c1 := CC.out w1 B1.out; have E1 := hid (EC.out w1 B1.out))
         | (go_at_call 29; refine E1.out.mono ?_; rintro _ w2 ⟨rfl, hb2⟩; have B2 := hid (B1.out.trans (hb2.mono B1.out.size)); clear hb2))
       go_ret2
       exact ⟨rfl, B2.out⟩
     | some q =>
       obtain ⟨k, e9, k2, k3⟩ := en_some hq
       rw [e9] at EC
       have R1 : plkI (some x) s = q.fid := by unfold plkI; simp only [if_pos hk2, hq]
       have R2 : plkE (some x) s = 0 := by unfold plkE; simp only [if_pos hk2, hq]
       rw [R1, R2]
       obtain ⟨b2, off2, hka, _⟩ := OKX.out.2.2.2.2.2.2.2 (by omega)
       have K5 : Hid (∀ W, Below w.heap.size w W → W.cell? ⟨b, off + i * 6 + 5, none⟩ = some (.slice (some ⟨b2, off2, none⟩) x.ks.length x.kc)) := hid (fun W hW => by have := (HA.out.later hW).all.2.2.2.2.2; rw [hka] at this; exact this)
       have K1 : Hid (∀ W, Below w.heap.size w W → W.cell? ⟨b2, off2 + k * 2 + 1, none⟩ = some (.int .u32 q.fid)) := hid (fun W hW => by
         have h2 := (OKX.out.later hW).2.2.2.2.2
         rw [hka] at h2
         have h3 := (h2.at (i := k) k2).2
         rw [k3] at h3
         exact h3)
       have k2I : (k : Int) < x.ks.length := by omega
       clear R1 R2 hq e9 OKX HA hk2 k3 hka
       generalize x.ks.length = nk at *
       generalize x.kc = kc at *
       generalize q.fid = qf at *
       go_enter Tryz.func13, Tryz.ntmps13
       go_wp2_with (first
         | (go_at_call 23; refine PC.out.mono ?_; rintro _ w1 ⟨rfl, hb1⟩; have B1 := hid hb1; clear hb1; have c1 := CC.out w1 B1.out; have E1 := hid (EC.out w1 B1.out))
         | (go_at_call 29; refine E1.out.mono ?_; rintro _ w2 ⟨rfl, hb2⟩; have B2 := hid (B1.out.trans (hb2.mono B1.out.size)); clear hb2; have c5 := K5.out w2 B2.out; have c6 := K1.out w2 B2.out))
       go_ret2
       exact ⟨rfl, B2.out⟩
   · have CC : Hid (∀ W, Below w.heap.size w W → W.cell? ⟨b, off + i * 6 + 1, none⟩ = some (.int .u8 x.k)) := hid (fun W hW => (HA.out.later hW).all.2.1)
     have hkb : (x.k != 2) = true := by simp [hk2]
     have R1 : plkI (some x) s = 0 := by unfold plkI; simp only [if_neg hk2]
     have R2 : plkE (some x) s = 7 := by unfold plkE; simp only [if_neg hk2]
     rw [R1, R2]
     clear R1 R2 OKX HA hkx
     generalize x.k = xk at *
     go_enter Tryz.func13, Tryz.ntmps13
     go_wp2_with (go_at_call 23; refine PC.out.mono ?_; rintro _ w1 ⟨rfl, hb1⟩; have B1 := hid hb1; clear hb1; have c1 := CC.out w1 B1.out)
     go_ret2
     exact ⟨rfl, B1.out⟩
theorem RowAt.setLow {w : World} {base : Nat} {t : TypeId} {p : Option Addr} {vs : List Value} (h : RowAt w base t p vs) {g o : Nat} {v : Value} (hg : g < base) : RowAt (w.setCell ⟨g, o, none⟩ v) base t p vs := by
 rcases h with h | ⟨k, cs, fr, h1, h2, h3, h4⟩
 · exact .inl h
 · exact .inr ⟨k, cs, fr, h1, h2, by rw [heap_setCell_other _ _ _ _ (by show k ≠ g; omega)]; exact h3, h4⟩
theorem NdR.setLow {w : World} {base : Nat} {x : Nd} (h : NdR w base x) {g o : Nat} {v : Value} (hg : g < base) : NdR (w.setCell ⟨g, o, none⟩ v) base x := ⟨h.1, h.2.1, h.2.2.1.setLow hg, h.2.2.2.setLow hg⟩
def baF (l : List UInt8) : ByteArray := ⟨l.toArray⟩
def NmR (w : World) (v : Value) (ns : List (List UInt8)) : Prop := ∃ a cap, v = .slice a ns.length cap ∧ ns.length ≤ cap ∧ (0 < ns.length → ∃ b off, a = some ⟨b, off, none⟩ ∧ ∀ i, i < ns.length → w.cell? ⟨b, off + i, none⟩ = some (.string (baF (ns.getD i []))))
theorem NmR.later {w w' : World} {v : Value} {ns : List (List UInt8)} (h : NmR w v ns) (hb : Below w.heap.size w w') : NmR w' v ns := by
 obtain ⟨a, cap, h1, h2, h3⟩ := h
 refine ⟨a, cap, h1, h2, fun hp => ?_⟩
 obtain ⟨b, off, e, hc⟩ := h3 hp
 exact ⟨b, off, e, fun i hi => cell_later hb (hc i hi)⟩
theorem NmR.own {w : World} {base : Nat} {v : Value} {ns : List (List UInt8)} (h : w.ownsRow base 9 1 v ns.length (ns.map strV)) : NmR w v ns := by
 rcases h.2 with ⟨e, e0⟩ | ⟨g, cap, cur, e, hb, hg, h1, h2, h3, h4⟩
 · exact ⟨none, 0, by rw [e, e0], by omega, fun hp => by omega⟩
 · refine ⟨_, cap, e, h1, fun _ => ⟨g, 0, rfl, fun i hi => ?_⟩⟩
   have h9 : cur[0 + i]? = some (.string (baF (ns.getD i []))) := by
     rw [Nat.zero_add, ← Array.getElem?_toList]
     have h8 : (cur.toList.take (ns.length * 1))[i]? = (ns.map strV)[i]? := by rw [h4]
     rw [List.getElem?_take_of_lt (by omega), List.getElem?_map] at h8
     rw [h8, List.getD, List.getElem?_eq_getElem hi]
     rfl
   rw [Nat.zero_add] at h9 ⊢
   exact cell_of_row2 hg i h9
def fnL (l : List Nd) : Int → List (List UInt8) → Int × Int
 | at_, [] => (at_, 0)
 | at_, nm :: ns => if plkE (getF l at_) (baF nm) = 0 then fnL l (plkI (getF l at_) (baF nm)) ns else (0, plkE (getF l at_) (baF nm))
theorem rightT_c (a : Option Addr) (cap : Nat) (l : List Nd) (w : World) (h : IsNs w a l) (hm : l.length ≤ 100000) :
   Calls Tryz.prog 17 #[.slice a l.length cap] w fun e w' => e = .returned (.bool (rightD l)) ∧ Below w.heap.size w w' := by
 refine (right_c a cap l w h hm).mono ?_
 rintro e w' ⟨b, rfl, h1, h2⟩
 refine ⟨?_, h2⟩
 rw [rightD_iff] at h1
 have : b = rightD l := by
   cases b <;> cases q : rightD l <;> simp_all
 rw [this]
def FnP (r : Int × Int) (w : World) (e : Ending) (w' : World) : Prop := e = .returned (.tuple #[.int .u32 r.1, .int .i64 r.2]) ∧ Below w.heap.size w w'
def Leads (l : List Nd) : Prop := ∀ f s, plkE (getF l f) s = 0 → ∃ y, getF l (plkI (getF l f) s) = some y
set_option maxHeartbeats 4000000 in
theorem tFind_c (a : Option Addr) (cap : Nat) (l : List Nd) (s : ByteArray) (ns : List (List UInt8)) (w : World) (h : IsNs w a l) (hm : l.length ≤ 40) (hk : ∀ x ∈ l, x.ks.length ≤ 100000) (hn3 : ∀ x ∈ l, x.k ≠ 3) (hr : rightD l = true) (hl : Leads l) (hs : s.size ≤ 1000) (hsp : Pa.splitF s.data.toList = some ns) :
   Calls Tryz.prog 16 #[.slice a l.length cap, .string s] w (FnP (fnL l 1 ns) w) := by
 have SC := hid (split_c s w (by unfold maxLen; omega))
 have SP := hid hsp
 have H := hid h
 have RC : Hid (∀ W, Below w.heap.size w W → Calls Tryz.prog 17 #[.slice a l.length cap] W fun e w' => e = .returned (.bool true) ∧ Below W.heap.size W w') := hid (fun W hW => by have := rightT_c a cap l W (h.later hW) (by omega); rw [hr] at this; exact this)
 have LC : Hid (∀ W f s, Below w.heap.size w W → Calls Tryz.prog 13 #[.slice a l.length cap, .int .u32 f, .string s] W fun e w' => e = .returned (.tuple #[.int .u32 (plkI (getF l f) s), .int .i64 (plkE (getF l f) s)]) ∧ Below W.heap.size W w') := hid (fun W f s hW => tLook_c a cap l f s W (h.later hW) (by omega) hk)
 have PC : Hid (∀ W f, Below w.heap.size w W → Calls Tryz.prog 23 #[.slice a l.length cap, .int .u32 f] W fun e w' => e = .returned (.int .i64 (plI l f)) ∧ Below W.heap.size W w') := hid (fun W f hW => placeOf_c a cap l f W (h.later hW) (by omega))
 have LD := hid hl
 have N3 := hid hn3
 obtain ⟨R, HR⟩ : ∃ R, Hid (fnL l 1 ns = R) := ⟨_, hid rfl⟩
 rw [HR.out]
 obtain ⟨n, hn⟩ : ∃ n, n = l.length := ⟨_, rfl⟩
 have HN := hid hn
 rw [← hn] at RC LC PC hm ⊢
 clear h hk hn3 hr hl hsp hn
 go_enter Tryz.func16, Tryz.ntmps16
 go_upto_region 2 with (go_at_call 30; refine SC.out.mono ?_; rintro _ w1 ⟨⟨ns', v, hsn, rfl, hown⟩ | ⟨hsn, rfl⟩, hb1⟩)
 rotate_left
 · exact absurd (SP.out.symm.trans hsn) (by simp)
 · have hns : ns' = ns := by have := SP.out.symm.trans hsn; simp only [Option.some.injEq] at this; exact this.symm
   subst hns
   have NR := hid (NmR.own hown)
   have B1 := hid hb1
   clear hown hb1 SC SP hsn
   have RC1 := hid (RC.out w1 B1.out)
   obtain ⟨a0, cap0, rfl, _⟩ := NR.out
   go_wp2_with (go_at_call 17; refine RC1.out.mono ?_; rintro _ w2 ⟨rfl, hb2⟩; have B2 := hid (B1.out.trans (hb2.mono B1.out.size)); have NR2 := hid (NR.out.later hb2); clear hb2)
   clear RC RC1 NR
   go_loopg [6, 8, 9] ns'.length (fun gk v6 v8 v9 wr => ∃ (at_ : Int) (ns : List (List UInt8)), ns.length = gk ∧ v8 = .int .u32 at_ ∧ v9 = .int .i64 0 ∧ Hid (NmR wr v6 ns) ∧ Hid (fnL l at_ ns = R) ∧ Hid (Below w.heap.size w wr))
   case atStart => exact ⟨1, ns', rfl, rfl, rfl, NR2, HR, B2⟩
   case round =>
     clear NR2 B2 HR
     obtain ⟨at_, ns, rfl, rfl, rfl, NX, FX, BX⟩ := hrel
     obtain ⟨a1, cap1, hv6, hcap1, hce⟩ := NX.out
     subst hv6
     cases ns with
     | nil =>
       have ER : Hid (R = (at_, 0)) := hid FX.out.symm
       clear hce
       go_wp2
       go_ret2
       rw [ER.out]
       exact ⟨rfl, BX.out⟩
     | cons nm ns =>
       obtain ⟨b1, off1, rfl, hc⟩ := hce (by simp)
       have c0 := hc 0 (by simp)
       have HC := hid hc
       clear hc hce
       simp only [Nat.add_zero, List.getD_cons_zero] at c0
       obtain ⟨nk, Hnk⟩ : ∃ nk, Hid (nk = ns.length) := ⟨_, hid rfl⟩
       have hlen : (nm :: ns).length = nk + 1 := by rw [Hnk.out]; rfl
       have LC1 := hid (LC.out wr at_ (baF nm) BX.out)
       rw [hlen]
       rw [hlen] at hcap1
       by_cases he : plkE (getF l at_) (baF nm) = 0
       · obtain ⟨y, hy⟩ := LD.out at_ (baF nm) he
         have FX2 : Hid (fnL l (plkI (getF l at_) (baF nm)) ns = R) := hid (by have := FX.out; rw [fnL, if_pos he] at this; exact this)
         rw [he] at LC1
         obtain ⟨i, e1, e2, e3⟩ := pl_some hy
         have PC1 := PC.out
         generalize plkI (getF l at_) (baF nm) = f at *
         rw [← HN.out] at e2
         have e2I : (i : Int) < (n : Int) := by omega
         obtain ⟨b, off, rfl, _⟩ := H.out.2.2 (by have := HN.out; omega)
         have K1 : Hid (∀ W, Below w.heap.size w W → W.cell? ⟨b, off + i * 6 + 1, none⟩ = some (.int .u8 y.k)) := hid (fun W hW => by have := ((H.out.later hW).at (i := i) (by rw [← HN.out]; exact e2)).all.2.1; rw [e3] at this; exact this)
         have hy3 : y.k ≠ 3 := N3.out y (by rw [← e3]; exact getD_mem _ _ (by rw [← HN.out]; exact e2))
         have hyb : (y.k != 3) = true := by simp [hy3]
         have PC2 : Hid (∀ W, Below w.heap.size w W → Calls Tryz.prog 23 #[.slice (some ⟨b, off, none⟩) n cap, .int .u32 f] W fun e w' => e = .returned (.int .i64 (i : Int)) ∧ Below W.heap.size W w') := hid (fun W hW => by have := PC1 W f hW; rw [e1] at this; exact this)
         clear PC1 e1 e3 hy he FX hy3
         generalize y.k = yk at *
         go_upto_region 9 with (go_at_call 13; refine LC1.out.mono ?_; rintro _ w3 ⟨rfl, hb3⟩; have B3 := hid (BX.out.trans (hb3.mono BX.out.size)); have Z3 := hid hb3; clear hb3)
         have hc1 : 1 ≤ cap1 := by omega
         have hc1I : (1 : Int) ≤ (cap1 : Int) := by omega
         go_region
         have B4 := hid (B3.out.drew)
         have NW : Hid (NmR w3.drew (.slice (if cap1 = 1 then some ⟨b1, off1, none⟩ else some ⟨b1, off1 + 1, none⟩) nk (cap1 - 1)) ns) := hid (by
           refine ⟨_, cap1 - 1, by rw [Hnk.out], by rw [← Hnk.out]; omega, fun hp => ⟨b1, off1 + 1, by rw [if_neg (by have := Hnk.out; omega)], fun j hj => ?_⟩⟩
           have h7 := HC.out (j + 1) (by simpa using hj)
           have h8 : w3.cell? ⟨b1, off1 + (j + 1), none⟩ = some (.string (baF ((nm :: ns).getD (j + 1) []))) := cell_later Z3.out h7
           rw [List.getD_cons_succ] at h8
           rw [show off1 + 1 + j = off1 + (j + 1) by omega]
           exact h8)
         generalize (if cap1 = 1 then some (⟨b1, off1, none⟩ : Addr) else some ⟨b1, off1 + 1, none⟩) = a9 at *
         generalize w3.drew = w4 at *
         have PC3 := hid (PC2.out w4 B4.out)
         go_wp2_with (go_at_call 23; refine PC3.out.mono ?_; rintro _ w5 ⟨rfl, hb5⟩; have B5 := hid (B4.out.trans (hb5.mono B4.out.size)); have N5 := hid (NW.out.later hb5); clear hb5; have k1 := K1.out w5 B5.out)
         go_roundg ns.length
         case measure => simp
         case rel => exact ⟨f, ns, rfl, rfl, rfl, N5, FX2, B5⟩
       · have heb : (plkE (getF l at_) (baF nm) != 0) = true := by simp [he]
         have ER : Hid (R = (0, plkE (getF l at_) (baF nm))) := hid (by rw [← FX.out, fnL, if_neg he])
         generalize plkE (getF l at_) (baF nm) = ee at *
         generalize plkI (getF l at_) (baF nm) = ff at *
         go_wp2_with (go_at_call 13; refine LC1.out.mono ?_; rintro _ w3 ⟨rfl, hb3⟩; have B3 := hid (BX.out.trans (hb3.mono BX.out.size)); clear hb3)
         go_ret2
         rw [ER.out]
         exact ⟨rfl, B3.out⟩
def lvA : ByteArray := ⟨#[97]⟩
def lvB : ByteArray := ⟨#[98]⟩
def lvO1 : Rec := ⟨2, 2, 1, lvA, 0, ⟨#[]⟩, 0, ⟨#[]⟩, 0⟩
def lvO2 : Rec := ⟨1, 3, 2, lvB, 0, ⟨#[]⟩, 0, ⟨#[]⟩, 0⟩
def lvT1 : List Nd := [⟨1, 2, 0, 0, none, 0, [], none, 0, [⟨lvA, 2⟩]⟩, ⟨2, 2, 0, 1, none, 0, [], none, 0, []⟩]
def lvT2 : List Nd := [⟨1, 2, 0, 0, none, 0, [], none, 0, [⟨lvA, 2⟩]⟩, ⟨2, 2, 0, 1, none, 0, [], none, 0, [⟨lvB, 3⟩]⟩, ⟨3, 1, 0, 1, none, 0, [], none, 0, []⟩]
theorem lvF1 : rightF lvO1 = true := by
 unfold rightF entF datF
 simp only [Lib.toList_data]
 decide
theorem lvF2 : rightF lvO2 = true := by
 unfold rightF entF datF
 simp only [Lib.toList_data]
 decide
theorem lvW1 : lvO1.Wf := ⟨⟨by decide, by decide⟩, ⟨by decide, by decide⟩, ⟨by decide, by decide⟩, ⟨by decide, by decide⟩, ⟨by decide, by decide⟩, ⟨by decide, by decide⟩, by decide, by decide, by decide⟩
theorem lvW2 : lvO2.Wf := ⟨⟨by decide, by decide⟩, ⟨by decide, by decide⟩, ⟨by decide, by decide⟩, ⟨by decide, by decide⟩, ⟨by decide, by decide⟩, ⟨by decide, by decide⟩, by decide, by decide, by decide⟩
theorem newRt : Rt newL := rightD_rt.1 (by decide)
theorem lvE1 : applyL newL lvO1 = (0, lvT1) := by rfl
theorem lvE2 : applyL lvT1 lvO2 = (0, lvT2) := by rfl
theorem lv1 : ApplyL (newL.map Nd.er) lvO1 = (0, lvT1) := by
 show ApplyL newL lvO1 = _
 unfold ApplyL
 rw [rightD_rt.2 newRt, lvF1]
 exact lvE1
theorem lvR1 : Rt lvT1 := by have h := ApplyL_rt (l := newL.map Nd.er) (o := lvO1) lvW1 (by rw [lv1]); rw [lv1] at h; exact h
theorem lv2 : ApplyL lvT1 lvO2 = (0, lvT2) := by
 unfold ApplyL
 rw [rightD_rt.2 lvR1, lvF2]
 exact lvE2
theorem lvR2 : Rt lvT2 := by have h := ApplyL_rt (l := lvT1) (o := lvO2) lvW2 (by rw [lv2]); rw [lv2] at h; exact h
theorem lv3 : rightD lvT2 = true := rightD_rt.2 lvR2
theorem lv4 : Pa.splitF [47, 97, 47, 98] = some [[97], [98]] := by decide
theorem lv5 : fnL lvT2 1 [[97], [98]] = (3, 0) := by rfl
theorem plk_er (o : Option Nd) (s : ByteArray) : plkI (o.map Nd.er) s = plkI o s ∧ plkE (o.map Nd.er) s = plkE o s := by
 cases o <;> exact ⟨rfl, rfl⟩
theorem fnL_er (l : List Nd) : ∀ (ns : List (List UInt8)) (at_ : Int), fnL (l.map Nd.er) at_ ns = fnL l at_ ns
 | [], _ => rfl
 | nm :: ns, at_ => by
   unfold fnL
   rw [getF_er, (plk_er _ _).1, (plk_er _ _).2, fnL_er l ns]
theorem Rt.leads {l : List Nd} (h : Rt l) : Leads l := by
 intro f s he
 cases hx : getF l f with
 | none => rw [hx] at he; exact absurd he (by show ¬ (5 : Int) = 0; decide)
 | some x =>
   rw [hx] at he
   unfold plkE at he
   simp only at he
   unfold plkI
   simp only
   by_cases hk : x.k = 2
   · rw [if_pos hk] at he ⊢
     cases hq : kq x.ks s with
     | none => rw [hq] at he; exact absurd he (by decide)
     | some q =>
       have hm : q ∈ x.ks := by
         obtain ⟨i, _, h2, h3⟩ := en_some hq
         rw [← h3]
         exact getD_mem _ _ h2
       have := (h.kid x (getF_mem hx).1 q hm).2
       obtain ⟨y, hy⟩ := Option.isSome_iff_exists.1 this
       exact ⟨y, hy⟩
   · rw [if_neg hk] at he
     exact absurd he (by decide)
theorem Leads.er {l : List Nd} (h : Leads (l.map Nd.er)) : Leads l := by
 intro f s he
 have h1 := h f s (by rw [getF_er, (plk_er _ _).2]; exact he)
 obtain ⟨y, hy⟩ := h1
 rw [getF_er, getF_er, (plk_er _ _).1] at hy
 cases q : getF l (plkI (getF l f) s) with
 | none => rw [q] at hy; cases hy
 | some z => exact ⟨z, rfl⟩
theorem er_mem {l : List Nd} {x : Nd} (h : x ∈ l) : x.er ∈ l.map Nd.er := List.mem_map_of_mem h
theorem er_len {l L : List Nd} (h : l.map Nd.er = L) : l.length = L.length := by rw [← h, List.length_map]
set_option maxHeartbeats 4000000 in
theorem tlive_c (w : World) : Calls Tryz.prog 7 #[] w fun e w' => e = .returned (.bool true) ∧ Below w.heap.size w w' := by
 have NC := hid (tNew_c w)
 have A1 : Hid (∀ (a : Option Addr) (c : Nat) (W : World), Tr W a newL → Calls Tryz.prog 12 #[.slice a 1 c, .agg #[.int .u8 2, .int .u32 2, .int .u32 1, .string ⟨#[97]⟩, .int .u32 0, .string ⟨#[]⟩, .int .u16 0, .string ⟨#[]⟩]] W (ResO W (0, lvT1))) := hid (fun a c W h => by have := tApply_c sortOK a c newL lvO1 W h (by decide) lvW1; rw [lv1] at this; exact this)
 have A2 : Hid (∀ (a : Option Addr) (c : Nat) (l : List Nd) (W : World), Tr W a l → l.map Nd.er = lvT1 → Calls Tryz.prog 12 #[.slice a l.length c, .agg #[.int .u8 1, .int .u32 3, .int .u32 2, .string ⟨#[98]⟩, .int .u32 0, .string ⟨#[]⟩, .int .u16 0, .string ⟨#[]⟩]] W (ResO W (0, lvT2))) := hid (fun a c l W h he => by have := tApply_c sortOK a c l lvO2 W h (by rw [er_len he]; decide) lvW2; rw [he, lv2] at this; exact this)
 have A3 : Hid (∀ (a : Option Addr) (c : Nat) (l : List Nd) (W : World), Tr W a l → l.map Nd.er = lvT2 → Calls Tryz.prog 16 #[.slice a l.length c, .string ⟨#[47, 97, 47, 98]⟩] W (FnP (3, 0) W)) := hid (fun a c l W h he => by
   have := tFind_c a c l ⟨#[47, 97, 47, 98]⟩ [[97], [98]] W h.1 (by rw [er_len he]; decide) (fun x hx => by have := (h.2 x hx).2.2; omega) (fun x hx e => by
     have h9 := er_mem hx
     rw [he] at h9
     have h8 : x.er.k = 3 := e
     generalize x.er = y at *
     have : ∀ y ∈ lvT2, y.k ≠ 3 := by decide
     exact this y h9 h8) (by rw [← rightD_er, he]; exact lv3) (Leads.er (by rw [he]; exact lvR2.leads)) (by decide) lv4
   rw [← fnL_er, he, lv5] at this
   exact this)
 have A4 : Hid (∀ (a : Option Addr) (c : Nat) (l : List Nd) (W : World), Tr W a l → l.map Nd.er = lvT2 → Calls Tryz.prog 17 #[.slice a l.length c] W fun e w' => e = .returned (.bool true) ∧ Below W.heap.size W w') := hid (fun a c l W h he => by
   have := rightT_c a c l W h.1 (by rw [er_len he]; decide)
   rw [← rightD_er, he, lv3] at this
   exact this)
 go_enter Tryz.func7, Tryz.ntmps7
 go_wp2_with (first
   | (go_at_call 17; refine (A4.out a2 c2 l2 _ (T2.out.later B3.out) E2.out).mono ?_; rintro _ w4 ⟨rfl, hb4⟩; have B4 := hid (B2.out.trans ((B3.out.trans (hb4.mono B3.out.size)).mono B2.out.size)); have hl2 : l2.length = 3 := er_len E2.out; clear hb4)
   | (go_at_call 16; refine (A3.out a2 c2 l2 _ T2.out E2.out).mono ?_; rintro _ w3 ⟨rfl, hb3⟩; have B3 := hid hb3; clear hb3)
   | (go_at_call 12; refine (A2.out a1 c1 l1 _ T1.out E1.out).mono ?_; rintro _ w2 ⟨v2, l2, rfl, hn2, he2, hb2⟩; have E2 := hid he2; have B2 := hid (B1.out.trans (hb2.mono B1.out.size)); obtain ⟨a2, c2, hv2, ht2⟩ := hn2.tr (by rw [er_len he2]; decide); subst hv2; have T2 := hid ht2; clear hn2 he2 hb2 ht2)
   | (go_at_call 12; refine (A1.out a0 c0 _ T0.out).mono ?_; rintro _ w1 ⟨v1, l1, rfl, hn1, he1, hb1⟩; have E1 := hid he1; have B1 := hid (B0.out.trans (hb1.mono B0.out.size)); obtain ⟨a1, c1, hv1, ht1⟩ := hn1.tr (by rw [er_len he1]; decide); subst hv1; have T1 := hid ht1; clear hn1 he1 hb1 ht1)
   | (go_at_call 15; refine NC.out.mono ?_; rintro _ w0 ⟨a0, c0, rfl, ht0, hb0⟩; have T0 := hid ht0; have B0 := hid hb0; clear ht0 hb0))
 go_ret
 exact ⟨rfl, B4.out⟩
def FoN (w : World) (r : List Nd × List Int) (e : Ending) (w' : World) : Prop := ∃ a c l b d, e = .returned (.tuple #[.slice a l.length c, .slice b r.2.length d]) ∧ NsO w' w.heap.size (.slice a l.length c) l ∧ l.map Nd.er = r.1 ∧ IsEs w' b r.2 ∧ Below w.heap.size w w'
theorem own_setLow {w : World} {base e size n : Nat} {v : Value} {xs : List Value} (h : w.ownsRow base e size v n xs) {g o : Nat} {u : Value} (hg : g < base) : (w.setCell ⟨g, o, none⟩ u).ownsRow base e size v n xs := by
 refine ⟨h.1, ?_⟩
 rcases h.2 with h | ⟨k, cap, cur, h1, h2, h3, h4⟩
 · exact .inl h
 · exact .inr ⟨k, cap, cur, h1, h2, by rw [heap_setCell_other _ _ _ _ (by show k ≠ g; omega)]; exact h3, h4⟩
set_option maxHeartbeats 8000000 in
theorem rFoldN_c (a b : Option Addr) (cap cb : Nat) (l : List Nd) (ops : List Rec) (w : World) (h : Tr w a l) (ho : IsOs w b ops) (hm : l.length ≤ 900) (hn : ops.length ≤ 1000) :
   Calls Tryz.prog 21 #[.slice a l.length cap, .slice b ops.length cb] w (FoN w (FoldL (l.map Nd.er) ops)) := by
 obtain ⟨R, hR⟩ : ∃ R, R = FoldL (l.map Nd.er) ops := ⟨_, rfl⟩
 rw [← hR]
 unfold FoldL at hR
 rw [rightD_er] at hR
 have RC := hid (rRight_c a cap l w h.1 (by omega))
 have HT := hid h
 have HO := hid ho
 have HR := hid hR
 have HF : Hid (rightD l = true → l.length ≤ 40) := hid (fun e => (rightD_tok e).1.few)
 obtain ⟨n, hnn⟩ : ∃ n, n = ops.length := ⟨_, rfl⟩
 have HN := hid hnn
 rw [← hnn] at hn ⊢
 clear h ho hR hnn
 generalize rightD l = br at *
 cases br with
 | false =>
   have RE : Hid (R = ([], List.replicate n 3)) := hid (by rw [HN.out]; exact HR.out.trans (if_neg (by simp)))
   clear HR HF
   go_enter Tryz.func21, Tryz.ntmps21
   go_wp2_with (go_at_call 38; refine RC.out.mono ?_; rintro _ w1 ⟨rfl, hb1⟩; have B1 := hid hb1; clear hb1)
   go_loopg [6, 7] n (fun gk v i wr => ∃ m : Nat, m + gk = n ∧ i = .int .i64 m ∧ Hid (OwE wr w.heap.size v (List.replicate m 3)) ∧ Hid (Below w.heap.size w wr))
   case atStart => exact ⟨0, by omega, rfl, hid (OwE.nil _ _), B1⟩
   case round =>
     obtain ⟨m, hm2, rfl, OE, HB⟩ := hrel
     obtain ⟨va, vc, rfl⟩ := OE.out.shape
     by_cases hlt : m < n
     · have hltI : (m : Int) < n := by omega
       have b1 := below_1 wr (.cells #[.int .i64 3] 41)
       have O1 := hid (OE.out.later b1)
       have C1 := hid (HB.out.trans (b1.mono HB.out.size))
       have N1 := hid (heap_alloc_new wr (.cells #[.int .i64 3] 41))
       clear b1
       go_wp2_with (at_builtin; refine wpList_appE _ rfl _ _ rfl w.heap.size _ (List.replicate m 3) rfl O1.out wr.heap.size _ 3 rfl N1.out (by rw [List.length_replicate]; omega) C1.out.size ?_; intro v9 w9 hown9 hgrow9)
       have HB9 := hid (below_grownE C1.out O1.out (Nat.le_refl _) C1.out.size hgrow9)
       have HO9 : Hid (OwE w9 w.heap.size v9 (List.replicate (m + 1) 3)) := hid (by rw [List.replicate_succ']; exact hown9)
       obtain ⟨a9, c9, rfl⟩ := hown9.shape
       clear hown9 hgrow9
       go_roundg (gk - 1)
       case measure => omega
       case rel => exact ⟨m + 1, by omega, by go_num, HO9, HB9⟩
     · have em : m = n := by omega
       subst em
       have hge : ¬ (m : Int) < m := by omega
       obtain ⟨a5, c5, e5, i5⟩ := OE.out.is
       have EE := hid e5
       have IE := hid i5
       clear e5 i5
       go_wp2
       refine bodyPost_ret (v := .tuple #[.slice none 0 0, .slice va (List.replicate m (3 : Int)).length vc]) (by simp [results, Tryz.results21, go_sem]) rfl ⟨none, 0, [], a5, c5, ?_, NsO.nil _ _, by rw [RE.out]; rfl, by rw [RE.out]; exact IE.out, HB.out⟩
       rw [RE.out, EE.out]
       rfl
 | true =>
   have RE : Hid (R = ops.foldl foldS (l.map Nd.er, [])) := hid (HR.out.trans (if_pos rfl))
   have hl40 := HF.out rfl
   clear HR HF
   obtain ⟨P, hP⟩ : ∃ P : Nat → List Nd × List Int, P = fun m => (ops.take m).foldl foldS (l.map Nd.er, []) := ⟨_, rfl⟩
   have P0 : Hid (P 0 = (l.map Nd.er, [])) := hid (by rw [hP]; rfl)
   have PS : Hid (∀ m, m < n → P (m + 1) = foldS (P m) (ops.getD m Rec.no)) := hid (fun m hm => by rw [hP]; exact fold_take _ _ _ Rec.no (by rw [← HN.out]; exact hm))
   have PL : Hid (∀ m, m ≤ n → (P m).2.length = m) := hid (fun m hm => by rw [hP]; exact foldS_len _ ops m (by rw [← HN.out]; exact hm))
   have PF : Hid (∀ m, (P m).1.length ≤ 43) := hid (fun m => by rw [hP]; exact foldS_few _ (by rw [List.length_map]; omega) ops m)
   have PE : Hid (R = P n) := hid (by rw [RE.out, hP, HN.out]; simp only; rw [List.take_length])
   clear hP RE
   go_enter Tryz.func21, Tryz.ntmps21
   go_upto_region 8 with (go_at_call 38; refine RC.out.mono ?_; rintro _ w1 ⟨rfl, hb1⟩; have B1 := hid hb1; clear hb1)
   have CC := hid (rcopied_c a cap l w1 (HT.out.later B1.out).1 (by omega) HT.out.2)
   clear RC
   go_wp2_with (go_at_call 39; refine CC.out.mono ?_; intro e2 w2 h2; obtain ⟨v2, L2, rfl, ho2, he2, hr2, hb2⟩ := h2
                obtain ⟨a2, c2, hv2⟩ := ho2.shape
                subst hv2
                have T2 := hid ((show NsO w2 w1.heap.size _ L2 from ⟨ho2, hr2⟩).low B1.out.size)
                have E2 := hid he2
                have B2 := hid (B1.out.trans (hb2.mono B1.out.size))
                clear he2 hr2 hb2 ho2)
   go_loopg [6, 8, 9] n (fun gk v6 v8 v9 wr => ∃ (m : Nat) (ar : Option Addr) (cr : Nat) (L : List Nd), m + gk = n ∧ v9 = .int .i64 m ∧ v8 = .slice ar L.length cr ∧ Hid (NsO wr w.heap.size (.slice ar L.length cr) L) ∧ Hid (L.map Nd.er = (P m).1) ∧ Hid (OwE wr w.heap.size v6 (P m).2) ∧ Hid (Below w.heap.size w wr))
   case atStart => exact ⟨0, a2, c2, L2, by omega, rfl, rfl, T2, hid (by rw [P0.out]; exact E2.out), hid (by rw [P0.out]; exact OwE.nil _ _), B2⟩
   case round =>
     obtain ⟨m, ar, cr, L, hm2, rfl, rfl, TR, ER, OE, HB⟩ := hrel
     obtain ⟨va, vc, rfl⟩ := OE.out.shape
     by_cases hlt : m < n
     · have hltI : (m : Int) < n := by omega
       have hln : m < ops.length := by rw [← HN.out]; exact hlt
       obtain ⟨b', off, rfl, _⟩ := HO.out.2.2 (by omega)
       have hO := HO.out.later HB.out
       have hc := hO.at (i := m) hln
       have hw := hO.wf (i := m) hln
       have hps := PS.out m hlt
       have hpl := PL.out m (by omega)
       have hpf := PF.out m
       have hpf2 := ApplyL_gd (P m).1 (ops.getD m Rec.no)
       have hLl : L.length ≤ 43 := by have := congrArg List.length ER.out; rw [List.length_map] at this; omega
       have TRT : Tr wr ar L := by
         obtain ⟨a7, c7, e7, t7⟩ := TR.out.tr (by omega)
         simp only [Value.slice.injEq] at e7
         rw [e7.1]; exact t7
       have AC := hid (rApply_c ar cr L (ops.getD m Rec.no) wr TRT (by omega) hw)
       clear TRT
       rw [ER.out] at AC
       have HPS := hid hps
       have HPL := hid hpl
       clear hO hw hps hpl hpf hpf2 hln
       generalize ops.getD m Rec.no = x at *
       have o0 : wr.cell? ⟨b', off + m * 8, none⟩ = some (.int .u8 x.k) := hc 0 _ rfl
       have o1 : wr.cell? ⟨b', off + m * 8 + 1, none⟩ = some (.int .u32 x.fid) := hc 1 _ rfl
       have o2 : wr.cell? ⟨b', off + m * 8 + 2, none⟩ = some (.int .u32 x.dir) := hc 2 _ rfl
       have o3 : wr.cell? ⟨b', off + m * 8 + 3, none⟩ = some (.string x.nm) := hc 3 _ rfl
       have o4 : wr.cell? ⟨b', off + m * 8 + 4, none⟩ = some (.int .u32 x.to) := hc 4 _ rfl
       have o5 : wr.cell? ⟨b', off + m * 8 + 5, none⟩ = some (.string x.nm2) := hc 5 _ rfl
       have o6 : wr.cell? ⟨b', off + m * 8 + 6, none⟩ = some (.int .u16 x.md) := hc 6 _ rfl
       have o7 : wr.cell? ⟨b', off + m * 8 + 7, none⟩ = some (.string x.dt) := hc 7 _ rfl
       clear hc
       unfold foldS at HPS
       generalize ApplyL (P m).1 x = r at *
       obtain ⟨re, rl⟩ := r
       simp only [Rec.opV] at AC HPS
       go_upto_region 13 with (go_at_call 40; refine AC.out.mono ?_; intro e3 w3 h3; obtain ⟨v3, l3, rfl, ht3, he3, hb3⟩ := h3; (obtain ⟨a3, c3, hv3⟩ := ht3.1.shape); subst hv3; have T3 := hid (ht3.low HB.out.size); have E3 := hid he3; have B3 := hid (HB.out.trans (hb3.mono HB.out.size)); have O3 := hid (OE.out.later hb3); have K3 := hid hb3; clear ht3 he3 hb3)
       clear AC o0 o1 o2 o3 o4 o5 o6 o7
       have b1 := below_1 w3 (.cells #[.int .i64 re] 41)
       have O4 := hid (O3.out.later b1)
       have C4 := hid (B3.out.trans (b1.mono B3.out.size))
       have N4 := hid (heap_alloc_new w3 (.cells #[.int .i64 re] 41))
       have K4 := hid (K3.out.trans (b1.mono K3.out.size))
       have Q4 := hid b1
       clear b1
       by_cases q : re = 0
       · have qB : (re == 0) = true := by rw [q]; rfl
         have EP : Hid (P (m + 1) = (rl, (P m).2 ++ [re])) := hid (by rw [HPS.out, if_pos q])
         clear HPS q
         go_wp2_with (at_builtin; refine wpList_appE _ rfl _ _ rfl w.heap.size _ (P m).2 rfl O4.out w3.heap.size _ re rfl N4.out (by rw [HPL.out]; omega) C4.out.size ?_; intro v9 w9 hown9 hgrow9)
         have HB9 := hid (below_grownE C4.out O4.out (Nat.le_refl _) C4.out.size hgrow9)
         have HT9 : Hid (NsO w9 w.heap.size (.slice a3 l3.length c3) l3) := hid ((T3.out.later Q4.out).grownE O4.out hgrow9)
         have HO9 : Hid (OwE w9 w.heap.size v9 (P (m + 1)).2) := hid (by rw [EP.out]; exact hown9)
         obtain ⟨a9, c9, rfl⟩ := hown9.shape
         clear hown9 hgrow9
         go_roundg (gk - 1)
         case measure => omega
         case rel => exact ⟨m + 1, a3, c3, l3, by omega, by go_num, rfl, HT9, hid (by rw [EP.out]; exact E3.out), HO9, HB9⟩
       · have qB : (re == 0) = false := beq_eq_false_iff_ne.2 q
         have EP : Hid (P (m + 1) = ((P m).1, (P m).2 ++ [re])) := hid (by rw [HPS.out, if_neg q])
         clear HPS q
         go_wp2_with (at_builtin; refine wpList_appE _ rfl _ _ rfl w.heap.size _ (P m).2 rfl O4.out w3.heap.size _ re rfl N4.out (by rw [HPL.out]; omega) C4.out.size ?_; intro v9 w9 hown9 hgrow9)
         have HB9 := hid (below_grownE C4.out O4.out (Nat.le_refl _) C4.out.size hgrow9)
         have HT9 : Hid (NsO w9 w.heap.size (.slice ar L.length cr) L) := hid ((TR.out.later K4.out).grownE O4.out hgrow9)
         have HO9 : Hid (OwE w9 w.heap.size v9 (P (m + 1)).2) := hid (by rw [EP.out]; exact hown9)
         obtain ⟨a9, c9, rfl⟩ := hown9.shape
         clear hown9 hgrow9
         go_roundg (gk - 1)
         case measure => omega
         case rel => exact ⟨m + 1, ar, cr, L, by omega, by go_num, rfl, HT9, hid (by rw [EP.out]; exact ER.out), HO9, HB9⟩
     · have em : m = n := by omega
       subst em
       have hge : ¬ (m : Int) < m := by omega
       obtain ⟨a5, c5, e5, i5⟩ := OE.out.is
       have EE := hid e5
       have IE := hid i5
       clear e5 i5
       go_wp2
       refine bodyPost_ret (v := .tuple #[.slice ar L.length cr, .slice va (P m).2.length vc]) (by simp [results, Tryz.results21, go_sem]) rfl ⟨ar, cr, L, a5, c5, ?_, TR.out, by rw [PE.out]; exact ER.out, by rw [PE.out]; exact IE.out, HB.out⟩
       rw [PE.out, EE.out]
theorem foldS_rtm {l : List Nd} (h : Rt l) {ops : List Rec} (hw : ∀ x ∈ ops, x.Wf) (m : Nat) (e : List Int) : Rt ((ops.take m).foldl foldS (l, e)).1 := by
 induction m with
 | zero => exact h
 | succ m ih =>
   by_cases hm : m < ops.length
   · rw [fold_take _ _ _ Rec.no hm]
     simp only [foldS]
     split
     · rename_i q
       exact ApplyL_rt (hw _ (getD_mem _ _ hm)) q
     · exact ih
   · rw [List.take_of_length_le (by omega)] at ih ⊢
     exact ih
def PmL (ops : List Rec) (m : Nat) : List Nd := ((ops.take m).foldl foldS (newL, [])).1
theorem pm_rt {ops : List Rec} (hw : ∀ x ∈ ops, x.Wf) (m : Nat) : Rt (PmL ops m) := foldS_rtm newRt hw m []
theorem pm_fold (ops : List Rec) : (FoldL newL ops).1 = PmL ops ops.length := by
 unfold FoldL PmL
 rw [if_pos (rightD_rt.2 newRt), List.take_length]
theorem pm_take (ops : List Rec) {n m : Nat} (h : m ≤ n) : PmL (ops.take n) m = PmL ops m := by
 unfold PmL
 rw [List.take_take, Nat.min_eq_left h]
theorem ApplyL_no {l : List Nd} {o : Rec} (h : (ApplyL l o).1 ≠ 0) : (ApplyL l o).2 = [] := (ApplyL_gd l o).1 h
theorem newEr : newL.map Nd.er = newL := rfl
def TrE (w : World) (a : Option Addr) (L l : List Nd) : Prop := Tr w a L ∧ L.map Nd.er = l
theorem TrE.later {w w' : World} {a : Option Addr} {L l : List Nd} (h : TrE w a L l) (hb : Below w.heap.size w w') : TrE w' a L l := ⟨h.1.later hb, h.2⟩
theorem TrE.len {w : World} {a : Option Addr} {L l : List Nd} (h : TrE w a L l) : L.length = l.length := er_len h.2
def OpP (w : World) (r : Int × List Nd) (e : Ending) (w' : World) : Prop := ∃ a c L, e = .returned (.tuple #[.slice a L.length c, .int .i64 r.1]) ∧ TrE w' a L r.2 ∧ Below w.heap.size w w'
theorem ApplyL_few {l : List Nd} {o : Rec} : (ApplyL l o).2.length ≤ 43 := (ApplyL_gd l o).2
theorem apply_c {a : Option Addr} {L l : List Nd} (c : Nat) (o : Rec) (w : World) (h : TrE w a L l) (hm : l.length ≤ 900) (ho : o.Wf) :
   Calls Tryz.prog 12 #[.slice a L.length c, o.opV] w (OpP w (ApplyL l o)) := by
 have hk := tApply_c sortOK a c L o w h.1 (by rw [h.len]; exact hm) ho
 rw [h.2] at hk
 refine hk.mono ?_
 rintro e w' ⟨v, L', rfl, hn, he, hb⟩
 obtain ⟨a', c', rfl, ht⟩ := hn.tr (by rw [er_len he]; have := ApplyL_few (l := l) (o := o); omega)
 exact ⟨a', c', L', rfl, ⟨ht, he⟩, hb⟩
def TrO (w : World) (base : Nat) (a : Option Addr) (c : Nat) (L l : List Nd) : Prop := NsO w base (.slice a L.length c) L ∧ L.map Nd.er = l
theorem TrO.later {w w' : World} {base : Nat} {a : Option Addr} {c : Nat} {L l : List Nd} (h : TrO w base a c L l) (hb : Below w.heap.size w w') : TrO w' base a c L l := ⟨h.1.later hb, h.2⟩
theorem TrO.setLow {w : World} {base : Nat} {a : Option Addr} {c : Nat} {L l : List Nd} (h : TrO w base a c L l) {g o : Nat} {u : Value} (hg : g < base) : TrO (w.setCell ⟨g, o, none⟩ u) base a c L l := ⟨⟨own_setLow h.1.1 hg, fun x hx => (h.1.2 x hx).setLow hg⟩, h.2⟩
theorem TrO.tre {w : World} {base : Nat} {a : Option Addr} {c : Nat} {L l : List Nd} (h : TrO w base a c L l) (hm : l.length ≤ 100000) : TrE w a L l := by
 obtain ⟨a7, c7, e7, t7⟩ := h.1.tr (by rw [er_len h.2]; exact hm)
 simp only [Value.slice.injEq] at e7
 exact ⟨by rw [e7.1]; exact t7, h.2⟩
theorem TrO.low {w : World} {base b : Nat} {a : Option Addr} {c : Nat} {L l : List Nd} (h : TrO w base a c L l) (hb : b ≤ base) : TrO w b a c L l := ⟨h.1.low hb, h.2⟩
set_option maxHeartbeats 2000000 in
theorem made_c (a : Option Addr) (len cap : Nat) (ops : List Rec) (w : World) (lz : ops.length = len) (lc : len ≤ cap) (h : IsOs w a ops) :
   Calls Tryz.prog 10 #[.slice a len cap] w fun e w' => ∃ a' c' L, e = .returned (.slice a' L.length c') ∧ TrO w' w.heap.size a' c' L (PmL ops 40) ∧ Below w.heap.size w w' := by
 have hw := h.2.1
 have NC := hid (rNew_c w)
 by_cases q : 40 < len
 · have qI : (40 : Int) < (len : Int) := by omega
   have qc : (40 : Int) ≤ (cap : Int) := by omega
   have FC : Hid (∀ (b : Option Addr) (c : Nat) (W : World), Below w.heap.size w W → Tr W b newL → Calls Tryz.prog 21 #[.slice b 1 c, .slice a 40 cap] W (FoN W (FoldL newL (ops.take 40)))) := hid (fun b c W hW hT => by
     have := rFoldN_c b a c cap newL (ops.take 40) W hT ((h.later hW).take 40) (by decide) (by rw [List.length_take]; omega)
     rw [newEr, List.length_take, Nat.min_eq_left (by omega)] at this
     exact this)
   have PE : Hid ((FoldL newL (ops.take 40)).1 = PmL ops 40) := hid (by rw [pm_fold, List.length_take, Nat.min_eq_left (by omega), pm_take _ (Nat.le_refl _)])
   clear h hw lz
   go_enter Tryz.func10, Tryz.ntmps10
   go_wp2_with (first
     | (go_at_call 21; refine (FC.out a1 c1 w1 B1.out T1.out).mono ?_; rintro _ w2 ⟨a2, c2, L2, b2, d2, rfl, t2, e2, z2, hb2⟩; have T2 := hid (t2.low B1.out.size); have E2 := hid e2; have B2 := hid (B1.out.trans (hb2.mono B1.out.size)); clear t2 e2 z2 hb2)
     | (go_at_call 22; refine NC.out.mono ?_; rintro _ w1 ⟨a1, c1, rfl, t1, hb1⟩; have T1 := hid t1; have B1 := hid hb1; clear t1 hb1))
   go_ret
   exact ⟨a2, c2, L2, rfl, ⟨T2.out, E2.out.trans PE.out⟩, B2.out⟩
 · have qI : ¬ (40 : Int) < (len : Int) := by omega
   have qd : decide ((40 : Int) < (len : Int)) = false := decide_eq_false qI
   have FC : Hid (∀ (b : Option Addr) (c : Nat) (W : World), Below w.heap.size w W → Tr W b newL → Calls Tryz.prog 21 #[.slice b 1 c, .slice a len cap] W (FoN W (FoldL newL ops))) := hid (fun b c W hW hT => by
     have := rFoldN_c b a c cap newL ops W hT (h.later hW) (by decide) (by omega)
     rw [newEr, lz] at this
     exact this)
   have PE : Hid ((FoldL newL ops).1 = PmL ops 40) := hid (by rw [pm_fold, lz]; unfold PmL; rw [List.take_of_length_le (by omega), List.take_of_length_le (by omega)])
   clear h hw lz
   go_enter Tryz.func10, Tryz.ntmps10
   go_wp2_with (first
     | (go_at_call 21; refine (FC.out a1 c1 w1 B1.out T1.out).mono ?_; rintro _ w2 ⟨a2, c2, L2, b2, d2, rfl, t2, e2, z2, hb2⟩; have T2 := hid (t2.low B1.out.size); have E2 := hid e2; have B2 := hid (B1.out.trans (hb2.mono B1.out.size)); clear t2 e2 z2 hb2)
     | (go_at_call 22; refine NC.out.mono ?_; rintro _ w1 ⟨a1, c1, rfl, t1, hb1⟩; have T1 := hid t1; have B1 := hid hb1; clear t1 hb1))
   go_ret
   exact ⟨a2, c2, L2, rfl, ⟨T2.out, E2.out.trans PE.out⟩, B2.out⟩
end Go.Proofs.YtgbdplammniidaaGreat
