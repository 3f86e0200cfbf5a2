/-
  Look and Get of the program's tree.
  Find of the program's tree, where no symbolic link is in the tree.
  The law's live: two operations, a path, and whether that is a tree.
  Find of the program's tree: links are followed.
-/
import Derived.Test.YtgbdplammniidaaGreatDoorFiBv
namespace Go.Proofs.YtgbdplammniidaaGreatDoor
open Go.RowKit Go.ChangeShapes Go.WideShapes Go.ChangeAt
set_option linter.unusedVariables false
set_option linter.unusedSimpArgs false
set_option maxRecDepth 100000
theorem pl_none {l : List Nd} {f : Int} (h : getF l f = none) : plI l f = -1 := by
 unfold plI
 have e : l.findIdx? (fun x => x.fid == f) = none := by
   rw [List.findIdx?_eq_none_iff]
   intro x hx
   unfold getF at h
   rw [List.find?_eq_none] at h
   have := h x hx
   simpa using this
 rw [e]
theorem pl_some {l : List Nd} {f : Int} {x : Nd} (h : getF l f = some x) : ∃ i : Nat, plI l f = (i : Int) ∧ i < l.length ∧ l.getD i Nd.no = x := by
 induction l with
 | nil => cases h
 | cons y t ih =>
   unfold getF at h
   rw [List.find?_cons] at h
   cases e : y.fid == f with
   | true =>
     rw [e] at h
     cases h
     refine ⟨0, ?_, by simp, rfl⟩
     unfold plI
     simp only [List.findIdx?_cons, e, if_true]
   | false =>
     rw [e] at h
     obtain ⟨i, h1, h2, h3⟩ := ih h
     refine ⟨i + 1, ?_, by simpa using h2, by simpa [List.getD] using h3⟩
     unfold plI at h1 ⊢
     rw [List.findIdx?_cons, e]
     cases q : t.findIdx? (fun x => x.fid == f) with
     | none => rw [q] at h1; simp only at h1; omega
     | some k => rw [q] at h1; simp only at h1 ⊢; simp; omega
def plkI (o : Option Nd) (s : ByteArray) : Int := match o with
 | none => 0
 | some x => if x.k = 2 then (match kq x.ks s with | some q => q.fid | none => 0) else 0
def plkE (o : Option Nd) (s : ByteArray) : Int := match o with
 | none => 5
 | some x => if x.k = 2 then (match kq x.ks s with | some _ => 0 | none => 5) else 7
set_option maxHeartbeats 2000000 in
theorem tLook_c (a : Option Addr) (cap : Nat) (l : List Nd) (f : Int) (s : ByteArray) (w : World) (h : IsNs w a l) (hm : l.length ≤ 100000) (hk : ∀ x ∈ l, x.ks.length ≤ 100000) :
   Calls Tryz.prog 9 #[.slice a l.length cap, .int .u32 f, .string s] w fun e w' => e = .returned (.tuple #[.int .u32 (plkI (getF l f) s), .int .i64 (plkE (getF l f) s)]) ∧ Below w.heap.size w w' := by
 have PC := hid (placeOf_c a cap l f w h hm)
 cases hx : getF l f with
 | none =>
   rw [pl_none hx] at PC
   clear h hx hk
   generalize l.length = n at *
   show Calls _ _ _ _ fun e w' => e = .returned (.tuple #[.int .u32 0, .int .i64 5]) ∧ _
   go_enter Tryz.func9, Tryz.ntmps9
   go_wp2_with (go_at_call 15; refine PC.out.mono ?_; rintro _ w1 ⟨rfl, hb1⟩)
   go_ret2
   exact ⟨rfl, hb1⟩
 | some x =>
   obtain ⟨i, e1, e2, e3⟩ := pl_some hx
   rw [e1] at PC
   obtain ⟨b, off, rfl, _⟩ := h.2.2 (by omega)
   have hxm : x ∈ l := by rw [← e3]; exact getD_mem _ _ e2
   have hkx := hk x hxm
   have OKX := hid (h.2.1 x hxm)
   have HA := hid (h.at (i := i) e2)
   rw [e3] at HA
   have e2I : (i : Int) < l.length := by omega
   clear h hx hk e1 e3 hxm
   generalize l.length = n at *
   by_cases hk2 : x.k = 2
   · have CC : Hid (∀ W, Below w.heap.size w W → W.cell? ⟨b, off + i * 6 + 1, none⟩ = some (.int .u8 2)) := hid (fun W hW => by have := (HA.out.later hW).all.2.1; rw [hk2] at this; exact this)
     have EC : Hid (∀ W, Below w.heap.size w W → Calls Tryz.prog 20 #[.pointer (some ⟨b, off + i * 6, none⟩), .string s] W fun e w' => e = .returned (.int .i64 (enI x.ks s)) ∧ Below W.heap.size W w') := hid (fun W hW => entryOf_c b (off + i * 6) x s W (HA.out.later hW).all.2.2.2.2.2 (OKX.out.later hW).2.2.2.2.2 hkx)
     cases hq : kq x.ks s with
     | none =>
       have e9 := en_none hq
       rw [e9] at EC
       have R1 : plkI (some x) s = 0 := by unfold plkI; simp only [if_pos hk2, hq]
       have R2 : plkE (some x) s = 5 := by unfold plkE; simp only [if_pos hk2, hq]
       rw [R1, R2]
       clear R1 R2 hq e9 OKX HA hk2 hkx
       go_enter Tryz.func9, Tryz.ntmps9
       go_wp2_with (first
         | (go_at_call 15; refine PC.out.mono ?_; rintro _ w1 ⟨rfl, hb1⟩; have B1 := hid hb1; clear hb1; have c1 := CC.out w1 B1.out; have E1 := hid (EC.out w1 B1.out))
         | (go_at_call 20; refine E1.out.mono ?_; rintro _ w2 ⟨rfl, hb2⟩; have B2 := hid (B1.out.trans (hb2.mono B1.out.size)); clear hb2))
       go_ret2
       exact ⟨rfl, B2.out⟩
     | some q =>
       obtain ⟨k, e9, k2, k3⟩ := en_some hq
       rw [e9] at EC
       have R1 : plkI (some x) s = q.fid := by unfold plkI; simp only [if_pos hk2, hq]
       have R2 : plkE (some x) s = 0 := by unfold plkE; simp only [if_pos hk2, hq]
       rw [R1, R2]
       obtain ⟨b2, off2, hka, _⟩ := OKX.out.2.2.2.2.2.2.2 (by omega)
       have K5 : Hid (∀ W, Below w.heap.size w W → W.cell? ⟨b, off + i * 6 + 5, none⟩ = some (.slice (some ⟨b2, off2, none⟩) x.ks.length x.kc)) := hid (fun W hW => by have := (HA.out.later hW).all.2.2.2.2.2; rw [hka] at this; exact this)
       have K1 : Hid (∀ W, Below w.heap.size w W → W.cell? ⟨b2, off2 + k * 2 + 1, none⟩ = some (.int .u32 q.fid)) := hid (fun W hW => by
         have h2 := (OKX.out.later hW).2.2.2.2.2
         rw [hka] at h2
         have h3 := (h2.at (i := k) k2).2
         rw [k3] at h3
         exact h3)
       have k2I : (k : Int) < x.ks.length := by omega
       clear R1 R2 hq e9 OKX HA hk2 k3 hka
       generalize x.ks.length = nk at *
       generalize x.kc = kc at *
       generalize q.fid = qf at *
       go_enter Tryz.func9, Tryz.ntmps9
       go_wp2_with (first
         | (go_at_call 15; refine PC.out.mono ?_; rintro _ w1 ⟨rfl, hb1⟩; have B1 := hid hb1; clear hb1; have c1 := CC.out w1 B1.out; have E1 := hid (EC.out w1 B1.out))
         | (go_at_call 20; refine E1.out.mono ?_; rintro _ w2 ⟨rfl, hb2⟩; have B2 := hid (B1.out.trans (hb2.mono B1.out.size)); clear hb2; have c5 := K5.out w2 B2.out; have c6 := K1.out w2 B2.out))
       go_ret2
       exact ⟨rfl, B2.out⟩
   · have CC : Hid (∀ W, Below w.heap.size w W → W.cell? ⟨b, off + i * 6 + 1, none⟩ = some (.int .u8 x.k)) := hid (fun W hW => (HA.out.later hW).all.2.1)
     have hkb : (x.k != 2) = true := by simp [hk2]
     have R1 : plkI (some x) s = 0 := by unfold plkI; simp only [if_neg hk2]
     have R2 : plkE (some x) s = 7 := by unfold plkE; simp only [if_neg hk2]
     rw [R1, R2]
     clear R1 R2 OKX HA hkx
     generalize x.k = xk at *
     go_enter Tryz.func9, Tryz.ntmps9
     go_wp2_with (go_at_call 15; refine PC.out.mono ?_; rintro _ w1 ⟨rfl, hb1⟩; have B1 := hid hb1; clear hb1; have c1 := CC.out w1 B1.out)
     go_ret2
     exact ⟨rfl, B1.out⟩
theorem RowAt.setLow {w : World} {base : Nat} {t : TypeId} {p : Option Addr} {vs : List Value} (h : RowAt w base t p vs) {g o : Nat} {v : Value} (hg : g < base) : RowAt (w.setCell ⟨g, o, none⟩ v) base t p vs := by
 rcases h with h | ⟨k, cs, fr, h1, h2, h3, h4⟩
 · exact .inl h
 · exact .inr ⟨k, cs, fr, h1, h2, by rw [heap_setCell_other _ _ _ _ (by show k ≠ g; omega)]; exact h3, h4⟩
theorem NdR.setLow {w : World} {base : Nat} {x : Nd} (h : NdR w base x) {g o : Nat} {v : Value} (hg : g < base) : NdR (w.setCell ⟨g, o, none⟩ v) base x := ⟨h.1, h.2.1, h.2.2.1.setLow hg, h.2.2.2.setLow hg⟩
def baF (l : List UInt8) : ByteArray := ⟨l.toArray⟩
def NmR (w : World) (v : Value) (ns : List (List UInt8)) : Prop := ∃ a cap, v = .slice a ns.length cap ∧ ns.length ≤ cap ∧ (0 < ns.length → ∃ b off, a = some ⟨b, off, none⟩ ∧ ∀ i, i < ns.length → w.cell? ⟨b, off + i, none⟩ = some (.string (baF (ns.getD i []))))
theorem NmR.later {w w' : World} {v : Value} {ns : List (List UInt8)} (h : NmR w v ns) (hb : Below w.heap.size w w') : NmR w' v ns := by
 obtain ⟨a, cap, h1, h2, h3⟩ := h
 refine ⟨a, cap, h1, h2, fun hp => ?_⟩
 obtain ⟨b, off, e, hc⟩ := h3 hp
 exact ⟨b, off, e, fun i hi => cell_later hb (hc i hi)⟩
theorem NmR.own {w : World} {base : Nat} {v : Value} {ns : List (List UInt8)} (h : w.ownsRow base 9 1 v ns.length (ns.map strV)) : NmR w v ns := by
 rcases h.2 with ⟨e, e0⟩ | ⟨g, cap, cur, e, hb, hg, h1, h2, h3, h4⟩
 · exact ⟨none, 0, by rw [e, e0], by omega, fun hp => by omega⟩
 · refine ⟨_, cap, e, h1, fun _ => ⟨g, 0, rfl, fun i hi => ?_⟩⟩
   have h9 : cur[0 + i]? = some (.string (baF (ns.getD i []))) := by
     rw [Nat.zero_add, ← Array.getElem?_toList]
     have h8 : (cur.toList.take (ns.length * 1))[i]? = (ns.map strV)[i]? := by rw [h4]
     rw [List.getElem?_take_of_lt (by omega), List.getElem?_map] at h8
     rw [h8, List.getD, List.getElem?_eq_getElem hi]
     rfl
   rw [Nat.zero_add] at h9 ⊢
   exact cell_of_row2 hg i h9
def fnL (l : List Nd) : Int → List (List UInt8) → Int × Int
 | at_, [] => (at_, 0)
 | at_, nm :: ns => if plkE (getF l at_) (baF nm) = 0 then fnL l (plkI (getF l at_) (baF nm)) ns else (0, plkE (getF l at_) (baF nm))
theorem rightT_c (a : Option Addr) (cap : Nat) (l : List Nd) (w : World) (h : IsNs w a l) (hm : l.length ≤ 100000) :
   Calls Tryz.prog 14 #[.slice a l.length cap] w fun e w' => e = .returned (.bool (rightD l)) ∧ Below w.heap.size w w' := by
 refine (right_c a cap l w h hm).mono ?_
 rintro e w' ⟨b, rfl, h1, h2⟩
 refine ⟨?_, h2⟩
 rw [rightD_iff] at h1
 have : b = rightD l := by
   cases b <;> cases q : rightD l <;> simp_all
 rw [this]
def FnP (r : Int × Int) (w : World) (e : Ending) (w' : World) : Prop := e = .returned (.tuple #[.int .u32 r.1, .int .i64 r.2]) ∧ Below w.heap.size w w'
def Leads (l : List Nd) : Prop := ∀ f s, plkE (getF l f) s = 0 → ∃ y, getF l (plkI (getF l f) s) = some y
set_option maxHeartbeats 4000000 in
theorem tFind_c (a : Option Addr) (cap : Nat) (l : List Nd) (s : ByteArray) (ns : List (List UInt8)) (w : World) (h : IsNs w a l) (hm : l.length ≤ 40) (hk : ∀ x ∈ l, x.ks.length ≤ 100000) (hn3 : ∀ x ∈ l, x.k ≠ 3) (hr : rightD l = true) (hl : Leads l) (hs : s.size ≤ 1000) (hsp : Pa.splitF s.data.toList = some ns) :
   Calls Tryz.prog 5 #[.slice a l.length cap, .string s] w (FnP (fnL l 1 ns) w) := by
 have SC := hid (split_c s w (by unfold maxLen; omega))
 have SP := hid hsp
 have H := hid h
 have RC : Hid (∀ W, Below w.heap.size w W → Calls Tryz.prog 14 #[.slice a l.length cap] W fun e w' => e = .returned (.bool true) ∧ Below W.heap.size W w') := hid (fun W hW => by have := rightT_c a cap l W (h.later hW) (by omega); rw [hr] at this; exact this)
 have LC : Hid (∀ W f s, Below w.heap.size w W → Calls Tryz.prog 9 #[.slice a l.length cap, .int .u32 f, .string s] W fun e w' => e = .returned (.tuple #[.int .u32 (plkI (getF l f) s), .int .i64 (plkE (getF l f) s)]) ∧ Below W.heap.size W w') := hid (fun W f s hW => tLook_c a cap l f s W (h.later hW) (by omega) hk)
 have PC : Hid (∀ W f, Below w.heap.size w W → Calls Tryz.prog 15 #[.slice a l.length cap, .int .u32 f] W fun e w' => e = .returned (.int .i64 (plI l f)) ∧ Below W.heap.size W w') := hid (fun W f hW => placeOf_c a cap l f W (h.later hW) (by omega))
 have LD := hid hl
 have N3 := hid hn3
 obtain ⟨R, HR⟩ : ∃ R, Hid (fnL l 1 ns = R) := ⟨_, hid rfl⟩
 rw [HR.out]
 obtain ⟨n, hn⟩ : ∃ n, n = l.length := ⟨_, rfl⟩
 have HN := hid hn
 rw [← hn] at RC LC PC hm ⊢
 clear h hk hn3 hr hl hsp hn
 go_enter Tryz.func5, Tryz.ntmps5
 go_upto_region 2 with (go_at_call 13; refine SC.out.mono ?_; rintro _ w1 ⟨⟨ns', v, hsn, rfl, hown⟩ | ⟨hsn, rfl⟩, hb1⟩)
 rotate_left
 · exact absurd (SP.out.symm.trans hsn) (by simp)
 · have hns : ns' = ns := by have := SP.out.symm.trans hsn; simp only [Option.some.injEq] at this; exact this.symm
   subst hns
   have NR := hid (NmR.own hown)
   have B1 := hid hb1
   clear hown hb1 SC SP hsn
   have RC1 := hid (RC.out w1 B1.out)
   obtain ⟨a0, cap0, rfl, _⟩ := NR.out
   go_wp2_with (go_at_call 14; refine RC1.out.mono ?_; rintro _ w2 ⟨rfl, hb2⟩; have B2 := hid (B1.out.trans (hb2.mono B1.out.size)); have NR2 := hid (NR.out.later hb2); clear hb2)
   clear RC RC1 NR
   go_loopg [6, 8, 9] ns'.length (fun gk v6 v8 v9 wr => ∃ (at_ : Int) (ns : List (List UInt8)), ns.length = gk ∧ v8 = .int .u32 at_ ∧ v9 = .int .i64 0 ∧ Hid (NmR wr v6 ns) ∧ Hid (fnL l at_ ns = R) ∧ Hid (Below w.heap.size w wr))
   case atStart => exact ⟨1, ns', rfl, rfl, rfl, NR2, HR, B2⟩
   case round =>
     clear NR2 B2 HR
     obtain ⟨at_, ns, rfl, rfl, rfl, NX, FX, BX⟩ := hrel
     obtain ⟨a1, cap1, hv6, hcap1, hce⟩ := NX.out
     subst hv6
     cases ns with
     | nil =>
       have ER : Hid (R = (at_, 0)) := hid FX.out.symm
       clear hce
       go_wp2
       go_ret2
       rw [ER.out]
       exact ⟨rfl, BX.out⟩
     | cons nm ns =>
       obtain ⟨b1, off1, rfl, hc⟩ := hce (by simp)
       have c0 := hc 0 (by simp)
       have HC := hid hc
       clear hc hce
       simp only [Nat.add_zero, List.getD_cons_zero] at c0
       obtain ⟨nk, Hnk⟩ : ∃ nk, Hid (nk = ns.length) := ⟨_, hid rfl⟩
       have hlen : (nm :: ns).length = nk + 1 := by rw [Hnk.out]; rfl
       have LC1 := hid (LC.out wr at_ (baF nm) BX.out)
       rw [hlen]
       rw [hlen] at hcap1
       by_cases he : plkE (getF l at_) (baF nm) = 0
       · obtain ⟨y, hy⟩ := LD.out at_ (baF nm) he
         have FX2 : Hid (fnL l (plkI (getF l at_) (baF nm)) ns = R) := hid (by have := FX.out; rw [fnL, if_pos he] at this; exact this)
         rw [he] at LC1
         obtain ⟨i, e1, e2, e3⟩ := pl_some hy
         have PC1 := PC.out
         generalize plkI (getF l at_) (baF nm) = f at *
         rw [← HN.out] at e2
         have e2I : (i : Int) < (n : Int) := by omega
         obtain ⟨b, off, rfl, _⟩ := H.out.2.2 (by have := HN.out; omega)
         have K1 : Hid (∀ W, Below w.heap.size w W → W.cell? ⟨b, off + i * 6 + 1, none⟩ = some (.int .u8 y.k)) := hid (fun W hW => by have := ((H.out.later hW).at (i := i) (by rw [← HN.out]; exact e2)).all.2.1; rw [e3] at this; exact this)
         have hy3 : y.k ≠ 3 := N3.out y (by rw [← e3]; exact getD_mem _ _ (by rw [← HN.out]; exact e2))
         have hyb : (y.k != 3) = true := by simp [hy3]
         have PC2 : Hid (∀ W, Below w.heap.size w W → Calls Tryz.prog 15 #[.slice (some ⟨b, off, none⟩) n cap, .int .u32 f] W fun e w' => e = .returned (.int .i64 (i : Int)) ∧ Below W.heap.size W w') := hid (fun W hW => by have := PC1 W f hW; rw [e1] at this; exact this)
         clear PC1 e1 e3 hy he FX hy3
         generalize y.k = yk at *
         go_upto_region 9 with (go_at_call 9; refine LC1.out.mono ?_; rintro _ w3 ⟨rfl, hb3⟩; have B3 := hid (BX.out.trans (hb3.mono BX.out.size)); have Z3 := hid hb3; clear hb3)
         have hc1 : 1 ≤ cap1 := by omega
         have hc1I : (1 : Int) ≤ (cap1 : Int) := by omega
         go_region
         have B4 := hid (B3.out.drew)
         have NW : Hid (NmR w3.drew (.slice (if cap1 = 1 then some ⟨b1, off1, none⟩ else some ⟨b1, off1 + 1, none⟩) nk (cap1 - 1)) ns) := hid (by
           refine ⟨_, cap1 - 1, by rw [Hnk.out], by rw [← Hnk.out]; omega, fun hp => ⟨b1, off1 + 1, by rw [if_neg (by have := Hnk.out; omega)], fun j hj => ?_⟩⟩
           have h7 := HC.out (j + 1) (by simpa using hj)
           have h8 : w3.cell? ⟨b1, off1 + (j + 1), none⟩ = some (.string (baF ((nm :: ns).getD (j + 1) []))) := cell_later Z3.out h7
           rw [List.getD_cons_succ] at h8
           rw [show off1 + 1 + j = off1 + (j + 1) by omega]
           exact h8)
         generalize (if cap1 = 1 then some (⟨b1, off1, none⟩ : Addr) else some ⟨b1, off1 + 1, none⟩) = a9 at *
         generalize w3.drew = w4 at *
         have PC3 := hid (PC2.out w4 B4.out)
         go_wp2_with (go_at_call 15; refine PC3.out.mono ?_; rintro _ w5 ⟨rfl, hb5⟩; have B5 := hid (B4.out.trans (hb5.mono B4.out.size)); have N5 := hid (NW.out.later hb5); clear hb5; have k1 := K1.out w5 B5.out)
         go_roundg ns.length
         case measure => simp
         case rel => exact ⟨f, ns, rfl, rfl, rfl, N5, FX2, B5⟩
       · have heb : (plkE (getF l at_) (baF nm) != 0) = true := by simp [he]
         have ER : Hid (R = (0, plkE (getF l at_) (baF nm))) := hid (by rw [← FX.out, fnL, if_neg he])
         generalize plkE (getF l at_) (baF nm) = ee at *
         generalize plkI (getF l at_) (baF nm) = ff at *
         go_wp2_with (go_at_call 9; refine LC1.out.mono ?_; rintro _ w3 ⟨rfl, hb3⟩; have B3 := hid (BX.out.trans (hb3.mono BX.out.size)); clear hb3)
         go_ret2
         rw [ER.out]
         exact ⟨rfl, B3.out⟩
def lvA : ByteArray := ⟨#[97]⟩
def lvB : ByteArray := ⟨#[98]⟩
def lvO1 : Rec := ⟨2, 2, 1, lvA, 0, ⟨#[]⟩, 0, ⟨#[]⟩, 0⟩
def lvO2 : Rec := ⟨1, 3, 2, lvB, 0, ⟨#[]⟩, 0, ⟨#[]⟩, 0⟩
def lvT1 : List Nd := [⟨1, 2, 0, 0, none, 0, [], none, 0, [⟨lvA, 2⟩]⟩, ⟨2, 2, 0, 1, none, 0, [], none, 0, []⟩]
def lvT2 : List Nd := [⟨1, 2, 0, 0, none, 0, [], none, 0, [⟨lvA, 2⟩]⟩, ⟨2, 2, 0, 1, none, 0, [], none, 0, [⟨lvB, 3⟩]⟩, ⟨3, 1, 0, 1, none, 0, [], none, 0, []⟩]
theorem lvF1 : rightF lvO1 = true := by
 unfold rightF entF datF
 simp only [Lib.toList_data]
 decide
theorem lvF2 : rightF lvO2 = true := by
 unfold rightF entF datF
 simp only [Lib.toList_data]
 decide
theorem lvW1 : lvO1.Wf := ⟨⟨by decide, by decide⟩, ⟨by decide, by decide⟩, ⟨by decide, by decide⟩, ⟨by decide, by decide⟩, ⟨by decide, by decide⟩, ⟨by decide, by decide⟩, by decide, by decide, by decide⟩
theorem lvW2 : lvO2.Wf := ⟨⟨by decide, by decide⟩, ⟨by decide, by decide⟩, ⟨by decide, by decide⟩, ⟨by decide, by decide⟩, ⟨by decide, by decide⟩, ⟨by decide, by decide⟩, by decide, by decide, by decide⟩
theorem newRt : Rt newL := rightD_rt.1 (by decide)
theorem lvE1 : applyL newL lvO1 = (0, lvT1) := by rfl
theorem lvE2 : applyL lvT1 lvO2 = (0, lvT2) := by rfl
theorem tlv1 : ApplyL (newL.map Nd.er) lvO1 = (0, lvT1) := by
 show ApplyL newL lvO1 = _
 unfold ApplyL
 rw [rightD_rt.2 newRt, lvF1]
 exact lvE1
theorem lvR1 : Rt lvT1 := by have h := ApplyL_rt (l := newL.map Nd.er) (o := lvO1) lvW1 (by rw [tlv1]); rw [tlv1] at h; exact h
theorem tlv2 : ApplyL lvT1 lvO2 = (0, lvT2) := by
 unfold ApplyL
 rw [rightD_rt.2 lvR1, lvF2]
 exact lvE2
theorem lvR2 : Rt lvT2 := by have h := ApplyL_rt (l := lvT1) (o := lvO2) lvW2 (by rw [tlv2]); rw [tlv2] at h; exact h
theorem tlv3 : rightD lvT2 = true := rightD_rt.2 lvR2
theorem lv4 : Pa.splitF [47, 97, 47, 98] = some [[97], [98]] := by decide
theorem lv5 : fnL lvT2 1 [[97], [98]] = (3, 0) := by rfl
theorem plk_er (o : Option Nd) (s : ByteArray) : plkI (o.map Nd.er) s = plkI o s ∧ plkE (o.map Nd.er) s = plkE o s := by
 cases o <;> exact ⟨rfl, rfl⟩
theorem fnL_er (l : List Nd) : ∀ (ns : List (List UInt8)) (at_ : Int), fnL (l.map Nd.er) at_ ns = fnL l at_ ns
 | [], _ => rfl
 | nm :: ns, at_ => by
   unfold fnL
   rw [getF_er, (plk_er _ _).1, (plk_er _ _).2, fnL_er l ns]
theorem Rt.leads {l : List Nd} (h : Rt l) : Leads l := by
 intro f s he
 cases hx : getF l f with
 | none => rw [hx] at he; exact absurd he (by show ¬ (5 : Int) = 0; decide)
 | some x =>
   rw [hx] at he
   unfold plkE at he
   simp only at he
   unfold plkI
   simp only
   by_cases hk : x.k = 2
   · rw [if_pos hk] at he ⊢
     cases hq : kq x.ks s with
     | none => rw [hq] at he; exact absurd he (by decide)
     | some q =>
       have hm : q ∈ x.ks := by
         obtain ⟨i, _, h2, h3⟩ := en_some hq
         rw [← h3]
         exact getD_mem _ _ h2
       have := (h.kid x (getF_mem hx).1 q hm).2
       obtain ⟨y, hy⟩ := Option.isSome_iff_exists.1 this
       exact ⟨y, hy⟩
   · rw [if_neg hk] at he
     exact absurd he (by decide)
theorem Leads.er {l : List Nd} (h : Leads (l.map Nd.er)) : Leads l := by
 intro f s he
 have h1 := h f s (by rw [getF_er, (plk_er _ _).2]; exact he)
 obtain ⟨y, hy⟩ := h1
 rw [getF_er, getF_er, (plk_er _ _).1] at hy
 cases q : getF l (plkI (getF l f) s) with
 | none => rw [q] at hy; cases hy
 | some z => exact ⟨z, rfl⟩
theorem er_mem {l : List Nd} {x : Nd} (h : x ∈ l) : x.er ∈ l.map Nd.er := List.mem_map_of_mem h
theorem er_len {l L : List Nd} (h : l.map Nd.er = L) : l.length = L.length := by rw [← h, List.length_map]
set_option maxHeartbeats 4000000 in
theorem tlive_c (w : World) : Calls Tryz.prog 8 #[] w fun e w' => e = .returned (.bool true) ∧ Below w.heap.size w w' := by
 have NC := hid (tNew_c w)
 have A1 : Hid (∀ (a : Option Addr) (c : Nat) (W : World), Tr W a newL → Calls Tryz.prog 18 #[.slice a 1 c, .agg #[.int .u8 2, .int .u32 2, .int .u32 1, .string ⟨#[97]⟩, .int .u32 0, .string ⟨#[]⟩, .int .u16 0, .string ⟨#[]⟩]] W (ResO W (0, lvT1))) := hid (fun a c W h => by have := tApply_c sortOK a c newL lvO1 W h (by decide) lvW1; rw [tlv1] at this; exact this)
 have A2 : Hid (∀ (a : Option Addr) (c : Nat) (l : List Nd) (W : World), Tr W a l → l.map Nd.er = lvT1 → Calls Tryz.prog 18 #[.slice a l.length c, .agg #[.int .u8 1, .int .u32 3, .int .u32 2, .string ⟨#[98]⟩, .int .u32 0, .string ⟨#[]⟩, .int .u16 0, .string ⟨#[]⟩]] W (ResO W (0, lvT2))) := hid (fun a c l W h he => by have := tApply_c sortOK a c l lvO2 W h (by rw [er_len he]; decide) lvW2; rw [he, tlv2] at this; exact this)
 have A3 : Hid (∀ (a : Option Addr) (c : Nat) (l : List Nd) (W : World), Tr W a l → l.map Nd.er = lvT2 → Calls Tryz.prog 5 #[.slice a l.length c, .string ⟨#[47, 97, 47, 98]⟩] W (FnP (3, 0) W)) := hid (fun a c l W h he => by
   have := tFind_c a c l ⟨#[47, 97, 47, 98]⟩ [[97], [98]] W h.1 (by rw [er_len he]; decide) (fun x hx => by have := (h.2 x hx).2.2; omega) (fun x hx e => by
     have h9 := er_mem hx
     rw [he] at h9
     have h8 : x.er.k = 3 := e
     generalize x.er = y at *
     have : ∀ y ∈ lvT2, y.k ≠ 3 := by decide
     exact this y h9 h8) (by rw [← rightD_er, he]; exact tlv3) (Leads.er (by rw [he]; exact lvR2.leads)) (by decide) lv4
   rw [← fnL_er, he, lv5] at this
   exact this)
 have A4 : Hid (∀ (a : Option Addr) (c : Nat) (l : List Nd) (W : World), Tr W a l → l.map Nd.er = lvT2 → Calls Tryz.prog 14 #[.slice a l.length c] W fun e w' => e = .returned (.bool true) ∧ Below W.heap.size W w') := hid (fun a c l W h he => by
   have := rightT_c a c l W h.1 (by rw [er_len he]; decide)
   rw [← rightD_er, he, tlv3] at this
   exact this)
 go_enter Tryz.func8, Tryz.ntmps8
 go_wp2_with (first
   | (go_at_call 14; refine (A4.out a2 c2 l2 _ (T2.out.later B3.out) E2.out).mono ?_; rintro _ w4 ⟨rfl, hb4⟩; have B4 := hid (B2.out.trans ((B3.out.trans (hb4.mono B3.out.size)).mono B2.out.size)); have hl2 : l2.length = 3 := er_len E2.out; clear hb4)
   | (go_at_call 5; refine (A3.out a2 c2 l2 _ T2.out E2.out).mono ?_; rintro _ w3 ⟨rfl, hb3⟩; have B3 := hid hb3; clear hb3)
   | (go_at_call 18; refine (A2.out a1 c1 l1 _ T1.out E1.out).mono ?_; rintro _ w2 ⟨v2, l2, rfl, hn2, he2, hb2⟩; have E2 := hid he2; have B2 := hid (B1.out.trans (hb2.mono B1.out.size)); obtain ⟨a2, c2, hv2, ht2⟩ := hn2.tr (by rw [er_len he2]; decide); subst hv2; have T2 := hid ht2; clear hn2 he2 hb2 ht2)
   | (go_at_call 18; refine (A1.out a0 c0 _ T0.out).mono ?_; rintro _ w1 ⟨v1, l1, rfl, hn1, he1, hb1⟩; have E1 := hid he1; have B1 := hid (B0.out.trans (hb1.mono B0.out.size)); obtain ⟨a1, c1, hv1, ht1⟩ := hn1.tr (by rw [er_len he1]; decide); subst hv1; have T1 := hid ht1; clear hn1 he1 hb1 ht1)
   | (go_at_call 19; refine NC.out.mono ?_; rintro _ w0 ⟨a0, c0, rfl, ht0, hb0⟩; have T0 := hid ht0; have B0 := hid hb0; clear ht0 hb0))
 go_ret
 exact ⟨rfl, B4.out⟩
end Go.Proofs.YtgbdplammniidaaGreatDoor
namespace Go.Proofs.YtgbdplammniidaaGreatDoor
open Go.RowKit Go.ChangeShapes Go.WideShapes Go.ChangeAt Go.Maps Go.Shelf
set_option linter.unusedVariables false
set_option linter.unusedSimpArgs false
set_option maxRecDepth 100000
def fnS (l : List Nd) (nx : List (List UInt8) → Int × Int) : Int → List (List UInt8) → Int × Int
 | at_, [] => (at_, 0)
 | at_, nm :: ns => if plkE (getF l at_) (baF nm) = 0 then
     (if ((getF l (plkI (getF l at_) (baF nm))).getD Nd.no).k = 3 then
       (match Pa.splitF (Fr.tx ((getF l (plkI (getF l at_) (baF nm))).getD Nd.no).zs).data.toList with | some tg => nx (tg ++ ns) | none => (0, 5))
     else fnS l nx (plkI (getF l at_) (baF nm)) ns)
   else (0, plkE (getF l at_) (baF nm))
def fnK (l : List Nd) : Nat → Int → List (List UInt8) → Int × Int
 | 0 => fnS l (fun _ => (0, 14))
 | K + 1 => fnS l (fun ns => fnK l K 1 ns)
def nxK (l : List Nd) : Nat → List (List UInt8) → Int × Int
 | 0 => fun _ => (0, 14)
 | K + 1 => fun ns => fnK l K 1 ns
theorem fnK_S (l : List Nd) (K : Nat) : fnK l K = fnS l (nxK l K) := by cases K <;> rfl
theorem splitN_len : ∀ (P acc r : List (List UInt8)), Pa.splitN acc P = some r → r.length ≤ acc.length + P.length
 | [], acc, r, h => by simp only [Pa.splitN, Option.some.injEq] at h; rw [h]; exact Nat.le_add_right _ _
 | p :: ps, acc, r, h => by
   rw [Pa.splitN, Option.bind_eq_some_iff] at h
   obtain ⟨a, h1, h2⟩ := h
   have h3 := splitN_len ps a r h2
   have h4 : a.length ≤ acc.length + 1 := by
     unfold Pa.stepN at h1
     split at h1
     · cases h1; omega
     · split at h1
       · cases h1; rw [List.length_dropLast]; omega
       · split at h1
         · cases h1; simp
         · cases h1
   rw [List.length_cons]
   omega
theorem splitF_len {q : List UInt8} {tg : List (List UInt8)} (h : Pa.splitF q = some tg) : tg.length ≤ 121 := by
 unfold Pa.splitF at h
 split at h
 · rename_i c
   have h1 := splitN_len _ _ _ h
   have h2 := Pa.pieces_length q
   simp only [List.length_nil] at h1
   omega
 · cases h
theorem nm_cells {w : World} {ad : Addr} {m c : Nat} {ns : List (List UInt8)} (h : NmR w (.slice (some ad) m c) ns) : ∀ j u, (ns.map strV)[j]? = some u → w.cell? (ad.add j) = some u := by
 intro j u hu
 obtain ⟨a, cap, e, _, h3⟩ := h
 rw [List.getElem?_map] at hu
 by_cases hj : j < ns.length
 · obtain ⟨b, off, ea, hc⟩ := h3 (by omega)
   simp only [Value.slice.injEq] at e
   rw [← e.1] at ea
   cases ea
   rw [List.getElem?_eq_getElem hj] at hu
   simp only [Option.map_some, Option.some.injEq] at hu
   have h9 := hc j hj
   rw [List.getD, List.getElem?_eq_getElem hj] at h9
   rw [show (⟨b, off, none⟩ : Addr).add j = ⟨b, off + j, none⟩ by unfold Addr.add; split <;> simp_all]
   rw [h9, ← hu]
   rfl
 · rw [List.getElem?_eq_none (by omega)] at hu
   cases hu
set_option maxHeartbeats 1000000 in
theorem tFind_no (a : Option Addr) (len cap : Nat) (s : ByteArray) (w : World) (hs : s.size ≤ maxLen) (hsp : Pa.splitF s.data.toList = none) :
   Calls Tryz.prog 5 #[.slice a len cap, .string s] w (FnP (0, 3) w) := by
 have SC := hid (split_c s w hs)
 have SP := hid hsp
 clear hsp
 go_enter Tryz.func5, Tryz.ntmps5
 go_upto_region 2 with (go_at_call 13; refine SC.out.mono ?_; rintro _ w1 ⟨⟨ns', v, hsn, rfl, hown⟩ | ⟨hsn, rfl⟩, hb1⟩)
 · exact absurd (SP.out.symm.trans hsn) (by simp)
 · have B1 := hid hb1
   clear hsn hb1
   go_wp2
   go_ret2
   exact ⟨rfl, B1.out⟩
set_option maxHeartbeats 8000000 in
theorem tFindK_c (a : Option Addr) (cap : Nat) (l : List Nd) (s : ByteArray) (ns : List (List UInt8)) (w : World) (h : IsNs w a l) (hm : l.length ≤ 40) (hk : ∀ x ∈ l, x.ks.length ≤ 100000) (hr : rightD l = true) (hl : Leads l) (hs : s.size ≤ maxLen) (hsp : Pa.splitF s.data.toList = some ns) :
   Calls Tryz.prog 5 #[.slice a l.length cap, .string s] w (FnP (fnK l 8 1 ns) w) := by
 obtain ⟨i0, hi, hz0, hz1, hz2⟩ := info_parts info_str
 have IS := hid (And.intro hi (And.intro hz0 (And.intro hz1 hz2)))
 clear hi hz0 hz1 hz2
 have SC := hid (split_c s w hs)
 have SP := hid hsp
 have H := hid h
 have RC : Hid (∀ W, Below w.heap.size w W → Calls Tryz.prog 14 #[.slice a l.length cap] W fun e w' => e = .returned (.bool true) ∧ Below W.heap.size W w') := hid (fun W hW => by have := rightT_c a cap l W (h.later hW) (by omega); rw [hr] at this; exact this)
 have LC : Hid (∀ W f s, Below w.heap.size w W → Calls Tryz.prog 9 #[.slice a l.length cap, .int .u32 f, .string s] W fun e w' => e = .returned (.tuple #[.int .u32 (plkI (getF l f) s), .int .i64 (plkE (getF l f) s)]) ∧ Below W.heap.size W w') := hid (fun W f s hW => tLook_c a cap l f s W (h.later hW) (by omega) hk)
 have PC : Hid (∀ W f, Below w.heap.size w W → Calls Tryz.prog 15 #[.slice a l.length cap, .int .u32 f] W fun e w' => e = .returned (.int .i64 (plI l f)) ∧ Below W.heap.size W w') := hid (fun W f hW => placeOf_c a cap l f W (h.later hW) (by omega))
 have LD := hid hl
 obtain ⟨R, HR⟩ : ∃ R, Hid (fnK l 8 1 ns = R) := ⟨_, hid rfl⟩
 rw [HR.out]
 obtain ⟨n, hn⟩ : ∃ n, n = l.length := ⟨_, rfl⟩
 have HN := hid hn
 rw [← hn] at RC LC PC hm ⊢
 have LEN := hid (splitF_len hsp)
 clear h hk hr hl hsp hn hs
 go_enter Tryz.func5, Tryz.ntmps5
 go_upto_region 2 with (go_at_call 13; refine SC.out.mono ?_; rintro _ w1 ⟨⟨ns', v, hsn, rfl, hown⟩ | ⟨hsn, rfl⟩, hb1⟩)
 rotate_left
 · exact absurd (SP.out.symm.trans hsn) (by simp)
 · have hns : ns' = ns := by have := SP.out.symm.trans hsn; simp only [Option.some.injEq] at this; exact this.symm
   subst hns
   have NR := hid (NmR.own hown)
   have B1 := hid hb1
   clear hown hb1 SC SP hsn
   have RC1 := hid (RC.out w1 B1.out)
   obtain ⟨a0, cap0, rfl, _⟩ := NR.out
   go_wp2_with (go_at_call 14; refine RC1.out.mono ?_; rintro _ w2 ⟨rfl, hb2⟩; have B2 := hid (B1.out.trans (hb2.mono B1.out.size)); have NR2 := hid (NR.out.later hb2); clear hb2)
   clear RC RC1 NR
   go_loopg [6, 8, 9] (8 * 1000 + ns'.length) (fun gk v6 v8 v9 wr => ∃ (j : Nat) (at_ : Int) (ns : List (List UInt8)), j ≤ 8 ∧ (8 - j) * 1000 + ns.length = gk ∧ ns.length ≤ 121 * (j + 1) ∧ v8 = .int .u32 at_ ∧ v9 = .int .i64 (j : Int) ∧ Hid (NmR wr v6 ns) ∧ Hid (fnK l (8 - j) at_ ns = R) ∧ Hid (Below w.heap.size w wr))
   case atStart => exact ⟨0, 1, ns', by omega, rfl, (by have := LEN.out; omega), rfl, rfl, NR2, HR, B2⟩
   case round =>
     clear NR2 B2 HR LEN
     obtain ⟨j, at_, ns, hj8, rfl, hln, rfl, rfl, NX, FX, BX⟩ := hrel
     obtain ⟨a1, cap1, hv6, hcap1, hce⟩ := NX.out
     subst hv6
     cases ns with
     | nil =>
       have ER : Hid (R = (at_, 0)) := hid (by have := FX.out; rw [fnK_S] at this; exact this.symm)
       clear hce
       go_wp2
       go_ret2
       rw [ER.out]
       exact ⟨rfl, BX.out⟩
     | cons nm ns =>
       obtain ⟨b1, off1, rfl, hc⟩ := hce (by simp)
       have c0 := hc 0 (by simp)
       have HC := hid hc
       clear hc hce
       simp only [Nat.add_zero, List.getD_cons_zero] at c0
       obtain ⟨nk, Hnk⟩ : ∃ nk, Hid (nk = ns.length) := ⟨_, hid rfl⟩
       have hlen : (nm :: ns).length = nk + 1 := by rw [Hnk.out]; rfl
       have LC1 := hid (LC.out wr at_ (baF nm) BX.out)
       rw [hlen]
       rw [hlen] at hcap1 hln
       by_cases he : plkE (getF l at_) (baF nm) = 0
       · obtain ⟨y, hy⟩ := LD.out at_ (baF nm) he
         have FX1 : Hid ((if y.k = 3 then (match Pa.splitF (Fr.tx y.zs).data.toList with | some tg => nxK l (8 - j) (tg ++ ns) | none => (0, 5)) else fnK l (8 - j) (plkI (getF l at_) (baF nm)) ns) = R) := hid (by have := FX.out; rw [fnK_S, fnS, if_pos he, hy, Option.getD_some, ← fnK_S] at this; exact this)
         rw [he] at LC1
         obtain ⟨i, e1, e2, e3⟩ := pl_some hy
         have PC1 := PC.out
         generalize plkI (getF l at_) (baF nm) = f at *
         rw [← HN.out] at e2
         have e2I : (i : Int) < (n : Int) := by omega
         obtain ⟨b, off, rfl, _⟩ := H.out.2.2 (by have := HN.out; omega)
         have K1 : Hid (∀ W, Below w.heap.size w W → W.cell? ⟨b, off + i * 6 + 1, none⟩ = some (.int .u8 y.k) ∧ W.cell? ⟨b, off + i * 6 + 4, none⟩ = some (.slice y.da y.zs.length y.dc) ∧ IsB W y.da y.zs.length y.zs) := hid (fun W hW => by
           have h1 := ((H.out.later hW).at (i := i) (by rw [← HN.out]; exact e2)).all
           have h2 := (H.out.later hW).ok (i := i) (by rw [← HN.out]; exact e2)
           rw [e3] at h1 h2
           exact ⟨h1.2.1, h1.2.2.2.2.1, h2.2.2.2.2.1⟩)
         have PC2 : Hid (∀ W, Below w.heap.size w W → Calls Tryz.prog 15 #[.slice (some ⟨b, off, none⟩) n cap, .int .u32 f] W fun e w' => e = .returned (.int .i64 (i : Int)) ∧ Below W.heap.size W w') := hid (fun W hW => by have := PC1 W f hW; rw [e1] at this; exact this)
         clear PC1 e1 e3 hy he FX
         obtain ⟨yf, yk, ym, yl, yda, ydc, yzs, yka, ykc, yks⟩ := y
         simp only at K1 FX1
         go_upto_region 9 with (go_at_call 9; refine LC1.out.mono ?_; rintro _ w3 ⟨rfl, hb3⟩; have B3 := hid (BX.out.trans (hb3.mono BX.out.size)); have Z3 := hid hb3; clear hb3)
         have hc1 : 1 ≤ cap1 := by omega
         have hc1I : (1 : Int) ≤ (cap1 : Int) := by omega
         go_region
         have B4 := hid (B3.out.drew)
         have NW : Hid (NmR w3.drew (.slice (if cap1 = 1 then some ⟨b1, off1, none⟩ else some ⟨b1, off1 + 1, none⟩) nk (cap1 - 1)) ns) := hid (by
           refine ⟨_, cap1 - 1, by rw [Hnk.out], by rw [← Hnk.out]; omega, fun hp => ⟨b1, off1 + 1, by rw [if_neg (by have := Hnk.out; omega)], fun j hj => ?_⟩⟩
           have h7 := HC.out (j + 1) (by simpa using hj)
           have h8 : w3.cell? ⟨b1, off1 + (j + 1), none⟩ = some (.string (baF ((nm :: ns).getD (j + 1) []))) := cell_later Z3.out h7
           rw [List.getD_cons_succ] at h8
           rw [show off1 + 1 + j = off1 + (j + 1) by omega]
           exact h8)
         obtain ⟨ad, had⟩ : ∃ ad, (if cap1 = 1 then some (⟨b1, off1, none⟩ : Addr) else some ⟨b1, off1 + 1, none⟩) = some ad := by split <;> exact ⟨_, rfl⟩
         rw [had] at NW
         rw [had]
         clear had
         generalize w3.drew = w4 at *
         have PC3 := hid (PC2.out w4 B4.out)
         by_cases hy3 : yk = 3
         · subst hy3
           rw [if_pos rfl] at FX1
           have hsz : Hid ((Fr.tx yzs).size ≤ maxLen) := hid (by
             have h1 := (K1.out w4 B4.out).2.2.2.1
             have h2 : (Fr.tx yzs).size = yzs.length := by simp [Fr.tx, ByteArray.size]
             rw [h2]; exact h1)
           have SC2 := hid (fun W => split_c (Fr.tx yzs) W hsz.out)
           cases hst : Pa.splitF (Fr.tx yzs).data.toList with
           | none =>
             have ER : Hid (R = (0, 5)) := hid (by have := FX1.out; rw [hst] at this; exact this.symm)
             have ST := hid hst
             clear hst FX1
             go_wp2_with (first
               | (go_at_call 13; refine (SC2.out w5).mono ?_; rintro _ w6 ⟨⟨tg, v, hst, rfl, hown⟩ | ⟨hst, rfl⟩, hb6⟩; exact absurd (ST.out.symm.trans hst) (by simp); have B6 := hid (B5.out.trans (hb6.mono B5.out.size)); clear hst hb6)
               | (go_at_call 15; refine PC3.out.mono ?_; rintro _ w5 ⟨rfl, hb5⟩; have B5 := hid (B4.out.trans (hb5.mono B4.out.size)); clear hb5; obtain ⟨k1, k4, kb⟩ := K1.out w5 B5.out; have cv := conv_anyN (pc := ydc) kb; clear kb))
             go_ret2
             rw [ER.out]
             exact ⟨rfl, B6.out⟩
           | some tg =>
             have FX2 : Hid (nxK l (8 - j) (tg ++ ns) = R) := hid (by have := FX1.out; rw [hst] at this; exact this)
             have ST := hid hst
             have TL := hid (splitF_len hst)
             clear hst FX1
             by_cases hj : j = 8
             · subst hj
               have ER : Hid (R = (0, 14)) := hid FX2.out.symm
               clear FX2
               go_wp2_with (first
                 | (go_at_call 13; refine (SC2.out w5).mono ?_; rintro _ w6 ⟨⟨tg', v, hst, rfl, hown⟩ | ⟨hst, rfl⟩, hb6⟩; rotate_left; exact absurd (ST.out.symm.trans hst) (by simp); have B6 := hid (B5.out.trans (hb6.mono B5.out.size)); clear hst hb6 hown)
                 | (go_at_call 15; refine PC3.out.mono ?_; rintro _ w5 ⟨rfl, hb5⟩; have B5 := hid (B4.out.trans (hb5.mono B4.out.size)); clear hb5; obtain ⟨k1, k4, kb⟩ := K1.out w5 B5.out; have cv := conv_anyN (pc := ydc) kb; clear kb))
               go_ret2
               rw [ER.out]
               exact ⟨rfl, B6.out⟩
             · have hjb : ((j : Int) == 8) = false := by rw [beq_eq_false_iff_ne]; omega
               have FX3 : Hid (fnK l (8 - (j + 1)) 1 (tg ++ ns) = R) := hid (by
                 have := FX2.out
                 rw [show 8 - j = (8 - (j + 1)) + 1 by omega] at this
                 exact this)
               clear FX2
               go_wp2_with (first
                 | (at_builtin; refine wpList_append_own _ rfl _ _ 47 rfl w5.heap.size 9 i0 (.string ⟨#[]⟩) 1 16 Tryz.underlying47 IS.out.1 IS.out.2.1 IS.out.2.2.1 IS.out.2.2.2 (by rfl) (by decide) v tg'.length (tg'.map strV) rfl OW.out ad nk (cap1 - 1) (ns.map strV) rfl (by rw [List.length_map, Hnk.out]; omega) NC6.out (fun u hu => by obtain ⟨q, _, rfl⟩ := List.mem_map.1 hu; rfl) (by have := TL.out; unfold maxLen; omega) (by have := TL.out; omega) Z6.out.size ?_; intro v9 w9 hown9 hgrow9 _)
                 | (go_at_call 13; refine (SC2.out w5).mono ?_; rintro _ w6 ⟨⟨tg', v, hst, rfl, hown⟩ | ⟨hst, rfl⟩, hb6⟩; rotate_left; exact absurd (ST.out.symm.trans hst) (by simp); obtain rfl : tg' = tg := (by have := ST.out.symm.trans hst; simp only [Option.some.injEq] at this; exact this.symm); have B6 := hid (B5.out.trans (hb6.mono B5.out.size)); have Z6 := hid hb6; have OW := hid hown; have NC6 : Hid (∀ j u, (ns.map strV)[j]? = some u → w6.cell? (ad.add j) = some u) := hid (nm_cells (NX5.out.later hb6)); clear hst hb6 hown)
                 | (go_at_call 15; refine PC3.out.mono ?_; rintro _ w5 ⟨rfl, hb5⟩; have B5 := hid (B4.out.trans (hb5.mono B4.out.size)); have NX5 := hid (NW.out.later hb5); clear hb5; obtain ⟨k1, k4, kb⟩ := K1.out w5 B5.out; have cv := conv_anyN (pc := ydc) kb; clear kb))
               have HB9 : Hid (Below w.heap.size w w9) := hid (Below.grown B6.out hgrow9 B6.out.size (fun k hk => by have := (OW.out.lt _ hk).1; have := B5.out.size; omega))
               have NR9 : Hid (NmR w9 v9 (tg' ++ ns)) := hid (NmR.own (by rw [List.length_append, List.map_append, ← Hnk.out]; exact hown9))
               go_roundg ((8 - (j + 1)) * 1000 + (tg' ++ ns).length)
               case measure => rw [List.length_append, List.length_cons]; have := TL.out; omega
               case rel => exact ⟨j + 1, 1, tg' ++ ns, by omega, rfl, (by rw [List.length_append, ← Hnk.out]; have := TL.out; omega), rfl, by go_num, NR9, FX3, HB9⟩
         · have hyb : (yk != 3) = true := by simp [hy3]
           have FX2 : Hid (fnK l (8 - j) f ns = R) := hid (by have := FX1.out; rw [if_neg hy3] at this; exact this)
           clear FX1
           go_wp2_with (go_at_call 15; refine PC3.out.mono ?_; rintro _ w5 ⟨rfl, hb5⟩; have B5 := hid (B4.out.trans (hb5.mono B4.out.size)); have N5 := hid (NW.out.later hb5); clear hb5; obtain ⟨k1, k4, kb⟩ := K1.out w5 B5.out; clear kb k4)
           go_roundg ((8 - j) * 1000 + ns.length)
           case measure => rw [List.length_cons]; omega
           case rel => exact ⟨j, f, ns, hj8, rfl, (by rw [← Hnk.out]; omega), rfl, rfl, N5, FX2, B5⟩
       · have heb : (plkE (getF l at_) (baF nm) != 0) = true := by simp [he]
         have ER : Hid (R = (0, plkE (getF l at_) (baF nm))) := hid (by have := FX.out; rw [fnK_S, fnS, if_neg he] at this; exact this.symm)
         generalize plkE (getF l at_) (baF nm) = ee at *
         generalize plkI (getF l at_) (baF nm) = ff at *
         go_wp2_with (go_at_call 9; refine LC1.out.mono ?_; rintro _ w3 ⟨rfl, hb3⟩; have B3 := hid (BX.out.trans (hb3.mono BX.out.size)); clear hb3)
         go_ret2
         rw [ER.out]
         exact ⟨rfl, B3.out⟩
end Go.Proofs.YtgbdplammniidaaGreatDoor
