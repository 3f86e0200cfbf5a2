/-
  The document's tree: rename.
-/
import Derived.Test.YtkokjkaclcjnjaaGreatDoorPtAu
import Derived.Laws.IdiomStrings
import Derived.Deep.RegionHeld3
namespace Go.Proofs.YtkokjkaclcjnjaaGreatDoor
open Go.RowKit Go.ChangeShapes Go.WideShapes Go.ChangeAt Go.Maps Go.Shelf
set_option linter.unusedVariables false
set_option linter.unusedSimpArgs false
set_option maxRecDepth 100000
def freeL (l : List Nd) (o : Option Nd) : List Nd := match o with
 | some x => lessL l x
 | none => l
def movedL (l : List Nd) (o : Rec) (f : Int) (d : List Nd) : List Nd :=
 setL (setL d (((getF d o.dir).getD Nd.no).kids none 0 (entL ((getF d o.dir).getD Nd.no).ks o.nm 0)))
   (((getF (setL d (((getF d o.dir).getD Nd.no).kids none 0 (entL ((getF d o.dir).getD Nd.no).ks o.nm 0))) o.to).getD Nd.no).kids none 0 (entL ((getF (setL d (((getF d o.dir).getD Nd.no).kids none 0 (entL ((getF d o.dir).getD Nd.no).ks o.nm 0))) o.to).getD Nd.no).ks o.nm2 f))
def renameL (l : List Nd) (o : Rec) : Int × List Nd :=
 if lookE (getF l o.dir) o.nm ≠ 0 then (lookE (getF l o.dir) o.nm, [])
 else if dirE (getF l o.to) ≠ 0 then (dirE (getF l o.to), [])
 else if ((getF l (lookI (getF l o.dir) o.nm)).getD Nd.no).k = 2 ∧ abN l (lookI (getF l o.dir) o.nm) (l.length + 1) o.to = true then (10, [])
 else if kidI (dirN (getF l o.to)).ks o.nm2 = lookI (getF l o.dir) o.nm then (0, l)
 else if ((getF l (kidI (dirN (getF l o.to)).ks o.nm2)).isSome && ((getF l (kidI (dirN (getF l o.to)).ks o.nm2)).getD Nd.no).k == 2 && ((getF l (lookI (getF l o.dir) o.nm)).getD Nd.no).k != 2) = true then (8, [])
 else if ((getF l (kidI (dirN (getF l o.to)).ks o.nm2)).isSome && ((getF l (kidI (dirN (getF l o.to)).ks o.nm2)).getD Nd.no).k != 2 && ((getF l (lookI (getF l o.dir) o.nm)).getD Nd.no).k == 2) = true then (7, [])
 else if ((getF l (kidI (dirN (getF l o.to)).ks o.nm2)).isSome && decide (0 < ((getF l (kidI (dirN (getF l o.to)).ks o.nm2)).getD Nd.no).ks.length)) = true then (9, [])
 else if (!(getF l (kidI (dirN (getF l o.to)).ks o.nm2)).isSome && o.to != o.dir && decide (12 ≤ (dirN (getF l o.to)).ks.length)) = true then (4, [])
 else (0, movedL l o (lookI (getF l o.dir) o.nm) (freeL l (getF l (kidI (dirN (getF l o.to)).ks o.nm2))))
theorem ndp_no (w : World) : NdP w Nd.no := ⟨no_ok w, ⟨fun _ => rfl, fun _ => rfl⟩, Nat.zero_le _, Nat.zero_le _⟩
theorem Tr.getd {w : World} {a : Option Addr} {l : List Nd} (h : Tr w a l) (f : Int) : NdP w ((getF l f).getD Nd.no) := by
 cases hg : getF l f with
 | none => exact ndp_no w
 | some x => exact h.get hg
theorem getd_ks {l : List Nd} {n : Nat} (h : ∀ x ∈ l, x.ks.length ≤ n) (f : Int) : ((getF l f).getD Nd.no).ks.length ≤ n := by
 cases hg : getF l f with
 | none => exact Nat.zero_le _
 | some x => exact h x (getF_mem hg).1
theorem upK_er (l : List Nd) (f : Int) : ∀ k, upK (l.map Nd.er) f k = upK l f k
 | 0 => rfl
 | k + 1 => by
   simp only [upK, upK_er l f k, getD_er]
   have : ∀ (x : Nd) (acc : Int) (m : Nat), upM x.er f acc m = upM x f acc m := fun x acc m => by
     induction m with
     | zero => rfl
     | succ m ih => simp only [upM, ih]; rfl
   rw [this]; rfl
theorem abN_er (l : List Nd) (f : Int) : ∀ (n : Nat) (t : Int), abN (l.map Nd.er) f n t = abN l f n t
 | 0, _ => rfl
 | n + 1, t => by
   have e : ∀ v, upD (l.map Nd.er) v = upD l v := fun v => by unfold upD; rw [List.length_map]; exact upK_er l v _
   simp only [abN, e, abN_er l f n]
theorem freeL_er (l : List Nd) (o : Option Nd) : (freeL l o).map Nd.er = freeL (l.map Nd.er) (o.map Nd.er) := by
 cases o with
 | none => rfl
 | some x => exact lessL_er l x
theorem movedL_er (l : List Nd) (o : Rec) (f : Int) (d : List Nd) (ka kb : Option Addr) (kc kd : Nat) :
   (setL (setL d (((getF d o.dir).getD Nd.no).kids ka kc (entL ((getF d o.dir).getD Nd.no).ks o.nm 0)))
   (((getF (setL d (((getF d o.dir).getD Nd.no).kids ka kc (entL ((getF d o.dir).getD Nd.no).ks o.nm 0))) o.to).getD Nd.no).kids kb kd (entL ((getF (setL d (((getF d o.dir).getD Nd.no).kids ka kc (entL ((getF d o.dir).getD Nd.no).ks o.nm 0))) o.to).getD Nd.no).ks o.nm2 f))).map Nd.er = movedL (l.map Nd.er) o f (d.map Nd.er) := by
 have e1 : (setL d (((getF d o.dir).getD Nd.no).kids ka kc (entL ((getF d o.dir).getD Nd.no).ks o.nm 0))).map Nd.er = setL (d.map Nd.er) (((getF (d.map Nd.er) o.dir).getD Nd.no).kids none 0 (entL ((getF (d.map Nd.er) o.dir).getD Nd.no).ks o.nm 0)) := by
   rw [setL_er, kids_er, getF_er, getD_er2]; rfl
 unfold movedL
 rw [setL_er, ← e1, kids_er, getF_er, getD_er2]
 rfl
def FarN (G : Nat) (x : Nd) : Prop := (∀ b o s, x.da = some ⟨b, o, s⟩ → 0 < x.zs.length → b ≠ G) ∧ (∀ b o s, x.ka = some ⟨b, o, s⟩ → 0 < x.ks.length → b ≠ G)
theorem cell_lt {w : World} {p : Addr} {v : Value} (h : w.cell? p = some v) : p.block < w.heap.size := by
 rcases Nat.lt_or_ge p.block w.heap.size with q | q
 · exact q
 · have : w.heap[p.block]? = none := by simp [q]
   simp [World.cell?, this] at h
theorem Nd.Ok.far {w : World} {x : Nd} (h : x.Ok w) {G : Nat} (hG : w.heap.size ≤ G) : FarN G x := by
 obtain ⟨_, _, _, _, hb, hk⟩ := h
 refine ⟨fun b o s e hp => ?_, fun b o s e hp => ?_⟩
 · obtain ⟨b', o', e', hc⟩ := hb.2.2.1 hp
   rw [e] at e'
   cases e'
   have := cell_lt (hc 0 hp)
   simp only at this
   omega
 · obtain ⟨b', o', e', hc⟩ := hk.2.2 hp
   rw [e] at e'
   cases e'
   have := cell_lt (hc 0 hp).1
   simp only at this
   omega
theorem getd_far {l : List Nd} {G : Nat} (h : ∀ x ∈ l, FarN G x) (f : Int) : FarN G ((getF l f).getD Nd.no) := by
 cases hg : getF l f with
 | none => exact ⟨(fun b o s e => by cases e), (fun b o s e => by cases e)⟩
 | some x => exact h x (getF_mem hg).1
theorem cell_set8 {w : World} {G i : Nat} {u v : Value} {p : Addr} (h : w.cell? p = some v) (hne : p.block ≠ G) : (w.setCell ⟨G, i, none⟩ u).cell? p = some v := by
 rw [← h]
 exact World.cell?_of_block (w := w) (Below.heap_setCell w ⟨G, i, none⟩ u p.block hne)
theorem NdP.set8 {w : World} {x : Nd} (h : NdP w x) {G : Nat} (hf : FarN G x) (i : Nat) (u : Value) : NdP (w.setCell ⟨G, i, none⟩ u) x := by
 obtain ⟨⟨h1, h2, h3, h4, hb, hk⟩, hr⟩ := h
 refine ⟨⟨h1, h2, h3, h4, ⟨hb.1, hb.2.1, fun hp => ?_, hb.2.2.2⟩, ⟨hk.1, hk.2.1, fun hp => ?_⟩⟩, hr⟩
 · obtain ⟨b, off, e, hc⟩ := hb.2.2.1 hp
   exact ⟨b, off, e, fun j hj => cell_set8 (hc j hj) (hf.1 b off none e hp)⟩
 · obtain ⟨b, off, e, hc⟩ := hk.2.2 hp
   exact ⟨b, off, e, fun j hj => ⟨cell_set8 (hc j hj).1 (hf.2 b off none e hp), cell_set8 (hc j hj).2 (hf.2 b off none e hp)⟩⟩
theorem Tr.set8 {w : World} {a : Option Addr} {l : List Nd} (h : Tr w a l) {G : Nat} (ha : ∀ b o s, a = some ⟨b, o, s⟩ → b ≠ G) (hf : ∀ x ∈ l, FarN G x) (i : Nat) (u : Value) : Tr (w.setCell ⟨G, i, none⟩ u) a l := by
 refine ⟨⟨h.1.1, fun x hx => ((h.nd hx).set8 (hf x hx) i u).1, fun hp => ?_⟩, h.2⟩
 obtain ⟨b, off, e, hc⟩ := h.1.2.2 hp
 exact ⟨b, off, e, fun j hj k v hv => cell_set8 (hc j hj k v hv) (ha b off none e)⟩
def TrU (w : World) (L : List Nd) (e : Ending) (w' : World) : Prop := ∃ a cap, e = .returned (.slice a L.length cap) ∧ Tr w' a L ∧ Below w.heap.size w w' ∧ ∀ b o s, a = some ⟨b, o, s⟩ → w.heap.size ≤ b
def EnU (w : World) (x : Nd) (L : List Kd) (e : Ending) (w' : World) : Prop := ∃ ka kc, e = .returned (x.kids ka kc L).val ∧ NdP w' (x.kids ka kc L) ∧ Below w.heap.size w w' ∧ ∀ b o s, ka = some ⟨b, o, s⟩ → w.heap.size ≤ b
theorem own_new {w : World} {base e size n : Nat} {xs : List Value} {a : Option Addr} {m c : Nat} (h : w.ownsRow base e size (.slice a m c) n xs) : ∀ b o s, a = some ⟨b, o, s⟩ → base ≤ b := by
 intro b o s e1
 rcases h.2 with ⟨hv, hn⟩ | ⟨g, cap, cur, hv, hb, hrest⟩
 · rw [e1] at hv; cases hv
 · rw [e1] at hv
   cases hv
   exact hb
theorem set_u {a : Option Addr} (cap : Nat) {l : List Nd} {x : Nd} {w : World} (h : Tr w a l) (hm : l.length ≤ 1000) (hx : NdP w x) :
   Calls Tryz.prog 49 #[.slice a l.length cap, x.val] w (TrU w (setL l x)) := by
 refine (rset_c a cap l x w h.1 hm).mono ?_
 rintro e w' ⟨v, rfl, ho, hb⟩
 obtain ⟨a', c', rfl, ht⟩ := Tr.of ho (fun y hy => by
   rcases setL_mem hy with rfl | hy
   · exact hx.later hb
   · exact (h.nd hy).later hb) (by have := setL_len l x; omega)
 exact ⟨a', c', rfl, ht, hb, own_new ho⟩
theorem enter_u {x : Nd} {s : ByteArray} {f : Int} {w : World} (hx : NdP w x) (hk : x.ks.length ≤ 900) (hs : s.size ≤ maxLen) (hf : 0 ≤ f ∧ f < 4294967296) :
   Calls Tryz.prog 63 #[x.val, .string s, .int .u32 f] w (EnU w x (entL x.ks s f)) := by
 refine (renter_c x s f w hx.1 hx.2.2.2).mono ?_
 rintro e w' ⟨ka, kc, rfl, ho, hb⟩
 have hl := entL_len x.ks s f
 have hwf : ∀ q ∈ entL x.ks s f, q.Wf := fun q hq => by
   rcases entL_mem hq with rfl | hq
   · exact ⟨hs, hf⟩
   · exact hx.1.2.2.2.2.2.2.1 q hq
 obtain ⟨a2, c2, e2, hI, _, hn⟩ := isKs_own ho hwf (by omega)
 simp only [Value.slice.injEq] at e2
 obtain ⟨rfl, _, rfl⟩ := e2
 refine ⟨ka, kc, rfl, ⟨?_, ⟨hx.2.1.1, hn⟩, hx.2.2.1, by simp only [Nd.kids]; omega⟩, hb, own_new ho⟩
 obtain ⟨o1, o2, o3, o4, o5, o6⟩ := hx.1.later hb
 exact ⟨o1, o2, o3, o4, o5, hI⟩
theorem er_ks (x : Nd) : x.er.ks = x.ks := rfl
theorem er_k (x : Nd) : x.er.k = x.k := rfl
theorem kidI_bd {w : World} {a : Option Addr} {l : List Kd} (h : IsKs w a l) (s : ByteArray) : 0 ≤ kidI l s ∧ kidI l s < 4294967296 := by
 unfold kidI
 cases hf : l.find? (fun k => decide (k.nm = s)) with
 | none => exact ⟨by decide, by decide⟩
 | some k => exact (h.2.1 k (List.mem_of_find?_eq_some hf)).2
theorem lookI_bd {w : World} {a : Option Addr} {l : List Nd} (h : IsNs w a l) (f : Int) (s : ByteArray) : 0 ≤ lookI (getF l f) s ∧ lookI (getF l f) s < 4294967296 := by
 cases hg : getF l f with
 | none => exact ⟨by show (0 : Int) ≤ 0; decide, by show (0 : Int) < 4294967296; decide⟩
 | some x =>
   unfold lookI
   simp only
   split
   · exact kidI_bd (getF_ok h hg).2.2.2.2.2 s
   · exact ⟨by decide, by decide⟩
set_option maxHeartbeats 16000000 in
theorem rrename_c (a : Option Addr) (cap : Nat) (l : List Nd) (o : Rec) (w : World) (h : Tr w a l) (hm : l.length ≤ 900) (ho : o.Wf) (h800 : ∀ x ∈ l, x.ks.length ≤ 800)
   (hln : ∀ x, getF l (kidI (dirN (getF l o.to)).ks o.nm2) = some x → 1 ≤ x.ln) :
   Calls Tryz.prog 48 #[.slice a l.length cap, o.opV] w (ResT w (renameL (l.map Nd.er) o)) := by
 obtain ⟨R, hR⟩ : ∃ R, R = renameL (l.map Nd.er) o := ⟨_, rfl⟩
 rw [← hR]
 unfold renameL at hR
 simp only [getF_er, lookE_er, lookI_er, getD_er2, dirE_er, dirN_er, abN_er, Option.isSome_map, List.length_map, ← freeL_er, er_ks, er_k] at hR
 obtain ⟨k, fid, dir, nm, tof, nm2, md, dt, sn⟩ := o
 have b0 := below_1 w (.cells #[.int .u8 k, .int .u32 fid, .int .u32 dir, .string nm, .int .u32 tof, .string nm2, .int .u16 md, .string dt] 51)
 have h0 := heap_alloc_new w (.cells #[.int .u8 k, .int .u32 fid, .int .u32 dir, .string nm, .int .u32 tof, .string nm2, .int .u16 md, .string dt] 51)
 have TV := hid (h.later b0)
 have B0 := hid b0
 have OPL : Hid (∀ W, Below (w.alloc (.cells #[.int .u8 k, .int .u32 fid, .int .u32 dir, .string nm, .int .u32 tof, .string nm2, .int .u16 md, .string dt] 51)).heap.size (w.alloc (.cells #[.int .u8 k, .int .u32 fid, .int .u32 dir, .string nm, .int .u32 tof, .string nm2, .int .u16 md, .string dt] 51)) W → W.heap[w.heap.size]? = some (.cells #[.int .u8 k, .int .u32 fid, .int .u32 dir, .string nm, .int .u32 tof, .string nm2, .int .u16 md, .string dt] 51)) := hid (fun W hW => (hW.block _ (lt_blkR h0)).trans h0)
 have LC := hid (rlook_c a cap l dir nm _ TV.out.1 (by omega) (fun x hx => by have := h800 x hx; omega))
 have DC := hid (fun W hW => rdir_c a cap l tof W (TV.out.later hW).1 (by omega))
 have GC := hid (fun W hW => get2_c a cap l (lookI (getF l dir) nm) W (TV.out.later hW).1 (by omega))
 have GO := hid (fun W hW => get2_c a cap l (kidI (dirN (getF l tof)).ks nm2) W (TV.out.later hW).1 (by omega))
 have AC := hid (fun W hW => above_c a cap l (lookI (getF l dir) nm) tof W (TV.out.later hW).1 (by omega) (fun x hx => by have := h800 x hx; omega))
 have KCX : Hid (dirE (getF l tof) = 0 → ∀ W, Below (w.alloc (.cells #[.int .u8 k, .int .u32 fid, .int .u32 dir, .string nm, .int .u32 tof, .string nm2, .int .u16 md, .string dt] 51)).heap.size (w.alloc (.cells #[.int .u8 k, .int .u32 fid, .int .u32 dir, .string nm, .int .u32 tof, .string nm2, .int .u16 md, .string dt] 51)) W → Calls Tryz.prog 36 #[(dirN (getF l tof)).val, .string nm2] W fun e w' => e = .returned (.int .u32 (kidI (dirN (getF l tof)).ks nm2)) ∧ Below W.heap.size W w') := hid (fun e W hW => kid_c (dirN (getF l tof)) nm2 W ((TV.out.get (dirE_ok e).1).1.later hW) (by have := (TV.out.get (dirE_ok e).1).2.2.2; omega))
 have ZP : Hid (dirE (getF l tof) = 0 → NdP _ (dirN (getF l tof)) ∧ (dirN (getF l tof)).k = 2) := hid (fun e => ⟨TV.out.get (dirE_ok e).1, (dirE_ok e).2⟩)
 have YD := hid (TV.out.getd (lookI (getF l dir) nm))
 have XD := hid (TV.out.getd (kidI (dirN (getF l tof)).ks nm2))
 have XL : Hid ((getF l (kidI (dirN (getF l tof)).ks nm2)).isSome = true → 1 ≤ ((getF l (kidI (dirN (getF l tof)).ks nm2)).getD Nd.no).ln) := hid (fun e => by
   cases hg : getF l (kidI (dirN (getF l tof)).ks nm2) with
   | none => rw [hg] at e; cases e
   | some x => exact hln x hg)
 have FL1 : Hid ((getF l (kidI (dirN (getF l tof)).ks nm2)).isSome = true → freeL l (getF l (kidI (dirN (getF l tof)).ks nm2)) = lessL l ((getF l (kidI (dirN (getF l tof)).ks nm2)).getD Nd.no)) := hid (fun e => by
   cases hg : getF l (kidI (dirN (getF l tof)).ks nm2) with
   | none => rw [hg] at e; cases e
   | some x => rfl)
 have FL0 : Hid ((getF l (kidI (dirN (getF l tof)).ks nm2)).isSome = false → freeL l (getF l (kidI (dirN (getF l tof)).ks nm2)) = l) := hid (fun e => by
   cases hg : getF l (kidI (dirN (getF l tof)).ks nm2) with
   | none => rfl
   | some x => rw [hg] at e; cases e)
 have FLM : Hid (∀ x ∈ freeL l (getF l (kidI (dirN (getF l tof)).ks nm2)), x.ks.length ≤ 800) := hid (fun x hx => by
   cases hg : getF l (kidI (dirN (getF l tof)).ks nm2) with
   | none => rw [hg] at hx; exact h800 x hx
   | some y =>
     rw [hg] at hx
     rcases lessL_mem (show x ∈ lessL l y from hx) with e | e
     · rw [e]; exact h800 y (getF_mem hg).1
     · exact h800 x e)
 have FLL : Hid ((freeL l (getF l (kidI (dirN (getF l tof)).ks nm2))).length ≤ 901) := hid (by
   cases hg : getF l (kidI (dirN (getF l tof)).ks nm2) with
   | none => simp only [freeL]; omega
   | some y => have := lessL_len l y; simp only [freeL]; omega)
 have FLF : Hid (∀ G, (w.alloc (.cells #[.int .u8 k, .int .u32 fid, .int .u32 dir, .string nm, .int .u32 tof, .string nm2, .int .u16 md, .string dt] 51)).heap.size ≤ G → ∀ x ∈ freeL l (getF l (kidI (dirN (getF l tof)).ks nm2)), FarN G x) := hid (fun G hG x hx => by
   have key : ∀ y ∈ l, FarN G y := fun y hy => (TV.out.nd hy).1.far hG
   cases hg : getF l (kidI (dirN (getF l tof)).ks nm2) with
   | none => rw [hg] at hx; exact key x hx
   | some y =>
     rw [hg] at hx
     rcases lessL_mem (show x ∈ lessL l y from hx) with e | e
     · rw [e]; exact key y (getF_mem hg).1
     · exact key x e)
 unfold gotV at GC GO
 have HNM : Hid (nm.size ≤ maxLen) := hid ho.2.2.2.2.2.2.1
 have HNM2 : Hid (nm2.size ≤ maxLen) := hid ho.2.2.2.2.2.2.2.1
 have HLI : Hid (0 ≤ lookI (getF l dir) nm ∧ lookI (getF l dir) nm < 4294967296) := hid (lookI_bd TV.out.1 dir nm)
 simp only [Rec.opV]
 simp only at hR
 generalize freeL l (getF l (kidI (dirN (getF l tof)).ks nm2)) = T1 at *
 generalize (getF l (kidI (dirN (getF l tof)).ks nm2)).isSome = xb at *
 generalize (getF l (kidI (dirN (getF l tof)).ks nm2)).getD Nd.no = x at *
 generalize kidI (dirN (getF l tof)).ks nm2 = ki at *
 generalize abN l (lookI (getF l dir) nm) (l.length + 1) tof = ab at *
 generalize (getF l (lookI (getF l dir) nm)).isSome = yb at *
 generalize (getF l (lookI (getF l dir) nm)).getD Nd.no = y at *
 generalize lookE (getF l dir) nm = le at *
 generalize lookI (getF l dir) nm = li at *
 generalize dirE (getF l tof) = de at *
 generalize dirN (getF l tof) = z at *
 have HR := hid hR
 have HM := hid hm
 clear hR h b0 ho hln h800
 obtain ⟨zf, zk, zm, zl, zda, zdc, zzs, zka, zkc, zks⟩ := z
 obtain ⟨yf, yk, ym, yl, yda, ydc, yzs, yka, ykc, yks⟩ := y
 obtain ⟨xf, xk, xm, xl, xda, xdc, xzs, xka, xkc, xks⟩ := x
 simp only [Nd.val] at GC DC GO KCX
 simp only at XL
 go_enter Tryz.func48, Tryz.ntmps48
 go_upto_region 1 with fail
 generalize w.alloc (.cells #[.int .u8 k, .int .u32 fid, .int .u32 dir, .string nm, .int .u32 tof, .string nm2, .int .u16 md, .string dt] 51) = V at *
 have FB : Hid (∀ W, Below V.heap.size V W → Below w.heap.size w W) := hid (fun W h => B0.out.trans (h.mono B0.out.size))
 have o0 : V.cell? ⟨w.heap.size, 0, none⟩ = some (.int .u8 k) := cell_of_row2 h0 0 rfl
 have o1 : V.cell? ⟨w.heap.size, 1, none⟩ = some (.int .u32 fid) := cell_of_row2 h0 1 rfl
 have o2 : V.cell? ⟨w.heap.size, 2, none⟩ = some (.int .u32 dir) := cell_of_row2 h0 2 rfl
 have o3 : V.cell? ⟨w.heap.size, 3, none⟩ = some (.string nm) := cell_of_row2 h0 3 rfl
 have o4 : V.cell? ⟨w.heap.size, 4, none⟩ = some (.int .u32 tof) := cell_of_row2 h0 4 rfl
 have o5 : V.cell? ⟨w.heap.size, 5, none⟩ = some (.string nm2) := cell_of_row2 h0 5 rfl
 have o6 : V.cell? ⟨w.heap.size, 6, none⟩ = some (.int .u16 md) := cell_of_row2 h0 6 rfl
 have o7 : V.cell? ⟨w.heap.size, 7, none⟩ = some (.string dt) := cell_of_row2 h0 7 rfl
 clear h0
 by_cases qe : le = 0
 · subst qe
   have HR1 := hid (HR.out.trans (if_neg (by simp)))
   clear HR
   go_upto_region 4 with (go_at_call 17; refine LC.out.mono ?_; rintro _ w1 ⟨rfl, hb1⟩; have B1 := hid hb1; clear hb1)
   clear LC
   clear o0 o1 o2 o3 o4 o5 o6 o7
   have oh := OPL.out w1 B1.out
   have o0 : w1.cell? ⟨w.heap.size, 0, none⟩ = some (.int .u8 k) := cell_of_row2 oh 0 rfl
   have o1 : w1.cell? ⟨w.heap.size, 1, none⟩ = some (.int .u32 fid) := cell_of_row2 oh 1 rfl
   have o2 : w1.cell? ⟨w.heap.size, 2, none⟩ = some (.int .u32 dir) := cell_of_row2 oh 2 rfl
   have o3 : w1.cell? ⟨w.heap.size, 3, none⟩ = some (.string nm) := cell_of_row2 oh 3 rfl
   have o4 : w1.cell? ⟨w.heap.size, 4, none⟩ = some (.int .u32 tof) := cell_of_row2 oh 4 rfl
   have o5 : w1.cell? ⟨w.heap.size, 5, none⟩ = some (.string nm2) := cell_of_row2 oh 5 rfl
   have o6 : w1.cell? ⟨w.heap.size, 6, none⟩ = some (.int .u16 md) := cell_of_row2 oh 6 rfl
   have o7 : w1.cell? ⟨w.heap.size, 7, none⟩ = some (.string dt) := cell_of_row2 oh 7 rfl
   clear oh
   by_cases qd : de = 0
   · subst qd
     obtain ⟨zp, zk2⟩ := ZP.out rfl
     try simp only at zk2
     subst zk2
     have ZD := hid zp
     have KC := hid (KCX.out rfl)
     have HR2 := hid (HR1.out.trans (if_neg (by simp)))
     clear zp ZP KCX HR1
     go_upto_region 7 with (go_at_call 62; refine (DC.out _ B1.out).mono ?_; rintro _ w2 ⟨rfl, hb2⟩; have B2 := hid hb2; clear hb2)
     have C2a := hid (B1.out.trans (B2.out.mono B1.out.size))
     have bN := below_1 w2 (.cells #[.int .u32 zf, .int .u8 2, .int .u16 zm, .int .u16 zl, .slice zda zzs.length zdc, .slice zka zks.length zkc] 37)
     have gN := heap_alloc_new w2 (.cells #[.int .u32 zf, .int .u8 2, .int .u16 zm, .int .u16 zl, .slice zda zzs.length zdc, .slice zka zks.length zkc] 37)
     have C2 := hid (C2a.out.trans (bN.mono C2a.out.size))
     have DG : Hid (∀ W, Below (w2.alloc (.cells #[.int .u32 zf, .int .u8 2, .int .u16 zm, .int .u16 zl, .slice zda zzs.length zdc, .slice zka zks.length zkc] 37)).heap.size (w2.alloc (.cells #[.int .u32 zf, .int .u8 2, .int .u16 zm, .int .u16 zl, .slice zda zzs.length zdc, .slice zka zks.length zkc] 37)) W → W.heap[w2.heap.size]? = some (.cells #[.int .u32 zf, .int .u8 2, .int .u16 zm, .int .u16 zl, .slice zda zzs.length zdc, .slice zka zks.length zkc] 37)) := hid (fun W hW => (hW.block _ (lt_blkR gN)).trans gN)
     have DL : Hid (w2.heap.size < (w2.alloc (.cells #[.int .u32 zf, .int .u8 2, .int .u16 zm, .int .u16 zl, .slice zda zzs.length zdc, .slice zka zks.length zkc] 37)).heap.size) := hid (lt_blkR gN)
     generalize w2.alloc (.cells #[.int .u32 zf, .int .u8 2, .int .u16 zm, .int .u16 zl, .slice zda zzs.length zdc, .slice zka zks.length zkc] 37) = V2 at *
     have LVG8a : V.heap.size ≤ w2.heap.size := C2a.out.size
     generalize w2.heap.size = G8 at *
     have LVG8 := hid LVG8a
     clear bN gN DC B2 C2a B1 LVG8a
     clear o0 o1 o2 o3 o4 o5 o6 o7
     have oh := OPL.out V2 C2.out
     have o0 : V2.cell? ⟨w.heap.size, 0, none⟩ = some (.int .u8 k) := cell_of_row2 oh 0 rfl
     have o1 : V2.cell? ⟨w.heap.size, 1, none⟩ = some (.int .u32 fid) := cell_of_row2 oh 1 rfl
     have o2 : V2.cell? ⟨w.heap.size, 2, none⟩ = some (.int .u32 dir) := cell_of_row2 oh 2 rfl
     have o3 : V2.cell? ⟨w.heap.size, 3, none⟩ = some (.string nm) := cell_of_row2 oh 3 rfl
     have o4 : V2.cell? ⟨w.heap.size, 4, none⟩ = some (.int .u32 tof) := cell_of_row2 oh 4 rfl
     have o5 : V2.cell? ⟨w.heap.size, 5, none⟩ = some (.string nm2) := cell_of_row2 oh 5 rfl
     have o6 : V2.cell? ⟨w.heap.size, 6, none⟩ = some (.int .u16 md) := cell_of_row2 oh 6 rfl
     have o7 : V2.cell? ⟨w.heap.size, 7, none⟩ = some (.string dt) := cell_of_row2 oh 7 rfl
     clear oh
     go_upto_region 8 with (go_at_call 8; refine (GC.out _ C2.out).mono ?_; rintro _ w3 ⟨rfl, hb3⟩; have B3 := hid hb3; clear hb3)
     have bN := below_1 w3 (.cells #[.int .u32 yf, .int .u8 yk, .int .u16 ym, .int .u16 yl, .slice yda yzs.length ydc, .slice yka yks.length ykc] 37)
     have gN := heap_alloc_new w3 (.cells #[.int .u32 yf, .int .u8 yk, .int .u16 ym, .int .u16 yl, .slice yda yzs.length ydc, .slice yka yks.length ykc] 37)
     have K3 := hid (B3.out.trans (bN.mono B3.out.size))
     have NG : Hid (∀ W, Below (w3.alloc (.cells #[.int .u32 yf, .int .u8 yk, .int .u16 ym, .int .u16 yl, .slice yda yzs.length ydc, .slice yka yks.length ykc] 37)).heap.size (w3.alloc (.cells #[.int .u32 yf, .int .u8 yk, .int .u16 ym, .int .u16 yl, .slice yda yzs.length ydc, .slice yka yks.length ykc] 37)) W → W.heap[w3.heap.size]? = some (.cells #[.int .u32 yf, .int .u8 yk, .int .u16 ym, .int .u16 yl, .slice yda yzs.length ydc, .slice yka yks.length ykc] 37)) := hid (fun W hW => (hW.block _ (lt_blkR gN)).trans gN)
     have NL : Hid (w3.heap.size < (w3.alloc (.cells #[.int .u32 yf, .int .u8 yk, .int .u16 ym, .int .u16 yl, .slice yda yzs.length ydc, .slice yka yks.length ykc] 37)).heap.size) := hid (lt_blkR gN)
     generalize w3.alloc (.cells #[.int .u32 yf, .int .u8 yk, .int .u16 ym, .int .u16 yl, .slice yda yzs.length ydc, .slice yka yks.length ykc] 37) = V3 at *
     generalize w3.heap.size = G9 at *
     have C3 := hid (C2.out.trans (K3.out.mono C2.out.size))
     clear bN gN GC B3
     clear o0 o1 o2 o3 o4 o5 o6 o7
     have oh := OPL.out V3 C3.out
     have o0 : V3.cell? ⟨w.heap.size, 0, none⟩ = some (.int .u8 k) := cell_of_row2 oh 0 rfl
     have o1 : V3.cell? ⟨w.heap.size, 1, none⟩ = some (.int .u32 fid) := cell_of_row2 oh 1 rfl
     have o2 : V3.cell? ⟨w.heap.size, 2, none⟩ = some (.int .u32 dir) := cell_of_row2 oh 2 rfl
     have o3 : V3.cell? ⟨w.heap.size, 3, none⟩ = some (.string nm) := cell_of_row2 oh 3 rfl
     have o4 : V3.cell? ⟨w.heap.size, 4, none⟩ = some (.int .u32 tof) := cell_of_row2 oh 4 rfl
     have o5 : V3.cell? ⟨w.heap.size, 5, none⟩ = some (.string nm2) := cell_of_row2 oh 5 rfl
     have o6 : V3.cell? ⟨w.heap.size, 6, none⟩ = some (.int .u16 md) := cell_of_row2 oh 6 rfl
     have o7 : V3.cell? ⟨w.heap.size, 7, none⟩ = some (.string dt) := cell_of_row2 oh 7 rfl
     clear oh
     have nh := NG.out V3 (Below.refl _ _)
     have n1 : V3.cell? ⟨G9, 1, none⟩ = some (.int .u8 yk) := cell_of_row2 nh 1 rfl
     clear nh
     have AV := hid (AC.out _ C3.out)
     clear AC
     obtain ⟨b10, hb10⟩ : ∃ b10, b10 = (yk == 2 && ab) := ⟨_, rfl⟩
     have HB10 := hid hb10
     clear hb10
     go_cut [53] from 44 to 53 (fun s53 wx => s53 = .bool b10 ∧ wx = V3)
     case first =>
       cases qy : (yk == 2) with
       | false =>
         have E10 : Hid (b10 = false) := hid (by rw [HB10.out, qy]; rfl)
         clear HB10
         go_wp2
         go_meet
         exact ⟨by rw [E10.out], rfl⟩
       | true =>
         have E10 : Hid (b10 = ab) := hid (by rw [HB10.out, qy]; rfl)
         clear HB10
         go_wp2_with (go_at_call 22; refine AV.out.mono ?_; rintro _ w4 ⟨rfl, hw4⟩; have hw5 := hw4.symm; clear hw4; subst hw5)
         go_meet
         exact ⟨by rw [E10.out], rfl⟩
     case rest =>
     obtain ⟨rfl, hw⟩ := hcut
     have hw2 := hw.symm
     clear hw
     subst hw2
     clear AV
     cases b10 with
     | true =>
       have RE : Hid (R = (10, [])) := hid (by
         have e := HB10.out.symm
         rw [Bool.and_eq_true, beq_iff_eq] at e
         exact HR2.out.trans (if_pos ⟨e.1, e.2⟩))
       clear HR2 HB10
       go_wp2
       refine bodyPost_ret (v := .tuple #[.slice none 0 0, .int .i64 10]) (by simp [results, Tryz.results48, go_sem]) rfl (ResT.err RE.out (FB.out _ C3.out))
     | false =>
       have HR3 := hid (HR2.out.trans (if_neg (fun h => by
         have e := HB10.out
         rw [show (yk == 2) = true from by have := h.1; simpa using this, h.2] at e
         cases e)))
       clear HR2 HB10
       have dh := DG.out V3 K3.out
       have d0 : V3.cell? ⟨G8, 0, none⟩ = some (.int .u32 zf) := cell_of_row2 dh 0 rfl
       have d1 : V3.cell? ⟨G8, 1, none⟩ = some (.int .u8 2) := cell_of_row2 dh 1 rfl
       have d2 : V3.cell? ⟨G8, 2, none⟩ = some (.int .u16 zm) := cell_of_row2 dh 2 rfl
       have d3 : V3.cell? ⟨G8, 3, none⟩ = some (.int .u16 zl) := cell_of_row2 dh 3 rfl
       have d4 : V3.cell? ⟨G8, 4, none⟩ = some (.slice zda zzs.length zdc) := cell_of_row2 dh 4 rfl
       have d5 : V3.cell? ⟨G8, 5, none⟩ = some (.slice zka zks.length zkc) := cell_of_row2 dh 5 rfl
       clear dh
       go_upto_region 11 with (go_at_call 36; refine (KC.out _ C3.out).mono ?_; rintro _ w4 ⟨rfl, hb4⟩; have B4 := hid hb4; clear hb4)
       have C4 := hid (C3.out.trans (B4.out.mono C3.out.size))
       clear KC d0 d1 d2 d3 d4 d5
       clear o0 o1 o2 o3 o4 o5 o6 o7
       have oh := OPL.out w4 C4.out
       have o0 : w4.cell? ⟨w.heap.size, 0, none⟩ = some (.int .u8 k) := cell_of_row2 oh 0 rfl
       have o1 : w4.cell? ⟨w.heap.size, 1, none⟩ = some (.int .u32 fid) := cell_of_row2 oh 1 rfl
       have o2 : w4.cell? ⟨w.heap.size, 2, none⟩ = some (.int .u32 dir) := cell_of_row2 oh 2 rfl
       have o3 : w4.cell? ⟨w.heap.size, 3, none⟩ = some (.string nm) := cell_of_row2 oh 3 rfl
       have o4 : w4.cell? ⟨w.heap.size, 4, none⟩ = some (.int .u32 tof) := cell_of_row2 oh 4 rfl
       have o5 : w4.cell? ⟨w.heap.size, 5, none⟩ = some (.string nm2) := cell_of_row2 oh 5 rfl
       have o6 : w4.cell? ⟨w.heap.size, 6, none⟩ = some (.int .u16 md) := cell_of_row2 oh 6 rfl
       have o7 : w4.cell? ⟨w.heap.size, 7, none⟩ = some (.string dt) := cell_of_row2 oh 7 rfl
       clear oh
       go_upto_region 12 with (go_at_call 8; refine (GO.out _ C4.out).mono ?_; rintro _ w5 ⟨rfl, hb5⟩; have B5 := hid hb5; clear hb5)
       have K5a := hid (B4.out.trans (B5.out.mono B4.out.size))
       have bN := below_1 w5 (.cells #[.int .u32 xf, .int .u8 xk, .int .u16 xm, .int .u16 xl, .slice xda xzs.length xdc, .slice xka xks.length xkc] 37)
       have gN := heap_alloc_new w5 (.cells #[.int .u32 xf, .int .u8 xk, .int .u16 xm, .int .u16 xl, .slice xda xzs.length xdc, .slice xka xks.length xkc] 37)
       have K5 := hid (K5a.out.trans (bN.mono K5a.out.size))
       have OG : Hid (∀ W, Below (w5.alloc (.cells #[.int .u32 xf, .int .u8 xk, .int .u16 xm, .int .u16 xl, .slice xda xzs.length xdc, .slice xka xks.length xkc] 37)).heap.size (w5.alloc (.cells #[.int .u32 xf, .int .u8 xk, .int .u16 xm, .int .u16 xl, .slice xda xzs.length xdc, .slice xka xks.length xkc] 37)) W → W.heap[w5.heap.size]? = some (.cells #[.int .u32 xf, .int .u8 xk, .int .u16 xm, .int .u16 xl, .slice xda xzs.length xdc, .slice xka xks.length xkc] 37)) := hid (fun W hW => (hW.block _ (lt_blkR gN)).trans gN)
       have OL : Hid (w5.heap.size < (w5.alloc (.cells #[.int .u32 xf, .int .u8 xk, .int .u16 xm, .int .u16 xl, .slice xda xzs.length xdc, .slice xka xks.length xkc] 37)).heap.size) := hid (lt_blkR gN)
       generalize w5.alloc (.cells #[.int .u32 xf, .int .u8 xk, .int .u16 xm, .int .u16 xl, .slice xda xzs.length xdc, .slice xka xks.length xkc] 37) = V5 at *
       generalize w5.heap.size = G12 at *
       have C5 := hid (C3.out.trans (K5.out.mono C3.out.size))
       have K3b := hid (K3.out.trans (K5.out.mono K3.out.size))
       clear bN gN GO B5 B4 C4 K5a n1
       clear o0 o1 o2 o3 o4 o5 o6 o7
       have oh := OPL.out V5 C5.out
       have o0 : V5.cell? ⟨w.heap.size, 0, none⟩ = some (.int .u8 k) := cell_of_row2 oh 0 rfl
       have o1 : V5.cell? ⟨w.heap.size, 1, none⟩ = some (.int .u32 fid) := cell_of_row2 oh 1 rfl
       have o2 : V5.cell? ⟨w.heap.size, 2, none⟩ = some (.int .u32 dir) := cell_of_row2 oh 2 rfl
       have o3 : V5.cell? ⟨w.heap.size, 3, none⟩ = some (.string nm) := cell_of_row2 oh 3 rfl
       have o4 : V5.cell? ⟨w.heap.size, 4, none⟩ = some (.int .u32 tof) := cell_of_row2 oh 4 rfl
       have o5 : V5.cell? ⟨w.heap.size, 5, none⟩ = some (.string nm2) := cell_of_row2 oh 5 rfl
       have o6 : V5.cell? ⟨w.heap.size, 6, none⟩ = some (.int .u16 md) := cell_of_row2 oh 6 rfl
       have o7 : V5.cell? ⟨w.heap.size, 7, none⟩ = some (.string dt) := cell_of_row2 oh 7 rfl
       clear oh
       have nh := NG.out V5 K5.out
       have n0 : V5.cell? ⟨G9, 0, none⟩ = some (.int .u32 yf) := cell_of_row2 nh 0 rfl
       have n1 : V5.cell? ⟨G9, 1, none⟩ = some (.int .u8 yk) := cell_of_row2 nh 1 rfl
       have n2 : V5.cell? ⟨G9, 2, none⟩ = some (.int .u16 ym) := cell_of_row2 nh 2 rfl
       have n3 : V5.cell? ⟨G9, 3, none⟩ = some (.int .u16 yl) := cell_of_row2 nh 3 rfl
       have n4 : V5.cell? ⟨G9, 4, none⟩ = some (.slice yda yzs.length ydc) := cell_of_row2 nh 4 rfl
       have n5 : V5.cell? ⟨G9, 5, none⟩ = some (.slice yka yks.length ykc) := cell_of_row2 nh 5 rfl
       clear nh
       have oh5 := OG.out V5 (Below.refl _ _)
       have x0 : V5.cell? ⟨G12, 0, none⟩ = some (.int .u32 xf) := cell_of_row2 oh5 0 rfl
       have x1 : V5.cell? ⟨G12, 1, none⟩ = some (.int .u8 xk) := cell_of_row2 oh5 1 rfl
       have x2 : V5.cell? ⟨G12, 2, none⟩ = some (.int .u16 xm) := cell_of_row2 oh5 2 rfl
       have x3 : V5.cell? ⟨G12, 3, none⟩ = some (.int .u16 xl) := cell_of_row2 oh5 3 rfl
       have x4 : V5.cell? ⟨G12, 4, none⟩ = some (.slice xda xzs.length xdc) := cell_of_row2 oh5 4 rfl
       have x5 : V5.cell? ⟨G12, 5, none⟩ = some (.slice xka xks.length xkc) := cell_of_row2 oh5 5 rfl
       clear oh5
       have dh := DG.out V5 K3b.out
       have d0 : V5.cell? ⟨G8, 0, none⟩ = some (.int .u32 zf) := cell_of_row2 dh 0 rfl
       have d1 : V5.cell? ⟨G8, 1, none⟩ = some (.int .u8 2) := cell_of_row2 dh 1 rfl
       have d2 : V5.cell? ⟨G8, 2, none⟩ = some (.int .u16 zm) := cell_of_row2 dh 2 rfl
       have d3 : V5.cell? ⟨G8, 3, none⟩ = some (.int .u16 zl) := cell_of_row2 dh 3 rfl
       have d4 : V5.cell? ⟨G8, 4, none⟩ = some (.slice zda zzs.length zdc) := cell_of_row2 dh 4 rfl
       have d5 : V5.cell? ⟨G8, 5, none⟩ = some (.slice zka zks.length zkc) := cell_of_row2 dh 5 rfl
       clear dh
       by_cases qs : ki = li
       · have qsB : (ki == li) = true := by rw [qs]; simp
         have RE : Hid (R = (0, l.map Nd.er)) := hid (HR3.out.trans (if_pos qs))
         have TT := hid (TV.out.later C5.out)
         clear HR3 qs
         go_wp2
         refine bodyPost_ret (v := .tuple #[.slice a l.length cap, .int .i64 0]) (by simp [results, Tryz.results48, go_sem]) rfl (ResT.ok TT.out RE.out (FB.out _ C5.out))
       · have qsB : (ki == li) = false := beq_eq_false_iff_ne.2 qs
         have HR4 := hid (HR3.out.trans (if_neg qs))
         clear HR3 qs
         obtain ⟨q8, hq8⟩ : ∃ q8, q8 = (xb && xk == 2 && yk != 2) := ⟨_, rfl⟩
         have Hq8 := hid hq8
         clear hq8
         go_upto_region 14 with fail
         go_cut [69] from 70 to 80 (fun s wx => s = .bool q8 ∧ wx = V5)
         case first =>
           cases xb with
           | false =>
             have E : Hid (q8 = false) := hid (by rw [Hq8.out]; rfl)
             clear Hq8
             go_wp2
             go_meet
             exact ⟨by rw [E.out], rfl⟩
           | true =>
             cases e1 : (xk == 2) with
             | false =>
               have E : Hid (q8 = false) := hid (by rw [Hq8.out, e1]; rfl)
               clear Hq8
               go_wp2
               go_meet
               exact ⟨by rw [E.out], rfl⟩
             | true =>
               cases e2 : (yk != 2) with
               | false =>
                 have E : Hid (q8 = false) := hid (by rw [Hq8.out, e1, e2]; rfl)
                 clear Hq8
                 go_wp2
                 go_meet
                 exact ⟨by rw [E.out], rfl⟩
               | true =>
                 have E : Hid (q8 = true) := hid (by rw [Hq8.out, e1, e2]; rfl)
                 clear Hq8
                 go_wp2
                 go_meet
                 exact ⟨by rw [E.out], rfl⟩
         case rest =>
         obtain ⟨rfl, hw⟩ := hcut
         have hw2 := hw.symm
         clear hw
         subst hw2
         cases q8 with
         | true =>
           have RE : Hid (R = (8, [])) := hid (HR4.out.trans (if_pos Hq8.out.symm))
           clear HR4 Hq8
           go_wp2
           refine bodyPost_ret (v := .tuple #[.slice none 0 0, .int .i64 8]) (by simp [results, Tryz.results48, go_sem]) rfl (ResT.err RE.out (FB.out _ C5.out))
         | false =>
         have HR5 := hid (HR4.out.trans (if_neg (by rw [show _ = false from Hq8.out.symm]; simp)))
         clear HR4 Hq8
         obtain ⟨q7, hq7⟩ : ∃ q7, q7 = (xb && xk != 2 && yk == 2) := ⟨_, rfl⟩
         have Hq7 := hid hq7
         clear hq7
         go_upto_region 16 with fail
         go_cut [81] from 82 to 92 (fun s wx => s = .bool q7 ∧ wx = V5)
         case first =>
           cases xb with
           | false =>
             have E : Hid (q7 = false) := hid (by rw [Hq7.out]; rfl)
             clear Hq7
             go_wp2
             go_meet
             exact ⟨by rw [E.out], rfl⟩
           | true =>
             cases e1 : (xk != 2) with
             | false =>
               have E : Hid (q7 = false) := hid (by rw [Hq7.out, e1]; rfl)
               clear Hq7
               go_wp2
               go_meet
               exact ⟨by rw [E.out], rfl⟩
             | true =>
               cases e2 : (yk == 2) with
               | false =>
                 have E : Hid (q7 = false) := hid (by rw [Hq7.out, e1, e2]; rfl)
                 clear Hq7
                 go_wp2
                 go_meet
                 exact ⟨by rw [E.out], rfl⟩
               | true =>
                 have E : Hid (q7 = true) := hid (by rw [Hq7.out, e1, e2]; rfl)
                 clear Hq7
                 go_wp2
                 go_meet
                 exact ⟨by rw [E.out], rfl⟩
         case rest =>
         obtain ⟨rfl, hw⟩ := hcut
         have hw2 := hw.symm
         clear hw
         subst hw2
         cases q7 with
         | true =>
           have RE : Hid (R = (7, [])) := hid (HR5.out.trans (if_pos Hq7.out.symm))
           clear HR5 Hq7
           go_wp2
           refine bodyPost_ret (v := .tuple #[.slice none 0 0, .int .i64 7]) (by simp [results, Tryz.results48, go_sem]) rfl (ResT.err RE.out (FB.out _ C5.out))
         | false =>
         have HR6 := hid (HR5.out.trans (if_neg (by rw [show _ = false from Hq7.out.symm]; simp)))
         clear HR5 Hq7
         obtain ⟨q9, hq9⟩ : ∃ q9, q9 = (xb && decide (0 < xks.length)) := ⟨_, rfl⟩
         have Hq9 := hid hq9
         clear hq9
         go_upto_region 18 with fail
         go_cut [93] from 94 to 100 (fun s wx => s = .bool q9 ∧ wx = V5)
         case first =>
           cases xb with
           | false =>
             have E : Hid (q9 = false) := hid (by rw [Hq9.out]; rfl)
             clear Hq9
             go_wp2
             go_meet
             exact ⟨by rw [E.out], rfl⟩
           | true =>
             by_cases e1 : 0 < xks.length
             · have e1I : (0 : Int) < xks.length := by omega
               have E : Hid (q9 = true) := hid (by rw [Hq9.out, decide_eq_true e1]; rfl)
               clear Hq9
               go_wp2
               go_meet
               exact ⟨by rw [E.out], rfl⟩
             · have e1I : ¬ (0 : Int) < xks.length := by omega
               have E : Hid (q9 = false) := hid (by rw [Hq9.out, decide_eq_false e1]; rfl)
               clear Hq9
               go_wp2
               go_meet
               exact ⟨by rw [E.out], rfl⟩
         case rest =>
         obtain ⟨rfl, hw⟩ := hcut
         have hw2 := hw.symm
         clear hw
         subst hw2
         cases q9 with
         | true =>
           have RE : Hid (R = (9, [])) := hid (HR6.out.trans (if_pos Hq9.out.symm))
           clear HR6 Hq9
           go_wp2
           refine bodyPost_ret (v := .tuple #[.slice none 0 0, .int .i64 9]) (by simp [results, Tryz.results48, go_sem]) rfl (ResT.err RE.out (FB.out _ C5.out))
         | false =>
         have HR7 := hid (HR6.out.trans (if_neg (by rw [show _ = false from Hq9.out.symm]; simp)))
         clear HR6 Hq9
         obtain ⟨q4, hq4⟩ : ∃ q4, q4 = (!xb && tof != dir && decide (12 ≤ zks.length)) := ⟨_, rfl⟩
         have Hq4 := hid hq4
         clear hq4
         go_upto_region 20 with fail
         go_cut [101] from 102 to 116 (fun s wx => s = .bool q4 ∧ wx = V5)
         case first =>
           cases xb with
           | true =>
             have E : Hid (q4 = false) := hid (by rw [Hq4.out]; rfl)
             clear Hq4
             go_wp2
             go_meet
             exact ⟨by rw [E.out], rfl⟩
           | false =>
             cases e1 : (tof != dir) with
             | false =>
               have E : Hid (q4 = false) := hid (by rw [Hq4.out, e1]; rfl)
               clear Hq4
               go_wp2
               go_meet
               exact ⟨by rw [E.out], rfl⟩
             | true =>
               by_cases e2 : 12 ≤ zks.length
               · have e2I : (12 : Int) ≤ zks.length := by omega
                 have E : Hid (q4 = true) := hid (by rw [Hq4.out, e1, decide_eq_true e2]; rfl)
                 clear Hq4
                 go_wp2
                 go_meet
                 exact ⟨by rw [E.out], rfl⟩
               · have e2I : ¬ (12 : Int) ≤ zks.length := by omega
                 have E : Hid (q4 = false) := hid (by rw [Hq4.out, e1, decide_eq_false e2]; rfl)
                 clear Hq4
                 go_wp2
                 go_meet
                 exact ⟨by rw [E.out], rfl⟩
         case rest =>
         obtain ⟨rfl, hw⟩ := hcut
         have hw2 := hw.symm
         clear hw
         subst hw2
         cases q4 with
         | true =>
           have RE : Hid (R = (4, [])) := hid (HR7.out.trans (if_pos Hq4.out.symm))
           clear HR7 Hq4
           go_wp2
           refine bodyPost_ret (v := .tuple #[.slice none 0 0, .int .i64 4]) (by simp [results, Tryz.results48, go_sem]) rfl (ResT.err RE.out (FB.out _ C5.out))
         | false =>
         have HR8 := hid (HR7.out.trans (if_neg (by rw [show _ = false from Hq4.out.symm]; simp)))
         clear HR7 Hq4
         clear d0 d1 d2 d3 d4 d5 n0 n1 n2 n3 n4 n5
         have RE : Hid (R = (0, movedL (l.map Nd.er) ⟨k, fid, dir, nm, tof, nm2, md, dt, sn⟩ li (T1.map Nd.er))) := HR8
         clear HR8
         go_upto_if 117 with fail
         go_cut [0] from 118 to 120 (fun s0 wx => ∃ a1 c1 wy, s0 = .slice a1 T1.length c1 ∧ wy = wx ∧ Hid (Tr wy a1 T1) ∧ Hid (Below V5.heap.size V5 wy))
         case first =>
           cases xb with
           | false =>
             have TT : Hid (Tr V5 a l) := hid (TV.out.later C5.out)
             have ET := hid (FL0.out rfl)
             clear FL0 FL1
             go_wp2
             go_meet
             exact ⟨a, cap, _, by rw [ET.out], rfl, hid (by rw [ET.out]; exact TT.out), hid (Below.refl _ _)⟩
           | true =>
             have ET := hid (FL1.out rfl)
             have LC := hid (less_t cap (TV.out.later C5.out) (by have := HM.out; omega) (XD.out.later C5.out) (XL.out rfl))
             simp only [Nd.val] at LC
             clear FL0 FL1
             go_wp2_with (go_at_call 64; refine LC.out.mono ?_; intro e6 w6 h6; obtain ⟨a6, c6, rfl, ht6, hb6⟩ := h6)
             go_meet
             exact ⟨a6, c6, _, by rw [ET.out], rfl, hid (by rw [ET.out]; exact ht6), hid hb6⟩
         case rest =>
         obtain ⟨a1, c1, V6, rfl, rfl, T6, K6⟩ := hcut
         have C6 := hid (C5.out.trans (K6.out.mono C5.out.size))
         have K8F := hid (K3b.out.trans (K6.out.mono K3b.out.size))
         clear x0 x1 x2 x3 x4 x5 FL0 FL1
         clear o0 o1 o2 o3 o4 o5 o6 o7
         have oh := OPL.out V6 C6.out
         have o0 : V6.cell? ⟨w.heap.size, 0, none⟩ = some (.int .u8 k) := cell_of_row2 oh 0 rfl
         have o1 : V6.cell? ⟨w.heap.size, 1, none⟩ = some (.int .u32 fid) := cell_of_row2 oh 1 rfl
         have o2 : V6.cell? ⟨w.heap.size, 2, none⟩ = some (.int .u32 dir) := cell_of_row2 oh 2 rfl
         have o3 : V6.cell? ⟨w.heap.size, 3, none⟩ = some (.string nm) := cell_of_row2 oh 3 rfl
         have o4 : V6.cell? ⟨w.heap.size, 4, none⟩ = some (.int .u32 tof) := cell_of_row2 oh 4 rfl
         have o5 : V6.cell? ⟨w.heap.size, 5, none⟩ = some (.string nm2) := cell_of_row2 oh 5 rfl
         have o6 : V6.cell? ⟨w.heap.size, 6, none⟩ = some (.int .u16 md) := cell_of_row2 oh 6 rfl
         have o7 : V6.cell? ⟨w.heap.size, 7, none⟩ = some (.string dt) := cell_of_row2 oh 7 rfl
         clear oh
         have GF := hid (get2_c a1 c1 T1 dir V6 T6.out.1 (by have := FLL.out; omega))
         unfold gotV at GF
         have FD := hid (T6.out.getd dir)
         have FK := hid (getd_ks FLM.out dir)
         have FR1 := hid (FLF.out G8 LVG8.out)
         have FRF := hid (getd_far FR1.out dir)
         have MV : Hid (∀ ka kb kc kd, (setL (setL T1 (((getF T1 dir).getD Nd.no).kids ka kc (entL ((getF T1 dir).getD Nd.no).ks nm 0))) (((getF (setL T1 (((getF T1 dir).getD Nd.no).kids ka kc (entL ((getF T1 dir).getD Nd.no).ks nm 0))) tof).getD Nd.no).kids kb kd (entL ((getF (setL T1 (((getF T1 dir).getD Nd.no).kids ka kc (entL ((getF T1 dir).getD Nd.no).ks nm 0))) tof).getD Nd.no).ks nm2 li))).map Nd.er = movedL (l.map Nd.er) ⟨k, fid, dir, nm, tof, nm2, md, dt, sn⟩ li (T1.map Nd.er)) := hid (fun ka kb kc kd => movedL_er l ⟨k, fid, dir, nm, tof, nm2, md, dt, sn⟩ li T1 ka kb kc kd)
         generalize (getF T1 dir).isSome = fb at *
         generalize (getF T1 dir).getD Nd.no = f at *
         obtain ⟨ff, fk, fm, fl, fda, fdc, fzs, fka, fkc, fks⟩ := f
         simp only [Nd.val] at GF
         go_upto_region 25 with (go_at_call 8; refine GF.out.mono ?_; rintro _ w7 ⟨rfl, hb7⟩; have B7 := hid hb7; clear hb7)
         have C7a := hid (C6.out.trans (B7.out.mono C6.out.size))
         have bN := below_1 w7 (.cells #[.int .u32 ff, .int .u8 fk, .int .u16 fm, .int .u16 fl, .slice fda fzs.length fdc, .slice fka fks.length fkc] 37)
         have gN := heap_alloc_new w7 (.cells #[.int .u32 ff, .int .u8 fk, .int .u16 fm, .int .u16 fl, .slice fda fzs.length fdc, .slice fka fks.length fkc] 37)
         have C7 := hid (C7a.out.trans (bN.mono C7a.out.size))
         have FG : Hid (∀ W, Below (w7.alloc (.cells #[.int .u32 ff, .int .u8 fk, .int .u16 fm, .int .u16 fl, .slice fda fzs.length fdc, .slice fka fks.length fkc] 37)).heap.size (w7.alloc (.cells #[.int .u32 ff, .int .u8 fk, .int .u16 fm, .int .u16 fl, .slice fda fzs.length fdc, .slice fka fks.length fkc] 37)) W → W.heap[w7.heap.size]? = some (.cells #[.int .u32 ff, .int .u8 fk, .int .u16 fm, .int .u16 fl, .slice fda fzs.length fdc, .slice fka fks.length fkc] 37)) := hid (fun W hW => (hW.block _ (lt_blkR gN)).trans gN)
         have FL : Hid (w7.heap.size < (w7.alloc (.cells #[.int .u32 ff, .int .u8 fk, .int .u16 fm, .int .u16 fl, .slice fda fzs.length fdc, .slice fka fks.length fkc] 37)).heap.size) := hid (lt_blkR gN)
         have K7 := hid (B7.out.trans (bN.mono B7.out.size))
         generalize w7.alloc (.cells #[.int .u32 ff, .int .u8 fk, .int .u16 fm, .int .u16 fl, .slice fda fzs.length fdc, .slice fka fks.length fkc] 37) = V7 at *
         generalize w7.heap.size = G14 at *
         clear bN gN GF
         clear o0 o1 o2 o3 o4 o5 o6 o7
         have oh := OPL.out V7 C7.out
         have o0 : V7.cell? ⟨w.heap.size, 0, none⟩ = some (.int .u8 k) := cell_of_row2 oh 0 rfl
         have o1 : V7.cell? ⟨w.heap.size, 1, none⟩ = some (.int .u32 fid) := cell_of_row2 oh 1 rfl
         have o2 : V7.cell? ⟨w.heap.size, 2, none⟩ = some (.int .u32 dir) := cell_of_row2 oh 2 rfl
         have o3 : V7.cell? ⟨w.heap.size, 3, none⟩ = some (.string nm) := cell_of_row2 oh 3 rfl
         have o4 : V7.cell? ⟨w.heap.size, 4, none⟩ = some (.int .u32 tof) := cell_of_row2 oh 4 rfl
         have o5 : V7.cell? ⟨w.heap.size, 5, none⟩ = some (.string nm2) := cell_of_row2 oh 5 rfl
         have o6 : V7.cell? ⟨w.heap.size, 6, none⟩ = some (.int .u16 md) := cell_of_row2 oh 6 rfl
         have o7 : V7.cell? ⟨w.heap.size, 7, none⟩ = some (.string dt) := cell_of_row2 oh 7 rfl
         clear oh
         have fh := FG.out V7 (Below.refl _ _)
         have f0 : V7.cell? ⟨G14, 0, none⟩ = some (.int .u32 ff) := cell_of_row2 fh 0 rfl
         have f1 : V7.cell? ⟨G14, 1, none⟩ = some (.int .u8 fk) := cell_of_row2 fh 1 rfl
         have f2 : V7.cell? ⟨G14, 2, none⟩ = some (.int .u16 fm) := cell_of_row2 fh 2 rfl
         have f3 : V7.cell? ⟨G14, 3, none⟩ = some (.int .u16 fl) := cell_of_row2 fh 3 rfl
         have f4 : V7.cell? ⟨G14, 4, none⟩ = some (.slice fda fzs.length fdc) := cell_of_row2 fh 4 rfl
         have f5 : V7.cell? ⟨G14, 5, none⟩ = some (.slice fka fks.length fkc) := cell_of_row2 fh 5 rfl
         clear fh
         have T7 := hid (T6.out.later K7.out)
         have K8G := hid (K8F.out.trans (K7.out.mono K8F.out.size))
         have LG8 : Hid (G8 < V7.heap.size) := hid (by have := K8G.out.size; have := DL.out; omega)
         have EC := hid (enter_u (x := ⟨ff, fk, fm, fl, fda, fdc, fzs, fka, fkc, fks⟩) (s := nm) (f := 0) (w := V7) (FD.out.later K7.out) (by have := FK.out; simp only at this ⊢; omega) HNM.out ⟨by decide, by decide⟩)
         simp only [Nd.val] at EC
         have FFR : Hid (∀ x ∈ T1, FarN G8 x) := hid (fun x hx => FR1.out x hx)
         have FFF : Hid (FarN G8 ⟨ff, fk, fm, fl, fda, fdc, fzs, fka, fkc, fks⟩) := hid FRF.out
         go_upto_region 26 with (first
           | (go_at_call 49; refine S1.out.mono ?_; intro e9 w9 h9; obtain ⟨a9, c9, rfl, ht9, hb9, hf9⟩ := h9)
           | (go_at_call 63; refine EC.out.mono ?_; intro e8 w8 h8; obtain ⟨ka8, kc8, rfl, hn8, hb8, hf8⟩ := h8; (have S1 := hid (set_u c1 (T7.out.later hb8) (by have := FLL.out; omega) hn8)); simp only [Nd.val, Nd.kids] at S1 ⊢))
         clear S1 EC f0 f1 f2 f3 f4 f5
         have C9 := hid (C7.out.trans ((hb8.trans (hb9.mono hb8.size)).mono C7.out.size))
         have K9 := hid (K8G.out.trans ((hb8.trans (hb9.mono hb8.size)).mono K8G.out.size))
         have MV2 : Hid (∀ kb kd, _) := hid (fun kb kd => MV.out ka8 kb kc8 kd)
         simp only [Nd.kids] at MV2
         have NE9 : Hid (∀ b o s, a9 = some ⟨b, o, s⟩ → b ≠ G8) := hid (fun b o s e => by have := hf9 b o s e; have := hb8.size; have := LG8.out; omega)
         have F9 : Hid (∀ x ∈ setL T1 (⟨ff, fk, fm, fl, fda, fdc, fzs, ka8, kc8, entL fks nm 0⟩ : Nd), FarN G8 x) := hid (fun x hx => by
           rcases setL_mem hx with e | e
           · rw [e]
             refine ⟨FFF.out.1, fun b o s e2 _ => ?_⟩
             have := hf8 b o s e2
             have := LG8.out
             omega
           · exact FFR.out x e)
         have K9K : Hid (∀ x ∈ setL T1 (⟨ff, fk, fm, fl, fda, fdc, fzs, ka8, kc8, entL fks nm 0⟩ : Nd), x.ks.length ≤ 801) := hid (fun x hx => by
           rcases setL_mem hx with e | e
           · rw [e]; have h1 := entL_len fks nm 0; have h2 := FK.out; simp only at h2 ⊢; omega
           · have := FLM.out x e; omega)
         have L9 : Hid ((setL T1 (⟨ff, fk, fm, fl, fda, fdc, fzs, ka8, kc8, entL fks nm 0⟩ : Nd)).length ≤ 902) := hid (by have h1 := setL_len T1 (⟨ff, fk, fm, fl, fda, fdc, fzs, ka8, kc8, entL fks nm 0⟩ : Nd); have := FLL.out; omega)
         have T9 := hid ht9
         clear hb8 hb9 hf8 hf9 hn8 ht9 MV FFR FFF
         generalize setL T1 (⟨ff, fk, fm, fl, fda, fdc, fzs, ka8, kc8, entL fks nm 0⟩ : Nd) = T2 at *
         clear o0 o1 o2 o3 o4 o5 o6 o7
         have oh := OPL.out w9 C9.out
         have o0 : w9.cell? ⟨w.heap.size, 0, none⟩ = some (.int .u8 k) := cell_of_row2 oh 0 rfl
         have o1 : w9.cell? ⟨w.heap.size, 1, none⟩ = some (.int .u32 fid) := cell_of_row2 oh 1 rfl
         have o2 : w9.cell? ⟨w.heap.size, 2, none⟩ = some (.int .u32 dir) := cell_of_row2 oh 2 rfl
         have o3 : w9.cell? ⟨w.heap.size, 3, none⟩ = some (.string nm) := cell_of_row2 oh 3 rfl
         have o4 : w9.cell? ⟨w.heap.size, 4, none⟩ = some (.int .u32 tof) := cell_of_row2 oh 4 rfl
         have o5 : w9.cell? ⟨w.heap.size, 5, none⟩ = some (.string nm2) := cell_of_row2 oh 5 rfl
         have o6 : w9.cell? ⟨w.heap.size, 6, none⟩ = some (.int .u16 md) := cell_of_row2 oh 6 rfl
         have o7 : w9.cell? ⟨w.heap.size, 7, none⟩ = some (.string dt) := cell_of_row2 oh 7 rfl
         clear oh
         have GT := hid (get2_c a9 c9 T2 tof w9 T9.out.1 (by have := L9.out; omega))
         unfold gotV at GT
         have TD := hid (T9.out.getd tof)
         have TK := hid (getd_ks K9K.out tof)
         have FRT := hid (getd_far F9.out tof)
         generalize (getF T2 tof).isSome = tb at *
         generalize (getF T2 tof).getD Nd.no = t at *
         obtain ⟨tf, tk, tm, tl, tda, tdc, tzs, tka, tkc, tks⟩ := t
         simp only [Nd.val] at GT
         simp only at MV2
         have D9 : Hid (∀ W, Below w9.heap.size w9 W → W.heap[G8]? = some (.cells #[.int .u32 zf, .int .u8 2, .int .u16 zm, .int .u16 zl, .slice zda zzs.length zdc, .slice zka zks.length zkc] 37)) := hid (fun W hW => DG.out W (K9.out.trans (hW.mono K9.out.size)))
         go_upto_region 27 with (go_at_call 8; refine GT.out.mono ?_; rintro _ wa ⟨rfl, hba⟩; (have dh := D9.out _ hba); (have fz : ∀ i, wa.frozen? ⟨G8, i, none⟩ = false := fun i => by simp [World.frozen?, dh]); (have d0 : wa.cell? ⟨G8, 0, none⟩ = some (.int .u32 zf) := cell_of_row2 dh 0 rfl); (have d1 : wa.cell? ⟨G8, 1, none⟩ = some (.int .u8 2) := cell_of_row2 dh 1 rfl); (have d2 : wa.cell? ⟨G8, 2, none⟩ = some (.int .u16 zm) := cell_of_row2 dh 2 rfl); (have d3 : wa.cell? ⟨G8, 3, none⟩ = some (.int .u16 zl) := cell_of_row2 dh 3 rfl); (have d4 : wa.cell? ⟨G8, 4, none⟩ = some (.slice zda zzs.length zdc) := cell_of_row2 dh 4 rfl); (have d5 : wa.cell? ⟨G8, 5, none⟩ = some (.slice zka zks.length zkc) := cell_of_row2 dh 5 rfl); clear dh; have Ba := hid hba; clear hba)
         have da := D9.out _ Ba.out
         have q0 := heap_setCell_same wa G8 0 _ _ (.int .u32 tf) da
         have q1 := heap_setCell_same _ G8 1 _ _ (.int .u8 tk) q0
         have q2 := heap_setCell_same _ G8 2 _ _ (.int .u16 tm) q1
         have q3 := heap_setCell_same _ G8 3 _ _ (.int .u16 tl) q2
         have q4 := heap_setCell_same _ G8 4 _ _ (.slice tda tzs.length tdc) q3
         have q5 := heap_setCell_same _ G8 5 _ _ (.slice tka tks.length tkc) q4
         have Ca := hid (C9.out.trans (Ba.out.mono C9.out.size))
         have Cb := hid ((((((Ca.out.setCell (p := ⟨G8, 0, none⟩) LVG8.out (.int .u32 tf)).setCell (p := ⟨G8, 1, none⟩) LVG8.out (.int .u8 tk)).setCell (p := ⟨G8, 2, none⟩) LVG8.out (.int .u16 tm)).setCell (p := ⟨G8, 3, none⟩) LVG8.out (.int .u16 tl)).setCell (p := ⟨G8, 4, none⟩) LVG8.out (.slice tda tzs.length tdc)).setCell (p := ⟨G8, 5, none⟩) LVG8.out (.slice tka tks.length tkc))
         have Ta := hid (T9.out.later Ba.out)
         have Tb := hid ((((((Ta.out.set8 NE9.out F9.out 0 (.int .u32 tf)).set8 NE9.out F9.out 1 (.int .u8 tk)).set8 NE9.out F9.out 2 (.int .u16 tm)).set8 NE9.out F9.out 3 (.int .u16 tl)).set8 NE9.out F9.out 4 (.slice tda tzs.length tdc)).set8 NE9.out F9.out 5 (.slice tka tks.length tkc))
         have NDb := hid (((((((TD.out.later Ba.out).set8 FRT.out 0 (.int .u32 tf)).set8 FRT.out 1 (.int .u8 tk)).set8 FRT.out 2 (.int .u16 tm)).set8 FRT.out 3 (.int .u16 tl)).set8 FRT.out 4 (.slice tda tzs.length tdc)).set8 FRT.out 5 (.slice tka tks.length tkc))
         clear d0 d1 d2 d3 d4 d5 fz da q0 q1 q2 q3 q4 Ca Ta C9 GT T9 D9 Ba
         generalize ((((((wa.setCell ⟨G8, 0, none⟩ (.int .u32 tf)).setCell ⟨G8, 1, none⟩ (.int .u8 tk)).setCell ⟨G8, 2, none⟩ (.int .u16 tm)).setCell ⟨G8, 3, none⟩ (.int .u16 tl)).setCell ⟨G8, 4, none⟩ (.slice tda tzs.length tdc)).setCell ⟨G8, 5, none⟩ (.slice tka tks.length tkc)) = VB at *
         have t0 : VB.cell? ⟨G8, 0, none⟩ = some (.int .u32 tf) := cell_of_row2 q5 0 rfl
         have t1 : VB.cell? ⟨G8, 1, none⟩ = some (.int .u8 tk) := cell_of_row2 q5 1 rfl
         have t2 : VB.cell? ⟨G8, 2, none⟩ = some (.int .u16 tm) := cell_of_row2 q5 2 rfl
         have t3 : VB.cell? ⟨G8, 3, none⟩ = some (.int .u16 tl) := cell_of_row2 q5 3 rfl
         have t4 : VB.cell? ⟨G8, 4, none⟩ = some (.slice tda tzs.length tdc) := cell_of_row2 q5 4 rfl
         have t5 : VB.cell? ⟨G8, 5, none⟩ = some (.slice tka tks.length tkc) := cell_of_row2 q5 5 rfl
         clear q5
         clear o0 o1 o2 o3 o4 o5 o6 o7
         have oh := OPL.out VB Cb.out
         have o0 : VB.cell? ⟨w.heap.size, 0, none⟩ = some (.int .u8 k) := cell_of_row2 oh 0 rfl
         have o1 : VB.cell? ⟨w.heap.size, 1, none⟩ = some (.int .u32 fid) := cell_of_row2 oh 1 rfl
         have o2 : VB.cell? ⟨w.heap.size, 2, none⟩ = some (.int .u32 dir) := cell_of_row2 oh 2 rfl
         have o3 : VB.cell? ⟨w.heap.size, 3, none⟩ = some (.string nm) := cell_of_row2 oh 3 rfl
         have o4 : VB.cell? ⟨w.heap.size, 4, none⟩ = some (.int .u32 tof) := cell_of_row2 oh 4 rfl
         have o5 : VB.cell? ⟨w.heap.size, 5, none⟩ = some (.string nm2) := cell_of_row2 oh 5 rfl
         have o6 : VB.cell? ⟨w.heap.size, 6, none⟩ = some (.int .u16 md) := cell_of_row2 oh 6 rfl
         have o7 : VB.cell? ⟨w.heap.size, 7, none⟩ = some (.string dt) := cell_of_row2 oh 7 rfl
         clear oh
         have EC := hid (enter_t (x := ⟨tf, tk, tm, tl, tda, tdc, tzs, tka, tkc, tks⟩) (s := nm2) (f := li) (w := VB) NDb.out (by have := TK.out; simp only at this ⊢; omega) HNM2.out HLI.out)
         simp only [Nd.val] at EC
         go_wp2_with (first
           | (go_at_call 49; refine S1.out.mono ?_; intro e9 wd h9; obtain ⟨ad, cd, rfl, htd, hbd⟩ := h9)
           | (go_at_call 63; refine EC.out.mono ?_; intro e8 wc h8; obtain ⟨kac, kcc, rfl, hnc, hbc⟩ := h8; (have S1 := hid (set_t c9 (Tb.out.later hbc) (by have := L9.out; omega) hnc)); simp only [Nd.val, Nd.kids] at S1 ⊢))
         refine bodyPost_ret (v := .tuple #[.slice ad (setL T2 ⟨tf, tk, tm, tl, tda, tdc, tzs, kac, kcc, entL tks nm2 li⟩).length cd, .int .i64 0]) (by simp [results, Tryz.results48, go_sem]) rfl (ResT.ok htd ?_ (FB.out _ (Cb.out.trans ((hbc.trans (hbd.mono hbc.size)).mono Cb.out.size))))
         rw [RE.out]
         exact congrArg (fun x => ((0 : Int), x)) (MV2.out kac kcc).symm
   · have qdB : (de != 0) = true := by simp [qd]
     have RE : Hid (R = (de, [])) := hid (HR1.out.trans (if_pos qd))
     clear HR1 ZP
     go_wp2_with (go_at_call 62; refine (DC.out _ B1.out).mono ?_; rintro _ w2 ⟨rfl, hb2⟩; have B2 := hid hb2; clear hb2)
     refine bodyPost_ret (v := .tuple #[.slice none 0 0, .int .i64 de]) (by simp [results, Tryz.results48, go_sem]) rfl (ResT.err RE.out ((FB.out _ (B1.out.trans (B2.out.mono B1.out.size))).trans ((below_1 w2 _).mono (FB.out _ (B1.out.trans (B2.out.mono B1.out.size))).size)))
 · have qeB : (le != 0) = true := by simp [qe]
   have RE : Hid (R = (le, [])) := hid (HR.out.trans (if_pos qe))
   clear HR ZP
   go_wp2_with (go_at_call 17; refine LC.out.mono ?_; rintro _ w1 ⟨rfl, hb1⟩; have B1 := hid hb1; clear hb1)
   refine bodyPost_ret (v := .tuple #[.slice none 0 0, .int .i64 le]) (by simp [results, Tryz.results48, go_sem]) rfl (ResT.err RE.out (FB.out _ B1.out))
end Go.Proofs.YtkokjkaclcjnjaaGreatDoor
