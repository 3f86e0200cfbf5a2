/-
  All of bytes as an operation: takeAll, read, ReadOp of the package record.
  Bytes of records: wrongRecord, ContainsFunc, putRecord, putList, putRecords, Records of the package record.
  Bytes of records: putList, putRecords, written, Records of the package record.
  Operations compared; bytes that were made here; live of the law on record.
  live of the law on record.
  What is read of what was written: plain laws; an operation that comes in.
  Records out of their bytes: takeRecord, takeList, takeRecords of the package record.
  All of bytes as records: takeAll, read, ReadRecords of the package record.
-/
import Derived.Test.YtihgiemgcmpmmaaGreatShAf
import Derived.Defers
import Derived.Recover
import Derived.Laws.Pointers
import Derived.Deep.QuietTactic
import Derived.Maps.OwnOps
import Derived.Maps.Views
import Derived.DeepKeys4
namespace Go.Proofs.YtihgiemgcmpmmaaGreat
open Go.RowKit Go.ChangeShapes Go.WideShapes Go.ChangeAt Go.Shelf
set_option linter.unusedVariables false
set_option linter.unusedSimpArgs false
def Lies (w : World) (a : Option Addr) (c : Nat) : Prop := a = none ∧ c = 0 ∨ ∃ b off, a = some ⟨b, off, none⟩ ∧ b < w.heap.size
theorem at_rec {w : World} {b off : Nat} {l : List Rec} {i : Nat} (h : IsL w (some ⟨b, off, none⟩) l) (hi : i < l.length) : RcAt w b (off + i * 9) (l.getD i Rec.no) := by
 obtain ⟨b', off', e, hc⟩ := h.2.2 (by omega)
 cases e
 exact hc i hi
theorem wf_rec {w : World} {a : Option Addr} {l : List Rec} (h : IsL w a l) {i : Nat} (hi : i < l.length) : (l.getD i Rec.no).Wf := by
 rw [List.getD, List.getElem?_eq_getElem hi]
 exact h.2.1 _ (List.getElem_mem _)
theorem any_rec {l : List Rec} (p : Rec → Bool) {m : Nat} (h : m < l.length) : (l.drop m).any p = (p (l.getD m Rec.no) || (l.drop (m + 1)).any p) := by
 rw [List.drop_eq_getElem_cons h, List.any_cons]
 simp [List.getD, h]
theorem take_rec {l : List Rec} {m : Nat} (h : m < l.length) : l.take (m + 1) = l.take m ++ [l.getD m Rec.no] := by
 rw [List.take_add_one, List.getD, List.getElem?_eq_getElem h]; rfl
def wrongF (x : Rec) : Bool := !rightF x
set_option maxRecDepth 20000 in
set_option maxHeartbeats 1000000 in
theorem wrongRecord_c (x : Rec) (w : World) (hw : x.Wf) :
   Calls Tryz.prog 20 #[x.val] w fun e w' => e = .returned (.bool (wrongF x)) ∧ Below w.heap.size w w' := by
 have hx : (w.alloc (.cells x.cells.toArray 37)).heap[w.heap.size]? = some (.cells x.cells.toArray 37 (0, 0)) := heap_alloc_new w _
 obtain ⟨y0, y1, y2, y3, y4, y5, y6, y7, y8⟩ := rec_box hx
 have B0 := hid (below_1 w (.cells x.cells.toArray 37))
 have RC := hid (rightOp_c x (w.alloc (.cells x.cells.toArray 37)) hw.2.2.2.2.2.2.1 hw.2.2.2.2.2.2.2.1)
 unfold Rec.val wrongF
 unfold Rec.opV at RC
 clear hx hw
 go_enter Tryz.func20, Tryz.ntmps20
 go_wp2_with (go_at_call 41; refine RC.out.mono ?_; rintro _ w1 ⟨rfl, hb1⟩)
 go_ret
 exact ⟨rfl, B0.out.trans (hb1.mono B0.out.size)⟩
set_option maxRecDepth 20000 in
set_option maxHeartbeats 2000000 in
theorem indexFunc_c (a : Option Addr) (cap : Nat) (l : List Rec) (w : World) (h : IsL w a l) (hm : l.length ≤ 100000) :
   Calls Tryz.prog 40 #[.slice a l.length cap, .func (.func 20) #[] #[]] w fun e w' => (∃ z : Int, e = .returned (.int .i64 z) ∧ decide (0 ≤ z) = l.any wrongF) ∧ Below w.heap.size w w' := by
 have HL := hid h
 clear h
 obtain ⟨n, hn⟩ : ∃ n, n = l.length := ⟨_, rfl⟩
 rw [← hn] at hm ⊢
 have HN := hid hn
 clear hn
 obtain ⟨R, hR⟩ : ∃ R, R = l.any wrongF := ⟨_, rfl⟩
 rw [← hR]
 have HR := hid hR
 clear hR
 go_enter Tryz.func40, Tryz.ntmps40
 go_wp2
 go_loopg [8] n (fun g v wr => ∃ m : Nat, m + g = n ∧ v = .int .i64 m ∧ Hid (R = (l.drop m).any wrongF) ∧ Hid (Below w.heap.size w wr))
 case atStart => exact ⟨0, by omega, rfl, hid (by rw [HR.out]; rfl), hid (Below.refl _ _)⟩
 case round =>
   obtain ⟨m, hmg, rfl, HD, HB⟩ := hrel
   by_cases hlt : m < n
   · have hltI : (m : Int) < n := by omega
     have hil := HL.out.later HB.out
     obtain ⟨b, off, rfl, _⟩ := hil.2.2 (by rw [← HN.out]; omega)
     have hr := at_rec hil (i := m) (by rw [← HN.out]; exact hlt)
     have WC := hid (wrongRecord_c (l.getD m Rec.no) wr (wf_rec hil (by rw [← HN.out]; exact hlt)))
     have HE := hid (HD.out.trans (any_rec wrongF (by rw [← HN.out]; exact hlt)))
     clear hil HD
     generalize l.getD m Rec.no = x at *
     have k0 : wr.cell? ⟨b, off + m * 9, none⟩ = some (.int .u8 x.k) := hr 0 _ rfl
     have k1 : wr.cell? ⟨b, off + m * 9 + 1, none⟩ = some (.int .u32 x.fid) := hr 1 _ rfl
     have k2 : wr.cell? ⟨b, off + m * 9 + 2, none⟩ = some (.int .u32 x.dir) := hr 2 _ rfl
     have k3 : wr.cell? ⟨b, off + m * 9 + 3, none⟩ = some (.string x.nm) := hr 3 _ rfl
     have k4 : wr.cell? ⟨b, off + m * 9 + 4, none⟩ = some (.int .u32 x.to) := hr 4 _ rfl
     have k5 : wr.cell? ⟨b, off + m * 9 + 5, none⟩ = some (.string x.nm2) := hr 5 _ rfl
     have k6 : wr.cell? ⟨b, off + m * 9 + 6, none⟩ = some (.int .u16 x.md) := hr 6 _ rfl
     have k7 : wr.cell? ⟨b, off + m * 9 + 7, none⟩ = some (.string x.dt) := hr 7 _ rfl
     have k8 : wr.cell? ⟨b, off + m * 9 + 8, none⟩ = some (.int .u64 x.sn) := hr 8 _ rfl
     unfold Rec.val at WC
     clear hr
     cases hw : wrongF x with
     | true =>
       rw [hw] at WC HE
       go_wp2_with (go_at_call 20; refine WC.out.mono ?_; rintro _ w1 ⟨rfl, hb1⟩)
       go_ret
       exact ⟨⟨_, rfl, by rw [HE.out]; simp⟩, HB.out.trans (hb1.mono HB.out.size)⟩
     | false =>
       rw [hw] at WC HE
       go_wp2_with (go_at_call 20; refine WC.out.mono ?_; rintro _ w1 ⟨rfl, hb1⟩)
       go_roundg (gk - 1)
       case measure => omega
       case rel => exact ⟨m + 1, by omega, by go_num, hid (by rw [HE.out]; rfl), hid (HB.out.trans (hb1.mono HB.out.size))⟩
   · have em : m = n := by omega
     subst em
     have hge : ¬ (m : Int) < m := by omega
     have HE : Hid (R = false) := hid (by rw [HD.out, List.drop_eq_nil_of_le (by rw [← HN.out]; omega)]; rfl)
     go_wp2
     go_ret
     exact ⟨⟨_, rfl, by rw [HE.out]; decide⟩, HB.out⟩
set_option maxHeartbeats 1000000 in
theorem containsFunc_c (a : Option Addr) (cap : Nat) (l : List Rec) (w : World) (h : IsL w a l) (hm : l.length ≤ 100000) :
   Calls Tryz.prog 19 #[.slice a l.length cap, .func (.func 20) #[] #[]] w fun e w' => e = .returned (.bool (l.any wrongF)) ∧ Below w.heap.size w w' := by
 have IC := hid (indexFunc_c a cap l w h hm)
 clear h
 generalize l.any wrongF = R at *
 go_enter Tryz.func19, Tryz.ntmps19
 go_wp2_with (go_at_call 40; refine IC.out.mono ?_; rintro _ w1 ⟨⟨z, rfl, hz⟩, hb1⟩)
 go_ret
 exact ⟨by first | (rw [hz]; rfl) | (rw [← hz]; rfl) | simp [hz], hb1⟩
def recB (x : Rec) : List Int := beF x.sn 8 ++ opB x
def recsB (l : List Rec) : List Int := l.flatMap recB
theorem recsB_snoc (l : List Rec) (x : Rec) : recsB (l ++ [x]) = recsB l ++ recB x := by unfold recsB; simp
theorem recB_len (x : Rec) : (recB x).length = 26 + x.nm.size + x.nm2.size + x.dt.size := by unfold recB; rw [List.length_append, beF_len, opB_len]; omega
theorem rec_notU8 (x : Rec) : NotU8 (.cells x.cells.toArray 37 (0, 0)) := fun cs fr e => by
 injection e with e1 e2
 cases e2
set_option maxRecDepth 20000 in
set_option maxHeartbeats 1000000 in
theorem putRecord_c (T base g : Nat) (zs : List Int) (x : Rec) (w : World) (hp : Pile w T base g zs) (hn : zs.length < 400000) (hw : x.Wf) (hs : x.nm.size + x.nm2.size + x.dt.size < 100000) :
   Calls Tryz.prog 43 #[.pointer (some ⟨g, 0, none⟩), x.val] w fun e w' => e = .returned (.tuple #[]) ∧ Pile w' T base g (zs ++ recB x) ∧ KpT base g w w' := by
 have hx : (w.alloc (.cells x.cells.toArray 37)).heap[w.heap.size]? = some (.cells x.cells.toArray 37 (0, 0)) := heap_alloc_new w _
 obtain ⟨y0, y1, y2, y3, y4, y5, y6, y7, y8⟩ := rec_box hx
 have hne : w.heap.size ≠ g := by have := hp.len; omega
 have HX := hid hx
 have K0 : Hid (KpT base g w (w.alloc (.cells x.cells.toArray 37))) := hid (alloc_kpT _ hp.len.2)
 have NC := hid (num8_c (n := x.sn) (hp.other (w' := w) (.cells x.cells.toArray 37)) (by omega) hw.2.2.2.2.2.1.1 hw.2.2.2.2.2.1.2)
 have PC := hid (fun W (hq : Pile W T base g (zs ++ beF x.sn 8)) => putOp_c T base g _ x W hq (by rw [List.length_append, beF_len]; omega) hw hs)
 unfold Rec.val
 unfold Rec.opV at PC
 clear hx hp hw
 go_enter Tryz.func43, Tryz.ntmps43
 go_wp2_with (first
   | (go_at_call 78; refine (PC.out _ HP1.out).mono ?_; rintro _ w2 ⟨rfl, hp2, hk2⟩)
   | (go_at_call 77; refine NC.out.mono ?_; rintro _ w1 ⟨rfl, hp1, hk1⟩; have HP1 := hid hp1; have K1 := hid (K0.out.trans hk1); obtain ⟨z0, z1, z2, z3, z4, z5, z6, z7, z8⟩ := rec_box (hk1.other _ _ HX.out hne (rec_notU8 x)); clear hp1 hk1))
 refine body_end (by kernel_rfl) rfl ⟨rfl, ?_, K1.out.trans hk2⟩
 unfold recB
 rw [← List.append_assoc]
 exact hp2
def Small (l : List Rec) : Prop := ∀ x ∈ l, x.nm.size + x.nm2.size + x.dt.size ≤ 88
theorem recsB_le {l : List Rec} (h : Small l) : (recsB l).length ≤ l.length * 114 := by
 unfold recsB
 induction l with
 | nil => simp
 | cons x t ih =>
   have h1 := h x (by simp)
   have h2 := ih (fun y hy => h y (by simp [hy]))
   rw [List.flatMap_cons, List.length_append, recB_len, List.length_cons]
   omega
theorem small_take {l : List Rec} (h : Small l) (m : Nat) : Small (l.take m) := fun x hx => h x (List.mem_of_mem_take hx)
set_option maxRecDepth 20000 in
set_option maxHeartbeats 2000000 in
theorem putList_c (T base g : Nat) (zs : List Int) (a : Option Addr) (cap : Nat) (l : List Rec) (w : World) (hp : Pile w T base g zs) (hn : zs.length < 1000) (hl : ∀ W, KpT base g w W → IsL W a l) (hm : l.length ≤ 255) (hs : Small l) :
   Calls Tryz.prog 42 #[.pointer (some ⟨g, 0, none⟩), .slice a l.length cap, .func (.func 43) #[] #[]] w fun e w' => e = .returned (.tuple #[]) ∧ Pile w' T base g (zs ++ (beF l.length 1 ++ recsB l)) ∧ KpT base g w w' := by
 have NC := hid (num1_c (n := (l.length : Int)) hp (by omega) (by omega) (by omega))
 have HL := hid hl
 have HS := hid hs
 have ku : IntKind.u64.wrap (l.length : Int) = l.length := by rw [IntKind.wrap_u64]; omega
 clear hp hl hs
 obtain ⟨n, hnn⟩ : ∃ n, n = l.length := ⟨_, rfl⟩
 rw [← hnn] at hm NC ku ⊢
 have HN := hid hnn
 clear hnn
 go_enter Tryz.func42, Tryz.ntmps42
 go_wp2_with (go_at_call 77; refine NC.out.mono ?_; rintro _ w1 ⟨rfl, hp1, hk1⟩; have HP1 := hid hp1; have K1 := hid hk1; clear hp1 hk1)
 clear NC
 go_loopg [15] n (fun k v wr => ∃ m : Nat, m + k = n ∧ v = .int .i64 m ∧ Hid (Pile wr T base g (zs ++ beF n 1 ++ recsB (l.take m))) ∧ Hid (KpT base g w wr))
 case atStart => exact ⟨0, by omega, rfl, hid (by simpa [recsB] using HP1.out), K1⟩
 case round =>
   clear HP1 K1
   obtain ⟨m, hmk, rfl, HP, HK⟩ := hrel
   by_cases hlt : m < n
   · have hltI : (m : Int) < n := by omega
     have hil := HL.out wr HK.out
     obtain ⟨b, off, rfl, _⟩ := hil.2.2 (by rw [← HN.out]; omega)
     have hr := at_rec hil (i := m) (by rw [← HN.out]; exact hlt)
     have hwf := wf_rec hil (i := m) (by rw [← HN.out]; exact hlt)
     have hsz := HS.out (l.getD m Rec.no) (by rw [List.getD, List.getElem?_eq_getElem (by rw [← HN.out]; exact hlt)]; exact List.getElem_mem _)
     have HT := hid (take_rec (l := l) (m := m) (by rw [← HN.out]; exact hlt))
     have hlen : (zs ++ beF n 1 ++ recsB (l.take m)).length < 400000 := by
       have := recsB_le (small_take HS.out m)
       rw [List.length_take] at this
       rw [List.length_append, List.length_append, beF_len]
       omega
     clear hil
     generalize l.getD m Rec.no = x at *
     have k0 : wr.cell? ⟨b, off + m * 9, none⟩ = some (.int .u8 x.k) := hr 0 _ rfl
     have k1 : wr.cell? ⟨b, off + m * 9 + 1, none⟩ = some (.int .u32 x.fid) := hr 1 _ rfl
     have k2 : wr.cell? ⟨b, off + m * 9 + 2, none⟩ = some (.int .u32 x.dir) := hr 2 _ rfl
     have k3 : wr.cell? ⟨b, off + m * 9 + 3, none⟩ = some (.string x.nm) := hr 3 _ rfl
     have k4 : wr.cell? ⟨b, off + m * 9 + 4, none⟩ = some (.int .u32 x.to) := hr 4 _ rfl
     have k5 : wr.cell? ⟨b, off + m * 9 + 5, none⟩ = some (.string x.nm2) := hr 5 _ rfl
     have k6 : wr.cell? ⟨b, off + m * 9 + 6, none⟩ = some (.int .u16 x.md) := hr 6 _ rfl
     have k7 : wr.cell? ⟨b, off + m * 9 + 7, none⟩ = some (.string x.dt) := hr 7 _ rfl
     have k8 : wr.cell? ⟨b, off + m * 9 + 8, none⟩ = some (.int .u64 x.sn) := hr 8 _ rfl
     have PC := hid (putRecord_c T base g _ x _ (HP.out.other (w' := wr) (.cells x.cells.toArray 37)) hlen hwf (by omega))
     have KA : Hid (KpT base g w (wr.alloc (.cells x.cells.toArray 37))) := hid (HK.out.trans (alloc_kpT _ HP.out.len.2))
     unfold Rec.val at PC
     clear hr hwf hsz hlen
     go_wp2_with (go_at_call 43; refine PC.out.mono ?_; rintro _ w2 ⟨rfl, hp2, hk2⟩)
     go_roundg (gk - 1)
     case measure => omega
     case rel => exact ⟨m + 1, by omega, by go_num, hid (by rw [HT.out, recsB_snoc, ← List.append_assoc]; exact hp2), hid (KA.out.trans hk2)⟩
   · have em : m = n := by omega
     have hge : ¬ (m : Int) < n := by omega
     have HP2 : Hid (Pile wr T base g (zs ++ (beF n 1 ++ recsB l))) := hid (by
       have := HP.out
       rw [List.take_of_length_le (by rw [← HN.out]; omega), List.append_assoc] at this
       exact this)
     go_wp2
     exact body_end (by kernel_rfl) rfl ⟨rfl, HP2.out, HK.out⟩
set_option maxHeartbeats 1000000 in
theorem putRecords_c (T base g : Nat) (zs : List Int) (a : Option Addr) (cap : Nat) (l : List Rec) (w : World) (hp : Pile w T base g zs) (hn : zs.length < 1000) (hl : ∀ W, KpT base g w W → IsL W a l) (hm : l.length ≤ 255) (hs : Small l) :
   Calls Tryz.prog 22 #[.pointer (some ⟨g, 0, none⟩), .slice a l.length cap] w fun e w' => e = .returned (.tuple #[]) ∧ Pile w' T base g (zs ++ (beF l.length 1 ++ recsB l)) ∧ KpT base g w w' := by
 have PC := hid (putList_c T base g zs a cap l w hp hn hl hm hs)
 clear hp hl
 go_enter Tryz.func22, Tryz.ntmps22
 go_wp2_with (go_at_call 42; refine PC.out.mono ?_; rintro _ w1 ⟨rfl, h1, h2⟩)
 exact body_end (by kernel_rfl) rfl ⟨rfl, h1, h2⟩
def recsA (l : List Rec) : List Int := beF l.length 1 ++ recsB l
set_option maxRecDepth 20000 in
set_option maxHeartbeats 1000000 in
theorem writtenRecs_c (a : Option Addr) (cap : Nat) (l : List Rec) (w : World) (h : IsL w a l) (hm : l.length ≤ 255) (hs : Small l) :
   Calls Tryz.prog 21 #[.slice a l.length cap, .func (.func 22) #[] #[]] w fun e w' => ∃ v, e = .returned v ∧ w'.ownsRow w.heap.size 5 1 v (recsA l).length ((recsA l).map u8V) ∧ Below w.heap.size w w' := by
 have b1 := below_1 w (.cells #[.slice none 0 0] 88)
 have hg2 := heap_alloc_new w (.cells #[.slice none 0 0] 88)
 have hs2 : (w.alloc (.cells #[.slice none 0 0] 88)).heap.size = w.heap.size + 1 := by simp
 have HP : Hid (Pile (w.alloc (.cells #[.slice none 0 0] 88)) 88 (w.heap.size + 1) w.heap.size []) := hid ⟨by omega, by rw [hs2]; omega, _, hg2, World.ownsRow_nil _ _ _ _⟩
 have PC := hid (putRecords_c 88 (w.heap.size + 1) w.heap.size [] a cap l _ HP.out (by simp) (fun W hW => h.later (b1.trans (hW.below (by omega) (Nat.le_refl _)))) hm hs)
 have B1 := hid b1
 clear h hg2 hs2 b1 HP
 rw [List.nil_append] at PC
 change Hid (Calls _ _ _ _ fun e w' => e = .returned (.tuple #[]) ∧ Pile w' _ _ _ (recsA l) ∧ _) at PC
 go_enter Tryz.func21, Tryz.ntmps21
 go_wp2_with (first | (go_at_call 22; refine PC.out.mono ?_; rintro _ w1 ⟨rfl, ⟨hg, hbase, v, hbox, hown⟩, hk⟩; have hc := cell_box hbox; obtain ⟨va, vn, vc, rfl⟩ := own_slice hown))
 go_ret
 exact ⟨_, rfl, own_baseR hown (by omega), B1.out.trans (hk.below (by omega) (Nat.le_refl _))⟩
def recsOk (l : List Rec) : Bool := decide (l.length ≤ 24) && !l.any wrongF
theorem small_right {l : List Rec} (h : l.any wrongF = false) : Small l := fun x hx => by
 rw [List.any_eq_false] at h
 have := h x hx
 unfold wrongF at this
 have := right_size x (by simpa using this)
 omega
set_option maxRecDepth 20000 in
set_option maxHeartbeats 1000000 in
theorem records_c (a : Option Addr) (cap : Nat) (l : List Rec) (w : World) (h : IsL w a l) (hm : l.length ≤ 100000) :
   Calls Tryz.prog 7 #[.slice a l.length cap] w fun e w' => (if recsOk l then ∃ v, e = .returned (.tuple #[v, .int .i64 0]) ∧ w'.ownsRow w.heap.size 5 1 v (recsA l).length ((recsA l).map u8V) else e = .returned (.tuple #[.slice none 0 0, .int .i64 3])) ∧ Below w.heap.size w w' := by
 have CC := hid (containsFunc_c a cap l w h hm)
 have WC := hid (fun W (hW : Below w.heap.size w W) (h1 : l.length ≤ 255) h2 => writtenRecs_c a cap l W (h.later hW) h1 h2)
 have HSR := hid (fun h2 => small_right (l := l) h2)
 clear h
 unfold recsOk
 by_cases q : l.length ≤ 24
 · have qI : ¬ (24 : Int) < l.length := by omega
   rw [decide_eq_true q]
   cases hr : l.any wrongF with
   | true =>
     rw [hr] at CC
     simp only [Bool.not_true, Bool.and_false, Bool.false_eq_true, if_false]
     go_enter Tryz.func7, Tryz.ntmps7
     go_wp2_with (go_at_call 19; refine CC.out.mono ?_; rintro _ w1 ⟨rfl, hb1⟩)
     go_ret2
     exact ⟨rfl, hb1⟩
   | false =>
     rw [hr] at CC
     have HS := hid (HSR.out hr)
     simp only [Bool.not_false, Bool.and_true, if_true]
     go_enter Tryz.func7, Tryz.ntmps7
     go_wp2_with (first
       | (go_at_call 21; refine (WC.out _ B1.out (by omega) HS.out).mono ?_; rintro _ w2 ⟨v2, rfl, hO2, hb2⟩; obtain ⟨a2, c2, rfl⟩ := own_shapeR hO2)
       | (go_at_call 19; refine CC.out.mono ?_; rintro _ w1 ⟨rfl, hb1⟩; have B1 := hid hb1; clear hb1))
     go_ret2
     exact ⟨⟨_, rfl, own_baseR hO2 B1.out.size⟩, B1.out.trans (hb2.mono B1.out.size)⟩
 · have qI : (24 : Int) < l.length := by omega
   rw [decide_eq_false q]
   simp only [Bool.false_and, Bool.false_eq_true, if_false]
   go_enter Tryz.func7, Tryz.ntmps7
   go_wp2
   go_ret2
   exact ⟨rfl, Below.refl _ _⟩
end Go.Proofs.YtihgiemgcmpmmaaGreat
namespace Go.Proofs.YtihgiemgcmpmmaaGreat
open Go.RowKit Go.ChangeShapes Go.WideShapes Go.ChangeAt Go.Maps Go.Shelf
set_option linter.unusedVariables false
set_option linter.unusedSimpArgs false
set_option maxRecDepth 100000
theorem isB_ownR {w : World} {base : Nat} {v : Value} {zs : List Int} (h : w.ownsRow base 5 1 v zs.length (zs.map u8V)) (hz : ∀ y ∈ zs, 0 ≤ y ∧ y ≤ 255) : ∃ a cap, v = .slice a zs.length cap ∧ IsB w a zs.length zs ∧ zs.length ≤ cap ∧ Lies w a cap := by
 have hz2 : ∀ i, 0 ≤ zs.getD i 0 ∧ zs.getD i 0 ≤ 255 := fun i => by
   by_cases hi : i < zs.length
   · rw [List.getD, List.getElem?_eq_getElem hi]; exact hz _ (List.getElem_mem _)
   · simp [List.getD, List.getElem?_eq_none (by omega : zs.length ≤ i)]
 rcases h.2 with ⟨rfl, hn⟩ | ⟨g, cap, cur, rfl, hb, hg, hn, hc, hs, ht⟩
 · exact ⟨none, 0, by rw [hn], ⟨rfl, by omega, fun hp => absurd hp (by omega), hz2⟩, by omega, .inl ⟨rfl, rfl⟩⟩
 · refine ⟨some ⟨g, 0, none⟩, cap, rfl, ⟨rfl, by omega, fun hp => ⟨g, 0, rfl, fun i hi => ?_⟩, hz2⟩, hn, .inr ⟨g, 0, rfl, lt_blkR hg⟩⟩
   rw [Nat.zero_add, cell_of_row w g i cur _ _ hg]
   have : (zs.map u8V)[i]? = some (.int .u8 (zs.getD i 0)) := by simp [List.getD, hi, u8V]
   rw [← ht, List.getElem?_take, if_pos (by omega)] at this
   simpa using this
theorem beF_in (n : Int) : ∀ s, ∀ y ∈ beF n s, 0 ≤ y ∧ y ≤ 255
 | 0, y, hy => by simp [beF] at hy
 | s + 1, y, hy => by
   rw [beF, List.mem_cons] at hy
   rcases hy with rfl | hy
   · omega
   · exact beF_in n s y hy
theorem bs_in (s : ByteArray) : ∀ y ∈ Fr.bs s, 0 ≤ y ∧ y ≤ 255 := fun y hy => by
 unfold Fr.bs at hy
 obtain ⟨b, _, rfl⟩ := List.mem_map.1 hy
 have := b.toNat_lt
 constructor <;> omega
theorem txF_in (s : ByteArray) : ∀ y ∈ txF s, 0 ≤ y ∧ y ≤ 255 := fun y hy => by
 unfold txF at hy
 rcases List.mem_append.1 hy with h | h
 · exact beF_in _ _ y h
 · exact bs_in s y h
theorem opB_in (x : Rec) : ∀ y ∈ opB x, 0 ≤ y ∧ y ≤ 255 := fun y hy => by
 unfold opB at hy
 simp only [List.mem_append] at hy
 rcases hy with ((((((h | h) | h) | h) | h) | h) | h) | h
 · exact beF_in _ _ y h
 · exact beF_in _ _ y h
 · exact beF_in _ _ y h
 · exact txF_in _ y h
 · exact beF_in _ _ y h
 · exact txF_in _ y h
 · exact beF_in _ _ y h
 · exact txF_in _ y h
theorem recsA_in (l : List Rec) : ∀ y ∈ recsA l, 0 ≤ y ∧ y ≤ 255 := fun y hy => by
 unfold recsA at hy
 rcases List.mem_append.1 hy with h | h
 · exact beF_in _ _ y h
 · unfold recsB at h
   obtain ⟨x, _, h⟩ := List.mem_flatMap.1 h
   unfold recB at h
   rcases List.mem_append.1 h with h | h
   · exact beF_in _ _ y h
   · exact opB_in x y h
end Go.Proofs.YtihgiemgcmpmmaaGreat
namespace Go.Proofs.YtihgiemgcmpmmaaGreat
open Go.RowKit Go.ChangeShapes Go.WideShapes Go.ChangeAt Go.Maps Go.Shelf
set_option linter.unusedVariables false
set_option linter.unusedSimpArgs false
theorem numF_acc (l : List Int) : ∀ a : Int, l.foldl (fun n b => n * 256 + b) a = a * 256 ^ l.length + numF l := by
 unfold numF
 induction l with
 | nil => intro a; simp
 | cons b t ih =>
   intro a
   rw [List.foldl_cons, List.foldl_cons, ih, ih (0 * 256 + b), List.length_cons, Int.pow_succ]
   rw [Int.add_mul, Int.add_mul]
   have : a * 256 * 256 ^ t.length = a * (256 ^ t.length * 256) := by rw [Int.mul_assoc, Int.mul_comm 256]
   omega
theorem numF_cons (b : Int) (t : List Int) : numF (b :: t) = b * 256 ^ t.length + numF t := by
 have := numF_acc (b :: t) 0
 unfold numF
 rw [List.foldl_cons, numF_acc]
 simp [numF]
theorem pow_cast : ∀ s : Nat, (256 : Int) ^ s = ((256 ^ s : Nat) : Int)
 | 0 => rfl
 | s + 1 => by rw [Int.pow_succ, Nat.pow_succ, pow_cast s, Int.natCast_mul]; rfl
theorem numF_beN (n : Nat) : ∀ s, numF (beF (n : Int) s) = ((n % 256 ^ s : Nat) : Int)
 | 0 => by simp [beF, numF, Nat.mod_one]
 | s + 1 => by
   rw [beF, numF_cons, beF_len, numF_beN n s, Nat.pow_succ, Nat.mod_mul, pow_cast s]
   generalize 256 ^ s = P
   have e : ((n : Int) / (P : Int)) % 256 = ((n / P % 256 : Nat) : Int) := by
     rw [Int.natCast_emod, Int.natCast_ediv]; rfl
   rw [e, Int.natCast_add, Int.natCast_mul, Int.mul_comm, Int.add_comm]
theorem numF_be (n : Int) (s : Nat) (h0 : 0 ≤ n) (h1 : n < 256 ^ s) : numF (beF n s) = n := by
 obtain ⟨m, rfl⟩ := Int.eq_ofNat_of_zero_le h0
 rw [pow_cast] at h1
 have h2 : m < 256 ^ s := Int.ofNat_lt.1 h1
 have := numF_beN m s
 rw [Nat.mod_eq_of_lt h2] at this
 exact this
theorem numP_be (n : Int) (s : Nat) (rest : List Int) (h0 : 0 ≤ n) (h1 : n < 256 ^ s) : numP s (beF n s ++ rest) = some (n, rest) := by
 have hl := beF_len n s
 unfold numP
 rw [if_pos (by rw [List.length_append, hl]; omega)]
 have e1 : (beF n s ++ rest).take s = beF n s := by rw [List.take_append_of_le_length (by omega), List.take_of_length_le (by omega)]
 have e2 : (beF n s ++ rest).drop s = rest := by rw [List.drop_append_of_le_length (by omega), List.drop_eq_nil_of_le (by omega), List.nil_append]
 rw [e1, e2, numF_be n s h0 h1]
theorem shortP_tx (s : ByteArray) (rest : List Int) (h : s.size ≤ 255) : shortP (txF s ++ rest) = some (Fr.bs s, rest) := by
 unfold shortP txF
 rw [List.append_assoc, numP_be (s.size : Int) 1 _ (by omega) (by simp; omega)]
 simp only [Int.toNat_natCast]
 have hl := Fr.bs_length s
 rw [if_pos (by rw [List.length_append, hl]; omega), List.take_append_of_le_length (by omega), List.take_of_length_le (by omega), List.drop_append_of_le_length (by omega), List.drop_eq_nil_of_le (by omega), List.nil_append]
theorem opP_opB (x : Rec) (rest : List Int) (hw : x.Wf) (hr : rightF x = true) : opP (opB x ++ rest) = some ({ x with sn := 0 }, rest) := by
 obtain ⟨s1, s2, s3⟩ := right_size x hr
 obtain ⟨h1, h2, h3, h4, h5, h6, h7, h8, h9⟩ := hw
 obtain ⟨k, fid, dir, nm, tt, nm2, md, dt, sn⟩ := x
 simp only at *
 unfold opP opB
 simp only [List.append_assoc]
 rw [numP_be k 1 _ h1.1 (by simpa using h1.2)]
 simp only
 rw [numP_be fid 4 _ h2.1 (by simpa using h2.2)]
 simp only
 rw [numP_be dir 4 _ h3.1 (by simpa using h3.2)]
 simp only
 rw [shortP_tx nm _ (by omega)]
 simp only
 rw [numP_be tt 4 _ h4.1 (by simpa using h4.2)]
 simp only
 rw [shortP_tx nm2 _ (by omega)]
 simp only
 rw [numP_be md 2 _ h5.1 (by simpa using h5.2)]
 simp only
 rw [shortP_tx dt _ (by omega)]
 simp only [Fr.tx_bs]
 have hr2 : rightF ⟨k, fid, dir, nm, tt, nm2, md, dt, 0⟩ = true := hr
 rw [hr2, if_pos rfl]
def recP (zs : List Int) : Option (Rec × List Int) := match numP 8 zs with
 | none => none
 | some (sn, t) => match opP t with
   | none => none
   | some (x, u) => some ({ x with sn := sn }, u)
def recsN : Nat → List Int → Option (List Rec × List Int)
 | 0, z => some ([], z)
 | n + 1, z => match recP z with
   | none => none
   | some (x, t) => match recsN n t with
     | none => none
     | some (l, u) => some (x :: l, u)
def recsP (zs : List Int) : Option (List Rec × List Int) := match numP 1 zs with
 | none => none
 | some (m, t) => if m ≤ 24 then recsN m.toNat t else none
def InB (zs : List Int) : Prop := ∀ i, 0 ≤ zs.getD i 0 ∧ zs.getD i 0 ≤ 255
theorem InB.drop {zs : List Int} (h : InB zs) (k : Nat) : InB (zs.drop k) := fun i => by
 have := h (k + i)
 simpa [List.getD, List.getElem?_drop] using this
theorem InB.take {zs : List Int} (h : InB zs) (k : Nat) : InB (zs.take k) := fun i => by
 by_cases hi : i < k
 · have := h i
   simpa [List.getD, List.getElem?_take, hi] using this
 · simp [List.getD, List.getElem?_take, hi]
set_option maxRecDepth 20000 in
set_option maxHeartbeats 2000000 in
theorem takeRecord_c {r : Nat} {a : Option Addr} {c : Nat} {zs : List Int} {w : World} (h : Rdr w r a c zs) :
   Calls Tryz.prog 54 #[.pointer (some ⟨r, 0, none⟩)] w (Takes w r ((recP zs).map fun p => (p.1.val, p.2))) := by
 have hr0 := lt_blkR h.1
 have b0 := below_1 w (.cells Rec.no.cells.toArray 37)
 have hB0 := heap_alloc_new w (.cells Rec.no.cells.toArray 37)
 have NC := hid (tnum_c 8 (rdr_later h b0) (by omega))
 have K0 : Hid (Kr r w (w.alloc (.cells Rec.no.cells.toArray 37))) := hid (Kr.of b0)
 have HB0 := hid hB0
 clear h b0 hB0
 have M0 : Hid (Kr r (w.alloc (.cells Rec.no.cells.toArray 37)) (w.alloc (.cells Rec.no.cells.toArray 37))) := hid (Kr.refl _ _)
 unfold recP
 rcases h0 : numP 8 zs with _ | ⟨sn, t⟩
 · rw [h0] at NC
   simp only [Option.map_none]
   go_enter Tryz.func54, Tryz.ntmps54
   go_wp2_with (go_at_call 83; refine NC.out.mono ?_; intro e9 w9 h9; obtain ⟨hk9, rfl⟩ := takes_none h9)
   exact ⟨rfl, K0.out.trans hk9, rfl⟩
 · rw [h0] at NC
   simp only
   rcases h1 : opP t with _ | ⟨x, u⟩
   · simp only [Option.map_none]
     go_enter Tryz.func54, Tryz.ntmps54
     go_wp2_with (first
       | (go_at_call 84; refine TC.out.mono ?_; intro e9 w9 h9; obtain ⟨hk9, rfl⟩ := takes_none h9)
       | (go_at_call 83; refine NC.out.mono ?_; intro e8 w1 h8; obtain ⟨hk8, rfl, a1, c1, hR1⟩ := takes_some h8; have K1 := hid (K0.out.trans hk8); have TC := hid (takeOp_c hR1); rw [h1] at TC; clear h8 hk8 hR1))
     exact ⟨rfl, K1.out.trans hk9, rfl⟩
   · simp only [Option.map_some]
     go_enter Tryz.func54, Tryz.ntmps54
     go_wp2_with (first
       | (go_at_call 84; refine TC.out.mono ?_; intro e9 w2 h9; obtain ⟨hk9, rfl, a2, c2, hR2⟩ := takes_some h9; have K2 := hid (K1.out.trans hk9); have hB2 := ((M1.out.trans hk9).block w.heap.size (by simp) (by omega)).trans HB0.out; obtain ⟨q0, q1, q2, q3, q4, q5, q6, q7, q8⟩ := rec_box hB2; have fz : ∀ i, w2.frozen? ⟨w.heap.size, i, none⟩ = false := (fun i => by simp [World.frozen?, hB2]); clear h9 hk9 hB2)
       | (go_at_call 83; refine NC.out.mono ?_; intro e8 w1 h8; obtain ⟨hk8, rfl, a1, c1, hR1⟩ := takes_some h8; have K1 := hid (K0.out.trans hk8); have M1 := hid (M0.out.trans hk8); have TC := hid (takeOp_c hR1); rw [h1] at TC; simp only [Option.map_some] at TC; unfold Rec.opV at TC; clear h8 hk8 hR1))
     refine bodyPost_ret (v := Rec.val { x with sn := sn }) (by simp [results, Tryz.results54, go_sem, Rec.val, q0, q1, q2, q3, q4, q5, q6, q7, q8]) rfl ⟨(((((((((K2.out.new (Nat.le_refl _) 0 _).new (Nat.le_refl _) 1 _).new (Nat.le_refl _) 2 _).new (Nat.le_refl _) 3 _).new (Nat.le_refl _) 4 _).new (Nat.le_refl _) 5 _).new (Nat.le_refl _) 6 _).new (Nat.le_refl _) 7 _).new (Nat.le_refl _) 8 _), rfl, _, _, (rdr_new (rdr_new (rdr_new (rdr_new (rdr_new (rdr_new (rdr_new (rdr_new (rdr_new hR2 hr0 0 _) hr0 1 _) hr0 2 _) hr0 3 _) hr0 4 _) hr0 5 _) hr0 6 _) hr0 7 _) hr0 8 _)⟩
def TakesL (w : World) (r : Nat) (res : Option (List Rec × List Int)) (e : Ending) (w' : World) : Prop :=
 Kr r w w' ∧ match res with
   | some (l, rest) => (∃ v, e = .returned v ∧ w'.ownsRow w.heap.size 37 9 v l.length (rcells l)) ∧ ∃ a c, Rdr w' r a c rest
   | none => e = PN
theorem own_kr {w w' : World} {r base e size n : Nat} {v : Value} {xs : List Value} (h : w.ownsRow base e size v n xs) (hk : Kr r w w') (hr : r < base) : w'.ownsRow base e size v n xs := by
 refine ⟨h.1, ?_⟩
 rcases h.2 with h | ⟨g, cap, cur, e1, e2, e3, e4⟩
 · exact .inl h
 · exact .inr ⟨g, cap, cur, e1, e2, (hk.block g (lt_blkR e3) (by omega)).trans e3, e4⟩
theorem kr_grown {r base : Nat} {w w1 w2 : World} {e size n : Nat} {v : Value} {xs : List Value} (h : Kr r w w1) (hown : w1.ownsRow w.heap.size e size v n xs) (hg : w1.grownBy w2 v.ownBlock) : Kr r w w2 :=
 ⟨hg.os.trans h.os, hg.tape.trans h.tape, hg.output.trans h.output, Nat.le_trans h.size hg.size, fun k hk hne => (hg.block k (Nat.lt_of_lt_of_le hk h.size) (fun e => by have := (hown.lt k e.symm).1; omega)).trans (h.block k hk hne)⟩
theorem rdr_grown {w1 w2 : World} {r base : Nat} {a : Option Addr} {c : Nat} {zs : List Int} {e size n : Nat} {v : Value} {xs : List Value} (h : Rdr w1 r a c zs) (hown : w1.ownsRow base e size v n xs) (hg : w1.grownBy w2 v.ownBlock) (hr : r < base) : Rdr w2 r a c zs := by
 refine ⟨(hg.block r (lt_blkR h.1) (fun e => by have := (hown.lt r e.symm).1; omega)).trans h.1, ?_, h.2.2⟩
 obtain ⟨h1, h2, h3, h4⟩ := h.2.1
 refine ⟨h1, h2, fun hp => ?_, h4⟩
 obtain ⟨b, off, e, hc⟩ := h3 hp
 rcases h.2.2.2 with ⟨e', _⟩ | ⟨b', off', e', hbr⟩
 · rw [e'] at e; cases e
 · rw [e] at e'
   cases e'
   exact ⟨b, off, e, fun i hi => hg.cell (hc i hi) (fun e => by have := (hown.lt b e.symm).1; omega)⟩
theorem recsN_step {n : Nat} {z : List Int} : recsN (n + 1) z = match recP z with
   | none => none
   | some (x, t) => match recsN n t with
     | none => none
     | some (l, u) => some (x :: l, u) := rfl
theorem snocR (l : List Rec) (x : Rec) : rcells (l ++ [x]) = rcells l ++ x.cells := rcells_snoc l x
theorem rec_newsR {w : World} {g : Nat} {x : Rec} {t : TypeId} {fr : Nat × Nat} (hb : w.heap[g]? = some (.cells x.cells.toArray t fr)) : ∀ j u, x.cells[j]? = some u → w.cell? ((⟨g, 0, none⟩ : Addr).add j) = some u := fun j u hu => by
 have e : (⟨g, 0, none⟩ : Addr).add j = ⟨g, 0 + j, none⟩ := by unfold Addr.add; split <;> simp_all
 rw [e, cell_of_row w g _ _ t fr hb]
 simpa using hu
theorem rec_oneR (x : Rec) : ∀ u ∈ x.cells, u.oneCell' = true := fun u hu => by
 simp [Rec.cells] at hu
 rcases hu with rfl | rfl | rfl | rfl | rfl | rfl | rfl | rfl | rfl <;> rfl
def Left (R : Option (List Rec × List Int)) (l : List Rec) (n : Nat) (z : List Int) : Prop := R = match recsN n z with
 | none => none
 | some (t, u) => some (l ++ t, u)
theorem Left.none {R : Option (List Rec × List Int)} {l : List Rec} {n : Nat} {z : List Int} (h : Left R l (n + 1) z) (hp : recP z = none) : R = none := by
 unfold Left at h
 rw [recsN_step, hp] at h
 exact h
theorem Left.some {R : Option (List Rec × List Int)} {l : List Rec} {n : Nat} {z t : List Int} {x : Rec} (h : Left R l (n + 1) z) (hp : recP z = some (x, t)) : Left R (l ++ [x]) n t := by
 unfold Left at h ⊢
 rw [recsN_step, hp] at h
 simp only at h
 rw [h]
 rcases recsN n t with _ | ⟨l', u⟩
 · rfl
 · simp
set_option maxRecDepth 20000 in
set_option maxHeartbeats 2000000 in
theorem takeList_c {r : Nat} {a : Option Addr} {c : Nat} {zs : List Int} {w : World} (h : Rdr w r a c zs) :
   Calls Tryz.prog 53 #[.pointer (some ⟨r, 0, none⟩), .int .i64 24, .func (.func 54) #[] #[]] w (TakesL w r (recsP zs)) := by
 obtain ⟨i0, hi, hz0, hz1, hz2⟩ := info_rec
 have hr0 := lt_blkR h.1
 have NC := hid (tnum_c 1 h (by omega))
 have HBD := hid (fun m t (e : numP 1 zs = some (m, t)) => numP_bd h e)
 clear h
 unfold recsP
 rcases h0 : numP 1 zs with _ | ⟨m, t⟩
 · rw [h0] at NC
   simp only
   go_enter Tryz.func53, Tryz.ntmps53
   go_wp2_with (go_at_call 83; refine NC.out.mono ?_; intro e9 w9 h9; obtain ⟨hk9, rfl⟩ := takes_none h9)
   exact ⟨rfl, hk9, rfl⟩
 · obtain ⟨m0, m1⟩ := HBD.out m t h0
   have m1' : m < 256 := by simpa using m1
   have kc : IntKind.i64.wrap m = m := by rw [IntKind.wrap_i64]; omega
   obtain ⟨k, rfl⟩ : ∃ k : Nat, m = k := ⟨m.toNat, by omega⟩
   rw [h0] at NC
   simp only [Int.toNat_natCast]
   clear m1 HBD h0
   by_cases q : (k : Int) ≤ 24
   · rw [if_pos q]
     have qn : ¬ (24 : Int) < k := by omega
     obtain ⟨R, hR⟩ : ∃ R, R = recsN k t := ⟨_, rfl⟩
     rw [← hR]
     have HL0 : Hid (Left R [] k t) := hid (by unfold Left; rw [hR]; rcases recsN k t with _ | ⟨l', u⟩ <;> rfl)
     clear hR
     go_enter Tryz.func53, Tryz.ntmps53
     go_wp2_with (first
       | (go_at_call 82; rw [show decide ((24 : Int) < (k : Int)) = false from decide_eq_false (by omega)]; refine (refuse_f _).mono ?_; rintro _ wf ⟨rfl, hwf⟩; have hwf2 := hwf.symm; clear hwf; subst hwf2)
       | (go_at_call 83; refine NC.out.mono ?_; intro e8 w1 h8; obtain ⟨hk8, rfl, a1, c1, hR1⟩ := takes_some h8; have K1 := hid hk8; have HR1 := hid hR1; clear h8 hk8 hR1))
     go_loopg [8, 17] k (fun g v8 v17 wr => ∃ (j : Nat) (l : List Rec) (z : List Int) (a : Option Addr) (c : Nat), j + g = k ∧ l.length = j ∧ v17 = .int .i64 j ∧ Hid (wr.ownsRow w.heap.size 37 9 v8 l.length (rcells l)) ∧ Hid (Rdr wr r a c z) ∧ Hid (Kr r w wr) ∧ Hid (Left R l g z))
     case atStart => exact ⟨0, [], t, a1, c1, by omega, rfl, rfl, hid (World.ownsRow_nil _ _ 37 9), HR1, K1, HL0⟩
     case round =>
       clear HR1 K1 HL0
       obtain ⟨_, l, z, a2, c2, hjg, rfl, rfl, HO, HR, HK, HLF⟩ := hrel
       obtain ⟨va, vc, rfl⟩ := own_shapeR HO.out
       by_cases hlt : l.length < k
       · have hltI : (l.length : Int) < k := by omega
         obtain ⟨g1, rfl⟩ : ∃ g1, gk = g1 + 1 := ⟨gk - 1, by omega⟩
         have TC := hid (takeRecord_c HR.out)
         rcases hp : recP z with _ | ⟨x, u⟩
         · have HN := hid (HLF.out.none hp)
           rw [hp] at TC
           simp only [Option.map_none] at TC
           go_wp2_with (go_at_call 54; refine TC.out.mono ?_; intro e9 w9 h9; obtain ⟨hk9, rfl⟩ := takes_none h9)
           exact ⟨rfl, HK.out.trans hk9, by rw [HN.out]⟩
         · have HN := hid (HLF.out.some hp)
           rw [hp] at TC
           simp only [Option.map_some] at TC
           unfold Rec.val at TC
           go_wp2_with (first
             | (at_builtin; refine wpList_append_own _ rfl _ _ 25 rfl w.heap.size 37 i0 Rec.no.val 9 88 Tryz.underlying25 hi hz0 hz1 hz2 (by rfl) (by decide) _ _ _ rfl O4.out ⟨w3.heap.size, 0, none⟩ 1 1 x.cells rfl rfl (rec_newsR N4.out) (rec_oneR x) (by unfold maxLen; omega) (by omega) (Nat.le_trans K4.out.size (Nat.le_refl _)) ?_; intro v9 w9 hown9 hgrow9 hnil9)
             | (go_at_call 54; refine TC.out.mono ?_; intro e9 w3 h9; obtain ⟨hk9, rfl, a3, c3, hR3⟩ := takes_some h9
                have b4 := below_1 w3 (.cells x.cells.toArray 37)
                have K4 := hid ((HK.out.trans hk9).trans (Kr.of b4))
                have O4 := hid (own_latR (own_kr HO.out hk9 hr0) b4)
                have R4 := hid (rdr_later hR3 b4)
                have N4 := hid (heap_alloc_new w3 (.cells x.cells.toArray 37))
                clear h9 hk9 hR3 b4))
           have O9 : Hid (w9.ownsRow w.heap.size 37 9 v9 (l ++ [x]).length (rcells (l ++ [x]))) := hid (by rw [List.length_append, snocR]; exact hown9)
           have K9 := hid (kr_grown (base := 0) K4.out O4.out hgrow9)
           have R9 := hid (rdr_grown R4.out O4.out hgrow9 hr0)
           obtain ⟨a9, c9, rfl⟩ := own_shapeR hown9
           clear hown9 hgrow9 hnil9
           go_roundg g1
           case measure => omega
           case rel => exact ⟨l.length + 1, l ++ [x], u, a3, c3, by omega, by rw [List.length_append]; rfl, by go_num, O9, R9, K9, HN⟩
       · have em : l.length = k := by omega
         have hg0 : gk = 0 := by omega
         subst em
         subst hg0
         have hge : ¬ (l.length : Int) < l.length := by omega
         have HE : Hid (R = some (l, z)) := hid (by have := HLF.out; unfold Left at this; simpa [recsN] using this)
         go_wp2
         go_ret
         rw [HE.out]
         exact ⟨HK.out, ⟨_, rfl, HO.out⟩, _, _, HR.out⟩
   · rw [if_neg q]
     have qn : (24 : Int) < k := by omega
     go_enter Tryz.func53, Tryz.ntmps53
     go_wp2_with (first
       | (go_at_call 82; (try rw [show decide ((24 : Int) < (k : Int)) = true from decide_eq_true (by omega)]); refine (refuse_t _).mono ?_; rintro _ wf ⟨rfl, hwf⟩; have hwf2 := hwf.symm; clear hwf; subst hwf2)
       | (go_at_call 83; refine NC.out.mono ?_; intro e8 w1 h8; obtain ⟨hk8, rfl, a1, c1, hR1⟩ := takes_some h8; have K1 := hid hk8; clear h8 hk8 hR1))
     exact ⟨rfl, K1.out, rfl⟩
set_option maxHeartbeats 1000000 in
theorem takeRecords_c {r : Nat} {a : Option Addr} {c : Nat} {zs : List Int} {w : World} (h : Rdr w r a c zs) :
   Calls Tryz.prog 27 #[.pointer (some ⟨r, 0, none⟩)] w (TakesL w r (recsP zs)) := by
 have LC := hid (takeList_c h)
 clear h
 obtain ⟨R, hR⟩ : ∃ R, R = recsP zs := ⟨_, rfl⟩
 rw [← hR] at LC ⊢
 clear hR
 unfold TakesL at LC
 rcases R with _ | ⟨l, u⟩
 · go_enter Tryz.func27, Tryz.ntmps27
   go_wp2_with (go_at_call 53; refine LC.out.mono ?_; rintro _ w1 ⟨hk, rfl⟩)
   exact ⟨rfl, hk, rfl⟩
 · go_enter Tryz.func27, Tryz.ntmps27
   go_wp2_with (go_at_call 53; refine LC.out.mono ?_; rintro _ w1 ⟨hk, ⟨v, rfl, hO⟩, hR⟩; obtain ⟨a1, c1, rfl⟩ := own_shapeR hO)
   go_ret
   exact ⟨hk, ⟨_, rfl, hO⟩, hR⟩
def recsAll (zs : List Int) : Option (List Rec) := match recsP zs with
 | some (l, []) => some l
 | _ => none
def AllL (w : World) (res : Option (List Rec)) (e : Ending) (w' : World) : Prop :=
 Below w.heap.size w w' ∧ match res with
   | some l => ∃ v, e = .returned v ∧ w'.ownsRow w.heap.size 37 9 v l.length (rcells l)
   | none => e = PN
theorem own_low {w : World} {base base' e size n : Nat} {v : Value} {xs : List Value} (h : w.ownsRow base e size v n xs) (hb : base' ≤ base) : w.ownsRow base' e size v n xs := by
 refine ⟨h.1, ?_⟩
 rcases h.2 with h | ⟨g, cap, cur, e1, e2, e3, e4⟩
 · exact .inl h
 · exact .inr ⟨g, cap, cur, e1, by omega, e3, e4⟩
theorem own_set {w : World} {base e size n : Nat} {v : Value} {xs : List Value} {p : Addr} (h : w.ownsRow base e size v n xs) (hp : p.block < base) (u : Value) : (w.setCell p u).ownsRow base e size v n xs := by
 refine ⟨h.1, ?_⟩
 rcases h.2 with h | ⟨g, cap, cur, e1, e2, e3, e4⟩
 · exact .inl h
 · exact .inr ⟨g, cap, cur, e1, e2, by rw [heap_setCell_other _ _ _ _ (by omega)]; exact e3, e4⟩
set_option maxRecDepth 20000 in
set_option maxHeartbeats 2000000 in
theorem takeAllR_c (a : Option Addr) (n c : Nat) (zs : List Int) (w : World) (h : IsB w a n zs) (hc : n ≤ c) (hl : Lies w a c) :
   Calls Tryz.prog 52 #[.slice a n c, .func (.func 27) #[] #[]] w (AllL w (recsAll zs)) := by
 have b1 := below_1 w (.cells #[.slice a n c] 141)
 have hr1 := heap_alloc_new w (.cells #[.slice a n c] 141)
 have hn := h.1
 subst hn
 have hR : Rdr (w.alloc (.cells #[.slice a zs.length c] 141)) w.heap.size a c zs := ⟨hr1, h.later b1, hc, by
   rcases hl with hl | ⟨b, off, e, hb⟩
   · exact .inl hl
   · exact .inr ⟨b, off, e, by omega⟩⟩
 have TC := hid (takeRecords_c hR)
 have s1 : (w.alloc (.cells #[.slice a zs.length c] 141)).heap.size = w.heap.size + 1 := by simp
 have B1 := hid b1
 have S1 := hid s1
 clear h hl b1 hr1 hR s1
 unfold recsAll
 rcases ho : recsP zs with _ | ⟨l, rest⟩
 · rw [ho] at TC
   unfold TakesL at TC
   go_enter Tryz.func52, Tryz.ntmps52
   go_wp2_with (go_at_call 27; refine TC.out.mono ?_; rintro _ w9 ⟨hk9, rfl⟩)
   exact ⟨rfl, B1.out.trans (hk9.below (by rw [S1.out]; omega) (by omega)), rfl⟩
 · rw [ho] at TC
   unfold TakesL at TC
   rcases rest with _ | ⟨q, qs⟩
   · go_enter Tryz.func52, Tryz.ntmps52
     go_wp2_with (first
       | (go_at_call 82; refine (refuse_f _).mono ?_; rintro _ wf ⟨rfl, hwf⟩; have hwf2 := hwf.symm; clear hwf; subst hwf2)
       | (go_at_call 27; refine TC.out.mono ?_; rintro _ w9 ⟨hk9, ⟨v9, rfl, hO9⟩, a9, c9, hR9⟩
          have hR10 := hR9.cell.1
          have K9 := hid (B1.out.trans (hk9.below (by rw [S1.out]; omega) (by omega)))
          have O9 := hid (own_low hO9 (base' := w.heap.size) (by rw [S1.out]; omega))
          obtain ⟨av, cv, rfl⟩ := own_shapeR hO9
          simp only [List.length_nil] at hR10
          clear hk9 hO9 hR9))
     go_ret
     exact ⟨K9.out, _, rfl, O9.out⟩
   · have hqq : 0 < (q :: qs).length := by simp
     obtain ⟨qn, hqn⟩ : ∃ qn, qn = (q :: qs).length := ⟨_, rfl⟩
     have HQN := hid hqn
     rw [← hqn] at hqq
     have hqd : decide (0 < qn) = true := decide_eq_true hqq
     have hqI : (0 : Int) < (qn : Int) := by omega
     clear hqn
     go_enter Tryz.func52, Tryz.ntmps52
     go_wp2_with (first
       | (go_at_call 82; refine (refuse_t _).mono ?_; rintro _ wf ⟨rfl, hwf⟩; have hwf2 := hwf.symm; clear hwf; subst hwf2)
       | (go_at_call 27; refine TC.out.mono ?_; rintro _ w9 ⟨hk9, ⟨v9, rfl, hO9⟩, a9, c9, hR9⟩
          have hR10 := hR9.cell.1
          rw [← HQN.out] at hR10
          have K9 := hid (B1.out.trans (hk9.below (by rw [S1.out]; omega) (by omega)))
          obtain ⟨av, cv, rfl⟩ := own_shapeR hO9
          clear hk9 hO9 hR9))
     exact ⟨rfl, K9.out, rfl⟩
set_option maxHeartbeats 2000000 in
theorem catchR_idle (p : Addr) (w : World) :
   CallsD Tryz.prog 51 #[.pointer (some p)] .returning w fun e u' w' => e = .returned (.tuple #[]) ∧ u' = .returning ∧ w' = w := by
 refine callsD_of_wpS Tryz.func51 rfl fun c₀ cs hu => ?_
 apply wpS_seq
 apply wpS_region
 simp [wpOpsS, go_sem, recoverD, hu, Tryz.ntmps51, Exit.thenS]
 refine wpS_of_wp ?_
 go_wp2
 cases c₀
 simp_all [bodyPostS, results, Tryz.results51]
set_option maxHeartbeats 2000000 in
theorem catchR_panicking (p : Addr) (x : Int) (older : List PanicEntry) (w : World) (hc : w.cell? p = some (.int .i64 x)) (hz : w.frozen? p = false) (hp : p.block < w.heap.size) :
   CallsD Tryz.prog 51 #[.pointer (some p)] (.panicking ({ v := .iface 106 (.agg #[.int .i64 3]), recovered := false } :: older)) w fun e u' w' =>
     e = .returned (.tuple #[]) ∧ u' = .panicking ({ v := .iface 106 (.agg #[.int .i64 3]), recovered := true } :: older) ∧ w' = (w.alloc (.cells #[.int .i64 3] 106)).setCell p (.int .i64 3) := by
 refine callsD_of_wpS Tryz.func51 rfl fun c₀ cs hu => ?_
 apply wpS_seq
 apply wpS_region
 simp [wpOpsS, go_sem, recoverD, hu, Tryz.ntmps51, Exit.thenS]
 refine wpS_of_wp ?_
 have hta : ∀ W : World, (Instr.typeAssert (.iface 106 (.agg #[.int .i64 3])) 20 106 true).run Tryz.prog W = .ok (.tuple #[.agg #[.int .i64 3], .bool true]) W := fun W => by
   simp [Instr.typeAssert, go_sem, Tryz.underlying106]
 have hne : p.block ≠ w.heap.size := by omega
 have hc2 : (w.alloc (.cells #[.int .i64 3] 106)).cell? p = some (.int .i64 x) := cell_later (below_1 w _) hc
 have hz2 : (w.alloc (.cells #[.int .i64 3] 106)).frozen? p = false := by rw [World.frozen?_of_block ((below_1 w (.cells #[.int .i64 3] 106)).block p.block hp)]; exact hz
 go_wp2
 simp [bodyPostS, results, Tryz.results51]
def ReadsL (w : World) (res : Option (List Rec)) (e : Ending) (w' : World) : Prop :=
 Below w.heap.size w w' ∧ match res with
   | some l => ∃ v, e = .returned (.tuple #[v, .int .i64 0]) ∧ w'.ownsRow w.heap.size 37 9 v l.length (rcells l)
   | none => e = .returned (.tuple #[.slice none 0 0, .int .i64 3])
set_option maxRecDepth 20000 in
set_option maxHeartbeats 2000000 in
theorem readR1_c (a : Option Addr) (n c : Nat) (zs : List Int) (w : World) (h : IsB w a n zs) (hc : n ≤ c) (hl : Lies w a c) :
   Calls Tryz.prog 26 #[.slice a n c, .func (.func 27) #[] #[]] w (ReadsL w (recsAll zs)) := by
 have hmf : ∀ (fn : Fn) (first cap : Array Value) (w : World), (Instr.makeFunc fn first cap).run Tryz.prog w = .ok (.func fn first cap) w := fun _ _ _ _ => rfl
 have b1 := below_1 w (.cells #[.int .i64 0] 26)
 have hE1 := heap_alloc_new w (.cells #[.int .i64 0] 26)
 have s1 : (w.alloc (.cells #[.int .i64 0] 26)).heap.size = w.heap.size + 1 := by simp
 have TC := hid (takeAllR_c a n c zs _ (h.later b1) hc (by
   rcases hl with hl | ⟨b, off, e, hb⟩
   · exact .inl hl
   · exact .inr ⟨b, off, e, by simp; omega⟩))
 have B1 := hid b1
 have HE1 := hid hE1
 have S1 := hid s1
 clear h hl b1 hE1 s1
 unfold AllL at TC
 rcases ho : recsAll zs with _ | l
 · rw [ho] at TC
   go_enter_defers Tryz.func26, Tryz.ntmps26
   go_wp2_with (go_at_call 52; refine TC.out.mono ?_; rintro _ w2 ⟨hb2, rfl⟩
                have hE2 := (hb2.block _ (lt_blkR HE1.out)).trans HE1.out
                have fe : w2.frozen? ⟨w.heap.size, 0, none⟩ = false := by simp [World.frozen?, hE2]
                have ce : w2.cell? ⟨w.heap.size, 0, none⟩ = some (.int .i64 0) := by rw [cell_of_row _ _ _ _ _ _ hE2]; rfl)
   refine leaves_cons (f := 51) (args := #[.pointer (some ⟨w.heap.size, 0, none⟩)]) (by simp) (by simp [go_sem]) ?_
   refine (catchR_panicking ⟨w.heap.size, 0, none⟩ 0 [] w2 ce fe (lt_blkR hE2)).mono ?_
   have b3 := below_1 w2 (.cells #[.int .i64 3] 106)
   have hE3 := heap_setBox (W := w2.alloc (.cells #[.int .i64 3] 106)) (.int .i64 3) ((b3.block _ (lt_blkR hE2)).trans hE2)
   have rE := cell_box hE3
   have B3 := hid (((B1.out.trans (hb2.mono B1.out.size)).trans (b3.mono (Nat.le_trans B1.out.size hb2.size))).setCell (p := ⟨w.heap.size, 0, none⟩) (by simp) (.int .i64 3))
   rintro e u' w'' ⟨rfl, rfl, hw⟩
   rw [hw]
   generalize (w2.alloc (.cells #[.int .i64 3] 106)).setCell ⟨w.heap.size, 0, none⟩ (.int .i64 3) = w4 at *
   simp [Leaves, settle, results, Tryz.results26, go_sem, ReadsL, rE]
   exact B3.out
 · rw [ho] at TC
   go_enter_defers Tryz.func26, Tryz.ntmps26
   go_wp2_with (go_at_call 52; refine TC.out.mono ?_; rintro _ w2 ⟨hb2, v2, rfl, hO2⟩
                have hE2 := (hb2.block _ (lt_blkR HE1.out)).trans HE1.out
                have fe : w2.frozen? ⟨w.heap.size, 0, none⟩ = false := by simp [World.frozen?, hE2]
                have ce : w2.cell? ⟨w.heap.size, 0, none⟩ = some (.int .i64 0) := by rw [cell_of_row _ _ _ _ _ _ hE2]; rfl
                have B2 := hid ((B1.out.trans (hb2.mono B1.out.size)).setCell (p := ⟨w.heap.size, 0, none⟩) (Nat.le_refl _) (.int .i64 0))
                have O2 := hid (own_low (own_set hO2 (p := ⟨w.heap.size, 0, none⟩) (by rw [S1.out]; exact Nat.lt_succ_self _) (.int .i64 0)) (base' := w.heap.size) (by rw [S1.out]; omega))
                obtain ⟨av, cv, rfl⟩ := own_shapeR hO2
                clear hb2 hO2 hE2)
   refine leaves_cons (f := 51) (args := #[.pointer (some ⟨w.heap.size, 0, none⟩)]) (by simp) (by simp [go_sem]) ?_
   refine (catchR_idle ⟨w.heap.size, 0, none⟩ _).mono ?_
   rintro e u' w'' ⟨rfl, rfl, rfl⟩
   simp [Leaves, settle, results, Tryz.results26, go_sem, ReadsL, ce]
   exact ⟨B2.out, O2.out⟩
set_option maxHeartbeats 1000000 in
theorem readRecords_c (a : Option Addr) (n c : Nat) (zs : List Int) (w : World) (h : IsB w a n zs) (hc : n ≤ c) (hl : Lies w a c) :
   Calls Tryz.prog 9 #[.slice a n c] w (ReadsL w (recsAll zs)) := by
 have RC := hid (readR1_c a n c zs w h hc hl)
 clear h hl
 obtain ⟨R, hR⟩ : ∃ R, R = recsAll zs := ⟨_, rfl⟩
 rw [← hR] at RC ⊢
 clear hR
 unfold ReadsL at RC
 rcases R with _ | l
 · go_enter Tryz.func9, Tryz.ntmps9
   go_wp2_with (go_at_call 26; refine RC.out.mono ?_; rintro _ w1 ⟨hb, rfl⟩)
   refine bodyPost_ret (v := .tuple #[.slice none 0 0, .int .i64 3]) (by simp [results, Tryz.results9, go_sem]) rfl ?_
   exact ⟨hb, rfl⟩
 · go_enter Tryz.func9, Tryz.ntmps9
   go_wp2_with (go_at_call 26; refine RC.out.mono ?_; rintro _ w1 ⟨hb, v, rfl, hO⟩; obtain ⟨a1, c1, rfl⟩ := own_shapeR hO)
   refine bodyPost_ret (v := .tuple #[.slice a1 l.length c1, .int .i64 0]) (by simp [results, Tryz.results9, go_sem]) rfl ?_
   exact ⟨hb, _, rfl, hO⟩
end Go.Proofs.YtihgiemgcmpmmaaGreat
