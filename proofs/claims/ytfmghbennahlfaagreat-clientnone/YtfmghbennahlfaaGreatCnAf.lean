/-
  
-/
import Derived.Test.YtfmghbennahlfaaGreatCnAe
import Derived.Test.YtfmghbennahlfaaGreatCnAd
namespace Go.Proofs.YtfmghbennahlfaaGreat
open Go.RowKit Go.ChangeShapes Go.WideShapes Go.ChangeAt Go.Maps
set_option linter.unusedVariables false
set_option linter.unusedSimpArgs false
set_option maxRecDepth 100000
def NdC (w : World) (b o : Nat) (x : Nd) : Prop := ∀ j v, x.cells[j]? = some v → w.cell? ⟨b, o + j, none⟩ = some v
theorem NdC.later {w w' : World} {b o : Nat} {x : Nd} (h : NdC w b o x) (hb : Below w.heap.size w w') : NdC w' b o x := fun j v hv => cell_later hb (h j v hv)
theorem NdC.all {w : World} {b o : Nat} {x : Nd} (h : NdC w b o x) : w.cell? ⟨b, o, none⟩ = some (.int .u32 x.fid) ∧ w.cell? ⟨b, o + 1, none⟩ = some (.int .u8 x.k) ∧ w.cell? ⟨b, o + 2, none⟩ = some (.int .u16 x.md) ∧ w.cell? ⟨b, o + 3, none⟩ = some (.int .u16 x.ln) ∧ w.cell? ⟨b, o + 4, none⟩ = some (.slice x.da x.zs.length x.dc) ∧ w.cell? ⟨b, o + 5, none⟩ = some (.slice x.ka x.ks.length x.kc) :=
 ⟨h 0 _ rfl, h 1 _ rfl, h 2 _ rfl, h 3 _ rfl, h 4 _ rfl, h 5 _ rfl⟩
def IsNs (w : World) (a : Option Addr) (l : List Nd) : Prop :=
 l.length ≤ maxLen ∧ (∀ x ∈ l, x.Ok w) ∧ (0 < l.length → ∃ b off, a = some ⟨b, off, none⟩ ∧ ∀ i, i < l.length → NdC w b (off + i * 6) (l.getD i Nd.no))
theorem IsNs.later {w w' : World} {a : Option Addr} {l : List Nd} (h : IsNs w a l) (hb : Below w.heap.size w w') : IsNs w' a l := by
 obtain ⟨h1, h2, h3⟩ := h
 refine ⟨h1, fun x hx => (h2 x hx).later hb, fun hp => ?_⟩
 obtain ⟨b, off, e, hc⟩ := h3 hp
 exact ⟨b, off, e, fun i hi => (hc i hi).later hb⟩
theorem IsNs.at {w : World} {b off : Nat} {l : List Nd} {i : Nat} (h : IsNs w (some ⟨b, off, none⟩) l) (hi : i < l.length) : NdC w b (off + i * 6) (l.getD i Nd.no) := by
 obtain ⟨b', off', e, hc⟩ := h.2.2 (by omega)
 cases e
 exact hc i hi
theorem getD_mem {α : Type} (l : List α) (d : α) {i : Nat} (hi : i < l.length) : l.getD i d ∈ l := by
 rw [List.getD, List.getElem?_eq_getElem hi]
 exact List.getElem_mem _
theorem IsNs.ok {w : World} {a : Option Addr} {l : List Nd} (h : IsNs w a l) {i : Nat} (hi : i < l.length) : (l.getD i Nd.no).Ok w := h.2.1 _ (getD_mem _ _ hi)
def lastFd (l : List Nd) (m : Nat) : Int := if m = 0 then 0 else (l.getD (m - 1) Nd.no).fid
theorem lastFd_next (l : List Nd) (m : Nat) : lastFd l (m + 1) = (l.getD m Nd.no).fid := by unfold lastFd; simp
def upTo (l : List Nd) : Nat → Bool
 | 0 => true
 | m + 1 => upTo l m && decide (lastFd l m < (l.getD m Nd.no).fid)
def fidsUp (l : List Nd) : Bool := upTo l l.length
theorem up_no (l : List Nd) (m : Nat) (h : decide (lastFd l m < (l.getD m Nd.no).fid) = false) : ∀ d, upTo l (m + 1 + d) = false
 | 0 => by simp only [Nat.add_zero, upTo, h, Bool.and_false]
 | d + 1 => by rw [← Nat.add_assoc]; simp only [upTo, up_no l m h d, Bool.false_and]
theorem fidsUp_no {l : List Nd} {m : Nat} (hm : m < l.length) (h : decide (lastFd l m < (l.getD m Nd.no).fid) = false) : fidsUp l = false := by
 unfold fidsUp
 obtain ⟨d, hd⟩ : ∃ d, l.length = m + 1 + d := ⟨l.length - (m + 1), by omega⟩
 rw [hd]; exact up_no l m h d
set_option maxHeartbeats 2000000 in
theorem fidsRise_c (a : Option Addr) (cap : Nat) (l : List Nd) (w : World) (h : IsNs w a l) (hm : l.length ≤ 100000) :
   Calls Tryz.prog 116 #[.slice a l.length cap] w fun e w' => e = .returned (.bool (fidsUp l)) ∧ w' = w := by
 have H := hid h
 clear h
 obtain ⟨n, hn⟩ : ∃ n, n = l.length := ⟨_, rfl⟩
 rw [← hn] at hm ⊢
 have HN := hid hn
 clear hn
 go_enter Tryz.func116, Tryz.ntmps116
 go_wp2
 go_loopg [3, 7] n (fun gk v i wr => ∃ m : Nat, m + gk = n ∧ i = .int .i64 m ∧ v = .int .u32 (lastFd l m) ∧ Hid (wr = w) ∧ Hid (upTo l m = true))
 case atStart => exact ⟨0, by omega, rfl, rfl, hid rfl, hid rfl⟩
 case round =>
   obtain ⟨m, hm2, rfl, rfl, HB, HK⟩ := hrel
   have hwr := HB.out
   subst hwr
   by_cases hlt : m < n
   · have hltI : (m : Int) < n := by omega
     have hln : m < l.length := by rw [← HN.out]; exact hlt
     obtain ⟨b, off, rfl, _⟩ := H.out.2.2 (by omega)
     obtain ⟨c0, _⟩ := (H.out.at (i := m) hln).all
     have NO := hid (fidsUp_no (l := l) (m := m) hln)
     have NX : Hid (decide (lastFd l m < (l.getD m Nd.no).fid) = true → upTo l (m + 1) = true) := hid (fun h => by simp only [upTo, HK.out, h, Bool.and_self])
     have LX := hid (lastFd_next l m)
     generalize l.getD m Nd.no = x at *
     generalize lastFd l m = lst at *
     clear hln
     by_cases q : x.fid ≤ lst
     · have EF := hid (NO.out (decide_eq_false (by omega)))
       go_wp2
       go_ret
       exact ⟨ret_bool' EF.out.symm, rfl⟩
     · have ET := hid (NX.out (decide_eq_true (by omega)))
       go_wp2
       go_roundg (gk - 1)
       case measure => omega
       case rel => exact ⟨m + 1, by omega, by go_num, by rw [LX.out], hid rfl, ET⟩
   · have em : m = n := by omega
     have hge : ¬ (m : Int) < n := by omega
     have EF : Hid (fidsUp l = true) := hid (by unfold fidsUp; rw [← HN.out, ← em]; exact HK.out)
     go_wp2
     go_ret
     exact ⟨ret_bool' EF.out.symm, rfl⟩
def nmK (l : List Kd) (i : Nat) : Bool := Pa.nameB (l.getD i Kd.no).nm.data.toList && !leS (l.getD i Kd.no).nm (lastK l i)
def namesTo (l : List Kd) : Nat → Bool
 | 0 => true
 | m + 1 => namesTo l m && nmK l m
def namesOk (l : List Kd) : Bool := namesTo l l.length
theorem names_no (l : List Kd) (m : Nat) (h : nmK l m = false) : ∀ d, namesTo l (m + 1 + d) = false
 | 0 => by simp [namesTo, h]
 | d + 1 => by rw [← Nat.add_assoc]; simp [namesTo, names_no l m h d]
theorem namesOk_no {l : List Kd} {m : Nat} (hm : m < l.length) (h : nmK l m = false) : namesOk l = false := by
 unfold namesOk
 obtain ⟨d, hd⟩ : ∃ d, l.length = m + 1 + d := ⟨l.length - (m + 1), by omega⟩
 rw [hd]; exact names_no l m h d
set_option maxHeartbeats 4000000 in
theorem namesRise_c (a : Option Addr) (cap : Nat) (l : List Kd) (w : World) (h : IsKs w a l) (hm : l.length ≤ 100000) :
   Calls Tryz.prog 182 #[.slice a l.length cap] w fun e w' => e = .returned (.bool (namesOk l)) ∧ Below w.heap.size w w' := by
 have H := hid h
 clear h
 obtain ⟨n, hn⟩ : ∃ n, n = l.length := ⟨_, rfl⟩
 rw [← hn] at hm ⊢
 have HN := hid hn
 clear hn
 go_enter Tryz.func182, Tryz.ntmps182
 go_wp2
 go_loopg [3, 8] n (fun gk v i wr => ∃ m : Nat, m + gk = n ∧ i = .int .i64 m ∧ v = .string (lastK l m) ∧ Hid (Below w.heap.size w wr) ∧ Hid (namesTo l m = true))
 case atStart => exact ⟨0, by omega, rfl, rfl, hid (Below.refl _ _), hid rfl⟩
 case round =>
   obtain ⟨m, hm2, rfl, rfl, HB, HK⟩ := hrel
   by_cases hlt : m < n
   · have hltI : (m : Int) < n := by omega
     have hln : m < l.length := by rw [← HN.out]; exact hlt
     obtain ⟨b, off, rfl, _⟩ := H.out.2.2 (by omega)
     have hK := H.out.later HB.out
     obtain ⟨k0, k1⟩ := hK.at (i := m) hln
     have hwf := hK.wf (i := m) hln
     have NO := hid (namesOk_no (l := l) (m := m) hln)
     have NX : Hid (nmK l m = true → namesTo l (m + 1) = true) := hid (fun h => by simp [namesTo, HK.out, h])
     have LX := hid (lastK_next l m)
     unfold nmK at NO NX
     clear hK hln
     generalize l.getD m Kd.no = x at *
     have NC := hid (name_c x.nm (wr.alloc (.cells #[.string x.nm, .int .u32 x.fid] 66)) hwf.1)
     have hbx := heap_alloc_new wr (.cells #[.string x.nm, .int .u32 x.fid] 66)
     have HX := hid hbx
     have BA := hid (HB.out.trans ((below_1 wr (.cells #[.string x.nm, .int .u32 x.fid] 66)).mono HB.out.size))
     clear hbx hwf
     generalize hlast : lastK l m = lst at *
     clear hlast
     unfold leS at NO NX
     cases q1 : Pa.nameB x.nm.data.toList with
     | false =>
       rw [q1] at NC NO
       have EF := hid (NO.out rfl)
       clear NO NX
       go_wp2_with (go_at_call 114; refine NC.out.mono ?_; rintro _ w1 ⟨rfl, hb1⟩)
       go_ret
       exact ⟨ret_bool' EF.out.symm, BA.out.trans (hb1.mono BA.out.size)⟩
     | true =>
       rw [q1] at NC NO NX
       cases q2 : (Op.bytesLess x.nm.toList lst.toList || x.nm.toList == lst.toList) with
       | true =>
         rw [q2] at NO
         have EF := hid (NO.out (by simp))
         clear NO NX
         go_wp2_with (go_at_call 114; refine NC.out.mono ?_; rintro _ w1 ⟨rfl, hb1⟩; (have c0 : w1.cell? ⟨wr.heap.size, 0, none⟩ = some (.string x.nm) := cell_of_row2 ((hb1.block _ (lt_blkR HX.out)).trans HX.out) 0 rfl))
         all_goals go_ret
         all_goals exact ⟨ret_bool' EF.out.symm, BA.out.trans (hb1.mono BA.out.size)⟩
       | false =>
         rw [q2] at NX
         have ET := hid (NX.out (by simp))
         clear NO NX
         go_wp2_with (go_at_call 114; refine NC.out.mono ?_; rintro _ w1 ⟨rfl, hb1⟩; (have c0 : w1.cell? ⟨wr.heap.size, 0, none⟩ = some (.string x.nm) := cell_of_row2 ((hb1.block _ (lt_blkR HX.out)).trans HX.out) 0 rfl))
         go_roundg (gk - 1)
         case measure => omega
         case rel => exact ⟨m + 1, by omega, by go_num, by rw [LX.out], hid (BA.out.trans (hb1.mono BA.out.size)), ET⟩
   · have em : m = n := by omega
     have hge : ¬ (m : Int) < n := by omega
     have EF : Hid (namesOk l = true) := hid (by unfold namesOk; rw [← HN.out, ← em]; exact HK.out)
     go_wp2
     go_ret
     exact ⟨ret_bool' EF.out.symm, HB.out⟩
def aloneB (x : Nd) : Bool := bif x.k == 1 || x.k == 3 then decide (x.zs.length ≤ 64) && decide (x.ks.length = 0) else bif x.k == 2 then decide (x.zs.length = 0) && (decide (x.ks.length ≤ 12) && namesOk x.ks) else false
set_option maxHeartbeats 4000000 in
theorem rightAlone_c (b o : Nat) (x : Nd) (w : World) (hc : NdC w b o x) (h : x.Ok w) :
   Calls Tryz.prog 117 #[.pointer (some ⟨b, o, none⟩)] w fun e w' => e = .returned (.bool (aloneB x)) ∧ Below w.heap.size w w' := by
 obtain ⟨y0, y1, y2, y3, y4, y5⟩ := hc.all
 have hK := h.2.2.2.2.2
 have RK := hid (fun (hm : x.ks.length ≤ 100000) => namesRise_c x.ka x.kc x.ks w hK hm)
 obtain ⟨nk, hnk⟩ : ∃ nk, nk = aloneB x := ⟨_, rfl⟩
 rw [← hnk]
 unfold aloneB at hnk
 have HE := hid hnk
 clear hc h hK hnk y0 y2 y3
 obtain ⟨fid, k, md, ln, da, dc, zs, ka, kc, ks⟩ := x
 simp only at *
 have fin : ∀ {bb : Bool}, nk = bb → Hid (Ending.returned (.bool bb) = .returned (.bool nk) ∧ Below w.heap.size w w) := fun e => hid ⟨by rw [e], Below.refl _ _⟩
 by_cases e1 : k = 1
 · subst e1
   by_cases q1 : zs.length ≤ 64
   · have q1I : (zs.length : Int) ≤ 64 := by omega
     by_cases q2 : ks.length = 0
     · have q2B : ((ks.length : Int) == 0) = true := by rw [q2]; rfl
       have F := fin (bb := true) (by rw [HE.out, decide_eq_true q1, decide_eq_true q2]; rfl)
       clear q2 HE fin
       go_enter Tryz.func117, Tryz.ntmps117
       go_wp2
       go_ret
       exact F.out
     · have q2B : ((ks.length : Int) == 0) = false := beq_eq_false_iff_ne.2 (by omega)
       have F := fin (bb := false) (by rw [HE.out, decide_eq_true q1, decide_eq_false q2]; rfl)
       clear HE fin
       go_enter Tryz.func117, Tryz.ntmps117
       go_wp2
       go_ret
       exact F.out
   · have q1I : ¬ (zs.length : Int) ≤ 64 := by omega
     have F := fin (bb := false) (by rw [HE.out, decide_eq_false q1]; rfl)
     clear HE fin
     go_enter Tryz.func117, Tryz.ntmps117
     go_wp2
     go_ret
     exact F.out
 · by_cases e3 : k = 3
   · subst e3
     by_cases q1 : zs.length ≤ 64
     · have q1I : (zs.length : Int) ≤ 64 := by omega
       by_cases q2 : ks.length = 0
       · have q2B : ((ks.length : Int) == 0) = true := by rw [q2]; rfl
         have F := fin (bb := true) (by rw [HE.out, decide_eq_true q1, decide_eq_true q2]; rfl)
         clear q2 HE fin
         go_enter Tryz.func117, Tryz.ntmps117
         go_wp2
         go_ret
         exact F.out
       · have q2B : ((ks.length : Int) == 0) = false := beq_eq_false_iff_ne.2 (by omega)
         have F := fin (bb := false) (by rw [HE.out, decide_eq_true q1, decide_eq_false q2]; rfl)
         clear HE fin
         go_enter Tryz.func117, Tryz.ntmps117
         go_wp2
         go_ret
         exact F.out
     · have q1I : ¬ (zs.length : Int) ≤ 64 := by omega
       have F := fin (bb := false) (by rw [HE.out, decide_eq_false q1]; rfl)
       clear HE fin
       go_enter Tryz.func117, Tryz.ntmps117
       go_wp2
       go_ret
       exact F.out
   · have r1 : (k == 1) = false := beq_eq_false_iff_ne.2 e1
     have r3 : (k == 3) = false := beq_eq_false_iff_ne.2 e3
     rw [r1, r3] at HE
     by_cases e2 : k = 2
     · subst e2
       by_cases q1 : zs.length = 0
       · have q1B : ((zs.length : Int) == 0) = true := by rw [q1]; rfl
         by_cases q2 : ks.length ≤ 12
         · have q2I : (ks.length : Int) ≤ 12 := by omega
           have RK2 := hid (RK.out (by omega))
           have HE2 : Hid (nk = namesOk ks) := hid (by rw [HE.out, decide_eq_true q1, decide_eq_true q2]; rfl)
           rw [← HE2.out] at RK2
           clear q1 RK HE HE2 fin
           go_enter Tryz.func117, Tryz.ntmps117
           go_wp2_with (go_at_call 182; refine RK2.out.mono ?_; rintro _ w1 ⟨rfl, hb1⟩)
           go_ret
           exact ⟨rfl, hb1⟩
         · have q2I : ¬ (ks.length : Int) ≤ 12 := by omega
           have F := fin (bb := false) (by rw [HE.out, decide_eq_true q1, decide_eq_false q2]; rfl)
           clear q1 HE fin
           go_enter Tryz.func117, Tryz.ntmps117
           go_wp2
           go_ret
           exact F.out
       · have q1B : ((zs.length : Int) == 0) = false := beq_eq_false_iff_ne.2 (by omega)
         have F := fin (bb := false) (by rw [HE.out, decide_eq_false q1]; rfl)
         clear HE fin
         go_enter Tryz.func117, Tryz.ntmps117
         go_wp2
         go_ret
         exact F.out
     · have r2 : (k == 2) = false := beq_eq_false_iff_ne.2 e2
       rw [r2] at HE
       have F := fin (bb := false) (by rw [HE.out]; rfl)
       clear HE fin
       go_enter Tryz.func117, Tryz.ntmps117
       go_wp2
       go_ret
       exact F.out
def ptR : Value → Option (DataW (Option Addr) × List MemPlace)
 | .pointer x => some (.held x, [])
 | _ => none
def ptE : Enc (Option Addr) := ⟨fun x => .pointer x, ptR, fun _ => rfl, fun {v z} h => by
 unfold ptR at h
 split at h
 · cases h; exact ⟨_, rfl, rfl⟩
 · cases h⟩
theorem zeroPt (w : World) : (zeroValue 131).run Tryz.prog w = .ok (ptE.enc none) w := by
 have h : (Tryz.prog.info? 131).map (fun i => i.zero) = some (some (.pointer none)) := by kernel_rfl
 cases hi : Tryz.prog.info? 131 with
 | none => rw [hi] at h; cases h
 | some i => rw [hi] at h; simp at h; simp [zeroValue, typeInfo, hi, h]; rfl
def plTo (l : List Nd) : Nat → Int → Option Nat
 | 0, _ => none
 | m + 1, f => updF (plTo l m) (l.getD m Nd.no).fid (some m) f
def plN (l : List Nd) : Nat → Nat
 | 0 => 0
 | m + 1 => addN (plTo l m) (l.getD m Nd.no).fid (plN l m)
theorem plTo_lt (l : List Nd) : ∀ (m : Nat) {f : Int} {i : Nat}, plTo l m f = some i → i < m ∧ (l.getD i Nd.no).fid = f
 | 0, f, i, h => by cases h
 | m + 1, f, i, h => by
   unfold plTo updF at h
   split at h
   · rename_i e
     cases h
     exact ⟨by omega, e.symm⟩
   · obtain ⟨h1, h2⟩ := plTo_lt l m h
     exact ⟨by omega, h2⟩
theorem plN_le (l : List Nd) : ∀ m, plN l m ≤ m
 | 0 => Nat.le_refl _
 | m + 1 => by
   have := plN_le l m
   unfold plN addN
   split <;> omega
abbrev Tab := Int → Option (Addr × Nd)
def Tab.ptr (N : Tab) : Int → Option (Option Addr) := fun f => (N f).map fun p => some p.1
def IsTab (w : World) (tb m : Nat) (N : Tab) : Prop := IsFm ptE w tb m N.ptr ∧ ∀ f p x, N f = some (p, x) → p.spot = none ∧ NdC w p.block p.off x ∧ x.Ok w ∧ x.fid = f
theorem IsTab.later {w w' : World} {tb m : Nat} {N : Tab} (h : IsTab w tb m N) (hb : Below w.heap.size w w') : IsTab w' tb m N :=
 ⟨h.1.out (Ou.of (S := fun _ => False) hb) (fun e => e), fun f p x e => by obtain ⟨h1, h2, h3, h4⟩ := h.2 f p x e; exact ⟨h1, h2.later hb, h3.later hb, h4⟩⟩
def ndF (a : Option Addr) (l : List Nd) (m : Nat) : Tab := fun f => (plTo l m f).map fun i => (⟨(a.getD ⟨0, 0, none⟩).block, (a.getD ⟨0, 0, none⟩).off + i * 6, none⟩, l.getD i Nd.no)
theorem ndF_ptr (b off : Nat) (l : List Nd) (m : Nat) : (ndF (some ⟨b, off, none⟩) l (m + 1)).ptr = updF (ndF (some ⟨b, off, none⟩) l m).ptr (l.getD m Nd.no).fid (some (some ⟨b, off + m * 6, none⟩)) := by
 funext f
 have e : plTo l (m + 1) f = updF (plTo l m) (l.getD m Nd.no).fid (some m) f := rfl
 unfold Tab.ptr ndF
 rw [e]
 unfold updF
 split <;> simp
theorem addN_ptr (a : Option Addr) (l : List Nd) (m : Nat) (f : Int) (n : Nat) : addN (ndF a l m).ptr f n = addN (plTo l m) f n := by
 unfold addN Tab.ptr ndF
 cases plTo l m f <;> rfl
theorem ht_tab : Tryz.prog.underlying 187 = some (.map 35 131) := Tryz.underlying187
theorem ns_tab {w : World} {a : Option Addr} {l : List Nd} {tb : Nat} (h : IsNs w a l) (hf : IsFm ptE w tb (plN l l.length) (ndF a l l.length).ptr) : IsTab w tb (plN l l.length) (ndF a l l.length) := by
 refine ⟨hf, fun f p x e => ?_⟩
 unfold ndF at e
 cases hp : plTo l l.length f with
 | none => rw [hp] at e; cases e
 | some i =>
   rw [hp] at e
   simp only [Option.map_some, Option.some.injEq, Prod.mk.injEq] at e
   obtain ⟨rfl, rfl⟩ := e
   obtain ⟨h1, h2⟩ := plTo_lt l _ hp
   obtain ⟨b, off, rfl, hc⟩ := h.2.2 (by omega)
   exact ⟨rfl, hc i h1, h.ok h1, h2⟩
theorem Ou.drewW {S : Nat → Prop} (w : World) : Ou S w w.drew := Ou.of (Below.drew (Below.refl _ _))
set_option maxHeartbeats 2000000 in
theorem tableOf_c (a : Option Addr) (cap : Nat) (l : List Nd) (w : World) (h : IsNs w a l) (hm : l.length ≤ 500) :
   Calls Tryz.prog 108 #[.slice a l.length cap] w fun e w' => e = .returned (.map (some w.heap.size)) ∧ IsTab w' w.heap.size (plN l l.length) (ndF a l l.length) ∧ Below w.heap.size w w' := by
 have H := hid h
 clear h
 have b0 := below_1 w (.map #[] 0)
 have B0 := hid b0
 have F0 := hid (IsFm.made ptE w)
 have ht := ht_tab
 obtain ⟨n, hn⟩ : ∃ n, n = l.length := ⟨_, rfl⟩
 have HN := hid hn
 have FIN : Hid (∀ W, Below w.heap.size w W → IsFm ptE W w.heap.size (plN l n) (ndF a l n).ptr → IsTab W w.heap.size (plN l l.length) (ndF a l l.length)) := hid (fun W hb hf => by rw [hn] at hf; exact ns_tab (H.out.later hb) hf)
 rw [← hn] at hm ⊢
 clear hn b0
 have hmm := @run_makeMap Tryz.prog
 go_enter Tryz.func108, Tryz.ntmps108
 go_wp2
 go_loopg [8] n (fun gk i wr => ∃ m : Nat, m + gk = n ∧ i = .int .i64 m ∧ Hid (Below w.heap.size w wr) ∧ Hid (IsFm ptE wr w.heap.size (plN l m) (ndF a l m).ptr))
 case atStart => exact ⟨0, by omega, rfl, B0, F0⟩
 case round =>
   obtain ⟨m, hm2, rfl, HB, HF⟩ := hrel
   by_cases hlt : m < n
   · have hltI : (m : Int) < n := by omega
     have hln : m < l.length := by rw [← HN.out]; exact hlt
     obtain ⟨b, off, rfl, _⟩ := H.out.2.2 (by omega)
     have hI := H.out.later HB.out
     have hbd := (hI.ok (i := m) hln).1
     obtain ⟨c0, _⟩ := (hI.at (i := m) hln).all
     have hfd := HF.out.out (S := fun _ => False) (Ou.drewW wr) (fun e => e)
     have hpl := plN_le l m
     obtain ⟨w3, SR, IM, MT⟩ := hfd.store (by omega) ht hbd.1 hbd.2 (some ⟨b, off + m * 6, none⟩)
     rw [addN_ptr, ← ndF_ptr] at IM
     rw [show ptE.enc (some ⟨b, off + m * 6, none⟩) = .pointer (some ⟨b, off + m * 6, none⟩) from rfl] at SR
     have HF3 : Hid (IsFm ptE w3 w.heap.size (plN l (m + 1)) (ndF (some ⟨b, off, none⟩) l (m + 1)).ptr) := hid IM
     have HB3 : Hid (Below w.heap.size w w3) := hid (HB.out.trans ((((Ou.drewW (S := fun k => k = w.heap.size) wr).trans (Ou.turned MT rfl)).below HB.out.size (fun k e => by omega))))
     have c0d : wr.drew.cell? ⟨b, off + m * 6, none⟩ = some (.int .u32 (l.getD m Nd.no).fid) := c0
     clear hI hfd hbd IM MT hln hpl
     generalize l.getD m Nd.no = x at *
     go_upto_region 5 with fail
     go_region
     go_wp2
     go_roundg (gk - 1)
     case measure => omega
     case rel => exact ⟨m + 1, by omega, by go_num, HB3, HF3⟩
   · have em : m = n := by omega
     have hge : ¬ (m : Int) < n := by omega
     have F := hid (FIN.out wr HB.out (by rw [← em]; exact HF.out))
     go_wp2
     go_ret
     exact ⟨rfl, by rw [← HN.out] at F; exact F.out, HB.out⟩
def haveTo (N : Tab) (l : List Kd) : Nat → Bool
 | 0 => true
 | m + 1 => haveTo N l m && ((l.getD m Kd.no).fid != 1 && (N (l.getD m Kd.no).fid).isSome)
def haveB (N : Tab) (l : List Kd) : Bool := haveTo N l l.length
theorem have_no (N : Tab) (l : List Kd) (m : Nat) (h : ((l.getD m Kd.no).fid != 1 && (N (l.getD m Kd.no).fid).isSome) = false) : ∀ d, haveTo N l (m + 1 + d) = false
 | 0 => by simp only [Nat.add_zero, haveTo, h, Bool.and_false]
 | d + 1 => by rw [← Nat.add_assoc]; simp only [haveTo, have_no N l m h d, Bool.false_and]
theorem haveB_no {N : Tab} {l : List Kd} {m : Nat} (hm : m < l.length) (h : ((l.getD m Kd.no).fid != 1 && (N (l.getD m Kd.no).fid).isSome) = false) : haveB N l = false := by
 unfold haveB
 obtain ⟨d, hd⟩ : ∃ d, l.length = m + 1 + d := ⟨l.length - (m + 1), by omega⟩
 rw [hd]; exact have_no N l m h d
theorem haveTo_all {N : Tab} {l : List Kd} : ∀ {m : Nat}, haveTo N l m = true → ∀ i, i < m → (l.getD i Kd.no).fid ≠ 1 ∧ (N (l.getD i Kd.no).fid).isSome = true
 | 0, _, i, hi => by omega
 | m + 1, h, i, hi => by
   unfold haveTo at h
   rw [Bool.and_eq_true] at h
   by_cases e : i = m
   · subst e
     have := h.2
     rw [Bool.and_eq_true] at this
     exact ⟨by simpa using this.1, this.2⟩
   · exact haveTo_all h.1 i (by omega)
set_option maxHeartbeats 2000000 in
theorem haveKidsOf_c (tb m0 : Nat) (N : Tab) (b o : Nat) (x : Nd) (w : World) (hT : IsTab w tb m0 N) (hc : NdC w b o x) (h : x.Ok w) (hm : x.ks.length ≤ 100000) :
   Calls Tryz.prog 118 #[.map (some tb), .pointer (some ⟨b, o, none⟩)] w fun e w' => e = .returned (.bool (haveB N x.ks)) ∧ Below w.heap.size w w' := by
 obtain ⟨_, _, _, _, _, y5⟩ := hc.all
 have HK := hid h.2.2.2.2.2
 have HT := hid hT
 have ht := ht_tab
 clear hc h hT
 obtain ⟨fid, k, md, ln, da, dc, zs, ka, kc, l⟩ := x
 simp only at *
 obtain ⟨n, hn⟩ : ∃ n, n = l.length := ⟨_, rfl⟩
 rw [← hn] at hm y5
 have HN := hid hn
 clear hn
 go_enter Tryz.func118, Tryz.ntmps118
 go_wp2
 go_loopg [12] n (fun gk i wr => ∃ m : Nat, m + gk = n ∧ i = .int .i64 m ∧ Hid (Below w.heap.size w wr) ∧ Hid (haveTo N l m = true))
 case atStart => exact ⟨0, by omega, rfl, hid (Below.refl _ _), hid rfl⟩
 case round =>
   obtain ⟨m, hm2, rfl, HB, HH⟩ := hrel
   by_cases hlt : m < n
   · have hltI : (m : Int) < n := by omega
     have hln : m < l.length := by rw [← HN.out]; exact hlt
     obtain ⟨b1, off, rfl, _⟩ := HK.out.2.2 (by omega)
     have hK := HK.out.later HB.out
     obtain ⟨k0, k1⟩ := hK.at (i := m) hln
     have hwf := hK.wf (i := m) hln
     have NO := hid (haveB_no (N := N) (l := l) (m := m) hln)
     have NX : Hid (((l.getD m Kd.no).fid != 1 && (N (l.getD m Kd.no).fid).isSome) = true → haveTo N l (m + 1) = true) := hid (fun h => by simp only [haveTo, HH.out, h, Bool.and_self])
     clear hK hln
     generalize l.getD m Kd.no = y at *
     have bA := below_1 wr (.cells #[.string y.nm, .int .u32 y.fid] 66)
     have hA := heap_alloc_new wr (.cells #[.string y.nm, .int .u32 y.fid] 66)
     have c1 : (wr.alloc (.cells #[.string y.nm, .int .u32 y.fid] 66)).cell? ⟨wr.heap.size, 1, none⟩ = some (.int .u32 y.fid) := cell_of_row2 hA 1 rfl
     have HB2 := hid (HB.out.trans (bA.mono HB.out.size))
     have LK := (HT.out.later HB2.out).1.look ht zeroPt hwf.2.1 hwf.2.2
     clear hA bA
     by_cases q1 : y.fid = 1
     · have q1B : (y.fid == 1) = true := by rw [q1]; rfl
       have EF := hid (NO.out (by rw [q1]; rfl))
       clear NO NX LK q1
       go_wp2
       go_ret
       exact ⟨ret_bool' EF.out.symm, HB2.out⟩
     · have q1B : (y.fid == 1) = false := beq_eq_false_iff_ne.2 q1
       unfold Tab.ptr at LK
       cases q2 : N y.fid with
       | none =>
         have EF := hid (NO.out (by rw [q2]; simp))
         rw [q2] at LK
         rw [show ptE.enc ((Option.map (fun p : Addr × Nd => some p.1) none).getD none) = .pointer none from rfl] at LK
         clear NO NX
         go_wp2
         go_ret
         exact ⟨ret_bool' EF.out.symm, HB2.out⟩
       | some p =>
         have ET := hid (NX.out (by rw [q2]; simpa using q1))
         rw [q2] at LK
         rw [show ptE.enc ((Option.map (fun p : Addr × Nd => some p.1) (some p)).getD none) = .pointer (some p.1) from rfl] at LK
         clear NO NX
         go_wp2
         go_roundg (gk - 1)
         case measure => omega
         case rel => exact ⟨m + 1, by omega, by go_num, HB2, ET⟩
   · have em : m = n := by omega
     have hge : ¬ (m : Int) < n := by omega
     have EF : Hid (haveB N l = true) := hid (by unfold haveB; rw [← HN.out, ← em]; exact HH.out)
     go_wp2
     go_ret
     exact ⟨ret_bool' EF.out.symm, HB.out⟩
end Go.Proofs.YtfmghbennahlfaaGreat
