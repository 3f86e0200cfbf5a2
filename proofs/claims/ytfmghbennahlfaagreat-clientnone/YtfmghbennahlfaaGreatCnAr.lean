/-
  
-/
import Derived.Test.YtfmghbennahlfaaGreatCnAp
import Derived.Test.YtfmghbennahlfaaGreatCnAi
import Derived.Test.YtfmghbennahlfaaGreatCnAq
import Derived.Test.YtfmghbennahlfaaGreatCnAl
import Derived.Laws.IdiomStrings
import Derived.Deep.RegionHeld3
import Derived.BigQuiet
import Derived.Lib.UnsafeStr
namespace Go.Proofs.YtfmghbennahlfaaGreat
open Go.RowKit Go.ChangeShapes Go.WideShapes Go.ChangeAt Go.Maps
set_option linter.unusedVariables false
set_option linter.unusedSimpArgs false
set_option maxRecDepth 100000
theorem right_ok {l : List Nd} (h : RightP l) : ∀ x ∈ l, nodeOk x = true := by
 obtain ⟨h1, h2, h3, h4, h5, h6⟩ := h
 intro x hx
 obtain ⟨i, hi, rfl⟩ := List.getElem_of_mem hx
 have hg : l.getD i Nd.no = l[i] := by simp [List.getD, hi]
 have hf := upTo_pos2 h2 i hi
 rw [hg] at hf
 obtain ⟨ha, hh⟩ := h4 _ hx
 have hp : ∀ f p, N0 l f = some p → f ≠ 0 := fun f p e => by
   unfold N0 ndF at e
   cases hq : plTo l l.length f with
   | none => rw [hq] at e; cases e
   | some j =>
     obtain ⟨q1, q2⟩ := plTo_lt l _ hq
     have := upTo_pos2 h2 j q1
     omega
 generalize l[i] = y at *
 unfold nodeOk
 have f0 : (y.fid == 0) = false := beq_eq_false_iff_ne.2 (by omega)
 rw [f0]
 have h12 := alone_few ha
 unfold aloneB at ha
 cases q : (y.k == 1 || y.k == 3) with
 | true =>
   rw [q] at ha
   simp only [cond_true, Bool.and_eq_true, decide_eq_true_eq] at ha ⊢
   simp [ha.2]
   omega
 | false =>
   rw [q] at ha
   cases q2 : (y.k == 2) with
   | true =>
     rw [q2] at ha
     simp only [cond_false, cond_true, Bool.and_eq_true, decide_eq_true_eq] at ha ⊢
     have := kidsTo_of hp ha.2.2 hh
     have hk : kidsOk y.ks = true := this
     rw [hk]
     simp [ha.1]
     omega
   | false => rw [q2] at ha; cases ha
structure St where
 fid : Int
 ver : Int
 wr : Int
def St.no : St := ⟨0, 0, 0⟩
def St.cells (x : St) : List Value := [.int .u32 x.fid, .int .u64 x.ver, .int .u8 x.wr]
def St.val (x : St) : Value := .agg #[.int .u32 x.fid, .int .u64 x.ver, .int .u8 x.wr]
def St.Wf (x : St) : Prop := (0 ≤ x.fid ∧ x.fid < 4294967296) ∧ (0 ≤ x.ver ∧ x.ver < 18446744073709551616) ∧ (0 ≤ x.wr ∧ x.wr < 256)
def StC (w : World) (b o : Nat) (x : St) : Prop := w.cell? ⟨b, o, none⟩ = some (.int .u32 x.fid) ∧ w.cell? ⟨b, o + 1, none⟩ = some (.int .u64 x.ver) ∧ w.cell? ⟨b, o + 2, none⟩ = some (.int .u8 x.wr)
def IsSs (w : World) (a : Option Addr) (l : List St) : Prop :=
 l.length ≤ maxLen ∧ (∀ x ∈ l, x.Wf) ∧ (0 < l.length → ∃ b off, a = some ⟨b, off, none⟩ ∧ ∀ i, i < l.length → StC w b (off + i * 3) (l.getD i St.no))
theorem IsSs.later {w w' : World} {a : Option Addr} {l : List St} (h : IsSs w a l) (hb : Below w.heap.size w w') : IsSs w' a l := by
 obtain ⟨h1, h2, h3⟩ := h
 refine ⟨h1, h2, fun hp => ?_⟩
 obtain ⟨b, off, e, hc⟩ := h3 hp
 exact ⟨b, off, e, fun i hi => ⟨cell_later hb (hc i hi).1, cell_later hb (hc i hi).2.1, cell_later hb (hc i hi).2.2⟩⟩
theorem IsSs.at {w : World} {b off : Nat} {l : List St} {i : Nat} (h : IsSs w (some ⟨b, off, none⟩) l) (hi : i < l.length) : StC w b (off + i * 3) (l.getD i St.no) := by
 obtain ⟨b', off', e, hc⟩ := h.2.2 (by omega)
 cases e
 exact hc i hi
theorem IsSs.wf {w : World} {a : Option Addr} {l : List St} (h : IsSs w a l) {i : Nat} (hi : i < l.length) : (l.getD i St.no).Wf := h.2.1 _ (getD_mem l St.no hi)
def stB (x : Nd) (s : St) : Bool := s.fid == x.fid && decide (s.wr ≤ 3)
set_option maxHeartbeats 1000000 in
theorem rightStamp_c (x : Nd) (s : St) (w : World) :
   Calls Tryz.prog 258 #[x.val, s.val] w fun e w' => e = .returned (.bool (stB x s)) ∧ Below w.heap.size w w' := by
 have b0 := below_1 w (.cells x.cells.toArray 40)
 have h0 := heap_alloc_new w (.cells x.cells.toArray 40)
 have b1 := below_1 (w.alloc (.cells x.cells.toArray 40)) (.cells s.cells.toArray 200)
 have h1 := heap_alloc_new (w.alloc (.cells x.cells.toArray 40)) (.cells s.cells.toArray 200)
 rw [show (w.alloc (.cells x.cells.toArray 40)).heap.size = w.heap.size + 1 by simp] at h1
 have h0' := (b1.block _ (lt_blkR h0)).trans h0
 have BV := hid (b0.trans (b1.mono b0.size))
 have y0 := (nd_cells h0').1
 have z0 : ((w.alloc (.cells x.cells.toArray 40)).alloc (.cells s.cells.toArray 200)).cell? ⟨w.heap.size + 1, 0, none⟩ = some (.int .u32 s.fid) := cell_of_row2 h1 0 rfl
 have z2 : ((w.alloc (.cells x.cells.toArray 40)).alloc (.cells s.cells.toArray 200)).cell? ⟨w.heap.size + 1, 2, none⟩ = some (.int .u8 s.wr) := cell_of_row2 h1 2 rfl
 obtain ⟨nk, hnk⟩ : ∃ nk, nk = stB x s := ⟨_, rfl⟩
 rw [← hnk]
 unfold stB at hnk
 have HE := hid hnk
 clear hnk b0 b1 h0 h1 h0'
 obtain ⟨fid, k, md, ln, da, dc, zs, ka, kc, ks⟩ := x
 obtain ⟨sf, sv, sw⟩ := s
 simp only [Nd.val, Nd.cells, St.val, St.cells] at *
 by_cases q1 : sf = fid
 · have q1B : (sf == fid) = true := by rw [q1]; simp
   by_cases q2 : sw ≤ 3
   · have F : Hid (nk = true) := hid (by rw [HE.out, q1B, decide_eq_true q2]; rfl)
     clear HE q1
     go_enter Tryz.func258, Tryz.ntmps258
     go_wp2
     go_ret
     exact ⟨ret_bool' F.out.symm, BV.out⟩
   · have F : Hid (nk = false) := hid (by rw [HE.out, q1B, decide_eq_false q2]; rfl)
     clear HE q1
     go_enter Tryz.func258, Tryz.ntmps258
     go_wp2
     go_ret
     exact ⟨ret_bool' F.out.symm, BV.out⟩
 · have q1B : (sf == fid) = false := beq_eq_false_iff_ne.2 q1
   have F : Hid (nk = false) := hid (by rw [HE.out, q1B]; rfl)
   clear HE
   go_enter Tryz.func258, Tryz.ntmps258
   go_wp2
   go_ret
   exact ⟨ret_bool' F.out.symm, BV.out⟩
def stTo (ns : List Nd) (ss : List St) : Nat → Bool
 | 0 => true
 | m + 1 => stTo ns ss m && stB (ns.getD m Nd.no) (ss.getD m St.no)
def stOk (ns : List Nd) (ss : List St) : Bool := decide (ns.length = ss.length) && stTo ns ss ns.length
theorem st_no (ns : List Nd) (ss : List St) (m : Nat) (h : stB (ns.getD m Nd.no) (ss.getD m St.no) = false) : ∀ d, stTo ns ss (m + 1 + d) = false
 | 0 => by simp only [Nat.add_zero, stTo, h, Bool.and_false]
 | d + 1 => by rw [← Nat.add_assoc]; simp only [stTo, st_no ns ss m h d, Bool.false_and]
theorem stTo_no {ns : List Nd} {ss : List St} {m : Nat} (hm : m < ns.length) (h : stB (ns.getD m Nd.no) (ss.getD m St.no) = false) : stTo ns ss ns.length = false := by
 obtain ⟨d, hd⟩ : ∃ d, ns.length = m + 1 + d := ⟨ns.length - (m + 1), by omega⟩
 rw [hd]; exact st_no ns ss m h d
set_option maxHeartbeats 2000000 in
theorem equalSt_c (a b : Option Addr) (ca cb : Nat) (ns : List Nd) (ss : List St) (w : World) (hn : IsNs w a ns) (hs : IsSs w b ss) (hm : ns.length ≤ 100000) (hm' : ss.length ≤ 100000) :
   Calls Tryz.prog 257 #[.slice a ns.length ca, .slice b ss.length cb, .func (.func 258) #[] #[]] w fun e w' => e = .returned (.bool (stOk ns ss)) ∧ Below w.heap.size w w' := by
 unfold stOk
 by_cases q : ns.length = ss.length
 · have qB : ((ns.length : Int) != (ss.length : Int)) = false := by rw [q]; simp
   rw [decide_eq_true q, Bool.true_and]
   have HN := hid hn
   have HS := hid hs
   have HQ := hid q
   obtain ⟨n, hnn⟩ : ∃ n, n = ns.length := ⟨_, rfl⟩
   have HNN := hid hnn
   rw [← q]
   obtain ⟨R, hR⟩ : ∃ R, R = stTo ns ss ns.length := ⟨_, rfl⟩
   rw [← hR]
   have HR := hid hR
   rw [← hnn] at hm ⊢
   clear hn hs qB q hm' hnn hR
   go_enter Tryz.func257, Tryz.ntmps257
   go_wp2
   go_loopg [17] n (fun gk i wr => ∃ m : Nat, m + gk = n ∧ i = .int .i64 m ∧ Hid (Below w.heap.size w wr) ∧ Hid (stTo ns ss m = true))
   case atStart => exact ⟨0, by omega, rfl, hid (Below.refl _ _), hid rfl⟩
   case round =>
     obtain ⟨m, hm2, rfl, HB, HI⟩ := hrel
     by_cases hlt : m < n
     · have hltI : (m : Int) < n := by omega
       have h1 : m < ns.length := by rw [← HNN.out]; exact hlt
       have h2 : m < ss.length := by rw [← HQ.out]; exact h1
       obtain ⟨b1, o1, rfl, _⟩ := HN.out.2.2 (by omega)
       obtain ⟨b2, o2, rfl, _⟩ := HS.out.2.2 (by omega)
       obtain ⟨y0, y1, y2, y3, y4, y5⟩ := ((HN.out.later HB.out).at (i := m) h1).all
       obtain ⟨z0, z1, z2⟩ := (HS.out.later HB.out).at (i := m) h2
       have NO := hid (stTo_no (ss := ss) h1)
       have NX : Hid (stB (ns.getD m Nd.no) (ss.getD m St.no) = true → stTo ns ss (m + 1) = true) := hid (fun h => by simp only [stTo, HI.out, h, Bool.and_self])
       clear h1 h2
       generalize ns.getD m Nd.no = x at *
       generalize ss.getD m St.no = s at *
       have RC := hid (fun W => rightStamp_c x s W)
       have bA := below_1 wr (.cells x.cells.toArray 40)
       have hA := heap_alloc_new wr (.cells x.cells.toArray 40)
       have bB := below_1 (wr.alloc (.cells x.cells.toArray 40)) (.cells s.cells.toArray 200)
       have hB := heap_alloc_new (wr.alloc (.cells x.cells.toArray 40)) (.cells s.cells.toArray 200)
       rw [show (wr.alloc (.cells x.cells.toArray 40)).heap.size = wr.heap.size + 1 by simp] at hB
       have hA2 := (bB.block _ (lt_blkR hA)).trans hA
       obtain ⟨p0, p1, p2, p3, p4, p5⟩ := nd_cells hA2
       have r0 : ((wr.alloc (.cells x.cells.toArray 40)).alloc (.cells s.cells.toArray 200)).cell? ⟨wr.heap.size + 1, 0, none⟩ = some (.int .u32 s.fid) := cell_of_row2 hB 0 rfl
       have r1 : ((wr.alloc (.cells x.cells.toArray 40)).alloc (.cells s.cells.toArray 200)).cell? ⟨wr.heap.size + 1, 1, none⟩ = some (.int .u64 s.ver) := cell_of_row2 hB 1 rfl
       have r2 : ((wr.alloc (.cells x.cells.toArray 40)).alloc (.cells s.cells.toArray 200)).cell? ⟨wr.heap.size + 1, 2, none⟩ = some (.int .u8 s.wr) := cell_of_row2 hB 2 rfl
       have w0 := cell_later bA z0
       have w1 := cell_later bA z1
       have w2 := cell_later bA z2
       have HB2 := hid (HB.out.trans ((bA.trans (bB.mono bA.size)).mono HB.out.size))
       clear bA bB hA hB hA2 z0 z1 z2
       cases qs : stB x s with
       | false =>
         have EF := hid (HR.out.trans (NO.out qs))
         rw [qs] at RC
         clear NO NX qs
         obtain ⟨fid, k, md, ln, da, dc, zs, ka, kc, ks⟩ := x
         obtain ⟨sf, sv, sw⟩ := s
         simp only [Nd.val, Nd.cells, St.val, St.cells] at *
         go_wp2_with (go_at_call 258; refine (RC.out _).mono ?_; rintro _ w9 ⟨rfl, hb9⟩)
         go_ret
         exact ⟨ret_bool' EF.out.symm, HB2.out.trans (hb9.mono HB2.out.size)⟩
       | true =>
         have ET := hid (NX.out qs)
         rw [qs] at RC
         clear NO NX qs
         obtain ⟨fid, k, md, ln, da, dc, zs, ka, kc, ks⟩ := x
         obtain ⟨sf, sv, sw⟩ := s
         simp only [Nd.val, Nd.cells, St.val, St.cells] at *
         go_wp2_with (go_at_call 258; refine (RC.out _).mono ?_; rintro _ w9 ⟨rfl, hb9⟩)
         go_roundg (gk - 1)
         case measure => omega
         case rel => exact ⟨m + 1, by omega, by go_num, hid (HB2.out.trans (hb9.mono HB2.out.size)), ET⟩
     · have hge : ¬ (m : Int) < n := by omega
       have EF : Hid (R = true) := hid (by rw [HR.out, ← HNN.out, show n = m by omega]; exact HI.out)
       go_wp2
       go_ret
       exact ⟨ret_bool' EF.out.symm, HB.out⟩
 · have qB : ((ns.length : Int) != (ss.length : Int)) = true := by rw [bne_iff_ne]; omega
   rw [decide_eq_false q, Bool.false_and]
   clear hn hs
   go_enter Tryz.func257, Tryz.ntmps257
   go_wp2
   go_ret
   exact ⟨rfl, Below.refl _ _⟩
def RSnap (ns : List Nd) (ss : List St) : Prop := RightP ns ∧ stOk ns ss = true
def RsP2 (ns : List Nd) (ss : List St) (w : World) (e : Ending) (w' : World) : Prop := ∃ b, e = .returned (.bool b) ∧ (b = true ↔ RSnap ns ss) ∧ Below w.heap.size w w'
set_option maxHeartbeats 2000000 in
theorem rightSnapshot_c (a b : Option Addr) (ca cb : Nat) (ns : List Nd) (ss : List St) (w : World) (hn : IsNs w a ns) (hs : IsSs w b ss) (hm : ns.length ≤ 100000) (hm' : ss.length ≤ 100000) :
   Calls Tryz.prog 203 #[.agg #[.slice a ns.length ca, .slice b ss.length cb]] w fun e w' => RsP2 ns ss w e w' := by
 have b0 := below_1 w (.cells #[.slice a ns.length ca, .slice b ss.length cb] 75)
 have h0 := heap_alloc_new w (.cells #[.slice a ns.length ca, .slice b ss.length cb] 75)
 have y0 : (w.alloc (.cells #[.slice a ns.length ca, .slice b ss.length cb] 75)).cell? ⟨w.heap.size, 0, none⟩ = some (.slice a ns.length ca) := cell_of_row2 h0 0 rfl
 have RC := hid (right_c a ca ns _ (hn.later b0) hm)
 have EC := hid (fun W (hW : Below w.heap.size w W) => equalSt_c a b ca cb ns ss W (hn.later hW) (hs.later hW) hm hm')
 have B0 := hid b0
 have H0 := hid h0
 clear b0 h0 hn hs
 unfold RtP at RC
 go_enter Tryz.func203, Tryz.ntmps203
 go_upto_region 1 with fail
 generalize (w.alloc (.cells #[.slice a ns.length ca, .slice b ss.length cb] 75)) = V at *
 go_wp2_with (first
   | (go_at_call 58; refine RC.out.mono ?_; rintro _ w1 ⟨b1, rfl, hq1, hb1⟩
      have Q1 := hid hq1
      have B1 := hid (B0.out.trans (hb1.mono B0.out.size))
      have z0 : w1.cell? ⟨w.heap.size, 0, none⟩ = some (.slice a ns.length ca) := cell_of_row2 ((hb1.block _ (lt_blkR H0.out)).trans H0.out) 0 rfl
      have z1 : w1.cell? ⟨w.heap.size, 1, none⟩ = some (.slice b ss.length cb) := cell_of_row2 ((hb1.block _ (lt_blkR H0.out)).trans H0.out) 1 rfl
      clear hq1 hb1)
   | (go_at_call 257; refine (EC.out _ B1.out).mono ?_; rintro _ w2 ⟨rfl, hb2⟩; have B2 := hid (B1.out.trans (hb2.mono B1.out.size)); clear hb2))
 · rename_i hb
   go_ret
   exact ⟨stOk ns ss, rfl, ⟨fun h => ⟨Q1.out.1 hb, h⟩, fun h => h.2⟩, B2.out⟩
 · rename_i hb
   go_ret
   exact ⟨false, rfl, ⟨(fun h => by cases h), fun h => absurd (Q1.out.2 h.1) hb⟩, B1.out⟩
def stampB (s : St) : List Int := beF s.fid 4 ++ (beF s.ver 8 ++ beF s.wr 1)
def stampsB (l : List St) : List Int := l.flatMap stampB
def measB (x : Nd) : List Int := beF (nodeB x).length 2 ++ nodeB x
def measuresB (l : List Nd) : List Int := l.flatMap measB
def snapB (ns : List Nd) (ss : List St) : List Int := (beF ns.length 1 ++ measuresB ns) ++ (beF ss.length 1 ++ stampsB ss)
theorem nodeB_len {x : Nd} (hw : x.Wf) (ho : nodeOk x = true) : (nodeB x).length ≤ 2000 := by
 obtain ⟨s1, s2, s3⟩ := node_small ho
 have := kidsB_le s3
 unfold nodeB
 simp only [List.length_append, beF_len, txF_len, Fr.tx_size]
 omega
end Go.Proofs.YtfmghbennahlfaaGreat
namespace Go.Proofs.YtfmghbennahlfaaGreat
open Go.RowKit Go.ChangeShapes Go.WideShapes Go.ChangeAt Go.Maps Go.Shelf
set_option linter.unusedVariables false
set_option linter.unusedSimpArgs false
set_option maxRecDepth 100000
theorem dKid_have (l : List Nd) (ks : List Kd) : ∀ m, dKid l ks m = haveTo (N0 l) ks m
 | 0 => rfl
 | m + 1 => by
   unfold dKid haveTo
   rw [dKid_have l ks m, N0_has, Bool.and_comm (hasF l _)]
theorem dTo_mk {l : List Nd} : ∀ {m : Nat}, (∀ i, i < m → dOne l i = true) → dTo l m = true
 | 0, _ => rfl
 | m + 1, h => by
   unfold dTo
   rw [dTo_mk (fun i hi => h i (by omega)), h m (by omega)]; rfl
theorem lkTo_mk {l : List Nd} : ∀ {m : Nat}, (∀ i, i < m → lkOne l (l.getD i Nd.no) = true) → lkTo l m = true
 | 0, _ => rfl
 | m + 1, h => by
   unfold lkTo
   rw [lkTo_mk (fun i hi => h i (by omega)), h m (by omega)]; rfl
theorem lkTo_at {l : List Nd} : ∀ {m : Nat}, lkTo l m = true → ∀ i, i < m → lkOne l (l.getD i Nd.no) = true
 | 0, _, i, hi => by omega
 | m + 1, h, i, hi => by
   unfold lkTo at h
   rw [Bool.and_eq_true] at h
   by_cases e : i = m
   · subst e; exact h.2
   · exact lkTo_at h.1 i (by omega)
theorem upTo_mk {l : List Nd} : ∀ {m : Nat}, (∀ i, i < m → lastFd l i < (l.getD i Nd.no).fid) → upTo l m = true
 | 0, _ => rfl
 | m + 1, h => by
   unfold upTo
   rw [upTo_mk (fun i hi => h i (by omega)), decide_eq_true (h m (by omega))]; rfl
theorem linksTo_mk {P : List Int} {l : List Nd} : ∀ {m : Nat}, (∀ i, i < m → linkB P (l.getD i Nd.no) = true) → linksTo P l m = true
 | 0, _ => rfl
 | m + 1, h => by
   unfold linksTo
   rw [linksTo_mk (fun i hi => h i (by omega)), h m (by omega)]; rfl
theorem rtTo_ex {l : List Nd} : ∀ {m : Nat}, rtTo l m = true → ∃ i, i < m ∧ rtB (l.getD i Nd.no) = true
 | 0, h => by cases h
 | m + 1, h => by
   unfold rtTo at h
   rw [Bool.or_eq_true] at h
   rcases h with h | h
   · obtain ⟨i, hi, e⟩ := rtTo_ex h
     exact ⟨i, by omega, e⟩
   · exact ⟨m, by omega, h⟩
theorem rtTo_mk {l : List Nd} : ∀ {m : Nat} {i : Nat}, i < m → rtB (l.getD i Nd.no) = true → rtTo l m = true
 | 0, i, hi, _ => by omega
 | m + 1, i, hi, h => by
   unfold rtTo
   by_cases e : i = m
   · subst e; rw [h, Bool.or_true]
   · rw [rtTo_mk (i := i) (by omega) h, Bool.true_or]
theorem namesTo_of {l : List Kd} : ∀ {m : Nat}, kidsTo l m = true → namesTo l m = true
 | 0, _ => rfl
 | m + 1, h => by
   unfold kidsTo kOk at h
   rw [Bool.and_eq_true, Bool.and_eq_true] at h
   unfold namesTo nmK
   rw [namesTo_of h.1, h.2.1]; rfl
theorem alone_of {x : Nd} (h : nodeOk x = true) : aloneB x = true := by
 unfold nodeOk at h
 rw [Bool.and_eq_true] at h
 obtain ⟨ha, hb⟩ := h
 simp only [Bool.not_eq_true', Bool.or_eq_false_iff, decide_eq_false_iff_not] at ha
 obtain ⟨⟨_, l1⟩, l2⟩ := ha
 unfold aloneB
 cases q1 : (x.k == 1 || x.k == 3) with
 | true =>
   rw [q1] at hb
   simp only [cond_true, decide_eq_true_eq, Bool.and_eq_true] at hb ⊢
   exact ⟨by omega, hb⟩
 | false =>
   rw [q1] at hb
   cases q2 : (x.k == 2) with
   | false => rw [q2] at hb; cases hb
   | true =>
     rw [q2] at hb
     simp only [cond_false, cond_true, Bool.and_eq_true, decide_eq_true_eq] at hb ⊢
     exact ⟨hb.1, by omega, namesTo_of hb.2⟩
theorem no_root {l : List Nd} (h : ∀ x ∈ l, haveB (N0 l) x.ks = true) : (kfs l).count 1 = 0 := by
 rw [List.count_eq_zero]
 intro hm
 unfold kfs at hm
 rw [List.mem_flatMap] at hm
 obtain ⟨x, hx, hg⟩ := hm
 rw [List.mem_map] at hg
 obtain ⟨kd, hkd, ek⟩ := hg
 obtain ⟨t, ht, rfl⟩ := List.getElem_of_mem hkd
 have := (haveTo_all (h x hx) t ht).1
 rw [show x.ks.getD t Kd.no = x.ks[t] by simp [List.getD, ht]] at this
 exact this ek
theorem rightD_iff (l : List Nd) : RightP l ↔ rightD l = true := by
 constructor
 · intro h
   obtain ⟨h1, h2, h3, h4, h5, h6⟩ := h
   have B : Base l := ⟨h1, h2, h3, h4, h5⟩
   have hU := (ring_ab B).1 h6
   have hz := no_root (fun x hx => (h4 x hx).2)
   have hd : dTo l l.length = true := dTo_mk (fun i hi => by
     unfold dOne dA
     rw [right_ok ⟨h1, h2, h3, h4, h5, h6⟩ _ (getD_mem l Nd.no hi), decide_eq_true (upTo_pos h2 i hi), dKid_have]
     exact (h4 _ (getD_mem l Nd.no hi)).2)
   have hr : rtTo l l.length = true := by
     have hd := h3
     unfold isDirT at hd
     cases hN : N0 l 1 with
     | none => rw [hN] at hd; cases hd
     | some r =>
       obtain ⟨p, x⟩ := r
       rw [hN] at hd
       obtain ⟨i, hi, rfl, e⟩ := N0_of hN
       refine rtTo_mk hi ?_
       have hb := linksTo_all h5 i hi
       unfold linkB at hb
       rw [e, hz, Bool.and_eq_true] at hb
       unfold rtB
       rw [e]
       have hd2 : ((l.getD i Nd.no).k == 2) = true := hd
       rw [hd2]
       exact hb.1
   have hl : lkTo l l.length = true := lkTo_mk (fun i hi => by
     have hb := linksTo_all h5 i hi
     have hu := hU i hi
     unfold lkOne
     rw [hu, Bool.and_true]
     generalize l.getD i Nd.no = x at *
     unfold linkB at hb
     unfold lkA
     generalize ((kfs l).count x.fid : Int) = c at *
     rw [Bool.and_eq_true] at hb
     obtain ⟨hb1, hb2⟩ := hb
     cases q : (x.fid == 1) with
     | true => rfl
     | false =>
       rw [q] at hb2
       have e : x.ln = c := by simpa using hb1
       simp only [Bool.false_or, Bool.not_eq_true', Bool.or_eq_false_iff, decide_eq_false_iff_not] at hb2 ⊢
       refine ⟨hb2.1, by rw [e]; simp, ?_⟩
       cases q2 : (x.k == 2) with
       | false => rfl
       | true =>
         have := hb2.2
         rw [q2] at this
         simp only [Bool.true_and, decide_eq_false_iff_not] at this ⊢
         have e1 : c = 1 := by have := hb2.1; omega
         rw [e1]; rfl)
   unfold rightD
   rw [decide_eq_true h1, hd, hr, hl]; rfl
 · intro h
   unfold rightD at h
   simp only [Bool.and_eq_true, decide_eq_true_eq] at h
   obtain ⟨h1, hd, hr, hl⟩ := h
   have hone := fun i hi => dTo_at hd i hi
   unfold dOne dA at hone
   simp only [Bool.and_eq_true, decide_eq_true_eq] at hone
   have h2 : fidsUp l = true := upTo_mk (fun i hi => (hone i hi).1.2)
   have h4 : ∀ x ∈ l, aloneB x = true ∧ haveB (N0 l) x.ks = true := fun x hx => by
     obtain ⟨i, hi, rfl⟩ := List.getElem_of_mem hx
     have e : l.getD i Nd.no = l[i] := by simp [List.getD, hi]
     have hq := hone i hi
     rw [e, dKid_have] at hq
     exact ⟨alone_of hq.1.1, hq.2⟩
   obtain ⟨r, hrl, hrb⟩ := rtTo_ex hr
   unfold rtB at hrb
   simp only [Bool.and_eq_true] at hrb
   have hrf : (l.getD r Nd.no).fid = 1 := by simpa using hrb.1
   have hz := no_root (fun x hx => (h4 x hx).2)
   have h3 : isDirT (N0 l) 1 = true := by
     obtain ⟨p, hp⟩ := N0_at h2 hrl
     rw [hrf] at hp
     unfold isDirT
     rw [hp]
     exact hrb.2.1
   have h5 : linksB l = true := linksTo_mk (fun i hi => by
     have hk := lkTo_at hl i hi
     unfold lkOne at hk
     rw [Bool.and_eq_true] at hk
     unfold linkB
     cases q : ((l.getD i Nd.no).fid == 1) with
     | true =>
       have e1 : (l.getD i Nd.no).fid = 1 := by simpa using q
       obtain rfl := up_inj h2 hi hrl (by rw [e1, hrf])
       rw [e1, hz]
       have := hrb.2.2
       simp only [Bool.true_or, Bool.and_true]
       simpa using this
     | false =>
       have hk1 := hk.1
       generalize l.getD i Nd.no = x at *
       unfold lkA at hk1
       generalize ((kfs l).count x.fid : Int) = c at *
       rw [q] at hk1
       simp only [Bool.false_or, Bool.not_eq_true', Bool.or_eq_false_iff, decide_eq_false_iff_not] at hk1
       obtain ⟨a1, a2, a3⟩ := hk1
       have e : c = x.ln := by simpa using a2
       rw [← e, decide_eq_false a1]
       simp only [beq_self_eq_true, Bool.true_and, Bool.false_or]
       cases q2 : (x.k == 2) with
       | false => rfl
       | true =>
         rw [q2] at a3
         have e1 : c = 1 := by simpa using a3
         rw [e1]; rfl)
   have B : Base l := ⟨h1, h2, h3, h4, h5⟩
   refine ⟨h1, h2, h3, h4, h5, (ring_ab B).2 (fun i hi => ?_)⟩
   have hk := lkTo_at hl i hi
   unfold lkOne at hk
   rw [Bool.and_eq_true] at hk
   exact hk.2
structure TOK (l : List Nd) : Prop where
 few : l.length ≤ 40
 kids : ∀ x ∈ l, x.ks.length ≤ 12
 data : ∀ x ∈ l, x.zs.length ≤ 64
 links : ∀ x ∈ l, x.ln ≤ 60000
 made : ∀ x ∈ l, ∀ q ∈ x.ks, ∃ y, getF l q.fid = some y ∧ 1 ≤ y.ln
def writeL (l : List Nd) (o : Rec) : Int × List Nd :=
 if (getF l o.fid).isSome = false then (5, [])
 else if o.k = 9 then (0, setL l ⟨((getF l o.fid).getD Nd.no).fid, ((getF l o.fid).getD Nd.no).k, o.md, ((getF l o.fid).getD Nd.no).ln, none, 0, ((getF l o.fid).getD Nd.no).zs, none, 0, ((getF l o.fid).getD Nd.no).ks⟩)
 else if ((getF l o.fid).getD Nd.no).k = 2 then (8, [])
 else if ((getF l o.fid).getD Nd.no).k = 3 then (3, [])
 else (0, setL l ⟨((getF l o.fid).getD Nd.no).fid, ((getF l o.fid).getD Nd.no).k, ((getF l o.fid).getD Nd.no).md, ((getF l o.fid).getD Nd.no).ln, none, 0, txB o.dt, none, 0, ((getF l o.fid).getD Nd.no).ks⟩)
def applyL (l : List Nd) (o : Rec) : Int × List Nd :=
 if o.k = 1 ∨ o.k = 2 ∨ o.k = 3 then createL l o
 else if o.k = 4 then hardL l o
 else if o.k = 5 ∨ o.k = 6 then removeL l o
 else if o.k = 7 then renameL l o
 else writeL l o
theorem kidI_mem {l : List Kd} {s : ByteArray} (h : kidI l s ≠ 0) : ∃ q ∈ l, q.nm = s ∧ kidI l s = q.fid := by
 unfold kidI at h ⊢
 cases hf : l.find? (fun k => decide (k.nm = s)) with
 | none => rw [hf] at h; exact absurd rfl h
 | some k => exact ⟨k, List.mem_of_find?_eq_some hf, by simpa using List.find?_some hf, rfl⟩
theorem count_kfs {l : List Nd} {f : Int} : ∀ (n : Nat), l.length ≤ n → (∀ x ∈ l, x.ks.length ≤ 12) → (kfs l).count f ≤ 12 * n := by
 intro n hn hk
 refine Nat.le_trans List.count_le_length ?_
 have : ∀ m : List Nd, (∀ x ∈ m, x.ks.length ≤ 12) → (kfs m).length ≤ 12 * m.length := by
   intro m
   induction m with
   | nil => intro _; simp [kfs]
   | cons x t ih =>
     intro h
     have h1 := ih (fun y hy => h y (List.mem_cons_of_mem _ hy))
     have h2 := h x List.mem_cons_self
     unfold kfs at h1 ⊢
     rw [List.flatMap_cons, List.length_append, List.length_map, List.length_cons]
     omega
 have h2 := this l hk
 omega
theorem kidsTo_all {l : List Kd} : ∀ {m : Nat}, kidsTo l m = true → ∀ i, i < m → kOk l i = true
 | 0, _, i, hi => by omega
 | m + 1, h, i, hi => by
   unfold kidsTo at h
   rw [Bool.and_eq_true] at h
   by_cases e : i = m
   · subst e; exact h.2
   · exact kidsTo_all h.1 i (by omega)
theorem nodeOk_kid {x : Nd} (h : nodeOk x = true) {j : Nat} (hj : j < x.ks.length) : (x.ks[j]).fid ≠ 0 := by
 unfold nodeOk at h
 rw [Bool.and_eq_true] at h
 have h2 := h.2
 cases q1 : (x.k == 1 || x.k == 3) with
 | true =>
   rw [q1] at h2
   simp only [cond_true, decide_eq_true_eq] at h2
   omega
 | false =>
   rw [q1] at h2
   cases q2 : (x.k == 2) with
   | false => rw [q2] at h2; cases h2
   | true =>
     rw [q2] at h2
     simp only [cond_false, cond_true, Bool.and_eq_true] at h2
     have := kidsTo_all h2.2 j hj
     unfold kOk at this
     rw [show x.ks.getD j Kd.no = x.ks[j] by simp [List.getD, hj]] at this
     simp only [Bool.and_eq_true, bne_iff_ne] at this
     exact this.2
theorem rightD_tok {l : List Nd} (h : rightD l = true) : TOK l ∧ ∀ x ∈ l, x.fid ≠ 0 := by
 unfold rightD at h
 simp only [Bool.and_eq_true, decide_eq_true_eq] at h
 obtain ⟨h40, hd, hr, hl⟩ := h
 have hok := dTo_ok hd
 have hk : ∀ x ∈ l, x.ks.length ≤ 12 := fun x hx => nodeOk_few (hok x hx)
 have hc : ∀ x ∈ l, lkA ((kfs l).count x.fid : Int) x = true := fun x hx => by
   obtain ⟨i, hi, rfl⟩ := List.getElem_of_mem hx
   have := lkTo_at hl i hi
   unfold lkOne at this
   rw [Bool.and_eq_true, show l.getD i Nd.no = l[i] by simp [List.getD, hi]] at this
   exact this.1
 have hcount : ∀ x ∈ l, x.fid ≠ 1 → 1 ≤ x.ln ∧ x.ln = ((kfs l).count x.fid : Int) := fun x hx hne => by
   have := hc x hx
   unfold lkA at this
   have e : (x.fid == 1) = false := beq_eq_false_iff_ne.2 hne
   rw [e] at this
   simp only [Bool.false_or, Bool.not_eq_true', Bool.or_eq_false_iff, decide_eq_false_iff_not, bne_eq_false_iff_eq] at this
   obtain ⟨h1, h2, _⟩ := this
   omega
 refine ⟨⟨h40, hk, fun x hx => ?_, fun x hx => ?_, fun x hx q hq => ?_⟩, fun x hx => nodeOk_pos (hok x hx)⟩
 · have := hok x hx
   unfold nodeOk at this
   simp only [Bool.and_eq_true, Bool.not_eq_true', Bool.or_eq_false_iff, decide_eq_false_iff_not] at this
   omega
 · by_cases e : x.fid = 1
   · obtain ⟨i, hi, hi2⟩ := rtTo_ex hr
     unfold rtB at hi2
     simp only [Bool.and_eq_true, beq_iff_eq] at hi2
     have hu : upTo l l.length = true := upTo_mk (fun j hj => by
       have := dTo_at hd j hj
       unfold dOne dA at this
       simp only [Bool.and_eq_true, decide_eq_true_eq] at this
       exact this.1.2)
     obtain ⟨j, hj, rfl⟩ := List.getElem_of_mem hx
     have : i = j := up_inj hu hi hj (by rw [hi2.1, show l.getD j Nd.no = l[j] by simp [List.getD, hj], e])
     subst this
     have e3 := hi2.2.2
     rw [show l.getD i Nd.no = l[i] by simp [List.getD, hj]] at e3
     omega
   · have h1 := (hcount x hx e).2
     have h2 := count_kfs (f := x.fid) 40 h40 hk
     omega
 · obtain ⟨i, hi, rfl⟩ := List.getElem_of_mem hx
   have h1 := dTo_at hd i hi
   unfold dOne at h1
   rw [Bool.and_eq_true, dKid_have] at h1
   have h2 := h1.2
   rw [show l.getD i Nd.no = l[i] by simp [List.getD, hi]] at h2
   obtain ⟨j, hj, rfl⟩ := List.getElem_of_mem hq
   have h3 := haveTo_all h2 j hj
   rw [show (l[i]).ks.getD j Kd.no = (l[i]).ks[j] by simp [List.getD, hj]] at h3
   rw [N0_has] at h3
   cases hg : getF l ((l[i]).ks[j]).fid with
   | none =>
     exfalso
     have := h3.2
     unfold getF at hg
     rw [List.find?_eq_none] at hg
     have hno : ∀ m, hasTo l ((l[i]).ks[j]).fid m = false := fun m => by
       induction m with
       | zero => rfl
       | succ m ih =>
         simp only [hasTo, ih, Bool.false_or]
         by_cases hm : m < l.length
         · have := hg _ (getD_mem l Nd.no hm)
           simpa using this
         · have : l.getD m Nd.no = Nd.no := by simp [List.getD, hm]
           rw [this]
           refine beq_eq_false_iff_ne.2 (fun e => ?_)
           have hp := nodeOk_kid (hok _ (List.getElem_mem hi)) hj
           exact hp e.symm
     unfold hasF at this
     rw [hno] at this
     cases this
   | some y =>
     refine ⟨y, rfl, (hcount y (getF_mem hg).1 (fun e => ?_)).1⟩
     have := (getF_mem hg).2
     rw [e] at this
     exact h3.1 this.symm
def ApplyL (l : List Nd) (o : Rec) : Int × List Nd := if (rightD l && rightF o) = true then applyL l o else (3, [])
theorem rightD_er (l : List Nd) : rightD (l.map Nd.er) = rightD l := by
 rw [Bool.eq_iff_iff, ← rightD_iff, ← rightD_iff]
 exact right_er l
theorem rightF_dt {o : Rec} (h : rightF o = true) : o.dt.size ≤ 64 := by
 unfold rightF at h
 simp only [Bool.and_eq_true] at h
 have h1 : datF (pData o.k) o.dt = true := by
   obtain ⟨_, h2⟩ := h
   simp_all
 unfold datF at h1
 split at h1
 · exact of_decide_eq_true h1
 · have := (ba_nil o.dt).1 h1
   rw [this]; decide
def Gd (n : Nat) (r : Int × List Nd) : Prop := (r.1 ≠ 0 → r.2 = []) ∧ r.2.length ≤ n
theorem Gd.err (n : Nat) (c : Int) : Gd n (c, []) := ⟨fun _ => rfl, Nat.zero_le _⟩
theorem Gd.ok {n : Nat} {L : List Nd} (h : L.length ≤ n) : Gd n (0, L) := ⟨fun h => absurd rfl h, h⟩
theorem Gd.ite {n : Nat} {c : Prop} [Decidable c] {a b : Int × List Nd} (h1 : Gd n a) (h2 : Gd n b) : Gd n (if c then a else b) := by split <;> assumption
theorem applyL_gd (l : List Nd) (o : Rec) : Gd (l.length + 3) (applyL l o) := by
 have s1 := fun (m : List Nd) (x : Nd) => setL_len m x
 have s2 := fun (m : List Nd) (x : Nd) => lessL_len m x
 unfold applyL
 refine Gd.ite ?_ (Gd.ite ?_ (Gd.ite ?_ (Gd.ite ?_ ?_)))
 · exact Gd.ite (Gd.err _ _) (Gd.ite (Gd.err _ _) (Gd.ite (Gd.err _ _) (Gd.ok (Nat.le_trans (s1 _ _) (by have := s1 l ((dirN (getF l o.dir)).kids none 0 (entL (dirN (getF l o.dir)).ks o.nm o.fid)); omega)))))
 · exact Gd.ite (Gd.err _ _) (Gd.ite (Gd.err _ _) (Gd.ite (Gd.err _ _) (Gd.ite (Gd.err _ _) (Gd.ite (Gd.err _ _) (Gd.ok (Nat.le_trans (s1 _ _) (by have := s1 l ((dirN (getF l o.dir)).kids none 0 (entL (dirN (getF l o.dir)).ks o.nm o.fid)); omega)))))))
 · exact Gd.ite (Gd.err _ _) (Gd.ite (Gd.err _ _) (Gd.ite (Gd.err _ _) (Gd.ite (Gd.err _ _) (Gd.ok (Nat.le_trans (s2 _ _) (by have := s1 l (((getF l o.dir).getD Nd.no).kids none 0 (entL ((getF l o.dir).getD Nd.no).ks o.nm 0)); omega))))))
 · refine Gd.ite (Gd.err _ _) (Gd.ite (Gd.err _ _) (Gd.ite (Gd.err _ _) (Gd.ite (Gd.ok (by omega)) (Gd.ite (Gd.err _ _) (Gd.ite (Gd.err _ _) (Gd.ite (Gd.err _ _) (Gd.ite (Gd.err _ _) (Gd.ok ?_))))))))
   have hf : ∀ q : Option Nd, (freeL l q).length ≤ l.length + 1 := fun q => by
     cases q with
     | none => simp [freeL]
     | some x => exact s2 l x
   unfold movedL
   refine Nat.le_trans (s1 _ _) ?_
   refine Nat.le_trans (Nat.succ_le_succ (s1 _ _)) ?_
   have := hf (getF l (kidI (dirN (getF l o.to)).ks o.nm2))
   omega
 · exact Gd.ite (Gd.err _ _) (Gd.ite (Gd.ok (by have := s1 l ⟨((getF l o.fid).getD Nd.no).fid, ((getF l o.fid).getD Nd.no).k, o.md, ((getF l o.fid).getD Nd.no).ln, none, 0, ((getF l o.fid).getD Nd.no).zs, none, 0, ((getF l o.fid).getD Nd.no).ks⟩; omega)) (Gd.ite (Gd.err _ _) (Gd.ite (Gd.err _ _) (Gd.ok (by have := s1 l ⟨((getF l o.fid).getD Nd.no).fid, ((getF l o.fid).getD Nd.no).k, ((getF l o.fid).getD Nd.no).md, ((getF l o.fid).getD Nd.no).ln, none, 0, txB o.dt, none, 0, ((getF l o.fid).getD Nd.no).ks⟩; omega)))))
theorem ApplyL_gd (l : List Nd) (o : Rec) : Gd 43 (ApplyL l o) := by
 unfold ApplyL
 split
 · rename_i h
   rw [Bool.and_eq_true] at h
   have h40 := (rightD_tok h.1).1.few
   obtain ⟨h1, h2⟩ := applyL_gd l o
   exact ⟨h1, by omega⟩
 · exact Gd.err _ _
def NsO (w : World) (base : Nat) (v : Value) (l : List Nd) : Prop := OwN w base v l ∧ ∀ x ∈ l, NdR w base x
theorem NsO.nil (w : World) (base : Nat) : NsO w base (.slice none 0 0) [] := ⟨OwN.nil _ _, fun x hx => by cases hx⟩
def ResO (w : World) (r : Int × List Nd) (e : Ending) (w' : World) : Prop := ∃ v l', e = .returned (.tuple #[v, .int .i64 r.1]) ∧ NsO w' w.heap.size v l' ∧ l'.map Nd.er = r.2 ∧ Below w.heap.size w w'
theorem ResO.err {w w' : World} {r : Int × List Nd} {c : Int} (h : r = (c, [])) (hb : Below w.heap.size w w') : ResO w r (.returned (.tuple #[.slice none 0 0, .int .i64 c])) w' := ⟨_, [], by rw [h], NsO.nil _ _, by rw [h]; rfl, hb⟩
def IsOs (w : World) (a : Option Addr) (l : List Rec) : Prop :=
 l.length ≤ maxLen ∧ (∀ x ∈ l, x.Wf) ∧ (0 < l.length → ∃ b off, a = some ⟨b, off, none⟩ ∧ ∀ i, i < l.length → ∀ j v, (l.getD i Rec.no).ops[j]? = some v → w.cell? ⟨b, off + i * 8 + j, none⟩ = some v)
theorem IsOs.later {w w' : World} {a : Option Addr} {l : List Rec} (h : IsOs w a l) (hb : Below w.heap.size w w') : IsOs w' a l := by
 obtain ⟨h1, h2, h3⟩ := h
 refine ⟨h1, h2, fun hp => ?_⟩
 obtain ⟨b, off, e, hc⟩ := h3 hp
 exact ⟨b, off, e, fun i hi j v hv => cell_later hb (hc i hi j v hv)⟩
theorem IsOs.at {w : World} {b off : Nat} {l : List Rec} {i : Nat} (h : IsOs w (some ⟨b, off, none⟩) l) (hi : i < l.length) : ∀ j v, (l.getD i Rec.no).ops[j]? = some v → w.cell? ⟨b, off + i * 8 + j, none⟩ = some v := by
 obtain ⟨b', off', e, hc⟩ := h.2.2 (by omega)
 cases e
 exact hc i hi
theorem IsOs.wf {w : World} {a : Option Addr} {l : List Rec} (h : IsOs w a l) {i : Nat} (hi : i < l.length) : (l.getD i Rec.no).Wf := h.2.1 _ (getD_mem l Rec.no hi)
def erV (x : Int) : Value := .int .i64 x
def IsEs (w : World) (a : Option Addr) (es : List Int) : Prop := 0 < es.length → ∃ b off, a = some ⟨b, off, none⟩ ∧ ∀ i, i < es.length → w.cell? ⟨b, off + i, none⟩ = some (erV (es.getD i 0))
theorem own_other {w w' : World} {base b e e' size size' n n' : Nat} {v u : Value} {xs ys : List Value} (h : w.ownsRow base e size v n xs) (k : w.ownsRow b e' size' u n' ys) (hne : e ≠ e') (hg : w.grownBy w' u.ownBlock) : w'.ownsRow base e size v n xs := by
 refine ⟨h.1, ?_⟩
 rcases h.2 with q | ⟨g, cap, cur, hv, hb, hh, hr⟩
 · exact .inl q
 · refine .inr ⟨g, cap, cur, hv, hb, (hg.block g (lt_blkR hh) (fun q => ?_)).trans hh, hr⟩
   rcases k.2 with ⟨rfl, _⟩ | ⟨g', cap', cur', rfl, _, hh', _⟩
   · cases q
   · cases q
     rw [hh'] at hh
     cases hh
     exact hne rfl
def newL : List Nd := [⟨1, 2, 0, 0, none, 0, [], none, 0, []⟩]
def foldS (p : List Nd × List Int) (o : Rec) : List Nd × List Int := (if (ApplyL p.1 o).1 = 0 then (ApplyL p.1 o).2 else p.1, p.2 ++ [(ApplyL p.1 o).1])
def FoldL (l : List Nd) (ops : List Rec) : List Nd × List Int := if rightD l = true then ops.foldl foldS (l, []) else ([], List.replicate ops.length 3)
theorem foldS_len (l : List Nd) (ops : List Rec) (m : Nat) (hm : m ≤ ops.length) : ((ops.take m).foldl foldS (l, [])).2.length = m := by
 induction m with
 | zero => rfl
 | succ m ih =>
   rw [fold_take _ _ _ Rec.no (by omega)]
   simp only [foldS, List.length_append, List.length_cons, List.length_nil]
   rw [ih (by omega)]
def FoP (w : World) (r : List Nd × List Int) (e : Ending) (w' : World) : Prop := ∃ a c l b d, e = .returned (.tuple #[.slice a l.length c, .slice b r.2.length d]) ∧ Tr w' a l ∧ l.map Nd.er = r.1 ∧ IsEs w' b r.2 ∧ Below w.heap.size w w'
def NdW (w : World) (base : Nat) (x : Nd) : Prop := x.Fit ∧ x.Nil ∧ RowAt w base 5 x.da (x.zs.map u8V) ∧ OwK w base (.slice x.ka x.ks.length x.kc) x.ks
theorem NdW.later {w w' : World} {base : Nat} {x : Nd} (h : NdW w base x) (hb : Below w.heap.size w w') : NdW w' base x := ⟨h.1, h.2.1, h.2.2.1.later hb, h.2.2.2.later hb⟩
theorem NdW.low {w : World} {base b : Nat} {x : Nd} (h : NdW w base x) (hb : b ≤ base) : NdW w b x := ⟨h.1, h.2.1, h.2.2.1.lowR hb, own_low h.2.2.2 hb⟩
theorem NdW.r {w : World} {base : Nat} {x : Nd} (h : NdW w base x) : NdR w base x := ⟨h.1, h.2.1, h.2.2.1, RowAt.own h.2.2.2 rfl (fun e => by rw [List.eq_nil_of_length_eq_zero e]; rfl)⟩
theorem NdP.fit {w : World} {x : Nd} (h : NdP w x) : x.Fit := by
 obtain ⟨⟨h1, h2, h3, h4, h5, h6⟩, _, h7, h8⟩ := h
 exact ⟨h1, h2, h3, h4, h5.2.2.2, h6.2.1, h7, h8⟩
set_option maxHeartbeats 1000000 in
theorem cloneB_c (a : Option Addr) (c : Nat) (zs : List Int) (w : World) (h : IsB w a zs.length zs) (hc : a = none → c = 0) (hm : zs.length ≤ 1000) :
   Calls Tryz.prog 125 #[.slice a zs.length c] w fun e w' => ∃ a' c', e = .returned (.slice a' zs.length c') ∧ (a' = none → c' = 0) ∧ RowAt w' w.heap.size 5 a' (zs.map u8V) ∧ Below w.heap.size w w' := by
 have H := hid h
 have HC := hid hc
 cases a with
 | none =>
   have hz : zs = [] := by
     cases zs with
     | nil => rfl
     | cons y ys => obtain ⟨b, off, e, _⟩ := h.2.2.1 (by simp); cases e
   have hc0 := hc rfl
   subst hz hc0
   clear h hc
   have hq : ∀ w, (binOp .eql 37 (.slice none 0 0) (.slice none 0 0)).run Tryz.prog w = .ok (.bool true) w := fun w => Lib.run_eql_slice_nil w _ _ _ _ _ _ _ Tryz.underlying37
   go_enter Tryz.func125, Tryz.ntmps125
   go_wp2
   go_ret
   exact ⟨none, 0, rfl, fun _ => rfl, .inl rfl, Below.refl _ _⟩
 | some ad =>
   obtain ⟨n, hn⟩ : ∃ n, n = zs.length := ⟨_, rfl⟩
   have HN := hid hn
   rw [← hn] at H hm ⊢
   clear h hc hn
   have hq : ∀ w, (binOp .eql 37 (.slice (some ad) n c) (.slice none 0 0)).run Tryz.prog w = .ok (.bool false) w := fun w => Lib.run_eql_slice_nil w _ _ _ _ _ _ _ Tryz.underlying37
   go_enter Tryz.func125, Tryz.ntmps125
   go_wp2_with (at_builtin; refine wpList_cpB _ rfl _ _ rfl w.heap.size rfl (heap_alloc_new w _) (some ad) n c zs rfl (H.out.later (below_1 _ _)) HC.out (by omega) ?_; intro v3 w3 hO3 hg3)
   go_ret
   obtain ⟨a3, c3, hv3, hn3, hr3⟩ := hO3.shapeR
   exact ⟨a3, c3, by rw [hv3, HN.out]; rfl, hn3, hr3, (below_1 w _).grown hg3 (below_1 w _).size (fun k hk => by cases hk; exact Nat.le_refl _)⟩
set_option maxHeartbeats 1000000 in
theorem cloneK_c (a : Option Addr) (c : Nat) (l : List Kd) (w : World) (h : IsKs w a l) (hc : a = none → c = 0) (hm : l.length ≤ 1000) :
   Calls Tryz.prog 126 #[.slice a l.length c] w fun e w' => ∃ a' c', e = .returned (.slice a' l.length c') ∧ OwK w' w.heap.size (.slice a' l.length c') l ∧ (a' = none → c' = 0) ∧ Below w.heap.size w w' := by
 have H := hid h
 have HC := hid hc
 cases a with
 | none =>
   have hz : l = [] := by
     cases l with
     | nil => rfl
     | cons y ys => obtain ⟨b, off, e, _⟩ := h.2.2 (by simp); cases e
   have hc0 := hc rfl
   subst hz hc0
   clear h hc
   have hq : ∀ w, (binOp .eql 38 (.slice none 0 0) (.slice none 0 0)).run Tryz.prog w = .ok (.bool true) w := fun w => Lib.run_eql_slice_nil w _ _ _ _ _ _ _ Tryz.underlying38
   go_enter Tryz.func126, Tryz.ntmps126
   go_wp2
   go_ret
   exact ⟨none, 0, rfl, OwK.nil _ _, fun _ => rfl, Below.refl _ _⟩
 | some ad =>
   obtain ⟨n, hn⟩ : ∃ n, n = l.length := ⟨_, rfl⟩
   have HN := hid hn
   rw [← hn] at hm ⊢
   clear h hc hn
   have hq : ∀ w, (binOp .eql 38 (.slice (some ad) n c) (.slice none 0 0)).run Tryz.prog w = .ok (.bool false) w := fun w => Lib.run_eql_slice_nil w _ _ _ _ _ _ _ Tryz.underlying38
   go_enter Tryz.func126, Tryz.ntmps126
   go_wp2_with (at_builtin; refine wpList_cpK _ rfl _ _ rfl w.heap.size rfl (heap_alloc_new w _) (some ad) n c l rfl (H.out.later (below_1 _ _)) HN.out HC.out (by omega) ?_; intro v3 w3 hO3 hg3)
   go_ret
   obtain ⟨a3, c3, hv3, hn3, _⟩ := hO3.shapeR
   subst hv3
   exact ⟨a3, c3, by rw [HN.out]; rfl, by rw [HN.out]; exact hO3, hn3, (below_1 w _).grown hg3 (below_1 w _).size (fun k hk => by cases hk; exact Nat.le_refl _)⟩
set_option maxHeartbeats 2000000 in
theorem copyOf_c (x : Nd) (w : World) (h : NdP w x) :
   Calls Tryz.prog 63 #[x.val] w fun e w' => ∃ da dc ka kc, e = .returned (x.lie da dc ka kc).val ∧ NdW w' w.heap.size (x.lie da dc ka kc) ∧ Below w.heap.size w w' := by
 have FT := hid h.fit
 obtain ⟨fid, k, md, ln, da, dc, zs, ka, kc, ks⟩ := x
 have b0 := below_1 w (.cells (⟨fid, k, md, ln, da, dc, zs, ka, kc, ks⟩ : Nd).cells.toArray 40)
 have h0 := heap_alloc_new w (.cells (⟨fid, k, md, ln, da, dc, zs, ka, kc, ks⟩ : Nd).cells.toArray 40)
 have b1 := below_1 (w.alloc (.cells (⟨fid, k, md, ln, da, dc, zs, ka, kc, ks⟩ : Nd).cells.toArray 40)) (.cells Nd.no.cells.toArray 40)
 have h1 := heap_alloc_new (w.alloc (.cells (⟨fid, k, md, ln, da, dc, zs, ka, kc, ks⟩ : Nd).cells.toArray 40)) (.cells Nd.no.cells.toArray 40)
 have hsz : (w.alloc (.cells (⟨fid, k, md, ln, da, dc, zs, ka, kc, ks⟩ : Nd).cells.toArray 40)).heap.size = w.heap.size + 1 := by simp
 rw [hsz] at h1
 have h0' := (b1.block _ (lt_blkR h0)).trans h0
 have bV := b0.trans (b1.mono b0.size)
 have hP := h.later bV
 have CB := hid (cloneB_c da dc zs _ hP.1.2.2.2.2.1 hP.2.1.1 hP.2.2.1)
 have KK := hid h.1.2.2.2.2.2
 have NK : Hid (ka = none → kc = 0) := hid h.2.1.2
 have LK : Hid (ks.length ≤ 1000) := hid h.2.2.2
 have LV : Hid (((w.alloc (.cells (⟨fid, k, md, ln, da, dc, zs, ka, kc, ks⟩ : Nd).cells.toArray 40)).alloc (.cells Nd.no.cells.toArray 40)).heap.size = w.heap.size + 2) := hid (by simp)
 have BV := hid bV
 simp only at KK
 simp only [Nd.val, Nd.cells, Nd.no, List.length_nil, Nd.lie] at *
 clear b0 b1 h0 h hP hsz bV
 have H0 := hid h0'
 have H1 := hid h1
 go_enter Tryz.func63, Tryz.ntmps63
 go_upto_region 1 with fail
 generalize ((w.alloc (.cells #[.int .u32 fid, .int .u8 k, .int .u16 md, .int .u16 ln, .slice da zs.length dc, .slice ka ks.length kc] 40)).alloc (.cells #[.int .u32 0, .int .u8 0, .int .u16 0, .int .u16 0, .slice none 0 0, .slice none 0 0] 40)) = V at *
 obtain ⟨B, hB⟩ : ∃ B, w.heap.size = B := ⟨_, rfl⟩
 have HBB := hid hB
 rw [hB] at h0' h1 H0 H1 LV BV ⊢
 clear hB
 have x4 : V.cell? ⟨B, 4, none⟩ = some (.slice da zs.length dc) := cell_of_row2 h0' 4 rfl
 clear h0' h1
 go_upto_region 2 with (go_at_call 125; refine CB.out.mono ?_; rintro _ w1 ⟨da1, dc1, rfl, hn1, hr1, hb1⟩
                        have bx := (hb1.block _ (lt_blkR H0.out)).trans H0.out
                        have fz : ∀ i, w1.frozen? ⟨B, i, none⟩ = false := fun i => by simp [World.frozen?, bx]
                        have y4 : w1.cell? ⟨B, 4, none⟩ = some (.slice da zs.length dc) := cell_of_row2 bx 4 rfl
                        have BX := hid bx
                        have R1 := hid hr1
                        have N1 := hid hn1
                        have K1 := hid hb1
                        clear bx hr1 hn1 hb1 x4)
 have bx2 : (w1.setCell ⟨B, 4, none⟩ (.slice da1 zs.length dc1)).heap[B]? = some (.cells #[.int .u32 fid, .int .u8 k, .int .u16 md, .int .u16 ln, .slice da1 zs.length dc1, .slice ka ks.length kc] 40) := heap_setCell_same w1 B 4 _ _ _ BX.out
 have rx2 : (w1.setCell ⟨B, 4, none⟩ (.slice da1 zs.length dc1)).heap[B + 1]? = some (.cells #[.int .u32 0, .int .u8 0, .int .u16 0, .int .u16 0, .slice none 0 0, .slice none 0 0] 40) := (Below.heap_setCell _ _ _ _ (by simp)).trans ((K1.out.block _ (lt_blkR H1.out)).trans H1.out)
 have R2 := hid (R1.out.setR (q := ⟨B, 4, none⟩) BX.out (by decide) (.slice da1 zs.length dc1))
 have C2 : Hid (Below B w (w1.setCell ⟨B, 4, none⟩ (.slice da1 zs.length dc1))) := hid ((BV.out.trans (K1.out.mono (by have := LV.out; omega))).setCell (p := ⟨B, 4, none⟩) (Nat.le_refl _) _)
 have hl2 : B < (w1.setCell ⟨B, 4, none⟩ (.slice da1 zs.length dc1)).heap.size := lt_blkR bx2
 have BX2 := hid bx2
 have RX2 := hid rx2
 have SZ2 : Hid (B + 2 ≤ (w1.setCell ⟨B, 4, none⟩ (.slice da1 zs.length dc1)).heap.size) := hid (by have := lt_blkR rx2; omega)
 have KW : Hid (IsKs (w1.setCell ⟨B, 4, none⟩ (.slice da1 zs.length dc1)) ka ks) := hid (KK.out.later (by rw [HBB.out]; exact C2.out))
 clear fz y4 BX R1 K1 CB rx2
 generalize w1.setCell ⟨B, 4, none⟩ (.slice da1 zs.length dc1) = V2 at *
 have CK2 := hid (cloneK_c ka kc ks V2 KW.out NK.out LK.out)
 have x5 : V2.cell? ⟨B, 5, none⟩ = some (.slice ka ks.length kc) := cell_of_row2 bx2 5 rfl
 clear bx2
 go_upto_region 3 with (go_at_call 126; refine CK2.out.mono ?_; rintro _ w3 ⟨ka3, kc3, rfl, ho3, hn3, hb3⟩
                        have bx := (hb3.block _ (lt_blkR BX2.out)).trans BX2.out
                        have fz : ∀ i, w3.frozen? ⟨B, i, none⟩ = false := fun i => by simp [World.frozen?, bx]
                        have y5 : w3.cell? ⟨B, 5, none⟩ = some (.slice ka ks.length kc) := cell_of_row2 bx 5 rfl
                        have BX := hid bx
                        have RX := hid ((hb3.block _ (lt_blkR RX2.out)).trans RX2.out)
                        have O3 := hid ho3
                        have N3 := hid hn3
                        have R3 := hid (R2.out.later hb3)
                        have C3 := hid (C2.out.trans (hb3.mono (by have := SZ2.out; omega)))
                        clear bx ho3 hn3 hb3 x5)
 have bx4 : (w3.setCell ⟨B, 5, none⟩ (.slice ka3 ks.length kc3)).heap[B]? = some (.cells #[.int .u32 fid, .int .u8 k, .int .u16 md, .int .u16 ln, .slice da1 zs.length dc1, .slice ka3 ks.length kc3] 40) := heap_setCell_same w3 B 5 _ _ _ BX.out
 have rx4 : (w3.setCell ⟨B, 5, none⟩ (.slice ka3 ks.length kc3)).heap[B + 1]? = some (.cells #[.int .u32 0, .int .u8 0, .int .u16 0, .int .u16 0, .slice none 0 0, .slice none 0 0] 40) := (Below.heap_setCell _ _ _ _ (by simp)).trans RX.out
 have R4 := hid (R3.out.setR (q := ⟨B, 5, none⟩) BX.out (by decide) (.slice ka3 ks.length kc3))
 have O4 := hid (own_set O3.out (p := ⟨B, 5, none⟩) (by show B < _; exact hl2) (.slice ka3 ks.length kc3))
 have C4 := hid (C3.out.setCell (p := ⟨B, 5, none⟩) (Nat.le_refl _) (.slice ka3 ks.length kc3))
 clear fz y5 BX RX R3 O3 C3 CK2 KW
 generalize w3.setCell ⟨B, 5, none⟩ (.slice ka3 ks.length kc3) = V4 at *
 have x0 : V4.cell? ⟨B, 0, none⟩ = some (.int .u32 fid) := cell_of_row2 bx4 0 rfl
 have x1 : V4.cell? ⟨B, 1, none⟩ = some (.int .u8 k) := cell_of_row2 bx4 1 rfl
 have x2 : V4.cell? ⟨B, 2, none⟩ = some (.int .u16 md) := cell_of_row2 bx4 2 rfl
 have x3 : V4.cell? ⟨B, 3, none⟩ = some (.int .u16 ln) := cell_of_row2 bx4 3 rfl
 have x4 : V4.cell? ⟨B, 4, none⟩ = some (.slice da1 zs.length dc1) := cell_of_row2 bx4 4 rfl
 have x5 : V4.cell? ⟨B, 5, none⟩ = some (.slice ka3 ks.length kc3) := cell_of_row2 bx4 5 rfl
 have r0 : V4.cell? ⟨B + 1, 0, none⟩ = some (.int .u32 0) := cell_of_row2 rx4 0 rfl
 have r1 : V4.cell? ⟨B + 1, 1, none⟩ = some (.int .u8 0) := cell_of_row2 rx4 1 rfl
 have r2 : V4.cell? ⟨B + 1, 2, none⟩ = some (.int .u16 0) := cell_of_row2 rx4 2 rfl
 have r3 : V4.cell? ⟨B + 1, 3, none⟩ = some (.int .u16 0) := cell_of_row2 rx4 3 rfl
 have r4 : V4.cell? ⟨B + 1, 4, none⟩ = some (.slice none 0 0) := cell_of_row2 rx4 4 rfl
 have r5 : V4.cell? ⟨B + 1, 5, none⟩ = some (.slice none 0 0) := cell_of_row2 rx4 5 rfl
 have fz : ∀ i, V4.frozen? ⟨B + 1, i, none⟩ = false := fun i => by simp [World.frozen?, rx4]
 have RX4 := hid rx4
 clear bx4 rx4
 go_wp2
 have e0 := RX4.out
 have e1 := heap_setCell_same _ (B + 1) 0 _ _ (.int .u32 fid) e0
 have e2 := heap_setCell_same _ (B + 1) 1 _ _ (.int .u8 k) e1
 have e3 := heap_setCell_same _ (B + 1) 2 _ _ (.int .u16 md) e2
 have e4 := heap_setCell_same _ (B + 1) 3 _ _ (.int .u16 ln) e3
 have e5 := heap_setCell_same _ (B + 1) 4 _ _ (.slice da1 zs.length dc1) e4
 have e6 := heap_setCell_same _ (B + 1) 5 _ _ (.slice ka3 ks.length kc3) e5
 refine bodyPost_ret (v := .agg #[.int .u32 fid, .int .u8 k, .int .u16 md, .int .u16 ln, .slice da1 zs.length dc1, .slice ka3 ks.length kc3]) (by simp [results, Tryz.results63, go_sem, r0, r1, r2, r3, r4, r5]) rfl ⟨da1, dc1, ka3, kc3, rfl, ?_, ?_⟩
 · rw [HBB.out]
   refine ⟨FT.out, ⟨N1.out, N3.out⟩, ?_, ?_⟩
   · exact RowAt.lowR ((((((R4.out.setR (q := ⟨B + 1, 0, none⟩) e0 (by decide) (.int .u32 fid)).setR (q := ⟨B + 1, 1, none⟩) e1 (by decide) (.int .u8 k)).setR (q := ⟨B + 1, 2, none⟩) e2 (by decide) (.int .u16 md)).setR (q := ⟨B + 1, 3, none⟩) e3 (by decide) (.int .u16 ln)).setR (q := ⟨B + 1, 4, none⟩) e4 (by decide) (.slice da1 zs.length dc1)).setR (q := ⟨B + 1, 5, none⟩) e5 (by decide) (.slice ka3 ks.length kc3)) (by have := LV.out; omega)
   · exact own_low (own_set (own_set (own_set (own_set (own_set (own_set O4.out (p := ⟨B + 1, 0, none⟩) (by show B + 1 < _; have := SZ2.out; omega) (.int .u32 fid)) (p := ⟨B + 1, 1, none⟩) (by show B + 1 < _; have := SZ2.out; omega) (.int .u8 k)) (p := ⟨B + 1, 2, none⟩) (by show B + 1 < _; have := SZ2.out; omega) (.int .u16 md)) (p := ⟨B + 1, 3, none⟩) (by show B + 1 < _; have := SZ2.out; omega) (.int .u16 ln)) (p := ⟨B + 1, 4, none⟩) (by show B + 1 < _; have := SZ2.out; omega) (.slice da1 zs.length dc1)) (p := ⟨B + 1, 5, none⟩) (by show B + 1 < _; have := SZ2.out; omega) (.slice ka3 ks.length kc3)) (by have := SZ2.out; omega)
 · rw [HBB.out]
   exact ((((((C4.out.setCell (p := ⟨B + 1, 0, none⟩) (Nat.le_succ _) (.int .u32 fid)).setCell (p := ⟨B + 1, 1, none⟩) (Nat.le_succ _) (.int .u8 k)).setCell (p := ⟨B + 1, 2, none⟩) (Nat.le_succ _) (.int .u16 md)).setCell (p := ⟨B + 1, 3, none⟩) (Nat.le_succ _) (.int .u16 ln)).setCell (p := ⟨B + 1, 4, none⟩) (Nat.le_succ _) (.slice da1 zs.length dc1)).setCell (p := ⟨B + 1, 5, none⟩) (Nat.le_succ _) (.slice ka3 ks.length kc3))
end Go.Proofs.YtfmghbennahlfaaGreat
