/-
  What is right by itself, in both words. (Written by nodebase.py out of SnapMath.)
  Stamps in memory; rightStamp, EqualFunc, rightSnapshot of the package record; what bytes say as stamps, as a snapshot, plainly.
  The program's Right and the document's are the same, at last; RightSnapshot of the document.
-/
import Derived.Test.YtfmghbennahlfaaGreatUnAp
import Derived.Test.YtfmghbennahlfaaGreatUnAi
import Derived.Test.YtfmghbennahlfaaGreatUnAq
namespace Go.Proofs.YtfmghbennahlfaaGreat
open Go.RowKit Go.ChangeShapes Go.WideShapes Go.ChangeAt Go.Maps
set_option linter.unusedVariables false
set_option linter.unusedSimpArgs false
set_option maxRecDepth 100000
theorem right_ok {l : List Nd} (h : RightP l) : ∀ x ∈ l, nodeOk x = true := by
 obtain ⟨h1, h2, h3, h4, h5, h6⟩ := h
 intro x hx
 obtain ⟨i, hi, rfl⟩ := List.getElem_of_mem hx
 have hg : l.getD i Nd.no = l[i] := by simp [List.getD, hi]
 have hf := upTo_pos2 h2 i hi
 rw [hg] at hf
 obtain ⟨ha, hh⟩ := h4 _ hx
 have hp : ∀ f p, N0 l f = some p → f ≠ 0 := fun f p e => by
   unfold N0 ndF at e
   cases hq : plTo l l.length f with
   | none => rw [hq] at e; cases e
   | some j =>
     obtain ⟨q1, q2⟩ := plTo_lt l _ hq
     have := upTo_pos2 h2 j q1
     omega
 generalize l[i] = y at *
 unfold nodeOk
 have f0 : (y.fid == 0) = false := beq_eq_false_iff_ne.2 (by omega)
 rw [f0]
 have h12 := alone_few ha
 unfold aloneB at ha
 cases q : (y.k == 1 || y.k == 3) with
 | true =>
   rw [q] at ha
   simp only [cond_true, Bool.and_eq_true, decide_eq_true_eq] at ha ⊢
   simp [ha.2]
   omega
 | false =>
   rw [q] at ha
   cases q2 : (y.k == 2) with
   | true =>
     rw [q2] at ha
     simp only [cond_false, cond_true, Bool.and_eq_true, decide_eq_true_eq] at ha ⊢
     have := kidsTo_of hp ha.2.2 hh
     have hk : kidsOk y.ks = true := this
     rw [hk]
     simp [ha.1]
     omega
   | false => rw [q2] at ha; cases ha
structure St where
 fid : Int
 ver : Int
 wr : Int
def St.no : St := ⟨0, 0, 0⟩
def St.cells (x : St) : List Value := [.int .u32 x.fid, .int .u64 x.ver, .int .u8 x.wr]
def St.val (x : St) : Value := .agg #[.int .u32 x.fid, .int .u64 x.ver, .int .u8 x.wr]
def St.Wf (x : St) : Prop := (0 ≤ x.fid ∧ x.fid < 4294967296) ∧ (0 ≤ x.ver ∧ x.ver < 18446744073709551616) ∧ (0 ≤ x.wr ∧ x.wr < 256)
def StC (w : World) (b o : Nat) (x : St) : Prop := w.cell? ⟨b, o, none⟩ = some (.int .u32 x.fid) ∧ w.cell? ⟨b, o + 1, none⟩ = some (.int .u64 x.ver) ∧ w.cell? ⟨b, o + 2, none⟩ = some (.int .u8 x.wr)
def IsSs (w : World) (a : Option Addr) (l : List St) : Prop :=
 l.length ≤ maxLen ∧ (∀ x ∈ l, x.Wf) ∧ (0 < l.length → ∃ b off, a = some ⟨b, off, none⟩ ∧ ∀ i, i < l.length → StC w b (off + i * 3) (l.getD i St.no))
theorem IsSs.later {w w' : World} {a : Option Addr} {l : List St} (h : IsSs w a l) (hb : Below w.heap.size w w') : IsSs w' a l := by
 obtain ⟨h1, h2, h3⟩ := h
 refine ⟨h1, h2, fun hp => ?_⟩
 obtain ⟨b, off, e, hc⟩ := h3 hp
 exact ⟨b, off, e, fun i hi => ⟨cell_later hb (hc i hi).1, cell_later hb (hc i hi).2.1, cell_later hb (hc i hi).2.2⟩⟩
theorem IsSs.at {w : World} {b off : Nat} {l : List St} {i : Nat} (h : IsSs w (some ⟨b, off, none⟩) l) (hi : i < l.length) : StC w b (off + i * 3) (l.getD i St.no) := by
 obtain ⟨b', off', e, hc⟩ := h.2.2 (by omega)
 cases e
 exact hc i hi
theorem IsSs.wf {w : World} {a : Option Addr} {l : List St} (h : IsSs w a l) {i : Nat} (hi : i < l.length) : (l.getD i St.no).Wf := h.2.1 _ (getD_mem l St.no hi)
def stB (x : Nd) (s : St) : Bool := s.fid == x.fid && decide (s.wr ≤ 3)
set_option maxHeartbeats 1000000 in
theorem rightStamp_c (x : Nd) (s : St) (w : World) :
   Calls Tryz.prog 258 #[x.val, s.val] w fun e w' => e = .returned (.bool (stB x s)) ∧ Below w.heap.size w w' := by
 have b0 := below_1 w (.cells x.cells.toArray 40)
 have h0 := heap_alloc_new w (.cells x.cells.toArray 40)
 have b1 := below_1 (w.alloc (.cells x.cells.toArray 40)) (.cells s.cells.toArray 200)
 have h1 := heap_alloc_new (w.alloc (.cells x.cells.toArray 40)) (.cells s.cells.toArray 200)
 rw [show (w.alloc (.cells x.cells.toArray 40)).heap.size = w.heap.size + 1 by simp] at h1
 have h0' := (b1.block _ (lt_blkR h0)).trans h0
 have BV := hid (b0.trans (b1.mono b0.size))
 have y0 := (nd_cells h0').1
 have z0 : ((w.alloc (.cells x.cells.toArray 40)).alloc (.cells s.cells.toArray 200)).cell? ⟨w.heap.size + 1, 0, none⟩ = some (.int .u32 s.fid) := cell_of_row2 h1 0 rfl
 have z2 : ((w.alloc (.cells x.cells.toArray 40)).alloc (.cells s.cells.toArray 200)).cell? ⟨w.heap.size + 1, 2, none⟩ = some (.int .u8 s.wr) := cell_of_row2 h1 2 rfl
 obtain ⟨nk, hnk⟩ : ∃ nk, nk = stB x s := ⟨_, rfl⟩
 rw [← hnk]
 unfold stB at hnk
 have HE := hid hnk
 clear hnk b0 b1 h0 h1 h0'
 obtain ⟨fid, k, md, ln, da, dc, zs, ka, kc, ks⟩ := x
 obtain ⟨sf, sv, sw⟩ := s
 simp only [Nd.val, Nd.cells, St.val, St.cells] at *
 by_cases q1 : sf = fid
 · have q1B : (sf == fid) = true := by rw [q1]; simp
   by_cases q2 : sw ≤ 3
   · have F : Hid (nk = true) := hid (by rw [HE.out, q1B, decide_eq_true q2]; rfl)
     clear HE q1
     go_enter Tryz.func258, Tryz.ntmps258
     go_wp2
     go_ret
     exact ⟨ret_bool' F.out.symm, BV.out⟩
   · have F : Hid (nk = false) := hid (by rw [HE.out, q1B, decide_eq_false q2]; rfl)
     clear HE q1
     go_enter Tryz.func258, Tryz.ntmps258
     go_wp2
     go_ret
     exact ⟨ret_bool' F.out.symm, BV.out⟩
 · have q1B : (sf == fid) = false := beq_eq_false_iff_ne.2 q1
   have F : Hid (nk = false) := hid (by rw [HE.out, q1B]; rfl)
   clear HE
   go_enter Tryz.func258, Tryz.ntmps258
   go_wp2
   go_ret
   exact ⟨ret_bool' F.out.symm, BV.out⟩
def stTo (ns : List Nd) (ss : List St) : Nat → Bool
 | 0 => true
 | m + 1 => stTo ns ss m && stB (ns.getD m Nd.no) (ss.getD m St.no)
def stOk (ns : List Nd) (ss : List St) : Bool := decide (ns.length = ss.length) && stTo ns ss ns.length
theorem st_no (ns : List Nd) (ss : List St) (m : Nat) (h : stB (ns.getD m Nd.no) (ss.getD m St.no) = false) : ∀ d, stTo ns ss (m + 1 + d) = false
 | 0 => by simp only [Nat.add_zero, stTo, h, Bool.and_false]
 | d + 1 => by rw [← Nat.add_assoc]; simp only [stTo, st_no ns ss m h d, Bool.false_and]
theorem stTo_no {ns : List Nd} {ss : List St} {m : Nat} (hm : m < ns.length) (h : stB (ns.getD m Nd.no) (ss.getD m St.no) = false) : stTo ns ss ns.length = false := by
 obtain ⟨d, hd⟩ : ∃ d, ns.length = m + 1 + d := ⟨ns.length - (m + 1), by omega⟩
 rw [hd]; exact st_no ns ss m h d
set_option maxHeartbeats 2000000 in
theorem equalSt_c (a b : Option Addr) (ca cb : Nat) (ns : List Nd) (ss : List St) (w : World) (hn : IsNs w a ns) (hs : IsSs w b ss) (hm : ns.length ≤ 100000) (hm' : ss.length ≤ 100000) :
   Calls Tryz.prog 257 #[.slice a ns.length ca, .slice b ss.length cb, .func (.func 258) #[] #[]] w fun e w' => e = .returned (.bool (stOk ns ss)) ∧ Below w.heap.size w w' := by
 unfold stOk
 by_cases q : ns.length = ss.length
 · have qB : ((ns.length : Int) != (ss.length : Int)) = false := by rw [q]; simp
   rw [decide_eq_true q, Bool.true_and]
   have HN := hid hn
   have HS := hid hs
   have HQ := hid q
   obtain ⟨n, hnn⟩ : ∃ n, n = ns.length := ⟨_, rfl⟩
   have HNN := hid hnn
   rw [← q]
   obtain ⟨R, hR⟩ : ∃ R, R = stTo ns ss ns.length := ⟨_, rfl⟩
   rw [← hR]
   have HR := hid hR
   rw [← hnn] at hm ⊢
   clear hn hs qB q hm' hnn hR
   go_enter Tryz.func257, Tryz.ntmps257
   go_wp2
   go_loopg [17] n (fun gk i wr => ∃ m : Nat, m + gk = n ∧ i = .int .i64 m ∧ Hid (Below w.heap.size w wr) ∧ Hid (stTo ns ss m = true))
   case atStart => exact ⟨0, by omega, rfl, hid (Below.refl _ _), hid rfl⟩
   case round =>
     obtain ⟨m, hm2, rfl, HB, HI⟩ := hrel
     by_cases hlt : m < n
     · have hltI : (m : Int) < n := by omega
       have h1 : m < ns.length := by rw [← HNN.out]; exact hlt
       have h2 : m < ss.length := by rw [← HQ.out]; exact h1
       obtain ⟨b1, o1, rfl, _⟩ := HN.out.2.2 (by omega)
       obtain ⟨b2, o2, rfl, _⟩ := HS.out.2.2 (by omega)
       obtain ⟨y0, y1, y2, y3, y4, y5⟩ := ((HN.out.later HB.out).at (i := m) h1).all
       obtain ⟨z0, z1, z2⟩ := (HS.out.later HB.out).at (i := m) h2
       have NO := hid (stTo_no (ss := ss) h1)
       have NX : Hid (stB (ns.getD m Nd.no) (ss.getD m St.no) = true → stTo ns ss (m + 1) = true) := hid (fun h => by simp only [stTo, HI.out, h, Bool.and_self])
       clear h1 h2
       generalize ns.getD m Nd.no = x at *
       generalize ss.getD m St.no = s at *
       have RC := hid (fun W => rightStamp_c x s W)
       have bA := below_1 wr (.cells x.cells.toArray 40)
       have hA := heap_alloc_new wr (.cells x.cells.toArray 40)
       have bB := below_1 (wr.alloc (.cells x.cells.toArray 40)) (.cells s.cells.toArray 200)
       have hB := heap_alloc_new (wr.alloc (.cells x.cells.toArray 40)) (.cells s.cells.toArray 200)
       rw [show (wr.alloc (.cells x.cells.toArray 40)).heap.size = wr.heap.size + 1 by simp] at hB
       have hA2 := (bB.block _ (lt_blkR hA)).trans hA
       obtain ⟨p0, p1, p2, p3, p4, p5⟩ := nd_cells hA2
       have r0 : ((wr.alloc (.cells x.cells.toArray 40)).alloc (.cells s.cells.toArray 200)).cell? ⟨wr.heap.size + 1, 0, none⟩ = some (.int .u32 s.fid) := cell_of_row2 hB 0 rfl
       have r1 : ((wr.alloc (.cells x.cells.toArray 40)).alloc (.cells s.cells.toArray 200)).cell? ⟨wr.heap.size + 1, 1, none⟩ = some (.int .u64 s.ver) := cell_of_row2 hB 1 rfl
       have r2 : ((wr.alloc (.cells x.cells.toArray 40)).alloc (.cells s.cells.toArray 200)).cell? ⟨wr.heap.size + 1, 2, none⟩ = some (.int .u8 s.wr) := cell_of_row2 hB 2 rfl
       have w0 := cell_later bA z0
       have w1 := cell_later bA z1
       have w2 := cell_later bA z2
       have HB2 := hid (HB.out.trans ((bA.trans (bB.mono bA.size)).mono HB.out.size))
       clear bA bB hA hB hA2 z0 z1 z2
       cases qs : stB x s with
       | false =>
         have EF := hid (HR.out.trans (NO.out qs))
         rw [qs] at RC
         clear NO NX qs
         obtain ⟨fid, k, md, ln, da, dc, zs, ka, kc, ks⟩ := x
         obtain ⟨sf, sv, sw⟩ := s
         simp only [Nd.val, Nd.cells, St.val, St.cells] at *
         go_wp2_with (go_at_call 258; refine (RC.out _).mono ?_; rintro _ w9 ⟨rfl, hb9⟩)
         go_ret
         exact ⟨ret_bool' EF.out.symm, HB2.out.trans (hb9.mono HB2.out.size)⟩
       | true =>
         have ET := hid (NX.out qs)
         rw [qs] at RC
         clear NO NX qs
         obtain ⟨fid, k, md, ln, da, dc, zs, ka, kc, ks⟩ := x
         obtain ⟨sf, sv, sw⟩ := s
         simp only [Nd.val, Nd.cells, St.val, St.cells] at *
         go_wp2_with (go_at_call 258; refine (RC.out _).mono ?_; rintro _ w9 ⟨rfl, hb9⟩)
         go_roundg (gk - 1)
         case measure => omega
         case rel => exact ⟨m + 1, by omega, by go_num, hid (HB2.out.trans (hb9.mono HB2.out.size)), ET⟩
     · have hge : ¬ (m : Int) < n := by omega
       have EF : Hid (R = true) := hid (by rw [HR.out, ← HNN.out, show n = m by omega]; exact HI.out)
       go_wp2
       go_ret
       exact ⟨ret_bool' EF.out.symm, HB.out⟩
 · have qB : ((ns.length : Int) != (ss.length : Int)) = true := by rw [bne_iff_ne]; omega
   rw [decide_eq_false q, Bool.false_and]
   clear hn hs
   go_enter Tryz.func257, Tryz.ntmps257
   go_wp2
   go_ret
   exact ⟨rfl, Below.refl _ _⟩
def RSnap (ns : List Nd) (ss : List St) : Prop := RightP ns ∧ stOk ns ss = true
def RsP2 (ns : List Nd) (ss : List St) (w : World) (e : Ending) (w' : World) : Prop := ∃ b, e = .returned (.bool b) ∧ (b = true ↔ RSnap ns ss) ∧ Below w.heap.size w w'
set_option maxHeartbeats 2000000 in
theorem rightSnapshot_c (a b : Option Addr) (ca cb : Nat) (ns : List Nd) (ss : List St) (w : World) (hn : IsNs w a ns) (hs : IsSs w b ss) (hm : ns.length ≤ 100000) (hm' : ss.length ≤ 100000) :
   Calls Tryz.prog 203 #[.agg #[.slice a ns.length ca, .slice b ss.length cb]] w fun e w' => RsP2 ns ss w e w' := by
 have b0 := below_1 w (.cells #[.slice a ns.length ca, .slice b ss.length cb] 75)
 have h0 := heap_alloc_new w (.cells #[.slice a ns.length ca, .slice b ss.length cb] 75)
 have y0 : (w.alloc (.cells #[.slice a ns.length ca, .slice b ss.length cb] 75)).cell? ⟨w.heap.size, 0, none⟩ = some (.slice a ns.length ca) := cell_of_row2 h0 0 rfl
 have RC := hid (right_c a ca ns _ (hn.later b0) hm)
 have EC := hid (fun W (hW : Below w.heap.size w W) => equalSt_c a b ca cb ns ss W (hn.later hW) (hs.later hW) hm hm')
 have B0 := hid b0
 have H0 := hid h0
 clear b0 h0 hn hs
 unfold RtP at RC
 go_enter Tryz.func203, Tryz.ntmps203
 go_upto_region 1 with fail
 generalize (w.alloc (.cells #[.slice a ns.length ca, .slice b ss.length cb] 75)) = V at *
 go_wp2_with (first
   | (go_at_call 58; refine RC.out.mono ?_; rintro _ w1 ⟨b1, rfl, hq1, hb1⟩
      have Q1 := hid hq1
      have B1 := hid (B0.out.trans (hb1.mono B0.out.size))
      have z0 : w1.cell? ⟨w.heap.size, 0, none⟩ = some (.slice a ns.length ca) := cell_of_row2 ((hb1.block _ (lt_blkR H0.out)).trans H0.out) 0 rfl
      have z1 : w1.cell? ⟨w.heap.size, 1, none⟩ = some (.slice b ss.length cb) := cell_of_row2 ((hb1.block _ (lt_blkR H0.out)).trans H0.out) 1 rfl
      clear hq1 hb1)
   | (go_at_call 257; refine (EC.out _ B1.out).mono ?_; rintro _ w2 ⟨rfl, hb2⟩; have B2 := hid (B1.out.trans (hb2.mono B1.out.size)); clear hb2))
 · rename_i hb
   go_ret
   exact ⟨stOk ns ss, rfl, ⟨fun h => ⟨Q1.out.1 hb, h⟩, fun h => h.2⟩, B2.out⟩
 · rename_i hb
   go_ret
   exact ⟨false, rfl, ⟨(fun h => by cases h), fun h => absurd (Q1.out.2 h.1) hb⟩, B1.out⟩
def stampB (s : St) : List Int := beF s.fid 4 ++ (beF s.ver 8 ++ beF s.wr 1)
def stampsB (l : List St) : List Int := l.flatMap stampB
def measB (x : Nd) : List Int := beF (nodeB x).length 2 ++ nodeB x
def measuresB (l : List Nd) : List Int := l.flatMap measB
def snapB (ns : List Nd) (ss : List St) : List Int := (beF ns.length 1 ++ measuresB ns) ++ (beF ss.length 1 ++ stampsB ss)
theorem nodeB_len {x : Nd} (hw : x.Wf) (ho : nodeOk x = true) : (nodeB x).length ≤ 2000 := by
 obtain ⟨s1, s2, s3⟩ := node_small ho
 have := kidsB_le s3
 unfold nodeB
 simp only [List.length_append, beF_len, txF_len, Fr.tx_size]
 omega
end Go.Proofs.YtfmghbennahlfaaGreat
namespace Go.Proofs.YtfmghbennahlfaaGreat
open Go.RowKit Go.ChangeShapes Go.WideShapes Go.ChangeAt Go.Maps Go.Shelf
set_option linter.unusedVariables false
set_option linter.unusedSimpArgs false
set_option maxRecDepth 100000
theorem dKid_have (l : List Nd) (ks : List Kd) : ∀ m, dKid l ks m = haveTo (N0 l) ks m
 | 0 => rfl
 | m + 1 => by
   unfold dKid haveTo
   rw [dKid_have l ks m, N0_has, Bool.and_comm (hasF l _)]
theorem dTo_mk {l : List Nd} : ∀ {m : Nat}, (∀ i, i < m → dOne l i = true) → dTo l m = true
 | 0, _ => rfl
 | m + 1, h => by
   unfold dTo
   rw [dTo_mk (fun i hi => h i (by omega)), h m (by omega)]; rfl
theorem lkTo_mk {l : List Nd} : ∀ {m : Nat}, (∀ i, i < m → lkOne l (l.getD i Nd.no) = true) → lkTo l m = true
 | 0, _ => rfl
 | m + 1, h => by
   unfold lkTo
   rw [lkTo_mk (fun i hi => h i (by omega)), h m (by omega)]; rfl
theorem lkTo_at {l : List Nd} : ∀ {m : Nat}, lkTo l m = true → ∀ i, i < m → lkOne l (l.getD i Nd.no) = true
 | 0, _, i, hi => by omega
 | m + 1, h, i, hi => by
   unfold lkTo at h
   rw [Bool.and_eq_true] at h
   by_cases e : i = m
   · subst e; exact h.2
   · exact lkTo_at h.1 i (by omega)
theorem upTo_mk {l : List Nd} : ∀ {m : Nat}, (∀ i, i < m → lastFd l i < (l.getD i Nd.no).fid) → upTo l m = true
 | 0, _ => rfl
 | m + 1, h => by
   unfold upTo
   rw [upTo_mk (fun i hi => h i (by omega)), decide_eq_true (h m (by omega))]; rfl
theorem linksTo_mk {P : List Int} {l : List Nd} : ∀ {m : Nat}, (∀ i, i < m → linkB P (l.getD i Nd.no) = true) → linksTo P l m = true
 | 0, _ => rfl
 | m + 1, h => by
   unfold linksTo
   rw [linksTo_mk (fun i hi => h i (by omega)), h m (by omega)]; rfl
theorem rtTo_ex {l : List Nd} : ∀ {m : Nat}, rtTo l m = true → ∃ i, i < m ∧ rtB (l.getD i Nd.no) = true
 | 0, h => by cases h
 | m + 1, h => by
   unfold rtTo at h
   rw [Bool.or_eq_true] at h
   rcases h with h | h
   · obtain ⟨i, hi, e⟩ := rtTo_ex h
     exact ⟨i, by omega, e⟩
   · exact ⟨m, by omega, h⟩
theorem rtTo_mk {l : List Nd} : ∀ {m : Nat} {i : Nat}, i < m → rtB (l.getD i Nd.no) = true → rtTo l m = true
 | 0, i, hi, _ => by omega
 | m + 1, i, hi, h => by
   unfold rtTo
   by_cases e : i = m
   · subst e; rw [h, Bool.or_true]
   · rw [rtTo_mk (i := i) (by omega) h, Bool.true_or]
theorem namesTo_of {l : List Kd} : ∀ {m : Nat}, kidsTo l m = true → namesTo l m = true
 | 0, _ => rfl
 | m + 1, h => by
   unfold kidsTo kOk at h
   rw [Bool.and_eq_true, Bool.and_eq_true] at h
   unfold namesTo nmK
   rw [namesTo_of h.1, h.2.1]; rfl
theorem alone_of {x : Nd} (h : nodeOk x = true) : aloneB x = true := by
 unfold nodeOk at h
 rw [Bool.and_eq_true] at h
 obtain ⟨ha, hb⟩ := h
 simp only [Bool.not_eq_true', Bool.or_eq_false_iff, decide_eq_false_iff_not] at ha
 obtain ⟨⟨_, l1⟩, l2⟩ := ha
 unfold aloneB
 cases q1 : (x.k == 1 || x.k == 3) with
 | true =>
   rw [q1] at hb
   simp only [cond_true, decide_eq_true_eq, Bool.and_eq_true] at hb ⊢
   exact ⟨by omega, hb⟩
 | false =>
   rw [q1] at hb
   cases q2 : (x.k == 2) with
   | false => rw [q2] at hb; cases hb
   | true =>
     rw [q2] at hb
     simp only [cond_false, cond_true, Bool.and_eq_true, decide_eq_true_eq] at hb ⊢
     exact ⟨hb.1, by omega, namesTo_of hb.2⟩
theorem no_root {l : List Nd} (h : ∀ x ∈ l, haveB (N0 l) x.ks = true) : (kfs l).count 1 = 0 := by
 rw [List.count_eq_zero]
 intro hm
 unfold kfs at hm
 rw [List.mem_flatMap] at hm
 obtain ⟨x, hx, hg⟩ := hm
 rw [List.mem_map] at hg
 obtain ⟨kd, hkd, ek⟩ := hg
 obtain ⟨t, ht, rfl⟩ := List.getElem_of_mem hkd
 have := (haveTo_all (h x hx) t ht).1
 rw [show x.ks.getD t Kd.no = x.ks[t] by simp [List.getD, ht]] at this
 exact this ek
theorem rightD_iff (l : List Nd) : RightP l ↔ rightD l = true := by
 constructor
 · intro h
   obtain ⟨h1, h2, h3, h4, h5, h6⟩ := h
   have B : Base l := ⟨h1, h2, h3, h4, h5⟩
   have hU := (ring_ab B).1 h6
   have hz := no_root (fun x hx => (h4 x hx).2)
   have hd : dTo l l.length = true := dTo_mk (fun i hi => by
     unfold dOne dA
     rw [right_ok ⟨h1, h2, h3, h4, h5, h6⟩ _ (getD_mem l Nd.no hi), decide_eq_true (upTo_pos h2 i hi), dKid_have]
     exact (h4 _ (getD_mem l Nd.no hi)).2)
   have hr : rtTo l l.length = true := by
     have hd := h3
     unfold isDirT at hd
     cases hN : N0 l 1 with
     | none => rw [hN] at hd; cases hd
     | some r =>
       obtain ⟨p, x⟩ := r
       rw [hN] at hd
       obtain ⟨i, hi, rfl, e⟩ := N0_of hN
       refine rtTo_mk hi ?_
       have hb := linksTo_all h5 i hi
       unfold linkB at hb
       rw [e, hz, Bool.and_eq_true] at hb
       unfold rtB
       rw [e]
       have hd2 : ((l.getD i Nd.no).k == 2) = true := hd
       rw [hd2]
       exact hb.1
   have hl : lkTo l l.length = true := lkTo_mk (fun i hi => by
     have hb := linksTo_all h5 i hi
     have hu := hU i hi
     unfold lkOne
     rw [hu, Bool.and_true]
     generalize l.getD i Nd.no = x at *
     unfold linkB at hb
     unfold lkA
     generalize ((kfs l).count x.fid : Int) = c at *
     rw [Bool.and_eq_true] at hb
     obtain ⟨hb1, hb2⟩ := hb
     cases q : (x.fid == 1) with
     | true => rfl
     | false =>
       rw [q] at hb2
       have e : x.ln = c := by simpa using hb1
       simp only [Bool.false_or, Bool.not_eq_true', Bool.or_eq_false_iff, decide_eq_false_iff_not] at hb2 ⊢
       refine ⟨hb2.1, by rw [e]; simp, ?_⟩
       cases q2 : (x.k == 2) with
       | false => rfl
       | true =>
         have := hb2.2
         rw [q2] at this
         simp only [Bool.true_and, decide_eq_false_iff_not] at this ⊢
         have e1 : c = 1 := by have := hb2.1; omega
         rw [e1]; rfl)
   unfold rightD
   rw [decide_eq_true h1, hd, hr, hl]; rfl
 · intro h
   unfold rightD at h
   simp only [Bool.and_eq_true, decide_eq_true_eq] at h
   obtain ⟨h1, hd, hr, hl⟩ := h
   have hone := fun i hi => dTo_at hd i hi
   unfold dOne dA at hone
   simp only [Bool.and_eq_true, decide_eq_true_eq] at hone
   have h2 : fidsUp l = true := upTo_mk (fun i hi => (hone i hi).1.2)
   have h4 : ∀ x ∈ l, aloneB x = true ∧ haveB (N0 l) x.ks = true := fun x hx => by
     obtain ⟨i, hi, rfl⟩ := List.getElem_of_mem hx
     have e : l.getD i Nd.no = l[i] := by simp [List.getD, hi]
     have hq := hone i hi
     rw [e, dKid_have] at hq
     exact ⟨alone_of hq.1.1, hq.2⟩
   obtain ⟨r, hrl, hrb⟩ := rtTo_ex hr
   unfold rtB at hrb
   simp only [Bool.and_eq_true] at hrb
   have hrf : (l.getD r Nd.no).fid = 1 := by simpa using hrb.1
   have hz := no_root (fun x hx => (h4 x hx).2)
   have h3 : isDirT (N0 l) 1 = true := by
     obtain ⟨p, hp⟩ := N0_at h2 hrl
     rw [hrf] at hp
     unfold isDirT
     rw [hp]
     exact hrb.2.1
   have h5 : linksB l = true := linksTo_mk (fun i hi => by
     have hk := lkTo_at hl i hi
     unfold lkOne at hk
     rw [Bool.and_eq_true] at hk
     unfold linkB
     cases q : ((l.getD i Nd.no).fid == 1) with
     | true =>
       have e1 : (l.getD i Nd.no).fid = 1 := by simpa using q
       obtain rfl := up_inj h2 hi hrl (by rw [e1, hrf])
       rw [e1, hz]
       have := hrb.2.2
       simp only [Bool.true_or, Bool.and_true]
       simpa using this
     | false =>
       have hk1 := hk.1
       generalize l.getD i Nd.no = x at *
       unfold lkA at hk1
       generalize ((kfs l).count x.fid : Int) = c at *
       rw [q] at hk1
       simp only [Bool.false_or, Bool.not_eq_true', Bool.or_eq_false_iff, decide_eq_false_iff_not] at hk1
       obtain ⟨a1, a2, a3⟩ := hk1
       have e : c = x.ln := by simpa using a2
       rw [← e, decide_eq_false a1]
       simp only [beq_self_eq_true, Bool.true_and, Bool.false_or]
       cases q2 : (x.k == 2) with
       | false => rfl
       | true =>
         rw [q2] at a3
         have e1 : c = 1 := by simpa using a3
         rw [e1]; rfl)
   have B : Base l := ⟨h1, h2, h3, h4, h5⟩
   refine ⟨h1, h2, h3, h4, h5, (ring_ab B).2 (fun i hi => ?_)⟩
   have hk := lkTo_at hl i hi
   unfold lkOne at hk
   rw [Bool.and_eq_true] at hk
   exact hk.2
end Go.Proofs.YtfmghbennahlfaaGreat
