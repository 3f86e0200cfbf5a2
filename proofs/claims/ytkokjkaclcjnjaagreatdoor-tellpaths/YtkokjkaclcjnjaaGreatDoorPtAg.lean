/-
  How many entries lead to each node: rightLinks of the package tree.
-/
import Derived.Test.YtkokjkaclcjnjaaGreatDoorPtAf
namespace Go.Proofs.YtkokjkaclcjnjaaGreatDoor
open Go.RowKit Go.ChangeShapes Go.WideShapes Go.ChangeAt Go.Maps
set_option linter.unusedVariables false
set_option linter.unusedSimpArgs false
set_option maxRecDepth 100000
def kfs (l : List Nd) : List Int := l.flatMap fun x => x.ks.map (·.fid)
def cntF (P : List Int) : Int → Option Int := fun f => if P.count f = 0 then none else some (P.count f : Int)
theorem cntF_getD (P : List Int) (f : Int) : (cntF P f).getD 0 = (P.count f : Int) := by
 unfold cntF
 split
 · rename_i h; rw [h]; rfl
 · rfl
theorem cntF_snoc (P : List Int) (f : Int) : updF (cntF P) f (some ((P.count f : Int) + 1)) = cntF (P ++ [f]) := by
 funext g
 unfold updF cntF
 by_cases e : g = f
 · subst e
   rw [if_pos rfl, List.count_append]
   simp
 · rw [if_neg e, List.count_append, List.count_singleton]
   have : (f == g) = false := by rw [beq_eq_false_iff_ne]; exact fun h => e h.symm
   rw [this]
   simp
theorem kfs_take {l : List Nd} {m : Nat} (h : m < l.length) : kfs (l.take (m + 1)) = kfs (l.take m) ++ (l.getD m Nd.no).ks.map (·.fid) := by
 have e : l.take (m + 1) = l.take m ++ [l.getD m Nd.no] := by rw [List.take_add_one, List.getD, List.getElem?_eq_getElem h]; rfl
 unfold kfs
 rw [e, List.flatMap_append]
 simp only [List.flatMap_cons, List.flatMap_nil, List.append_nil]
theorem kfs_le {l : List Nd} (h : ∀ x ∈ l, x.ks.length ≤ 12) : (kfs l).length ≤ l.length * 12 := by
 unfold kfs
 induction l with
 | nil => simp
 | cons x t ih =>
   have h1 := h x (by simp)
   have h2 := ih (fun y hy => h y (by simp [hy]))
   rw [List.flatMap_cons, List.length_append, List.length_map, List.length_cons]
   omega
theorem map_take_kid {l : List Kd} {m : Nat} (h : m < l.length) : (l.take (m + 1)).map (·.fid) = (l.take m).map (·.fid) ++ [(l.getD m Kd.no).fid] := by rw [take_kid h, List.map_append]; rfl
def linkB (P : List Int) (x : Nd) : Bool := (x.ln == (P.count x.fid : Int)) && (x.fid == 1 || !(decide ((P.count x.fid : Int) < 1) || (x.k == 2 && decide ((1 : Int) < P.count x.fid))))
def linksTo (P : List Int) (l : List Nd) : Nat → Bool
 | 0 => true
 | m + 1 => linksTo P l m && linkB P (l.getD m Nd.no)
def linksB (l : List Nd) : Bool := linksTo (kfs l) l l.length
theorem links_no (P : List Int) (l : List Nd) (m : Nat) (h : linkB P (l.getD m Nd.no) = false) : ∀ d, linksTo P l (m + 1 + d) = false
 | 0 => by simp only [Nat.add_zero, linksTo, h, Bool.and_false]
 | d + 1 => by rw [← Nat.add_assoc]; simp only [linksTo, links_no P l m h d, Bool.false_and]
theorem linksB_no {l : List Nd} {m : Nat} (hm : m < l.length) (h : linkB (kfs l) (l.getD m Nd.no) = false) : linksB l = false := by
 unfold linksB
 obtain ⟨d, hd⟩ : ∃ d, l.length = m + 1 + d := ⟨l.length - (m + 1), by omega⟩
 rw [hd]; exact links_no _ l m h d
theorem zeroNu6 (w : World) : (zeroValue 3).run Tryz.prog w = .ok (numE.enc 0) w := by
 have h : (Tryz.prog.info? 3).map (fun i => i.zero) = some (some (.int .i64 0)) := by kernel_rfl
 cases hi : Tryz.prog.info? 3 with
 | none => rw [hi] at h; cases h
 | some i => rw [hi] at h; simp at h; simp [zeroValue, typeInfo, hi, h]; rfl
theorem ht_cnt : Tryz.prog.underlying 95 = some (.map 31 3) := Tryz.underlying95
def Cnt (w : World) (tb : Nat) (P : List Int) : Prop := ∃ c, c ≤ P.length ∧ IsFm numE w tb c (cntF P)
theorem Cnt.later {w w' : World} {tb : Nat} {P : List Int} (h : Cnt w tb P) (hb : Below w.heap.size w w') : Cnt w' tb P := by
 obtain ⟨c, h1, h2⟩ := h
 exact ⟨c, h1, h2.out (Ou.of (S := fun _ => False) hb) (fun e => e)⟩
theorem Cnt.look {w : World} {tb : Nat} {P : List Int} (h : Cnt w tb P) {f : Int} (h0 : 0 ≤ f) (h1 : f < 4294967296) : (Instr.lookup 95 (.map (some tb)) (.int .u32 f) false).run Tryz.prog w = .ok (.int .i64 (P.count f : Int)) w := by
 obtain ⟨c, _, h2⟩ := h
 have := h2.look ht_cnt zeroNu6 h0 h1
 rw [cntF_getD] at this
 exact this
theorem Cnt.add {w : World} {tb : Nat} {P : List Int} (h : Cnt w tb P) (hl : P.length < 999) {f : Int} (h0 : 0 ≤ f) (h1 : f < 4294967296) : ∃ w', (Instr.mapUpdate 95 (.map (some tb)) (.int .u32 f) (.int .i64 ((P.count f : Int) + 1))).run Tryz.prog w = .ok () w' ∧ Cnt w' tb (P ++ [f]) ∧ w.mapTurned w' tb := by
 obtain ⟨c, hc, h2⟩ := h
 obtain ⟨w', r1, r2, r3⟩ := h2.store (by omega) ht_cnt h0 h1 ((P.count f : Int) + 1)
 rw [cntF_snoc] at r2
 refine ⟨w', r1, ⟨_, ?_, r2⟩, r3⟩
 unfold addN
 rw [List.length_append]
 split <;> simp <;> omega
set_option maxHeartbeats 4000000 in
theorem rightLinks_c (a : Option Addr) (cap : Nat) (l : List Nd) (w : World) (h : IsNs w a l) (hm : l.length ≤ 40) (hk : ∀ x ∈ l, x.ks.length ≤ 12) :
   Calls Tryz.prog 29 #[.slice a l.length cap] w fun e w' => e = .returned (.bool (linksB l)) ∧ Below w.heap.size w w' := by
 have H := hid h
 have HK := hid hk
 have KL : Hid ((kfs l).length ≤ 480) := hid (by have := kfs_le hk; omega)
 have KLt : Hid (∀ m, (kfs (l.take m)).length ≤ 480) := hid (fun m => by
   have := kfs_le (l := l.take m) (fun x hx => hk x (List.mem_of_mem_take hx))
   rw [List.length_take] at this; omega)
 clear h hk
 have B0 := hid (below_1 w (.map #[] 0))
 have C0 : Hid (Cnt (w.alloc (.map #[] 0)) w.heap.size []) := hid ⟨0, Nat.le_refl _, by have := IsFm.made numE w; rwa [show (fun _ : Int => (none : Option Int)) = cntF [] from by funext f; simp [cntF]] at this⟩
 obtain ⟨n, hn⟩ : ∃ n, n = l.length := ⟨_, rfl⟩
 rw [← hn] at hm ⊢
 have HN := hid hn
 clear hn
 have hmm := @run_makeMap Tryz.prog
 go_enter Tryz.func29, Tryz.ntmps29
 go_wp2
 go_loopg [13] n (fun gk i wr => ∃ m : Nat, m + gk = n ∧ i = .int .i64 m ∧ Hid (Below w.heap.size w wr) ∧ Hid (Cnt wr w.heap.size (kfs (l.take m))))
 case atStart => exact ⟨0, by omega, rfl, B0, C0⟩
 case round =>
   clear B0 C0
   obtain ⟨m, hm2, rfl, HB, HC⟩ := hrel
   by_cases hlt : m < n
   · have hltI : (m : Int) < n := by omega
     have hln : m < l.length := by rw [← HN.out]; exact hlt
     obtain ⟨b, off, rfl, _⟩ := H.out.2.2 (by omega)
     have hI := H.out.later HB.out
     have HO := hid (H.out.ok (i := m) hln)
     obtain ⟨_, _, _, _, _, y5⟩ := (hI.at (i := m) hln).all
     have KT := hid (kfs_take hln)
     have h12 := HK.out _ (getD_mem l Nd.no hln)
     have hP := KLt.out m
     have hP2 := KLt.out (m + 1)
     rw [KT.out, List.length_append, List.length_map] at hP2
     clear hI hln
     generalize l.getD m Nd.no = x at *
     obtain ⟨P, hPe⟩ : ∃ P, P = kfs (l.take m) := ⟨_, rfl⟩
     rw [← hPe] at HC KT hP hP2
     clear hPe
     obtain ⟨fid, k, md, ln, da, dc, zs, ka, kc, ks⟩ := x
     simp only at *
     obtain ⟨nk, hnk⟩ : ∃ nk, nk = ks.length := ⟨_, rfl⟩
     rw [← hnk] at y5 h12 hP2
     have HNK := hid hnk
     clear hnk
     go_wp2
     generalize wr = wo at *
     obtain ⟨go, hgo⟩ : ∃ go, go = gk := ⟨_, rfl⟩
     subst hgo
     go_loopg [22] nk (fun gj j wr => ∃ i : Nat, i + gj = nk ∧ j = .int .i64 i ∧ Hid (Below w.heap.size w wr) ∧ Hid (Cnt wr w.heap.size (P ++ (ks.take i).map (·.fid))))
     case atStart => exact ⟨0, by omega, rfl, HB, hid (by simpa using HC.out)⟩
     case round =>
       obtain ⟨i, hi2, rfl, HB1, HC1⟩ := hrel
       by_cases hlt2 : i < nk
       · have hltI2 : (i : Int) < nk := by omega
         have hik : i < ks.length := by rw [← HNK.out]; exact hlt2
         have hKs := HO.out.2.2.2.2.2.later HB1.out
         obtain ⟨b1, off1, rfl, _⟩ := hKs.2.2 (by simp only; omega)
         obtain ⟨k0, k1⟩ := hKs.at (i := i) hik
         have hwf := hKs.wf (i := i) hik
         have MT := hid (map_take_kid hik)
         have hPi : (P ++ (ks.take i).map (·.fid)).length ≤ 492 := by rw [List.length_append, List.length_map, List.length_take]; omega
         clear hKs hik
         simp only at k0 k1 hwf
         generalize ks.getD i Kd.no = y at *
         obtain ⟨Q, hQ⟩ : ∃ Q, Q = P ++ (ks.take i).map (·.fid) := ⟨_, rfl⟩
         rw [← hQ] at HC1 hPi
         have HQ := hid hQ
         clear hQ
         have bA := below_1 wr (.cells #[.string y.nm, .int .u32 y.fid] 65)
         have hA := heap_alloc_new wr (.cells #[.string y.nm, .int .u32 y.fid] 65)
         have c1 : (wr.alloc (.cells #[.string y.nm, .int .u32 y.fid] 65)).cell? ⟨wr.heap.size, 1, none⟩ = some (.int .u32 y.fid) := cell_of_row2 hA 1 rfl
         have CA := HC1.out.later bA
         have LK := CA.look hwf.2.1 hwf.2.2
         obtain ⟨w3, SR, C3, MTn⟩ := CA.add (by omega) hwf.2.1 hwf.2.2
         have hcl : Q.count y.fid ≤ 1000 := Nat.le_trans List.count_le_length (by omega)
         obtain ⟨cn, hcn⟩ : ∃ cn : Int, cn = (Q.count y.fid : Int) := ⟨_, rfl⟩
         have kw : IntKind.i64.wrap (cn + 1) = cn + 1 := by rw [IntKind.wrap_i64]; omega
         rw [← hcn] at LK SR
         have HB3 : Hid (Below w.heap.size w w3) := hid ((HB1.out.trans (bA.mono HB1.out.size)).trans ((Ou.turned (S := fun k => k = w.heap.size) MTn rfl).below (Nat.le_trans HB1.out.size bA.size) (fun k e => by omega)))
         have HC3 : Hid (Cnt w3 w.heap.size (P ++ (ks.take (i + 1)).map (·.fid))) := hid (by rw [MT.out, ← List.append_assoc, ← HQ.out]; exact C3)
         clear CA C3 MTn hcn hcl hA bA hwf hPi
         go_wp2
         go_roundg (gk - 1)
         case measure => omega
         case rel => exact ⟨i + 1, by omega, by go_num, HB3, HC3⟩
       · have hge : ¬ (i : Int) < nk := by omega
         have HC4 : Hid (Cnt wr w.heap.size (kfs (l.take (m + 1)))) := hid (by
           have := HC1.out
           rw [List.take_of_length_le (by rw [← HNK.out]; omega), ← KT.out] at this
           exact this)
         go_wp2
         go_roundg (go - 1)
         case measure => omega
         case rel => exact ⟨m + 1, by omega, by go_num, HB1, HC4⟩
   · have hge : ¬ (m : Int) < n := by omega
     have HC2 : Hid (Cnt wr w.heap.size (kfs l)) := hid (by have := HC.out; rwa [List.take_of_length_le (by rw [← HN.out]; omega)] at this)
     clear HC
     go_wp2
     generalize wr = wo at *
     go_loopg [35] n (fun gj i wr => ∃ m : Nat, m + gj = n ∧ i = .int .i64 m ∧ Hid (wr = wo) ∧ Hid (linksTo (kfs l) l m = true))
     case atStart => exact ⟨0, by omega, rfl, hid rfl, hid rfl⟩
     case round =>
       obtain ⟨j, hj2, rfl, HW, HL⟩ := hrel
       have hwr := HW.out
       subst hwr
       by_cases hlt2 : j < n
       · have hltI2 : (j : Int) < n := by omega
         have hjl : j < l.length := by rw [← HN.out]; exact hlt2
         obtain ⟨b, off, rfl, _⟩ := H.out.2.2 (by omega)
         have hI := H.out.later HB.out
         have hbd := (H.out.ok (i := j) hjl)
         obtain ⟨y0, y1, _, y3, _, _⟩ := (hI.at (i := j) hjl).all
         have NO := hid (linksB_no (l := l) (m := j) hjl)
         have NX : Hid (linkB (kfs l) (l.getD j Nd.no) = true → linksTo (kfs l) l (j + 1) = true) := hid (fun h => by simp only [linksTo, HL.out, h, Bool.and_self])
         have LK := HC2.out.look hbd.1.1 hbd.1.2
         have hcl : (kfs l).count (l.getD j Nd.no).fid ≤ 1000 := Nat.le_trans List.count_le_length (by have := KL.out; omega)
         have ku : IntKind.i64.wrap (l.getD j Nd.no).ln = (l.getD j Nd.no).ln := by rw [IntKind.wrap_i64]; have := hbd.2.2.2.1; omega
         unfold linkB at NO NX
         clear hI hjl hbd
         generalize l.getD j Nd.no = x at *
         obtain ⟨cn, hcn⟩ : ∃ cn : Int, cn = ((kfs l).count x.fid : Int) := ⟨_, rfl⟩
         rw [← hcn] at LK NO NX
         clear hcn hcl
         by_cases q1 : x.ln = cn
         · have q1B : (x.ln != cn) = false := by rw [q1]; simp
           have q1C : (x.ln == cn) = true := by rw [q1]; simp
           rw [q1C] at NO NX
           by_cases q2 : x.fid = 1
           · have q2B : (x.fid == 1) = true := by rw [q2]; rfl
             rw [q2B] at NX
             have ET := hid (NX.out (by simp))
             clear NO NX q1 q2 q1C
             go_wp2
             go_roundg (gk - 1)
             case measure => omega
             case rel => exact ⟨j + 1, by omega, by go_num, hid rfl, ET⟩
           · have q2B : (x.fid == 1) = false := beq_eq_false_iff_ne.2 q2
             rw [q2B] at NO NX
             by_cases q3 : cn < 1
             · have EF := hid (NO.out (by rw [decide_eq_true q3]; simp))
               clear NO NX q1 q1C
               go_wp2
               go_ret
               exact ⟨ret_bool' EF.out.symm, HB.out⟩
             · by_cases q4 : x.k = 2
               · have q4B : (x.k == 2) = true := by rw [q4]; rfl
                 rw [q4B] at NO NX
                 by_cases q5 : 1 < cn
                 · have EF := hid (NO.out (by rw [decide_eq_true q5]; simp))
                   clear NO NX q1 q1C q4
                   go_wp2
                   go_ret
                   exact ⟨ret_bool' EF.out.symm, HB.out⟩
                 · have ET := hid (NX.out (by rw [decide_eq_false q5, decide_eq_false q3]; rfl))
                   clear NO NX q1 q1C q4
                   go_wp2
                   go_roundg (gk - 1)
                   case measure => omega
                   case rel => exact ⟨j + 1, by omega, by go_num, hid rfl, ET⟩
               · have q4B : (x.k == 2) = false := beq_eq_false_iff_ne.2 q4
                 rw [q4B] at NO NX
                 have ET := hid (NX.out (by rw [decide_eq_false q3]; rfl))
                 clear NO NX q1 q1C
                 go_wp2
                 go_roundg (gk - 1)
                 case measure => omega
                 case rel => exact ⟨j + 1, by omega, by go_num, hid rfl, ET⟩
         · have q1B : (x.ln != cn) = true := by rw [bne_iff_ne]; exact q1
           have q1C : (x.ln == cn) = false := beq_eq_false_iff_ne.2 q1
           rw [q1C] at NO
           have EF := hid (NO.out rfl)
           clear NO NX
           go_wp2
           go_ret
           exact ⟨ret_bool' EF.out.symm, HB.out⟩
       · have hge2 : ¬ (j : Int) < n := by omega
         have EF : Hid (linksB l = true) := hid (by unfold linksB; rw [← HN.out, show n = j by omega]; exact HL.out)
         go_wp2
         go_ret
         exact ⟨ret_bool' EF.out.symm, HB.out⟩
end Go.Proofs.YtkokjkaclcjnjaaGreatDoor
