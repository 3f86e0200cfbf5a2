/-
  
-/
import Derived.Test.YtfmghbennahlfaaGreatCnAf
import Derived.Test.YtfmghbennahlfaaGreatCnAa
import Derived.RangeFuncNested
import Derived.RangeFuncBound
import Derived.RangeFuncCalls
import Derived.RangeFuncLeaves
import Derived.Shelf.Abstract
import Derived.Shelf.RegionOpen
import Derived.OwnWalkIn
import Derived.TacticsInMore
import Derived.LoopNIn
import Derived.LoopIn
import Derived.RangeFuncBox
import Derived.Maps.AppendAt
import Derived.Maps.OwnIn
namespace Go.Proofs.YtfmghbennahlfaaGreat
open Go.RowKit Go.ChangeShapes Go.WideShapes Go.ChangeAt Go.Maps
set_option linter.unusedVariables false
set_option linter.unusedSimpArgs false
set_option maxRecDepth 100000
def kfs (l : List Nd) : List Int := l.flatMap fun x => x.ks.map (·.fid)
def cntF (P : List Int) : Int → Option Int := fun f => if P.count f = 0 then none else some (P.count f : Int)
theorem cntF_getD (P : List Int) (f : Int) : (cntF P f).getD 0 = (P.count f : Int) := by
 unfold cntF
 split
 · rename_i h; rw [h]; rfl
 · rfl
theorem cntF_snoc (P : List Int) (f : Int) : updF (cntF P) f (some ((P.count f : Int) + 1)) = cntF (P ++ [f]) := by
 funext g
 unfold updF cntF
 by_cases e : g = f
 · subst e
   rw [if_pos rfl, List.count_append]
   simp
 · rw [if_neg e, List.count_append, List.count_singleton]
   have : (f == g) = false := by rw [beq_eq_false_iff_ne]; exact fun h => e h.symm
   rw [this]
   simp
theorem kfs_take {l : List Nd} {m : Nat} (h : m < l.length) : kfs (l.take (m + 1)) = kfs (l.take m) ++ (l.getD m Nd.no).ks.map (·.fid) := by
 have e : l.take (m + 1) = l.take m ++ [l.getD m Nd.no] := by rw [List.take_add_one, List.getD, List.getElem?_eq_getElem h]; rfl
 unfold kfs
 rw [e, List.flatMap_append]
 simp only [List.flatMap_cons, List.flatMap_nil, List.append_nil]
theorem kfs_le {l : List Nd} (h : ∀ x ∈ l, x.ks.length ≤ 12) : (kfs l).length ≤ l.length * 12 := by
 unfold kfs
 induction l with
 | nil => simp
 | cons x t ih =>
   have h1 := h x (by simp)
   have h2 := ih (fun y hy => h y (by simp [hy]))
   rw [List.flatMap_cons, List.length_append, List.length_map, List.length_cons]
   omega
theorem map_take_kid {l : List Kd} {m : Nat} (h : m < l.length) : (l.take (m + 1)).map (·.fid) = (l.take m).map (·.fid) ++ [(l.getD m Kd.no).fid] := by rw [take_kid h, List.map_append]; rfl
def linkB (P : List Int) (x : Nd) : Bool := (x.ln == (P.count x.fid : Int)) && (x.fid == 1 || !(decide ((P.count x.fid : Int) < 1) || (x.k == 2 && decide ((1 : Int) < P.count x.fid))))
def linksTo (P : List Int) (l : List Nd) : Nat → Bool
 | 0 => true
 | m + 1 => linksTo P l m && linkB P (l.getD m Nd.no)
def linksB (l : List Nd) : Bool := linksTo (kfs l) l l.length
theorem links_no (P : List Int) (l : List Nd) (m : Nat) (h : linkB P (l.getD m Nd.no) = false) : ∀ d, linksTo P l (m + 1 + d) = false
 | 0 => by simp only [Nat.add_zero, linksTo, h, Bool.and_false]
 | d + 1 => by rw [← Nat.add_assoc]; simp only [linksTo, links_no P l m h d, Bool.false_and]
theorem linksB_no {l : List Nd} {m : Nat} (hm : m < l.length) (h : linkB (kfs l) (l.getD m Nd.no) = false) : linksB l = false := by
 unfold linksB
 obtain ⟨d, hd⟩ : ∃ d, l.length = m + 1 + d := ⟨l.length - (m + 1), by omega⟩
 rw [hd]; exact links_no _ l m h d
theorem zeroNu6 (w : World) : (zeroValue 3).run Tryz.prog w = .ok (numE.enc 0) w := by
 have h : (Tryz.prog.info? 3).map (fun i => i.zero) = some (some (.int .i64 0)) := by kernel_rfl
 cases hi : Tryz.prog.info? 3 with
 | none => rw [hi] at h; cases h
 | some i => rw [hi] at h; simp at h; simp [zeroValue, typeInfo, hi, h]; rfl
theorem ht_cnt : Tryz.prog.underlying 156 = some (.map 35 3) := Tryz.underlying156
def Cnt (w : World) (tb : Nat) (P : List Int) : Prop := ∃ c, c ≤ P.length ∧ IsFm numE w tb c (cntF P)
theorem Cnt.later {w w' : World} {tb : Nat} {P : List Int} (h : Cnt w tb P) (hb : Below w.heap.size w w') : Cnt w' tb P := by
 obtain ⟨c, h1, h2⟩ := h
 exact ⟨c, h1, h2.out (Ou.of (S := fun _ => False) hb) (fun e => e)⟩
theorem Cnt.look {w : World} {tb : Nat} {P : List Int} (h : Cnt w tb P) {f : Int} (h0 : 0 ≤ f) (h1 : f < 4294967296) : (Instr.lookup 156 (.map (some tb)) (.int .u32 f) false).run Tryz.prog w = .ok (.int .i64 (P.count f : Int)) w := by
 obtain ⟨c, _, h2⟩ := h
 have := h2.look ht_cnt zeroNu6 h0 h1
 rw [cntF_getD] at this
 exact this
theorem Cnt.add {w : World} {tb : Nat} {P : List Int} (h : Cnt w tb P) (hl : P.length < 999) {f : Int} (h0 : 0 ≤ f) (h1 : f < 4294967296) : ∃ w', (Instr.mapUpdate 156 (.map (some tb)) (.int .u32 f) (.int .i64 ((P.count f : Int) + 1))).run Tryz.prog w = .ok () w' ∧ Cnt w' tb (P ++ [f]) ∧ w.mapTurned w' tb := by
 obtain ⟨c, hc, h2⟩ := h
 obtain ⟨w', r1, r2, r3⟩ := h2.store (by omega) ht_cnt h0 h1 ((P.count f : Int) + 1)
 rw [cntF_snoc] at r2
 refine ⟨w', r1, ⟨_, ?_, r2⟩, r3⟩
 unfold addN
 rw [List.length_append]
 split <;> simp <;> omega
set_option maxHeartbeats 4000000 in
theorem rightLinks_c (a : Option Addr) (cap : Nat) (l : List Nd) (w : World) (h : IsNs w a l) (hm : l.length ≤ 40) (hk : ∀ x ∈ l, x.ks.length ≤ 12) :
   Calls Tryz.prog 119 #[.slice a l.length cap] w fun e w' => e = .returned (.bool (linksB l)) ∧ Below w.heap.size w w' := by
 have H := hid h
 have HK := hid hk
 have KL : Hid ((kfs l).length ≤ 480) := hid (by have := kfs_le hk; omega)
 have KLt : Hid (∀ m, (kfs (l.take m)).length ≤ 480) := hid (fun m => by
   have := kfs_le (l := l.take m) (fun x hx => hk x (List.mem_of_mem_take hx))
   rw [List.length_take] at this; omega)
 clear h hk
 have B0 := hid (below_1 w (.map #[] 0))
 have C0 : Hid (Cnt (w.alloc (.map #[] 0)) w.heap.size []) := hid ⟨0, Nat.le_refl _, by have := IsFm.made numE w; rwa [show (fun _ : Int => (none : Option Int)) = cntF [] from by funext f; simp [cntF]] at this⟩
 obtain ⟨n, hn⟩ : ∃ n, n = l.length := ⟨_, rfl⟩
 rw [← hn] at hm ⊢
 have HN := hid hn
 clear hn
 have hmm := @run_makeMap Tryz.prog
 go_enter Tryz.func119, Tryz.ntmps119
 go_wp2
 go_loopg [13] n (fun gk i wr => ∃ m : Nat, m + gk = n ∧ i = .int .i64 m ∧ Hid (Below w.heap.size w wr) ∧ Hid (Cnt wr w.heap.size (kfs (l.take m))))
 case atStart => exact ⟨0, by omega, rfl, B0, C0⟩
 case round =>
   clear B0 C0
   obtain ⟨m, hm2, rfl, HB, HC⟩ := hrel
   by_cases hlt : m < n
   · have hltI : (m : Int) < n := by omega
     have hln : m < l.length := by rw [← HN.out]; exact hlt
     obtain ⟨b, off, rfl, _⟩ := H.out.2.2 (by omega)
     have hI := H.out.later HB.out
     have HO := hid (H.out.ok (i := m) hln)
     obtain ⟨_, _, _, _, _, y5⟩ := (hI.at (i := m) hln).all
     have KT := hid (kfs_take hln)
     have h12 := HK.out _ (getD_mem l Nd.no hln)
     have hP := KLt.out m
     have hP2 := KLt.out (m + 1)
     rw [KT.out, List.length_append, List.length_map] at hP2
     clear hI hln
     generalize l.getD m Nd.no = x at *
     obtain ⟨P, hPe⟩ : ∃ P, P = kfs (l.take m) := ⟨_, rfl⟩
     rw [← hPe] at HC KT hP hP2
     clear hPe
     obtain ⟨fid, k, md, ln, da, dc, zs, ka, kc, ks⟩ := x
     simp only at *
     obtain ⟨nk, hnk⟩ : ∃ nk, nk = ks.length := ⟨_, rfl⟩
     rw [← hnk] at y5 h12 hP2
     have HNK := hid hnk
     clear hnk
     go_wp2
     generalize wr = wo at *
     obtain ⟨go, hgo⟩ : ∃ go, go = gk := ⟨_, rfl⟩
     subst hgo
     go_loopg [22] nk (fun gj j wr => ∃ i : Nat, i + gj = nk ∧ j = .int .i64 i ∧ Hid (Below w.heap.size w wr) ∧ Hid (Cnt wr w.heap.size (P ++ (ks.take i).map (·.fid))))
     case atStart => exact ⟨0, by omega, rfl, HB, hid (by simpa using HC.out)⟩
     case round =>
       obtain ⟨i, hi2, rfl, HB1, HC1⟩ := hrel
       by_cases hlt2 : i < nk
       · have hltI2 : (i : Int) < nk := by omega
         have hik : i < ks.length := by rw [← HNK.out]; exact hlt2
         have hKs := HO.out.2.2.2.2.2.later HB1.out
         obtain ⟨b1, off1, rfl, _⟩ := hKs.2.2 (by simp only; omega)
         obtain ⟨k0, k1⟩ := hKs.at (i := i) hik
         have hwf := hKs.wf (i := i) hik
         have MT := hid (map_take_kid hik)
         have hPi : (P ++ (ks.take i).map (·.fid)).length ≤ 492 := by rw [List.length_append, List.length_map, List.length_take]; omega
         clear hKs hik
         simp only at k0 k1 hwf
         generalize ks.getD i Kd.no = y at *
         obtain ⟨Q, hQ⟩ : ∃ Q, Q = P ++ (ks.take i).map (·.fid) := ⟨_, rfl⟩
         rw [← hQ] at HC1 hPi
         have HQ := hid hQ
         clear hQ
         have bA := below_1 wr (.cells #[.string y.nm, .int .u32 y.fid] 66)
         have hA := heap_alloc_new wr (.cells #[.string y.nm, .int .u32 y.fid] 66)
         have c1 : (wr.alloc (.cells #[.string y.nm, .int .u32 y.fid] 66)).cell? ⟨wr.heap.size, 1, none⟩ = some (.int .u32 y.fid) := cell_of_row2 hA 1 rfl
         have CA := HC1.out.later bA
         have LK := CA.look hwf.2.1 hwf.2.2
         obtain ⟨w3, SR, C3, MTn⟩ := CA.add (by omega) hwf.2.1 hwf.2.2
         have hcl : Q.count y.fid ≤ 1000 := Nat.le_trans List.count_le_length (by omega)
         obtain ⟨cn, hcn⟩ : ∃ cn : Int, cn = (Q.count y.fid : Int) := ⟨_, rfl⟩
         have kw : IntKind.i64.wrap (cn + 1) = cn + 1 := by rw [IntKind.wrap_i64]; omega
         rw [← hcn] at LK SR
         have HB3 : Hid (Below w.heap.size w w3) := hid ((HB1.out.trans (bA.mono HB1.out.size)).trans ((Ou.turned (S := fun k => k = w.heap.size) MTn rfl).below (Nat.le_trans HB1.out.size bA.size) (fun k e => by omega)))
         have HC3 : Hid (Cnt w3 w.heap.size (P ++ (ks.take (i + 1)).map (·.fid))) := hid (by rw [MT.out, ← List.append_assoc, ← HQ.out]; exact C3)
         clear CA C3 MTn hcn hcl hA bA hwf hPi
         go_wp2
         go_roundg (gk - 1)
         case measure => omega
         case rel => exact ⟨i + 1, by omega, by go_num, HB3, HC3⟩
       · have hge : ¬ (i : Int) < nk := by omega
         have HC4 : Hid (Cnt wr w.heap.size (kfs (l.take (m + 1)))) := hid (by
           have := HC1.out
           rw [List.take_of_length_le (by rw [← HNK.out]; omega), ← KT.out] at this
           exact this)
         go_wp2
         go_roundg (go - 1)
         case measure => omega
         case rel => exact ⟨m + 1, by omega, by go_num, HB1, HC4⟩
   · have hge : ¬ (m : Int) < n := by omega
     have HC2 : Hid (Cnt wr w.heap.size (kfs l)) := hid (by have := HC.out; rwa [List.take_of_length_le (by rw [← HN.out]; omega)] at this)
     clear HC
     go_wp2
     generalize wr = wo at *
     go_loopg [35] n (fun gj i wr => ∃ m : Nat, m + gj = n ∧ i = .int .i64 m ∧ Hid (wr = wo) ∧ Hid (linksTo (kfs l) l m = true))
     case atStart => exact ⟨0, by omega, rfl, hid rfl, hid rfl⟩
     case round =>
       obtain ⟨j, hj2, rfl, HW, HL⟩ := hrel
       have hwr := HW.out
       subst hwr
       by_cases hlt2 : j < n
       · have hltI2 : (j : Int) < n := by omega
         have hjl : j < l.length := by rw [← HN.out]; exact hlt2
         obtain ⟨b, off, rfl, _⟩ := H.out.2.2 (by omega)
         have hI := H.out.later HB.out
         have hbd := (H.out.ok (i := j) hjl)
         obtain ⟨y0, y1, _, y3, _, _⟩ := (hI.at (i := j) hjl).all
         have NO := hid (linksB_no (l := l) (m := j) hjl)
         have NX : Hid (linkB (kfs l) (l.getD j Nd.no) = true → linksTo (kfs l) l (j + 1) = true) := hid (fun h => by simp only [linksTo, HL.out, h, Bool.and_self])
         have LK := HC2.out.look hbd.1.1 hbd.1.2
         have hcl : (kfs l).count (l.getD j Nd.no).fid ≤ 1000 := Nat.le_trans List.count_le_length (by have := KL.out; omega)
         have ku : IntKind.i64.wrap (l.getD j Nd.no).ln = (l.getD j Nd.no).ln := by rw [IntKind.wrap_i64]; have := hbd.2.2.2.1; omega
         unfold linkB at NO NX
         clear hI hjl hbd
         generalize l.getD j Nd.no = x at *
         obtain ⟨cn, hcn⟩ : ∃ cn : Int, cn = ((kfs l).count x.fid : Int) := ⟨_, rfl⟩
         rw [← hcn] at LK NO NX
         clear hcn hcl
         by_cases q1 : x.ln = cn
         · have q1B : (x.ln != cn) = false := by rw [q1]; simp
           have q1C : (x.ln == cn) = true := by rw [q1]; simp
           rw [q1C] at NO NX
           by_cases q2 : x.fid = 1
           · have q2B : (x.fid == 1) = true := by rw [q2]; rfl
             rw [q2B] at NX
             have ET := hid (NX.out (by simp))
             clear NO NX q1 q2 q1C
             go_wp2
             go_roundg (gk - 1)
             case measure => omega
             case rel => exact ⟨j + 1, by omega, by go_num, hid rfl, ET⟩
           · have q2B : (x.fid == 1) = false := beq_eq_false_iff_ne.2 q2
             rw [q2B] at NO NX
             by_cases q3 : cn < 1
             · have EF := hid (NO.out (by rw [decide_eq_true q3]; simp))
               clear NO NX q1 q1C
               go_wp2
               go_ret
               exact ⟨ret_bool' EF.out.symm, HB.out⟩
             · by_cases q4 : x.k = 2
               · have q4B : (x.k == 2) = true := by rw [q4]; rfl
                 rw [q4B] at NO NX
                 by_cases q5 : 1 < cn
                 · have EF := hid (NO.out (by rw [decide_eq_true q5]; simp))
                   clear NO NX q1 q1C q4
                   go_wp2
                   go_ret
                   exact ⟨ret_bool' EF.out.symm, HB.out⟩
                 · have ET := hid (NX.out (by rw [decide_eq_false q5, decide_eq_false q3]; rfl))
                   clear NO NX q1 q1C q4
                   go_wp2
                   go_roundg (gk - 1)
                   case measure => omega
                   case rel => exact ⟨j + 1, by omega, by go_num, hid rfl, ET⟩
               · have q4B : (x.k == 2) = false := beq_eq_false_iff_ne.2 q4
                 rw [q4B] at NO NX
                 have ET := hid (NX.out (by rw [decide_eq_false q3]; rfl))
                 clear NO NX q1 q1C
                 go_wp2
                 go_roundg (gk - 1)
                 case measure => omega
                 case rel => exact ⟨j + 1, by omega, by go_num, hid rfl, ET⟩
         · have q1B : (x.ln != cn) = true := by rw [bne_iff_ne]; exact q1
           have q1C : (x.ln == cn) = false := beq_eq_false_iff_ne.2 q1
           rw [q1C] at NO
           have EF := hid (NO.out rfl)
           clear NO NX
           go_wp2
           go_ret
           exact ⟨ret_bool' EF.out.symm, HB.out⟩
       · have hge2 : ¬ (j : Int) < n := by omega
         have EF : Hid (linksB l = true) := hid (by unfold linksB; rw [← HN.out, show n = j by omega]; exact HL.out)
         go_wp2
         go_ret
         exact ⟨ret_bool' EF.out.symm, HB.out⟩
end Go.Proofs.YtfmghbennahlfaaGreat
namespace Go.Proofs.YtfmghbennahlfaaGreat
open Go.RowKit Go.ChangeShapes Go.WideShapes Go.ChangeAt Go.Maps
set_option linter.unusedVariables false
set_option linter.unusedSimpArgs false
set_option maxRecDepth 100000
def fdR : Value → Option (DataW Int × List MemPlace)
 | .int .u32 x => some (.held x, [])
 | _ => none
def fdE : Enc Int := ⟨fun x => .int .u32 x, fdR, fun _ => rfl, fun {v z} h => by
 unfold fdR at h
 split at h
 · cases h; exact ⟨_, rfl, rfl⟩
 · cases h⟩
section
variable {α : Type}
theorem next_F (E : Enc α) (w : World) {ops : Array Oper} {rest : List Oper} {o : Oper} {a : Act} {Q : Exit → Act → World → Prop} (hg : o.guard = none) (it : Operand) (hop : o.op = Op.next it false)
   (tb r n : Nat) (D : DataW α) (left : Lit → Bool) (cnt : Nat) (hit : a.eval it = .pointer (some ⟨r, 0, none⟩)) (h : w.ranges Tryz.prog 35 E.rd tb r n D left cnt)
   (hDone : cnt = 0 → (∀ i, left (kyF i) = false) → wpList Tryz.prog ops Q rest (a.put o.dst (.tuple #[.bool false])) w)
   (hMore : ∀ (x : Int) (c : α) (w' : World) (cnt' : Nat), 0 ≤ x → x < 4294967296 → left (kyF x) = true → lookF D x = some c → w'.ranges Tryz.prog 35 E.rd tb r n D (fun z => left z && !z.sameKey (kyF x)) cnt' → cnt' < cnt →
     w.grownBy w' (some r) → w'.heap.size = w.heap.size → (Instr.entry (.pointer (some ⟨r, 0, none⟩))).run Tryz.prog w' = .ok (.tuple #[.int .u32 x, E.enc c]) w' → wpList Tryz.prog ops Q rest (a.put o.dst (.tuple #[.bool true, .int .u32 x, E.enc c])) w') :
   wpList Tryz.prog ops Q (o :: rest) a w := by
 have inv2 : ∀ v y, E.rd v = some y → ∃ c, v = E.enc c := fun v y hv => by obtain ⟨c, h1, _⟩ := E.inv hv; exact ⟨c, h1⟩
 refine wpList_next_ranges w hg it hop 35 lawF E.rd (Value.int .u32) E.enc (fun key kl hkey => by obtain ⟨x, rfl, _⟩ := Maps.keyOf_int_inv Tryz.underlying35 hkey; exact ⟨x, rfl⟩) inv2 tb r n D left cnt hit h (fun h0 hl => hDone h0 (fun i => hl _)) ?_
 intro x c kl y w' cnt' hkey hlk hv hat hrg hlt hgr hsz hen
 obtain ⟨x', ex, rfl, hwx⟩ := Maps.keyOf_int_inv Tryz.underlying35 hkey
 cases ex
 have hw2 := bd_u32 hwx
 rw [E.wr] at hv
 cases hv
 refine hMore x c w' cnt' hw2.1 hw2.2 hlk ?_ hrg hlt hgr hsz hen
 have hs : Maps.has D (kyF x) = true := by
   cases hh : Maps.has D (kyF x) with
   | true => rfl
   | false =>
     have e1 := Maps.atKey_of_not_has (z := DataW.nil) hh
     have e2 := hat DataW.nil
     rw [show (Lit.int IntKind.u32 x) = kyF x from rfl, e1] at e2
     cases e2
 have hat2 : D.atKey (kyF x) DataW.nil = DataW.held c := hat DataW.nil
 unfold lookF
 rw [if_pos hs, hat2]
end
def isDirT (N : Tab) (g : Int) : Bool := match N g with
 | some (_, y) => y.k == 2
 | none => false
def Edge (N : Tab) (f g : Int) : Prop := ∃ p x i, N f = some (p, x) ∧ i < x.ks.length ∧ (x.ks.getD i Kd.no).fid = g ∧ isDirT N g = true
def OneUp (N : Tab) : Prop := ∀ f f' g, Edge N f g → Edge N f' g → f = f'
def Whole6 (N : Tab) : Prop := ∀ f p x, N f = some (p, x) → x.ks.length ≤ 12 ∧ ∀ i, i < x.ks.length → (N (x.ks.getD i Kd.no).fid).isSome = true
def IsPar (N : Tab) (G : Int → Option Int) : Prop := ∀ f g, G g = some f ↔ Edge N f g
theorem grown_ou {w w' : World} {r : Nat} (h : w.grownBy w' (some r)) : Ou (fun k => k = r) w w' := ⟨h.os, h.tape, h.output, h.size, fun i hi hn => h.block i hi (fun e => hn (by cases e; rfl))⟩
theorem grown_below {w w' : World} (h : w.grownBy w' none) : Below w.heap.size w w' := ⟨h.os, h.tape, h.output, h.size, fun i hi => h.block i hi (fun e => by cases e)⟩
theorem ht_par : Tryz.prog.underlying 280 = some (.map 35 35) := Tryz.underlying280
def ParAt (N : Tab) (G : Int → Option Int) (left : Lit → Bool) : Prop := (∀ f g, G g = some f → Edge N f g) ∧ ∀ f g, Edge N f g → left (kyF f) = false → (G g).isSome = true
theorem ptr_look {N : Tab} {D : DataW (Option Addr)} (h : ∀ i, N.ptr i = lookF D i) {x : Int} {c : Option Addr} (hl : lookF D x = some c) : ∃ p y, N x = some (p, y) ∧ c = some p := by
 rw [← h x] at hl
 unfold Tab.ptr at hl
 cases q : N x with
 | none => rw [q] at hl; cases hl
 | some z => rw [q] at hl; cases hl; exact ⟨z.1, z.2, rfl, rfl⟩
set_option maxHeartbeats 4000000 in
theorem parents_c (tb m0 : Nat) (N : Tab) (w : World) (hT : IsTab w tb m0 N) (hm0 : m0 ≤ 60) (hW : Whole6 N) (hU : OneUp N) :
   Calls Tryz.prog 183 #[.map (some tb)] w fun e w' => e = .returned (.map (some w.heap.size)) ∧ (∃ c G, IsFm fdE w' w.heap.size c G ∧ c ≤ 720 ∧ IsPar N G) ∧ Below w.heap.size w w' := by
 have htl := hT.1.lt
 have HT := hid hT
 have HW := hid hW
 have HU := hid hU
 have ht := ht_tab
 have B0 := hid (below_1 w (.map #[] 0))
 have F0 := hid (IsFm.made fdE w)
 have S0 : Hid ((w.alloc (.map #[] 0)).heap.size = w.heap.size + 1) := hid (by simp)
 obtain ⟨D, ho, hsz, hlk⟩ := (hT.later (below_1 w (.map #[] 0))).1
 have HO := hid ho
 have HSZ := hid hsz
 have HLK := hid hlk
 clear hT hW hU ho hsz hlk
 have hmm := @run_makeMap Tryz.prog
 go_enter Tryz.func183, Tryz.ntmps183
 go_wp2_with (at_range; refine wpList_range_own _ rfl _ 187 rfl 35 131 lawF ht ptE.rd tb m0 D rfl HO.out ?_; intro w0 hrg0 hg0 hs0)
 go_frame
 have R0 := hid hrg0
 have BG := hid (B0.out.trans ((grown_below hg0).mono B0.out.size))
 have FG := hid (F0.out.out (Ou.of (S := fun _ => False) (grown_below hg0)) (fun e => e))
 rw [S0.out] at R0 hs0
 have r_ne : w.heap.size + 1 ≠ tb := by omega
 clear hrg0 hg0 B0 F0
 rw [S0.out]
 go_loopg [4] (Maps.size D) (fun gk v wr => Hid (Below w.heap.size w wr) ∧ Hid (w.heap.size + 2 ≤ wr.heap.size) ∧ Hid (∃ left, wr.ranges Tryz.prog 35 ptE.rd tb (w.heap.size + 1) m0 D left gk ∧ ∃ c G, IsFm fdE wr w.heap.size c G ∧ c + 12 * gk ≤ 12 * m0 ∧ ParAt N G left))
 case atStart =>
   refine ⟨BG, hid (by omega), hid ⟨_, R0.out, 0, _, FG.out, by rw [HSZ.out]; omega, ?_⟩⟩
   refine ⟨(fun f g e => by cases e), fun f g he hl => ?_⟩
   obtain ⟨p, x, i, h1, _⟩ := he
   have e1 := (look_atF ptE HO.out f none).2.1
   rw [e1, ← HLK.out f] at hl
   unfold Tab.ptr at hl
   rw [h1] at hl
   cases hl
 case round =>
   clear BG FG R0
   obtain ⟨HB, HS, HI⟩ := hrel
   obtain ⟨left, hrg, c, G, hF, hcn, hP⟩ := HI.out
   have HRG := hid hrg
   have HF := hid hF
   have HP := hid hP
   clear HI hrg hF hP
   go_wp2_with (at_next; refine next_F ptE _ rfl _ rfl tb (w.heap.size + 1) m0 D left gk rfl HRG.out ?_ ?_)
   · intro hc0 hl0
     have FIN : Hid (IsPar N G) := hid (fun f g => ⟨HP.out.1 f g, fun he => by
       have := HP.out.2 f g he (hl0 f)
       cases q : G g with
       | none => rw [q] at this; cases this
       | some f' => rw [HU.out f f' g he (HP.out.1 f' g q)]⟩)
     go_wp2
     go_ret
     exact ⟨rfl, ⟨c, G, HF.out, by omega, FIN.out⟩, HB.out⟩
   · intro f pc w1 cnt1 hf0 hf1 hlf hlD hrg1 hlt hg1 hs1 hen
     obtain ⟨p, x, hN, rfl⟩ := ptr_look HLK.out hlD
     rw [show ptE.enc (some p) = .pointer (some p) from rfl] at hen ⊢
     have hB1 : Below w.heap.size w w1 := HB.out.trans ((grown_ou hg1).below HB.out.size (fun k e => by omega))
     have HB1 := hid hB1
     have HS1 : Hid (w.heap.size + 2 ≤ w1.heap.size) := hid (by rw [hs1]; exact HS.out)
     have HF1 := hid (HF.out.out (grown_ou hg1) (by omega))
     have HRG1 := hid hrg1
     obtain ⟨hps, hnc, hok, hfd⟩ := (HT.out.later hB1).2 f p x hN
     obtain ⟨pb, po, ps⟩ := p
     simp only at hps
     subst hps
     obtain ⟨_, _, _, _, _, y5⟩ := hnc.all
     have HOK := hid (HT.out.2 f _ x hN).2.2.1
     have HNF := hid hN
     obtain ⟨h12, hall⟩ := HW.out f _ x hN
     have HALL := hid hall
     have EDG : Hid (∀ i, i < x.ks.length → isDirT N (x.ks.getD i Kd.no).fid = true → Edge N f (x.ks.getD i Kd.no).fid) := hid (fun i hi hd => ⟨_, x, i, hN, hi, rfl, hd⟩)
     have EDR : Hid (∀ g, Edge N f g → ∃ i, i < x.ks.length ∧ (x.ks.getD i Kd.no).fid = g ∧ isDirT N g = true) := hid (fun g he => by
       obtain ⟨p', x', i, h1, h2, h3, h4⟩ := he
       rw [hN] at h1
       cases h1
       exact ⟨i, h2, h3, h4⟩)
     clear hrg1 hg1 hs1 hlD hlf hnc hok hfd hN hall hB1 HB HS HF HRG
     obtain ⟨fid, k, md, ln, da, dc, zs, ka, kc, ks⟩ := x
     simp only at *
     obtain ⟨nk, hnk⟩ : ∃ nk, nk = ks.length := ⟨_, rfl⟩
     rw [← hnk] at y5 h12
     have HNK := hid hnk
     clear hnk
     go_wp2
     obtain ⟨go, hgo⟩ : ∃ go, go = gk := ⟨_, rfl⟩
     subst hgo
     go_loopg [21] nk (fun gj j wr => ∃ i : Nat, i + gj = nk ∧ j = .int .i64 i ∧ Hid (Below w.heap.size w wr) ∧ Hid (w.heap.size + 2 ≤ wr.heap.size) ∧ Hid (wr.ranges Tryz.prog 35 ptE.rd tb (w.heap.size + 1) m0 D (fun z => left z && !z.sameKey (kyF f)) cnt1) ∧ Hid (∃ c G, IsFm fdE wr w.heap.size c G ∧ c + 12 * cnt1 + 12 ≤ 12 * m0 + i ∧ (∀ f g, G g = some f → Edge N f g) ∧ (∀ f' g, Edge N f' g → left (kyF f') = false → (G g).isSome = true) ∧ ∀ j, j < i → isDirT N (ks.getD j Kd.no).fid = true → (G (ks.getD j Kd.no).fid).isSome = true))
     case atStart => exact ⟨0, by omega, rfl, HB1, HS1, HRG1, hid ⟨c, G, HF1.out, by omega, HP.out.1, HP.out.2, fun j hj => by omega⟩⟩
     case round =>
       clear HB1 HS1 HRG1 HF1 HP
       obtain ⟨i, hi2, rfl, HB2, HS2, HRG2, HI2⟩ := hrel
       by_cases hlt2 : i < nk
       · have hltI2 : (i : Int) < nk := by omega
         have hik : i < ks.length := by rw [← HNK.out]; exact hlt2
         have HALi := hid (HALL.out i hik)
         have EDi := hid (EDG.out i hik)
         have hKs := HOK.out.2.2.2.2.2.later HB2.out
         obtain ⟨b1, off1, rfl, _⟩ := hKs.2.2 (by simp only; omega)
         obtain ⟨k0, k1⟩ := hKs.at (i := i) hik
         have hwf := hKs.wf (i := i) hik
         clear hKs hik
         simp only at k0 k1 hwf
         obtain ⟨c2, G2, hF2, hc2, hp1, hp2, hp3⟩ := HI2.out
         have HF2 := hid hF2
         have HP1 := hid hp1
         have HP2 := hid hp2
         have HP3 := hid hp3
         clear HI2 hF2 hp1 hp2 hp3
         have GI : Hid (ks.getD i Kd.no = ks.getD i Kd.no) := hid rfl
         obtain ⟨y, hy⟩ : ∃ y, y = ks.getD i Kd.no := ⟨_, rfl⟩
         rw [← hy] at k0 k1 hwf HALi EDi
         have HY := hid hy
         clear hy GI
         have bA := below_1 wr (.cells #[.string y.nm, .int .u32 y.fid] 66)
         have hA := heap_alloc_new wr (.cells #[.string y.nm, .int .u32 y.fid] 66)
         have c1 : (wr.alloc (.cells #[.string y.nm, .int .u32 y.fid] 66)).cell? ⟨wr.heap.size, 1, none⟩ = some (.int .u32 y.fid) := cell_of_row2 hA 1 rfl
         have HB3 := hid (HB2.out.trans (bA.mono HB2.out.size))
         have HS3 := hid (Nat.le_trans HS2.out bA.size)
         have HRG3 := hid (HRG2.out.alloc (.cells #[.string y.nm, .int .u32 y.fid] 66))
         have HF3 := hid (HF2.out.out (Ou.of (S := fun _ => False) bA) (fun e => e))
         have TL := HT.out.later HB3.out
         have LK := TL.1.look ht zeroPt hwf.2.1 hwf.2.2
         unfold Tab.ptr at LK
         cases qN : N y.fid with
         | none => rw [qN] at HALi; exact absurd HALi.out (by simp)
         | some z =>
           obtain ⟨q, yy⟩ := z
           rw [qN] at LK
           rw [show ptE.enc ((Option.map (fun p : Addr × Nd => some p.1) (some (q, yy))).getD none) = .pointer (some q) from rfl] at LK
           obtain ⟨hqs, hqc, _, _⟩ := TL.2 y.fid q yy qN
           obtain ⟨qb, qo, qs⟩ := q
           simp only at hqs
           subst hqs
           obtain ⟨_, z1, _⟩ := hqc.all
           have hdr : isDirT N y.fid = (yy.k == 2) := by unfold isDirT; rw [qN]
           rw [hdr] at EDi
           have hyf := hwf.2
           clear hA bA hqc TL hwf HB2 HS2 HRG2 HF2
           by_cases qk : yy.k = 2
           · have qkB : (yy.k == 2) = true := by rw [qk]; rfl
             obtain ⟨w3, SR, IM, MT⟩ := HF3.out.store (by omega) ht_par hyf.1 hyf.2 f
             rw [show fdE.enc f = .int .u32 f from rfl] at SR
             have hO3 := Ou.turned (S := fun k => k = w.heap.size) MT rfl
             have HB4 := hid (HB3.out.trans (hO3.below HB3.out.size (fun k e => by omega)))
             have HS4 := hid (Nat.le_trans HS3.out hO3.size)
             have HRG4 := hid (HRG3.out.kept MT.grown (by intro e; have := Option.some.inj e; omega) (by intro e; have := Option.some.inj e; omega))
             have hE := EDi.out qkB
             have HI4 : Hid (∃ c G, IsFm fdE w3 w.heap.size c G ∧ c + 12 * cnt1 + 12 ≤ 12 * m0 + (i + 1) ∧ (∀ f g, G g = some f → Edge N f g) ∧ (∀ f' g, Edge N f' g → left (kyF f') = false → (G g).isSome = true) ∧ ∀ j, j < i + 1 → isDirT N (ks.getD j Kd.no).fid = true → (G (ks.getD j Kd.no).fid).isSome = true) := hid (by
               refine ⟨_, _, IM, ?_, ?_, ?_, ?_⟩
               · unfold addN; split <;> omega
               · intro f' g hg
                 unfold updF at hg
                 split at hg
                 · rename_i e
                   cases hg
                   rw [e]; exact hE
                 · exact HP1.out f' g hg
               · intro f' g he hl
                 unfold updF
                 split
                 · rfl
                 · exact HP2.out f' g he hl
               · intro j hj hd
                 unfold updF
                 split
                 · rfl
                 · rename_i e
                   by_cases e2 : j = i
                   · subst e2
                     rw [← HY.out] at e
                     exact absurd rfl e
                   · exact HP3.out j (by omega) hd)
             clear HF3 HP1 HP2 HP3 hdr IM MT hO3 hE HB3 HS3 HRG3
             go_wp2
             go_roundg (gk - 1)
             case measure => omega
             case rel => exact ⟨i + 1, by omega, by go_num, HB4, HS4, HRG4, HI4⟩
           · have qkB : (yy.k == 2) = false := beq_eq_false_iff_ne.2 qk
             have HI3 : Hid (∃ c G, IsFm fdE (wr.alloc (.cells #[.string y.nm, .int .u32 y.fid] 66)) w.heap.size c G ∧ c + 12 * cnt1 + 12 ≤ 12 * m0 + (i + 1) ∧ (∀ f g, G g = some f → Edge N f g) ∧ (∀ f' g, Edge N f' g → left (kyF f') = false → (G g).isSome = true) ∧ ∀ j, j < i + 1 → isDirT N (ks.getD j Kd.no).fid = true → (G (ks.getD j Kd.no).fid).isSome = true) := hid ⟨c2, G2, HF3.out, by omega, HP1.out, HP2.out, fun j hj hd => by
               by_cases e : j = i
               · subst e
                 rw [← HY.out, hdr, qkB] at hd
                 cases hd
               · exact HP3.out j (by omega) hd⟩
             clear HF3 HP1 HP2 HP3 hdr
             go_wp2
             go_roundg (gk - 1)
             case measure => omega
             case rel => exact ⟨i + 1, by omega, by go_num, HB3, HS3, HRG3, HI3⟩
       · have hge : ¬ (i : Int) < nk := by omega
         obtain ⟨c2, G2, hF2, hc2, hp1, hp2, hp3⟩ := HI2.out
         have REL : Hid (∃ left, wr.ranges Tryz.prog 35 ptE.rd tb (w.heap.size + 1) m0 D left cnt1 ∧ ∃ c G, IsFm fdE wr w.heap.size c G ∧ c + 12 * cnt1 ≤ 12 * m0 ∧ ParAt N G left) := hid (by
           refine ⟨_, HRG2.out, c2, G2, hF2, by omega, hp1, fun f' g he hl => ?_⟩
           by_cases e : f' = f
           · subst e
             obtain ⟨i', q1, q2, q3⟩ := EDR.out g he
             rw [← q2] at q3 ⊢
             exact hp3 i' (by rw [← HNK.out] at q1; omega) q3
           · refine hp2 f' g he ?_
             simp only [same_kyF, decide_eq_false e, Bool.not_false, Bool.and_true] at hl
             exact hl)
         clear HI2 hF2 hp1 hp2 hp3 hc2
         go_wp2
         go_roundg cnt1
         case measure => exact hlt
         case rel => exact ⟨HB2, HS2, REL⟩
end Go.Proofs.YtfmghbennahlfaaGreat
namespace Go.Proofs.YtfmghbennahlfaaGreat.Rg
open Go.RowKit Go.ChangeShapes Go.WideShapes Go.ChangeAt Go.Shelf
attribute [local go_sem] Oper.semAt_some
set_option linter.unusedVariables false
set_option linter.unusedSimpArgs false
theorem lt_blk {w : World} {g : Nat} {o : Obj} (h : w.heap[g]? = some o) : g < w.heap.size := by
 have := (Array.getElem?_eq_some_iff.1 h).1; exact this
def recOf (fn : FuncId) (a : Act) (ps : Array Tmp) (assign body : Code) (D : Nat) (st : LoopState) : Loop := { state := st, pending := none, fn := fn, tmps := a.tmps, params := ps, assign := assign, body := body, defers := D }
theorem range_go {P : Program} {g : Operand} {ps : Array Tmp} {assign body : Code} {Q : Exit → Act → World → Prop} {a : Act} {w : World} {gf : Nat} {lb : Array Value} (hg : a.eval g = .func (.func gf) #[] lb)
   (eg : ∀ args w, (callFunc gf args).run P w = .ok (.enter gf args) w) (post : World → Prop)
   (hit : ∀ fn, CallsIn Fence.wide 2 P gf (#[.func (.yield (w.heap.size + 1)) #[] #[]] ++ lb) ((w.alloc (.deferred (some []))).alloc (.loop (recOf fn a ps assign body w.heap.size .ready))) fun e W' =>
     (∃ v, e = .returned v) ∧ W'.heap[w.heap.size + 1]? = some (.loop (recOf fn a ps assign body w.heap.size .ready)) ∧ W'.heap[w.heap.size]? = some (.deferred (some [])) ∧ post W')
   (hdone : ∀ W' o, post W' → W'.heap[w.heap.size]? = some (.deferred (some [])) → w.heap.size + 1 < W'.heap.size → Q .normal { a with defers := { target := .collected w.heap.size, args := #[] } :: a.defers } (W'.putObj (w.heap.size + 1) o)) :
   (Code.rangeFunc g ps assign body).wpIn Fence.wide 3 P Q a w := by
 refine wpIn_rangeFunc fun fn hfn => ?_
 refine ⟨w.heap.size + 1, [{ target := .collected w.heap.size, args := #[] }], (w.alloc (.deferred (some []))).alloc (.loop (recOf fn a ps assign body w.heap.size .ready)), { target := .fn (.func gf) lb, args := #[.func (.yield (w.heap.size + 1)) #[] #[]] }, (w.alloc (.deferred (some []))).alloc (.loop (recOf fn a ps assign body w.heap.size .ready)), gf, #[.func (.yield (w.heap.size + 1)) #[] #[]] ++ lb, (w.alloc (.deferred (some []))).alloc (.loop (recOf fn a ps assign body w.heap.size .ready)), ?_, ?_, fun _ _ => trivial, ?_, fun _ => by decide, ?_⟩
 · exact run_enterLoop_outer _ _ _ _ _
 · simp only [resolve, hg]
   simp [go_sem]
 · simp [invoke, go_sem, eg]
 · refine (hit fn).mono ?_
   rintro _ W' ⟨⟨v, rfl⟩, hl, hD, hp⟩
   exact ⟨none, _, run_endLoop hl (by simp [recOf]), hdone _ _ hp hD (lt_blk hl)⟩
theorem round_go {P : Program} {ps : Array Tmp} {assign body : Code} {a : Act} {fn : FuncId} {l D : Nat} {args : Array Value} {W : World} {R : World → Prop} (hl : W.heap[l]? = some (.loop (recOf fn a ps assign body D .ready))) (hs : args.size = ps.size)
   (h : assign.wpIn (Fence.wide.inRound l) 1 P (Exit.then (fun a₁ w₁ => w₁.heap[l]? = some (.loop (recOf fn a ps assign body D .ready)) ∧ body.wpIn (Fence.wide.inRound l) 1 P (fun e _ W3 => e = .normal ∧ W3.heap[l]? = some (.loop (recOf fn a ps assign body D .busy)) ∧ R (W3.putObj l (.loop (recOf fn a ps assign body D .ready)))) a₁ (w₁.putObj l (.loop (recOf fn a ps assign body D .busy)))) (fun _ _ _ => False))
     { tmps := (ps.zip args).foldl (fun t (p, v) => t.setIfInBounds p v) a.tmps, defers := [] } W) :
   YieldAt Fence.wide 1 P l args W fun e W' => e = .returned (.bool true) ∧ R W' := by
 refine ⟨fn, _, assign, body, run_yield (P := P) (args := args) hl hs, roundIn_of_wpIn trivial (wpIn_mono h ?_)⟩
 rintro e a1 w1 he
 cases e with
 | normal =>
   obtain ⟨hl1, hb⟩ := he
   refine ⟨_, run_beginRound hl1 rfl, wpIn_mono hb ?_⟩
   rintro e a3 W3 ⟨rfl, hl3, hR⟩
   exact ⟨_, _, run_endRound (P := P) none hl3, rfl, hR⟩
 | ret => exact he
 | exit id => exact he
 | goto t => exact he
 | panic ch => exact he
 | outgrown => exact he
theorem wpListIn_run {F : Fence} (hF : ∀ f, F.fn f) {n : Nat} {P : Program} {ops : Array Oper} {rest : List Oper} {o : Oper} {a : Act} {Q : Exit → Act → World → Prop} {w : World} (hg : o.guard = none) (hnd : ∀ c, o.op ≠ .defer c) {v : Value} {w' : World}
   (hrun : (execOp a.eval o).run P w = .ok (.value v) w') (hK : wpListIn F n P ops Q rest (a.put o.dst v) w') : wpListIn F n P ops Q (o :: rest) a w := by
 refine wpListIn_plain hg fun K hK' => ?_
 unfold Oper.wpIn
 refine ⟨fun f _ => hF f, ?_⟩
 rw [Oper.semAt_plain _ _ _ hnd, hrun]
 exact hK' _ _ hK
theorem wpListIn_skip' {F : Fence} (hF : ∀ f, F.fn f) {n : Nat} {P : Program} {ops : Array Oper} {rest : List Oper} {o : Oper} {a : Act} {Q : Exit → Act → World → Prop} {w : World} (hg : o.guard = none) (hnd : ∀ c, o.op ≠ .defer c) {w' : World}
   (hrun : (execOp a.eval o).run P w = .ok .skip w') (hK : wpListIn F n P ops Q rest (a.put o.dst undef) w') : wpListIn F n P ops Q (o :: rest) a w := by
 refine wpListIn_plain hg fun K hK' => ?_
 unfold Oper.wpIn
 refine ⟨fun f _ => hF f, ?_⟩
 rw [Oper.semAt_plain _ _ _ hnd, hrun]
 exact hK' _ _ hK
end Go.Proofs.YtfmghbennahlfaaGreat.Rg
namespace Go.Proofs.YtfmghbennahlfaaGreat
open Go.RowKit Go.ChangeShapes Go.WideShapes Go.ChangeAt Go.Shelf Go.Maps
attribute [local go_sem] Oper.semAt_some
set_option linter.unusedVariables false
set_option linter.unusedSimpArgs false
set_option maxRecDepth 100000
def upB (G : Int → Option Int) (top : Int) : Nat → Int → Bool
 | 0, _ => false
 | k + 1, f => match G f with
   | none => false
   | some p => p == top || upB G top k p
def leadB (G : Int → Option Int) (n : Nat) (top f : Int) : Bool := f == top || upB G top n f
def recD (fn : FuncId) (a : Act) (ps : Array Tmp) (assign body : Code) (D : Nat) : Loop := { state := .done, pending := some .ret, fn := fn, tmps := a.tmps, params := ps, assign := assign, body := body, defers := D }
theorem range_ret {P : Program} {g : Operand} {ps : Array Tmp} {assign body : Code} {Q : Exit → Act → World → Prop} {a : Act} {w : World} {gf : Nat} {lb : Array Value} (hg : a.eval g = .func (.func gf) #[] lb)
   (eg : ∀ args w, (callFunc gf args).run P w = .ok (.enter gf args) w) (post postR : World → Prop)
   (hit : ∀ fn, CallsIn Fence.wide 2 P gf (#[.func (.yield (w.heap.size + 1)) #[] #[]] ++ lb) ((w.alloc (.deferred (some []))).alloc (.loop (Rg.recOf fn a ps assign body w.heap.size .ready))) fun e W' =>
     (∃ v, e = .returned v) ∧ W'.heap[w.heap.size]? = some (.deferred (some [])) ∧ ((W'.heap[w.heap.size + 1]? = some (.loop (Rg.recOf fn a ps assign body w.heap.size .ready)) ∧ post W') ∨ (W'.heap[w.heap.size + 1]? = some (.loop (recD fn a ps assign body w.heap.size)) ∧ postR W')))
   (hdone : ∀ W' o, post W' → W'.heap[w.heap.size]? = some (.deferred (some [])) → w.heap.size + 1 < W'.heap.size → Q .normal { a with defers := { target := .collected w.heap.size, args := #[] } :: a.defers } (W'.putObj (w.heap.size + 1) o))
   (hret : ∀ W' o, postR W' → W'.heap[w.heap.size]? = some (.deferred (some [])) → w.heap.size + 1 < W'.heap.size → Q .ret { a with defers := { target := .collected w.heap.size, args := #[] } :: a.defers } (W'.putObj (w.heap.size + 1) o)) :
   (Code.rangeFunc g ps assign body).wpIn Fence.wide 3 P Q a w := by
 refine wpIn_rangeFunc fun fn hfn => ?_
 refine ⟨w.heap.size + 1, [{ target := .collected w.heap.size, args := #[] }], (w.alloc (.deferred (some []))).alloc (.loop (Rg.recOf fn a ps assign body w.heap.size .ready)), { target := .fn (.func gf) lb, args := #[.func (.yield (w.heap.size + 1)) #[] #[]] }, (w.alloc (.deferred (some []))).alloc (.loop (Rg.recOf fn a ps assign body w.heap.size .ready)), gf, #[.func (.yield (w.heap.size + 1)) #[] #[]] ++ lb, (w.alloc (.deferred (some []))).alloc (.loop (Rg.recOf fn a ps assign body w.heap.size .ready)), ?_, ?_, fun _ _ => trivial, ?_, fun _ => by decide, ?_⟩
 · exact run_enterLoop_outer _ _ _ _ _
 · simp only [resolve, hg]
   simp [go_sem]
 · simp [invoke, go_sem, eg]
 · refine (hit fn).mono ?_
   rintro _ W' ⟨⟨v, rfl⟩, hD, ⟨hl, hp⟩ | ⟨hl, hp⟩⟩
   · exact ⟨none, _, run_endLoop hl (by simp [Rg.recOf]), hdone _ _ hp hD (Rg.lt_blk hl)⟩
   · exact ⟨some .ret, _, run_endLoop hl (by simp [recD]), wpIn_ret (hret _ _ hp hD (Rg.lt_blk hl))⟩
theorem round_ret {P : Program} {ps : Array Tmp} {assign body : Code} {a : Act} {fn : FuncId} {l D : Nat} {args : Array Value} {W : World} {R : Bool → World → Prop} (hl : W.heap[l]? = some (.loop (Rg.recOf fn a ps assign body D .ready))) (hs : args.size = ps.size)
   (h : assign.wpIn (Fence.wide.inRound l) 1 P (Exit.then (fun a₁ w₁ => w₁.heap[l]? = some (.loop (Rg.recOf fn a ps assign body D .ready)) ∧ body.wpIn (Fence.wide.inRound l) 1 P (fun e _ W3 => W3.heap[l]? = some (.loop (Rg.recOf fn a ps assign body D .busy)) ∧ ((e = .normal ∧ R true (W3.putObj l (.loop (Rg.recOf fn a ps assign body D .ready)))) ∨ (e = .ret ∧ R false (W3.putObj l (.loop (recD fn a ps assign body D)))))) a₁ (w₁.putObj l (.loop (Rg.recOf fn a ps assign body D .busy)))) (fun _ _ _ => False))
     { tmps := (ps.zip args).foldl (fun t (p, v) => t.setIfInBounds p v) a.tmps, defers := [] } W) :
   YieldAt Fence.wide 1 P l args W fun e W' => ∃ b, e = .returned (.bool b) ∧ R b W' := by
 refine ⟨fn, _, assign, body, run_yield (P := P) (args := args) hl hs, roundIn_of_wpIn trivial (wpIn_mono h ?_)⟩
 rintro e a1 w1 he
 cases e with
 | normal =>
   obtain ⟨hl1, hb⟩ := he
   refine ⟨_, run_beginRound hl1 rfl, wpIn_mono hb ?_⟩
   rintro e a3 W3 ⟨hl3, ⟨rfl, hR⟩ | ⟨rfl, hR⟩⟩
   · exact ⟨_, _, run_endRound (P := P) none hl3, true, rfl, hR⟩
   · exact ⟨_, _, run_endRound (P := P) (some .ret) hl3, false, rfl, hR⟩
 | ret => exact he
 | exit id => exact he
 | goto t => exact he
 | panic ch => exact he
 | outgrown => exact he
def LU (w : World) (pb : Nat) (top cur : Int) (r : Bool) (rec : Obj) (W : World) : Prop :=
 Below w.heap.size w W ∧ W.heap.size = w.heap.size + 6 ∧ W.heap[w.heap.size]? = some (.cells #[.int .u32 top] 35 (0, 0)) ∧ W.heap[w.heap.size + 1]? = some (.cells #[.bool r] 4 (0, 0)) ∧
 W.heap[w.heap.size + 2]? = some (.cells #[.map (some pb)] 280 (0, 0)) ∧ W.heap[w.heap.size + 3]? = some (.cells #[.int .u32 cur] 35 (0, 0)) ∧
 W.heap[w.heap.size + 4]? = some (.deferred (some [])) ∧ W.heap[w.heap.size + 5]? = some rec
theorem LU.cur {w W : World} {pb : Nat} {top cur : Int} {r : Bool} {rec : Obj} (h : LU w pb top cur r rec W) (v : Int) : LU w pb top v r rec (W.setCell ⟨w.heap.size + 3, 0, none⟩ (.int .u32 v)) := by
 obtain ⟨h1, h2, h3, h4, h5, h6, h7, h8⟩ := h
 have o : ∀ k, k ≠ w.heap.size + 3 → (W.setCell ⟨w.heap.size + 3, 0, none⟩ (.int .u32 v)).heap[k]? = W.heap[k]? := fun k hk => heap_setCell_other _ _ _ _ hk
 exact ⟨h1.setCell (p := ⟨w.heap.size + 3, 0, none⟩) (by show w.heap.size ≤ w.heap.size + 3; omega) _, by simpa [World.setCell] using h2, (o _ (by omega)).trans h3, (o _ (by omega)).trans h4, (o _ (by omega)).trans h5, heap_setBox _ h6, (o _ (by omega)).trans h7, (o _ (by omega)).trans h8⟩
theorem LU.rec {w W : World} {pb : Nat} {top cur : Int} {r : Bool} {rec : Obj} (h : LU w pb top cur r rec W) (o : Obj) : LU w pb top cur r o (W.putObj (w.heap.size + 5) o) := by
 obtain ⟨h1, h2, h3, h4, h5, h6, h7, h8⟩ := h
 have q : ∀ k, k ≠ w.heap.size + 5 → (W.putObj (w.heap.size + 5) o).heap[k]? = W.heap[k]? := fun k hk => World.putObj_heap_other hk
 exact ⟨h1.trans ⟨rfl, rfl, rfl, by simp, fun k hk => q k (by omega)⟩, by simpa using h2, (q _ (by omega)).trans h3, (q _ (by omega)).trans h4, (q _ (by omega)).trans h5, (q _ (by omega)).trans h6, (q _ (by omega)).trans h7, World.putObj_heap_same (by omega)⟩
theorem LU.res {w W : World} {pb : Nat} {top cur : Int} {r : Bool} {rec : Obj} (h : LU w pb top cur r rec W) (v : Bool) : LU w pb top cur v rec (W.setCell ⟨w.heap.size + 1, 0, none⟩ (.bool v)) := by
 obtain ⟨h1, h2, h3, h4, h5, h6, h7, h8⟩ := h
 have o : ∀ k, k ≠ w.heap.size + 1 → (W.setCell ⟨w.heap.size + 1, 0, none⟩ (.bool v)).heap[k]? = W.heap[k]? := fun k hk => heap_setCell_other _ _ _ _ hk
 exact ⟨h1.setCell (p := ⟨w.heap.size + 1, 0, none⟩) (by show w.heap.size ≤ w.heap.size + 1; omega) _, by simpa [World.setCell] using h2, (o _ (by omega)).trans h3, heap_setBox _ h4, (o _ (by omega)).trans h5, (o _ (by omega)).trans h6, (o _ (by omega)).trans h7, (o _ (by omega)).trans h8⟩
theorem zeroFd (w : World) : (zeroValue 35).run Tryz.prog w = .ok (fdE.enc 0) w := by
 have h : (Tryz.prog.info? 35).map (fun i => i.zero) = some (some (.int .u32 0)) := by kernel_rfl
 cases hi : Tryz.prog.info? 35 with
 | none => rw [hi] at h; cases h
 | some i => rw [hi] at h; simp at h; simp [zeroValue, typeInfo, hi, h]; rfl
set_option maxHeartbeats 2000000 in
theorem upward1_in (w : World) (pb n : Nat) (G : Int → Option Int) (hF : IsFm fdE w pb n G) (hn : n ≤ 1000) (hG : ∀ g p, G g = some p → 0 ≤ p ∧ p < 4294967296) (top f0 : Int) (h0 : 0 ≤ f0) (h1 : f0 < 4294967296) (Rr Rd : Obj)
   (hY : ∀ cur g W, LU w pb top cur false Rr W → YieldAt Fence.wide 1 Tryz.prog (w.heap.size + 5) #[.int .u32 g] W fun e W' => ∃ b, e = .returned (.bool b) ∧ b = !(g == top) ∧ LU w pb top cur (!b) (bif b then Rr else Rd) W')
   (W : World) (hW : LU w pb top f0 false Rr W) :
   CallsIn Fence.wide 2 Tryz.prog 301 #[.func (.yield (w.heap.size + 5)) #[] #[], .pointer (some ⟨w.heap.size + 3, 0, none⟩), .pointer (some ⟨w.heap.size + 2, 0, none⟩)] W fun e W' => (∃ v, e = .returned v) ∧ ∃ cur, LU w pb top cur (leadB G n top f0) (bif leadB G n top f0 then Rd else Rr) W' := by
 have HF := hid hF
 have HG := hid hG
 have HY := hid hY
 clear hF hG hY
 refine callsIn_of_wp Tryz.func301 rfl trivial ?_ rfl
 simp only [Tryz.ntmps301, List.size_toArray, List.length_cons, List.length_nil, Nat.reduceAdd, Nat.reduceSub, Array.replicate_succ, Array.replicate_zero, List.push_toArray, List.append_toArray, List.nil_append, List.cons_append]
 have c3 := cell_box hW.2.2.2.2.2.1
 obtain ⟨fn, tmps, assign, body, hy, hR⟩ := HY.out f0 f0 W hW
 have HR := hid hR
 clear hR
 obtain ⟨LB, hLB⟩ : ∃ LB, LB = leadB G n top f0 := ⟨_, rfl⟩
 rw [← hLB]
 unfold leadB at hLB
 gi_wp2_with fail
 refine HR.out.mono ?_
 rintro _ W1 ⟨b, rfl, hb, hL1⟩
 cases q : (f0 == top) with
 | true =>
   rw [q] at hb hLB
   have eLB : LB = true := hLB
   subst eLB
   simp only [Bool.not_true] at hb
   subst hb
   have HL1 := hid hL1
   clear hLB hL1 hW q h0 h1 hn
   gi_wp2
   first
     | exact body_end (by kernel_rfl) rfl ⟨⟨_, rfl⟩, f0, HL1.out⟩
     | (refine bodyPost_ret (results_none (by kernel_rfl) _ _ _) rfl ?_; exact ⟨⟨_, rfl⟩, f0, HL1.out⟩)
     | (go_end0; exact ⟨⟨_, rfl⟩, f0, HL1.out⟩)
 | false =>
   rw [q] at hb hLB
   simp only [Bool.not_false, Bool.false_or] at hb hLB
   subst hb
   simp only [cond_true, Bool.not_true] at hL1
   have c2 := cell_box hL1.2.2.2.2.1
   have LN := (HF.out.out (Ou.of (S := fun _ => False) hL1.1) (fun e => e)).len ht_par 3
   have HLB := hid hLB
   have HL1 := hid hL1
   have B0 := hid (show 0 ≤ f0 ∧ f0 < 4294967296 from ⟨h0, h1⟩)
   have HN := hid hn
   clear hLB hW hL1 h0 h1 hn q
   gi_wp2
   gi_loopw [12] (fun v wr => ∃ (m : Nat) (cur : Int), m ≤ n ∧ v = .int .i64 m ∧ Hid (0 ≤ cur ∧ cur < 4294967296) ∧ Hid (LU w pb top cur false Rr wr) ∧ Hid (LB = upB G top (n - m) cur)) (fun v _ => n - (intOf v).toNat)
   case atStart => exact ⟨0, f0, by omega, rfl, B0, HL1, HLB⟩
   case round =>
     clear HL1 HLB B0
     obtain ⟨m, cur, hm, rfl, HBD, HL, HE⟩ := hrel
     by_cases hlt : m < n
     · have hltI : (m : Int) < n := by omega
       obtain ⟨k, hk⟩ : ∃ k, n - m = k + 1 := ⟨n - m - 1, by omega⟩
       have hk2 : n - (m + 1) = k := by omega
       rw [hk] at HE
       unfold upB at HE
       have d2 := cell_box HL.out.2.2.2.2.1
       have d3 := cell_box HL.out.2.2.2.2.2.1
       have LK := (HF.out.out (Ou.of (S := fun _ => False) HL.out.1) (fun e => e)).lookOk ht_par zeroFd HBD.out.1 HBD.out.2
       cases hg : G cur with
       | none =>
         rw [hg] at LK HE
         rw [show fdE.enc ((none : Option Int).getD 0) = .int .u32 0 from rfl, show (none : Option Int).isSome = false from rfl] at LK
         have eLB := HE.out
         simp only at eLB
         subst eLB
         clear HE hk hk2 c2 LN
         gi_wp2
         refine ⟨fun _ h => (by cases h), ?_⟩
         gi_wp2
         first
           | exact body_end (by kernel_rfl) rfl ⟨⟨_, rfl⟩, cur, HL.out⟩
           | (refine bodyPost_ret (results_none (by kernel_rfl) _ _ _) rfl ?_; exact ⟨⟨_, rfl⟩, cur, HL.out⟩)
           | (go_end0; exact ⟨⟨_, rfl⟩, cur, HL.out⟩)
       | some p =>
         have hp := hid (HG.out cur p hg)
         rw [hg] at LK HE
         rw [show fdE.enc ((some p : Option Int).getD 0) = .int .u32 p from rfl, show (some p : Option Int).isSome = true from rfl] at LK
         obtain ⟨fn2, tmps2, assign2, body2, hy2, hR2⟩ := HY.out cur p wr HL.out
         have HR2 := hid hR2
         simp only at HE
         clear hR2 hk c2 LN hy c3
         gi_wp2_with fail
         refine HR2.out.mono ?_
         rintro _ W3 ⟨b, rfl, hb, hL3⟩
         cases q : (p == top) with
         | true =>
           rw [q] at hb HE
           have eLB : LB = true := HE.out
           subst eLB
           simp only [Bool.not_true] at hb
           subst hb
           have HL1 := hid hL3
           clear HE hL3 q hk2 hy2
           gi_wp2
           first
             | exact body_end (by kernel_rfl) rfl ⟨⟨_, rfl⟩, cur, HL1.out⟩
             | (refine bodyPost_ret (results_none (by kernel_rfl) _ _ _) rfl ?_; exact ⟨⟨_, rfl⟩, cur, HL1.out⟩)
             | (go_end0; exact ⟨⟨_, rfl⟩, cur, HL1.out⟩)
         | false =>
           rw [q] at hb HE
           simp only [Bool.not_false, Bool.false_or] at hb HE
           subst hb
           simp only [cond_true, Bool.not_true] at hL3
           have e3 := cell_box hL3.2.2.2.2.2.1
           have f3 := frozen_box hL3.2.2.2.2.2.1
           have HL3 := hid (hL3.cur p)
           have HE3 : Hid (LB = upB G top (n - (m + 1)) p) := hid (by rw [hk2]; exact HE.out)
           clear hL3 q HE hk2 hy2
           gi_wp2
           have hn9 := HN.out
           have hw9 : wrap64 ((m : Int) + 1) = ((m + 1 : Nat) : Int) := by unfold wrap64; omega
           go_roundw
           case rel => exact ⟨m + 1, p, by omega, by rw [hw9], hp, HL3, HE3⟩
           case measure => rw [hw9]; simp [intOf]; omega
     · have hge : ¬ (m : Int) < n := by omega
       have eLB : LB = false := by have := HE.out; rw [show n - m = 0 by omega] at this; exact this
       subst eLB
       clear HE
       gi_wp2
       first
         | exact body_end (by kernel_rfl) rfl ⟨⟨_, rfl⟩, cur, HL.out⟩
         | (refine bodyPost_ret (results_none (by kernel_rfl) _ _ _) rfl ?_; exact ⟨⟨_, rfl⟩, cur, HL.out⟩)
         | (go_end0; exact ⟨⟨_, rfl⟩, cur, HL.out⟩)
end Go.Proofs.YtfmghbennahlfaaGreat
