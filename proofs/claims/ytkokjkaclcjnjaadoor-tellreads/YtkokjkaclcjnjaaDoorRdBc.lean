/-
  The document's Get and above (backwaterref06).
  The document's tree: Get, kid, dir, Look, what they answer to the letter.
  The document's tree: without, set: lists of nodes that are made anew.
  The document's tree: enter: a directory with an entry more, or less.
  The document's tree: dir, Look, less.
  The document's tree: copied: nodes whose lists are their own.
-/
import Derived.Test.YtkokjkaclcjnjaaDoorRdAo
import Derived.BigQuiet
namespace Go.Proofs.YtkokjkaclcjnjaaDoor
open Go.RowKit Go.ChangeShapes Go.WideShapes Go.ChangeAt Go.Maps
set_option linter.unusedVariables false
set_option linter.unusedSimpArgs false
set_option maxRecDepth 100000
def hasTo (l : List Nd) (f : Int) : Nat → Bool
 | 0 => false
 | m + 1 => hasTo l f m || (l.getD m Nd.no).fid == f
def hasF (l : List Nd) (f : Int) : Bool := hasTo l f l.length
theorem has_yes (l : List Nd) (f : Int) (m : Nat) (h : ((l.getD m Nd.no).fid == f) = true) : ∀ d, hasTo l f (m + 1 + d) = true
 | 0 => by simp only [Nat.add_zero, hasTo, h, Bool.or_true]
 | d + 1 => by rw [← Nat.add_assoc]; simp only [hasTo, has_yes l f m h d, Bool.true_or]
theorem hasF_yes {l : List Nd} {f : Int} {m : Nat} (hm : m < l.length) (h : ((l.getD m Nd.no).fid == f) = true) : hasF l f = true := by
 unfold hasF
 obtain ⟨d, hd⟩ : ∃ d, l.length = m + 1 + d := ⟨l.length - (m + 1), by omega⟩
 rw [hd]; exact has_yes l f m h d
set_option maxHeartbeats 2000000 in
theorem get_c (a : Option Addr) (cap : Nat) (l : List Nd) (f : Int) (w : World) (h : IsNs w a l) (hm : l.length ≤ 100000) :
   Calls Tryd.prog 66 #[.slice a l.length cap, .int .u32 f] w fun e w' => (∃ y : Nd, e = .returned (.tuple #[y.val, .bool (hasF l f)])) ∧ Below w.heap.size w w' := by
 have b0 := below_1 w (.cells Nd.no.cells.toArray 35)
 have h0 := heap_alloc_new w (.cells Nd.no.cells.toArray 35)
 have H := hid (h.later b0)
 have B0 := hid b0
 have H0 := hid h0
 obtain ⟨n, hn⟩ : ∃ n, n = l.length := ⟨_, rfl⟩
 have HN := hid hn
 obtain ⟨R, hR⟩ : ∃ R, R = hasF l f := ⟨_, rfl⟩
 have HR := hid hR
 rw [← hR]
 rw [← hn] at hm ⊢
 clear h b0 h0 hn hR
 go_enter Tryd.func66, Tryd.ntmps66
 go_upto_region 1 with fail
 change Code.wp _ _ _ _ (w.alloc (.cells Nd.no.cells.toArray 35))
 generalize (w.alloc (.cells Nd.no.cells.toArray 35)) = V at *
 have fz : ∀ i, V.frozen? ⟨w.heap.size, i, none⟩ = false := fun i => by simp [World.frozen?, H0.out]
 obtain ⟨q0, q1, q2, q3, q4, q5⟩ := nd_cells H0.out
 simp only [Nd.no, List.length_nil] at q0 q1 q2 q3 q4 q5
 go_wp2
 go_loopg [6] n (fun gk i wr => ∃ m : Nat, m + gk = n ∧ i = .int .i64 m ∧ Hid (wr = V) ∧ Hid (hasTo l f m = false))
 case atStart => exact ⟨0, by omega, rfl, hid rfl, hid rfl⟩
 case round =>
   obtain ⟨m, hm2, rfl, HW, HF⟩ := hrel
   have hwr := HW.out
   subst hwr
   by_cases hlt : m < n
   · have hltI : (m : Int) < n := by omega
     have h1 : m < l.length := by rw [← HN.out]; exact hlt
     obtain ⟨b, off, rfl, _⟩ := H.out.2.2 (by omega)
     obtain ⟨y0, y1, y2, y3, y4, y5⟩ := (H.out.at (i := m) h1).all
     have YES := hid (hasF_yes (f := f) h1)
     have NX : Hid (((l.getD m Nd.no).fid == f) = false → hasTo l f (m + 1) = false) := hid (fun h => by simp only [hasTo, HF.out, h, Bool.or_self])
     clear h1
     generalize l.getD m Nd.no = x at *
     by_cases q : x.fid = f
     · have qB : (x.fid == f) = true := by rw [q]; simp
       have ET : Hid (R = true) := hid (by rw [HR.out]; exact YES.out qB)
       clear YES NX HF
       go_wp2
       refine bodyPost_ret (v := .tuple #[x.val, .bool true]) (by simp [results, Tryd.results66, go_sem, Nd.val, q0, q1, q2, q3, q4, q5, q]) rfl ⟨⟨x, by rw [ET.out]⟩, ?_⟩
       exact (((((B0.out.setCell (p := ⟨w.heap.size, 0, none⟩) (Nat.le_refl _) _).setCell (p := ⟨w.heap.size, 1, none⟩) (Nat.le_refl _) _).setCell (p := ⟨w.heap.size, 2, none⟩) (Nat.le_refl _) _).setCell (p := ⟨w.heap.size, 3, none⟩) (Nat.le_refl _) _).setCell (p := ⟨w.heap.size, 4, none⟩) (Nat.le_refl _) _).setCell (p := ⟨w.heap.size, 5, none⟩) (Nat.le_refl _) _
     · have qB : (x.fid == f) = false := beq_eq_false_iff_ne.2 q
       have EX := hid (NX.out qB)
       clear YES NX HF
       go_wp2
       go_roundg (gk - 1)
       case measure => omega
       case rel => exact ⟨m + 1, by omega, by go_num, hid rfl, EX⟩
   · have hge : ¬ (m : Int) < n := by omega
     have EF : Hid (R = false) := hid (by rw [HR.out]; unfold hasF; rw [← HN.out, show n = m by omega]; exact HF.out)
     go_wp2
     refine bodyPost_ret (v := .tuple #[Nd.no.val, .bool false]) (by simp [results, Tryd.results66, go_sem, Nd.val, Nd.no, q0, q1, q2, q3, q4, q5]) rfl ⟨⟨Nd.no, by rw [EF.out]⟩, ?_⟩
     exact (((((B0.out.setCell (p := ⟨w.heap.size, 0, none⟩) (Nat.le_refl _) _).setCell (p := ⟨w.heap.size, 1, none⟩) (Nat.le_refl _) _).setCell (p := ⟨w.heap.size, 2, none⟩) (Nat.le_refl _) _).setCell (p := ⟨w.heap.size, 3, none⟩) (Nat.le_refl _) _).setCell (p := ⟨w.heap.size, 4, none⟩) (Nat.le_refl _) _).setCell (p := ⟨w.heap.size, 5, none⟩) (Nat.le_refl _) _
def upM (x : Nd) (f acc : Int) : Nat → Int
 | 0 => acc
 | m + 1 => bif (x.ks.getD m Kd.no).fid == f then x.fid else upM x f acc m
def upK (l : List Nd) (f : Int) : Nat → Int
 | 0 => 0
 | k + 1 => upM (l.getD k Nd.no) f (upK l f k) (l.getD k Nd.no).ks.length
def upD (l : List Nd) (f : Int) : Int := upK l f l.length
def abN (l : List Nd) (f : Int) : Nat → Int → Bool
 | 0, _ => false
 | n + 1, at' => bif at' == f then true else bif upD l at' == 0 then false else abN l f n (upD l at')
set_option maxHeartbeats 4000000 in
theorem above_c (a : Option Addr) (cap : Nat) (l : List Nd) (f o : Int) (w : World) (h : IsNs w a l) (hm : l.length ≤ 100000) (hk : ∀ x ∈ l, x.ks.length ≤ 100000) :
   Calls Tryd.prog 67 #[.slice a l.length cap, .int .u32 f, .int .u32 o] w fun e w' => e = .returned (.bool (abN l f (l.length + 1) o)) ∧ w' = w := by
 have H := hid h
 have HK := hid hk
 obtain ⟨R, hR⟩ : ∃ R, R = abN l f (l.length + 1) o := ⟨_, rfl⟩
 rw [← hR]
 have UD : Hid (∀ v, upD l v = upK l v l.length) := hid (fun v => rfl)
 obtain ⟨n, hn⟩ : ∃ n, n = l.length := ⟨_, rfl⟩
 have HN := hid hn
 rw [← hn] at hm hR UD ⊢
 have HR := hid hR
 clear h hk hn hR
 go_enter Tryd.func67, Tryd.ntmps67
 go_wp2
 go_loopg [7, 8] (n + 1) (fun gk v7 v8 wr => ∃ (i : Nat) (t : Int), i + gk = n + 1 ∧ v7 = .int .u32 t ∧ v8 = .int .i64 i ∧ Hid (wr = w) ∧ Hid (R = abN l f gk t))
 case atStart => exact ⟨0, o, by omega, rfl, rfl, hid rfl, HR⟩
 case round =>
   clear HR
   obtain ⟨i, t, hi, rfl, rfl, HW, HA⟩ := hrel
   have hwr := HW.out.symm
   subst hwr
   by_cases hlt : i ≤ n
   · have hltI : (i : Int) ≤ n := by omega
     obtain ⟨g1, rfl⟩ : ∃ g1, gk = g1 + 1 := ⟨gk - 1, by omega⟩
     have EA : Hid (R = bif t == f then true else bif upD l t == 0 then false else abN l f g1 (upD l t)) := hid HA.out
     clear HA
     by_cases q : t = f
     · have qB : (t == f) = true := by rw [q]; simp
       have EF : Hid (R = true) := hid (by rw [EA.out, qB]; rfl)
       clear EA
       go_wp2
       go_ret
       exact ⟨ret_bool' EF.out.symm, rfl⟩
     · have qB : (t == f) = false := beq_eq_false_iff_ne.2 q
       have EA2 : Hid (R = bif upD l t == 0 then false else abN l f g1 (upD l t)) := hid (by rw [EA.out, qB]; rfl)
       clear EA q
       go_wp2
       obtain ⟨go, hgo⟩ : ∃ go, go = g1 := ⟨_, rfl⟩
       subst hgo
       go_loopg [9, 10] n (fun gk v9 v10 wr => ∃ k : Nat, k + gk = n ∧ v9 = .int .u32 (upK l t k) ∧ v10 = .int .i64 k ∧ Hid (wr = w))
       case atStart => exact ⟨0, by omega, rfl, rfl, hid rfl⟩
       case round =>
         obtain ⟨k, hk2, rfl, rfl, HW2⟩ := hrel
         have hwr := HW2.out.symm
         subst hwr
         by_cases hlt2 : k < n
         · have hltI2 : (k : Int) < n := by omega
           have hln : k < l.length := by rw [← HN.out]; exact hlt2
           obtain ⟨b, off, rfl, _⟩ := H.out.2.2 (by omega)
           obtain ⟨y0, _, _, _, _, y5⟩ := (H.out.at (i := k) hln).all
           have HO := hid (H.out.ok (i := k) hln)
           have h12 := HK.out _ (getD_mem l Nd.no hln)
           have UK : Hid (upK l t (k + 1) = upM (l.getD k Nd.no) t (upK l t k) (l.getD k Nd.no).ks.length) := hid rfl
           clear hln
           generalize l.getD k Nd.no = x at *
           obtain ⟨fid, kk, md, ln, da, dc, zs, ka, kc, ks⟩ := x
           simp only at *
           obtain ⟨u0, hu0⟩ : ∃ u0, u0 = upK l t k := ⟨_, rfl⟩
           rw [← hu0] at UK ⊢
           clear hu0
           obtain ⟨nk, hnk⟩ : ∃ nk, nk = ks.length := ⟨_, rfl⟩
           rw [← hnk] at y5 h12 UK
           have HNK := hid hnk
           clear hnk
           go_wp2
           obtain ⟨gp, hgp⟩ : ∃ gp, gp = gk := ⟨_, rfl⟩
           subst hgp
           go_loopg [9, 11] nk (fun gk v9 v11 wr => ∃ j : Nat, j + gk = nk ∧ v9 = .int .u32 (upM ⟨fid, kk, md, ln, da, dc, zs, ka, kc, ks⟩ t u0 j) ∧ v11 = .int .i64 j ∧ Hid (wr = w))
           case atStart => exact ⟨0, by omega, rfl, rfl, hid rfl⟩
           case round =>
             obtain ⟨j, hj2, rfl, rfl, HW3⟩ := hrel
             have hwr := HW3.out.symm
             subst hwr
             by_cases hlt3 : j < nk
             · have hltI3 : (j : Int) < nk := by omega
               have hjk : j < ks.length := by rw [← HNK.out]; exact hlt3
               have hKs := HO.out.2.2.2.2.2
               obtain ⟨b1, off1, rfl, _⟩ := hKs.2.2 (by simp only; omega)
               obtain ⟨k0, k1⟩ := hKs.at (i := j) hjk
               simp only at k0 k1
               have UM : Hid (upM ⟨fid, kk, md, ln, da, dc, zs, some ⟨b1, off1, none⟩, kc, ks⟩ t u0 (j + 1) = bif (ks.getD j Kd.no).fid == t then fid else upM ⟨fid, kk, md, ln, da, dc, zs, some ⟨b1, off1, none⟩, kc, ks⟩ t u0 j) := hid rfl
               obtain ⟨u1, hu1⟩ : ∃ u1, u1 = upM ⟨fid, kk, md, ln, da, dc, zs, some ⟨b1, off1, none⟩, kc, ks⟩ t u0 j := ⟨_, rfl⟩
               rw [← hu1] at UM ⊢
               clear hu1 hKs hjk
               generalize ks.getD j Kd.no = y at *
               by_cases qy : y.fid = t
               · have qyB : (y.fid == t) = true := by rw [qy]; simp
                 have EU := hid (by have := UM.out; rw [qyB] at this; exact this)
                 clear UM qy
                 go_wp2
                 go_roundg (gk - 1)
                 case measure => omega
                 case rel => exact ⟨j + 1, by omega, by rw [EU.out]; rfl, by go_num, hid rfl⟩
               · have qyB : (y.fid == t) = false := beq_eq_false_iff_ne.2 qy
                 have EU := hid (by have := UM.out; rw [qyB] at this; exact this)
                 clear UM qy
                 go_wp2
                 go_roundg (gk - 1)
                 case measure => omega
                 case rel => exact ⟨j + 1, by omega, by rw [EU.out]; rfl, by go_num, hid rfl⟩
             · have hge3 : ¬ (j : Int) < nk := by omega
               obtain rfl : j = nk := by omega
               go_wp2
               go_roundg (gp - 1)
               case measure => omega
               case rel => exact ⟨k + 1, by omega, by rw [UK.out], by go_num, hid rfl⟩
         · have hge2 : ¬ (k : Int) < n := by omega
           obtain rfl : k = n := by omega
           have EA3 : Hid (R = bif upK l t k == 0 then false else abN l f go (upK l t k)) := hid (by rw [EA2.out, UD.out])
           clear EA2 UD
           generalize upK l t k = u at *
           by_cases q0 : u = 0
           · have q0B : (u == 0) = true := by rw [q0]; rfl
             have EF : Hid (R = false) := hid (by rw [EA3.out, q0B]; rfl)
             clear EA3
             go_wp2
             go_ret
             exact ⟨ret_bool' EF.out.symm, rfl⟩
           · have q0B : (u == 0) = false := beq_eq_false_iff_ne.2 q0
             have EF : Hid (R = abN l f go u) := hid (by rw [EA3.out, q0B]; rfl)
             clear EA3
             go_wp2
             go_roundg go
             case measure => omega
             case rel => exact ⟨i + 1, u, by omega, rfl, by go_num, hid rfl, EF⟩
   · have hge : ¬ (i : Int) ≤ n := by omega
     obtain rfl : gk = 0 := by omega
     have EF : Hid (R = false) := HA
     go_wp2
     go_ret
     exact ⟨ret_bool' EF.out.symm, rfl⟩
end Go.Proofs.YtkokjkaclcjnjaaDoor
namespace Go.Proofs.YtkokjkaclcjnjaaDoor
open Go.RowKit Go.ChangeShapes Go.WideShapes Go.ChangeAt Go.Maps Go.Shelf
set_option linter.unusedVariables false
set_option linter.unusedSimpArgs false
set_option maxRecDepth 100000
def getF (l : List Nd) (f : Int) : Option Nd := l.find? (fun x => x.fid == f)
theorem getF_mem {l : List Nd} {f : Int} {x : Nd} (h : getF l f = some x) : x ∈ l ∧ x.fid = f := by
 unfold getF at h
 exact ⟨List.mem_of_find?_eq_some h, by simpa using List.find?_some h⟩
def kidI (l : List Kd) (s : ByteArray) : Int := match l.find? (fun k => decide (k.nm = s)) with
 | some k => k.fid
 | none => 0
def OwN (w : World) (base : Nat) (v : Value) (L : List Nd) : Prop := w.ownsRow base 35 6 v L.length (ncells L)
theorem OwN.nil (w : World) (base : Nat) : OwN w base (.slice none 0 0) [] := World.ownsRow_nil _ _ _ _
theorem OwN.later {w w' : World} {base : Nat} {v : Value} {L : List Nd} (h : OwN w base v L) (hb : Below w.heap.size w w') : OwN w' base v L := own_latR h hb
theorem OwN.shape {w : World} {base : Nat} {v : Value} {L : List Nd} (h : OwN w base v L) : ∃ a cap, v = .slice a L.length cap := by
 rcases h.2 with ⟨hv, hn⟩ | ⟨g, cap, cur, hv, hrest⟩
 · exact ⟨none, 0, by rw [hv, hn]⟩
 · exact ⟨_, _, hv⟩
theorem OwN.is {w : World} {base : Nat} {v : Value} {L : List Nd} (h : OwN w base v L) (hk : ∀ x ∈ L, x.Ok w) (hm : L.length ≤ 100000) : ∃ a cap, v = .slice a L.length cap ∧ IsNs w a L := by
 rcases h.2 with ⟨hv, hn⟩ | ⟨g, cap, cur, hv, hrest⟩
 · have e : L = [] := List.eq_nil_of_length_eq_zero hn
   subst e
   exact ⟨none, 0, hv, ⟨Nat.zero_le _, (fun x hx => by cases hx), fun hp => absurd hp (by simp)⟩⟩
 · refine ⟨_, _, hv, ⟨by unfold maxLen; omega, hk, fun hp => ⟨g, 0, rfl, fun i hi => ?_⟩⟩⟩
   intro j u hu
   have hj : j < 6 := by
     have := (List.getElem?_eq_some_iff.1 hu).1
     simpa [Nd.cells] using this
   have e := h.cells (g := g) (by rw [hv]; rfl) (i * 6 + j) u (by rw [ncells_get L i j hi hj]; exact hu)
   rw [← e]
   congr 1
   unfold Addr.add
   split
   · rename_i q; simp [q]
   · simp
theorem below_grownN {B : Nat} {a w w' : World} {base : Nat} {v : Value} {L : List Nd} (h : Below B a w) (hown : OwN w base v L) (hB : B ≤ base) (hBw : B ≤ w.heap.size) (hg : w.grownBy w' v.ownBlock) : Below B a w' := by
 refine ⟨hg.os.trans h.os, hg.tape.trans h.tape, hg.output.trans h.output, Nat.le_trans h.size hg.size, fun k hk => ?_⟩
 rw [hg.block k (by omega) ?_]
 · exact h.block k hk
 · intro e
   rcases hown.2 with ⟨hv, hn⟩ | ⟨g, cap, cur, hv, hb, hrest⟩
   · rw [hv] at e; cases e
   · rw [hv] at e
     cases e
     have hb' : base ≤ g := hb
     have hk' : g < B := hk
     omega
theorem wpList_appNd (w : World) {ops : Array Oper} {rest : List Oper} {o : Oper} {a : Act} {Q : Exit → Act → World → Prop} (hgd : o.guard = none) (s x : Operand)
   (ho : o.op = .call { callee := .builtin .append, args := #[s, x], argTypes := #[38, 38] }) (base : Nat) (v : Value) (L : List Nd) (hs : a.eval s = v) (hown : OwN w base v L)
   (g : Nat) (fr : Nat × Nat) (y : Nd) (hx : a.eval x = .slice (some ⟨g, 0, none⟩) 1 1) (hb : w.heap[g]? = some (.cells y.cells.toArray 35 fr)) (h63 : L.length ≤ 10000) (hbase : base ≤ w.heap.size)
   (h : ∀ v' w', OwN w' base v' (L ++ [y]) → w.grownBy w' v.ownBlock → wpList Tryd.prog ops Q rest (a.put o.dst v') w') : wpList Tryd.prog ops Q (o :: rest) a w := by
 obtain ⟨i0, hi, hz0, hz1, hz2⟩ := info_nd
 refine wpList_append_own w hgd s x 38 ho base 35 i0 Nd.no.val 6 64 Tryd.underlying38 hi hz0 hz1 hz2 (by rfl) (by decide) v L.length (ncells L) hs hown ⟨g, 0, none⟩ 1 1 y.cells hx rfl (nd_news hb) (nd_one y) (by unfold maxLen; omega) (by omega) hbase ?_
 intro v' w' h1 h2 h3
 refine h v' w' ?_ h2
 unfold OwN
 rw [ncells_snoc, List.length_append]
 exact h1
def outL (l : List Nd) (f : Int) : List Nd := l.filter (fun x => x.fid != f)
def setS (n : Nd) (p : List Nd × Bool) (x : Nd) : List Nd × Bool :=
 ((if !p.2 && decide (n.fid ≤ x.fid) then p.1 ++ [n] else p.1) ++ (if x.fid != n.fid then [x] else []), p.2 || decide (n.fid ≤ x.fid))
def setL (l : List Nd) (n : Nd) : List Nd := if (l.foldl (setS n) ([], false)).2 then (l.foldl (setS n) ([], false)).1 else (l.foldl (setS n) ([], false)).1 ++ [n]
def OwK (w : World) (base : Nat) (v : Value) (L : List Kd) : Prop := w.ownsRow base 71 2 v L.length (kcells L)
theorem OwK.nil (w : World) (base : Nat) : OwK w base (.slice none 0 0) [] := World.ownsRow_nil _ _ _ _
theorem OwK.later {w w' : World} {base : Nat} {v : Value} {L : List Kd} (h : OwK w base v L) (hb : Below w.heap.size w w') : OwK w' base v L := own_latR h hb
theorem OwK.shape {w : World} {base : Nat} {v : Value} {L : List Kd} (h : OwK w base v L) : ∃ a cap, v = .slice a L.length cap := by
 rcases h.2 with ⟨hv, hn⟩ | ⟨g, cap, cur, hv, hrest⟩
 · exact ⟨none, 0, by rw [hv, hn]⟩
 · exact ⟨_, _, hv⟩
theorem below_grownK {B : Nat} {a w w' : World} {base : Nat} {v : Value} {L : List Kd} (h : Below B a w) (hown : OwK w base v L) (hB : B ≤ base) (hBw : B ≤ w.heap.size) (hg : w.grownBy w' v.ownBlock) : Below B a w' := by
 refine ⟨hg.os.trans h.os, hg.tape.trans h.tape, hg.output.trans h.output, Nat.le_trans h.size hg.size, fun k hk => ?_⟩
 rw [hg.block k (by omega) ?_]
 · exact h.block k hk
 · intro e
   rcases hown.2 with ⟨hv, hn⟩ | ⟨g, cap, cur, hv, hb, hrest⟩
   · rw [hv] at e; cases e
   · rw [hv] at e
     cases e
     have hb' : base ≤ g := hb
     have hk' : g < B := hk
     omega
theorem wpList_appKd (w : World) {ops : Array Oper} {rest : List Oper} {o : Oper} {a : Act} {Q : Exit → Act → World → Prop} (hgd : o.guard = none) (s x : Operand)
   (ho : o.op = .call { callee := .builtin .append, args := #[s, x], argTypes := #[33, 33] }) (base : Nat) (v : Value) (L : List Kd) (hs : a.eval s = v) (hown : OwK w base v L)
   (g : Nat) (fr : Nat × Nat) (y : Kd) (hx : a.eval x = .slice (some ⟨g, 0, none⟩) 1 1) (hb : w.heap[g]? = some (.cells y.cells.toArray 71 fr)) (h63 : L.length ≤ 10000) (hbase : base ≤ w.heap.size)
   (h : ∀ v' w', OwK w' base v' (L ++ [y]) → w.grownBy w' v.ownBlock → wpList Tryd.prog ops Q rest (a.put o.dst v') w') : wpList Tryd.prog ops Q (o :: rest) a w := by
 obtain ⟨i0, hi, hz0, hz1, hz2⟩ := info_kid
 refine wpList_append_own w hgd s x 33 ho base 71 i0 Kd.no.val 2 24 Tryd.underlying33 hi hz0 hz1 hz2 (by rfl) (by decide) v L.length (kcells L) hs hown ⟨g, 0, none⟩ 1 1 y.cells hx rfl (kid_news hb) (kid_one y) (by unfold maxLen; omega) (by omega) hbase ?_
 intro v' w' h1 h2 h3
 refine h v' w' ?_ h2
 unfold OwK
 rw [kcells_snoc, List.length_append]
 exact h1
def entS (s : ByteArray) (f : Int) (p : List Kd × Bool) (x : Kd) : List Kd × Bool :=
 ((if !p.2 && leS s x.nm then p.1 ++ [⟨s, f⟩] else p.1) ++ (if decide (x.nm ≠ s) then [x] else []), p.2 || leS s x.nm)
def entL (l : List Kd) (s : ByteArray) (f : Int) : List Kd := if (l.foldl (entS s f) ([], f == 0)).2 then (l.foldl (entS s f) ([], f == 0)).1 else (l.foldl (entS s f) ([], f == 0)).1 ++ [⟨s, f⟩]
def Nd.kids (x : Nd) (ka : Option Addr) (kc : Nat) (ks : List Kd) : Nd := ⟨x.fid, x.k, x.md, x.ln, x.da, x.dc, x.zs, ka, kc, ks⟩
def dirE (o : Option Nd) : Int := match o with
 | none => 5
 | some x => if x.k = 2 then 0 else 7
def dirN (o : Option Nd) : Nd := match o with
 | none => Nd.no
 | some x => if x.k = 2 then x else Nd.no
def lookI (o : Option Nd) (s : ByteArray) : Int := match o with
 | none => 0
 | some x => if x.k = 2 then kidI x.ks s else 0
def lookE (o : Option Nd) (s : ByteArray) : Int := match o with
 | none => 5
 | some x => if x.k = 2 then (if kidI x.ks s = 0 then 5 else 0) else 7
def lessL (l : List Nd) (x : Nd) : List Nd := if x.ln = 1 then outL l x.fid else setL l ⟨x.fid, x.k, x.md, x.ln - 1, x.da, x.dc, x.zs, x.ka, x.kc, x.ks⟩
def Nd.Nil (x : Nd) : Prop := (x.da = none → x.dc = 0) ∧ (x.ka = none → x.kc = 0)
theorem RowAt.lowR {w : World} {base b : Nat} {t : TypeId} {p : Option Addr} {vs : List Value} (h : RowAt w base t p vs) (hb : b ≤ base) : RowAt w b t p vs := by
 rcases h with h | ⟨g, cs, fr, h1, h2, h3, h4⟩
 · exact .inl h
 · exact .inr ⟨g, cs, fr, h1, by omega, h3, h4⟩
end Go.Proofs.YtkokjkaclcjnjaaDoor
