/-
  The document's tree: without, set: lists of nodes that are made anew.
-/
import Derived.Test.YtkokjkaclcjnjaaGreatDoorPtAm
namespace Go.Proofs.YtkokjkaclcjnjaaGreatDoor
open Go.RowKit Go.ChangeShapes Go.WideShapes Go.ChangeAt Go.Maps Go.Shelf
set_option linter.unusedVariables false
set_option linter.unusedSimpArgs false
set_option maxRecDepth 100000
def OwN (w : World) (base : Nat) (v : Value) (L : List Nd) : Prop := w.ownsRow base 37 6 v L.length (ncells L)
theorem OwN.nil (w : World) (base : Nat) : OwN w base (.slice none 0 0) [] := World.ownsRow_nil _ _ _ _
theorem OwN.later {w w' : World} {base : Nat} {v : Value} {L : List Nd} (h : OwN w base v L) (hb : Below w.heap.size w w') : OwN w' base v L := own_latR h hb
theorem OwN.shape {w : World} {base : Nat} {v : Value} {L : List Nd} (h : OwN w base v L) : ∃ a cap, v = .slice a L.length cap := by
 rcases h.2 with ⟨hv, hn⟩ | ⟨g, cap, cur, hv, hrest⟩
 · exact ⟨none, 0, by rw [hv, hn]⟩
 · exact ⟨_, _, hv⟩
theorem OwN.is {w : World} {base : Nat} {v : Value} {L : List Nd} (h : OwN w base v L) (hk : ∀ x ∈ L, x.Ok w) (hm : L.length ≤ 100000) : ∃ a cap, v = .slice a L.length cap ∧ IsNs w a L := by
 rcases h.2 with ⟨hv, hn⟩ | ⟨g, cap, cur, hv, hrest⟩
 · have e : L = [] := List.eq_nil_of_length_eq_zero hn
   subst e
   exact ⟨none, 0, hv, ⟨Nat.zero_le _, (fun x hx => by cases hx), fun hp => absurd hp (by simp)⟩⟩
 · refine ⟨_, _, hv, ⟨by unfold maxLen; omega, hk, fun hp => ⟨g, 0, rfl, fun i hi => ?_⟩⟩⟩
   intro j u hu
   have hj : j < 6 := by
     have := (List.getElem?_eq_some_iff.1 hu).1
     simpa [Nd.cells] using this
   have e := h.cells (g := g) (by rw [hv]; rfl) (i * 6 + j) u (by rw [ncells_get L i j hi hj]; exact hu)
   rw [← e]
   congr 1
   unfold Addr.add
   split
   · rename_i q; simp [q]
   · simp
theorem below_grownN {B : Nat} {a w w' : World} {base : Nat} {v : Value} {L : List Nd} (h : Below B a w) (hown : OwN w base v L) (hB : B ≤ base) (hBw : B ≤ w.heap.size) (hg : w.grownBy w' v.ownBlock) : Below B a w' := by
 refine ⟨hg.os.trans h.os, hg.tape.trans h.tape, hg.output.trans h.output, Nat.le_trans h.size hg.size, fun k hk => ?_⟩
 rw [hg.block k (by omega) ?_]
 · exact h.block k hk
 · intro e
   rcases hown.2 with ⟨hv, hn⟩ | ⟨g, cap, cur, hv, hb, hrest⟩
   · rw [hv] at e; cases e
   · rw [hv] at e
     cases e
     have hb' : base ≤ g := hb
     have hk' : g < B := hk
     omega
theorem wpList_appNd (w : World) {ops : Array Oper} {rest : List Oper} {o : Oper} {a : Act} {Q : Exit → Act → World → Prop} (hgd : o.guard = none) (s x : Operand)
   (ho : o.op = .call { callee := .builtin .append, args := #[s, x], argTypes := #[23, 23] }) (base : Nat) (v : Value) (L : List Nd) (hs : a.eval s = v) (hown : OwN w base v L)
   (g : Nat) (fr : Nat × Nat) (y : Nd) (hx : a.eval x = .slice (some ⟨g, 0, none⟩) 1 1) (hb : w.heap[g]? = some (.cells y.cells.toArray 37 fr)) (h63 : L.length ≤ 10000) (hbase : base ≤ w.heap.size)
   (h : ∀ v' w', OwN w' base v' (L ++ [y]) → w.grownBy w' v.ownBlock → wpList Tryz.prog ops Q rest (a.put o.dst v') w') : wpList Tryz.prog ops Q (o :: rest) a w := by
 obtain ⟨i0, hi, hz0, hz1, hz2⟩ := info_nd
 refine wpList_append_own w hgd s x 23 ho base 37 i0 Nd.no.val 6 64 Tryz.underlying23 hi hz0 hz1 hz2 (by rfl) (by decide) v L.length (ncells L) hs hown ⟨g, 0, none⟩ 1 1 y.cells hx rfl (nd_news hb) (nd_one y) (by unfold maxLen; omega) (by omega) hbase ?_
 intro v' w' h1 h2 h3
 refine h v' w' ?_ h2
 unfold OwN
 rw [ncells_snoc, List.length_append]
 exact h1
theorem fold_take {α β : Type} (g : β → α → β) (s : β) (l : List α) (d : α) {m : Nat} (h : m < l.length) : (l.take (m + 1)).foldl g s = g ((l.take m).foldl g s) (l.getD m d) := by
 rw [List.take_add_one, List.getElem?_eq_getElem h, List.foldl_append]
 simp [List.getD, h]
def outL (l : List Nd) (f : Int) : List Nd := l.filter (fun x => x.fid != f)
theorem out_take (l : List Nd) (f : Int) {m : Nat} (h : m < l.length) : outL (l.take (m + 1)) f = if (l.getD m Nd.no).fid != f then outL (l.take m) f ++ [l.getD m Nd.no] else outL (l.take m) f := by
 unfold outL
 rw [List.take_add_one, List.getElem?_eq_getElem h, List.filter_append]
 simp only [List.getD, List.getElem?_eq_getElem h, Option.toList_some, Option.getD_some, List.filter_cons, List.filter_nil]
 split <;> simp
theorem outL_len (l : List Nd) (f : Int) (m : Nat) : (outL (l.take m) f).length ≤ m := by
 unfold outL
 refine Nat.le_trans (List.length_filter_le _ _) ?_
 rw [List.length_take]
 omega
set_option maxHeartbeats 2000000 in
theorem rwithout_c (a : Option Addr) (cap : Nat) (l : List Nd) (f : Int) (w : World) (h : IsNs w a l) (hm : l.length ≤ 1000) :
   Calls Tryz.prog 78 #[.slice a l.length cap, .int .u32 f] w fun e w' => ∃ v, e = .returned v ∧ OwN w' w.heap.size v (outL l f) ∧ Below w.heap.size w w' := by
 have H := hid h
 have FIN : Hid (outL (l.take l.length) f = outL l f) := hid (by rw [List.take_length])
 have STP : Hid (∀ m, m < l.length → outL (l.take (m + 1)) f = if (l.getD m Nd.no).fid != f then outL (l.take m) f ++ [l.getD m Nd.no] else outL (l.take m) f) := hid (fun m hm => out_take l f hm)
 have LE := hid (outL_len l f)
 obtain ⟨fin, hfin⟩ : ∃ fin, fin = outL l f := ⟨_, rfl⟩
 rw [← hfin] at FIN ⊢
 obtain ⟨P, hP⟩ : ∃ P : Nat → List Nd, P = fun m => outL (l.take m) f := ⟨_, rfl⟩
 have P0 : Hid (P 0 = []) := hid (by rw [hP]; rfl)
 have STP : Hid (∀ m, m < l.length → P (m + 1) = if (l.getD m Nd.no).fid != f then P m ++ [l.getD m Nd.no] else P m) := hid (fun m hm => by rw [hP]; exact out_take l f hm)
 have LE : Hid (∀ m, (P m).length ≤ m) := hid (fun m => by rw [hP]; exact outL_len l f m)
 have FIN : Hid (P l.length = fin) := hid (by rw [hP, hfin]; simp only; rw [List.take_length])
 obtain ⟨n, hn⟩ : ∃ n, n = l.length := ⟨_, rfl⟩
 rw [← hn] at hm FIN STP ⊢
 have HN := hid hn
 clear h hn hP hfin
 go_enter Tryz.func78, Tryz.ntmps78
 go_wp2
 go_loopg [5, 6] n (fun gk v j wr => ∃ m : Nat, m + gk = n ∧ j = .int .i64 m ∧ Hid (OwN wr w.heap.size v (P m)) ∧ Hid (Below w.heap.size w wr))
 case atStart => exact ⟨0, by omega, rfl, hid (by rw [P0.out]; exact OwN.nil _ _), hid (Below.refl _ _)⟩
 case round =>
   obtain ⟨m, hm2, rfl, HO, HB⟩ := hrel
   obtain ⟨va, vc, rfl⟩ := HO.out.shape
   by_cases hlt : m < n
   · have hltI : (m : Int) < n := by omega
     have hln : m < l.length := by rw [← HN.out]; exact hlt
     obtain ⟨b, off, rfl, _⟩ := H.out.2.2 (by omega)
     obtain ⟨y0, y1, y2, y3, y4, y5⟩ := ((H.out.later HB.out).at (i := m) hln).all
     have HS := hid (STP.out m hlt)
     have hle := LE.out m
     clear hln
     generalize l.getD m Nd.no = x at *
     by_cases q : x.fid = f
     · have qB : (x.fid != f) = false := by simp [q]
       have HO2 : Hid (OwN wr w.heap.size (.slice va (P m).length vc) (P (m + 1))) := hid (by rw [HS.out, qB]; exact HO.out)
       clear HS HO hle
       go_wp2
       go_roundg (gk - 1)
       case measure => omega
       case rel => exact ⟨m + 1, by omega, by go_num, HO2, HB⟩
     · have qB : (x.fid != f) = true := by simp [q]
       have HS2 : Hid (P (m + 1) = P m ++ [x]) := hid (by rw [HS.out, qB]; rfl)
       have b1 := below_1 wr (.cells x.cells.toArray 37)
       have O1 := hid (HO.out.later b1)
       have B1 := hid (HB.out.trans (b1.mono HB.out.size))
       have N1 := hid (heap_alloc_new wr (.cells x.cells.toArray 37))
       clear b1 HS
       go_wp2_with (at_builtin; refine wpList_appNd _ rfl _ _ rfl w.heap.size _ (P m) rfl O1.out wr.heap.size _ x rfl N1.out (by omega) B1.out.size ?_; intro v9 w9 hown9 hgrow9)
       have HB9 := hid (below_grownN B1.out O1.out (Nat.le_refl _) B1.out.size hgrow9)
       have HO9 : Hid (OwN w9 w.heap.size v9 (P (m + 1))) := hid (by rw [HS2.out]; exact hown9)
       obtain ⟨a9, c9, rfl⟩ := hown9.shape
       clear hown9 hgrow9
       go_roundg (gk - 1)
       case measure => omega
       case rel => exact ⟨m + 1, by omega, by go_num, HO9, HB9⟩
   · have em : m = n := by omega
     subst em
     have hge : ¬ (m : Int) < m := by omega
     have HO2 : Hid (OwN wr w.heap.size (.slice va (P m).length vc) fin) := hid (by rw [← FIN.out]; exact HO.out)
     go_wp2
     go_ret
     exact ⟨_, rfl, HO2.out, HB.out⟩
def setS (n : Nd) (p : List Nd × Bool) (x : Nd) : List Nd × Bool :=
 ((if !p.2 && decide (n.fid ≤ x.fid) then p.1 ++ [n] else p.1) ++ (if x.fid != n.fid then [x] else []), p.2 || decide (n.fid ≤ x.fid))
def setL (l : List Nd) (n : Nd) : List Nd := if (l.foldl (setS n) ([], false)).2 then (l.foldl (setS n) ([], false)).1 else (l.foldl (setS n) ([], false)).1 ++ [n]
theorem setS_len (n : Nd) (l : List Nd) (m : Nat) : ((l.take m).foldl (setS n) ([], false)).1.length ≤ 2 * m := by
 induction m with
 | zero => simp
 | succ m ih =>
   by_cases h : m < l.length
   · rw [fold_take _ _ _ Nd.no h]
     generalize (l.take m).foldl (setS n) ([], false) = p at *
     simp only [setS]
     split <;> split <;> simp <;> omega
   · rw [List.take_of_length_le (by omega)] at ih
     rw [List.take_of_length_le (by omega)]
     omega
set_option maxHeartbeats 4000000 in
theorem rset_c (a : Option Addr) (cap : Nat) (l : List Nd) (x : Nd) (w : World) (h : IsNs w a l) (hm : l.length ≤ 1000) :
   Calls Tryz.prog 49 #[.slice a l.length cap, x.val] w fun e w' => ∃ v, e = .returned v ∧ OwN w' w.heap.size v (setL l x) ∧ Below w.heap.size w w' := by
 have b0 := below_1 w (.cells x.cells.toArray 37)
 have HX := hid (heap_alloc_new w (.cells x.cells.toArray 37))
 have H := hid (h.later b0)
 have B0 := hid b0
 obtain ⟨fin, hfin⟩ : ∃ fin, fin = setL l x := ⟨_, rfl⟩
 rw [← hfin]
 obtain ⟨P, hP⟩ : ∃ P : Nat → List Nd, P = fun m => ((l.take m).foldl (setS x) ([], false)).1 := ⟨_, rfl⟩
 obtain ⟨D, hD⟩ : ∃ D : Nat → Bool, D = fun m => ((l.take m).foldl (setS x) ([], false)).2 := ⟨_, rfl⟩
 have P0 : Hid (P 0 = []) := hid (by rw [hP]; rfl)
 have D0 : Hid (D 0 = false) := hid (by rw [hD]; rfl)
 have STP : Hid (∀ m, m < l.length → P (m + 1) = (if !D m && decide (x.fid ≤ (l.getD m Nd.no).fid) then P m ++ [x] else P m) ++ (if (l.getD m Nd.no).fid != x.fid then [l.getD m Nd.no] else []) ∧ D (m + 1) = (D m || decide (x.fid ≤ (l.getD m Nd.no).fid))) := hid (fun m hm => by
   rw [hP, hD]
   simp only
   rw [fold_take _ _ _ Nd.no hm]
   exact ⟨rfl, rfl⟩)
 have LE : Hid (∀ m, (P m).length ≤ 2 * m) := hid (fun m => by rw [hP]; exact setS_len x l m)
 have FIN : Hid (fin = if D l.length then P l.length else P l.length ++ [x]) := hid (by rw [hP, hD, hfin]; simp only; rw [List.take_length]; rfl)
 obtain ⟨n, hn⟩ : ∃ n, n = l.length := ⟨_, rfl⟩
 rw [← hn] at hm FIN STP ⊢
 have HN := hid hn
 clear h hn hP hD hfin b0
 obtain ⟨fid, k, md, ln, da, dc, zs, ka, kc, ks⟩ := x
 simp only [Nd.val] at *
 go_enter Tryz.func49, Tryz.ntmps49
 go_upto_region 1 with fail
 simp only [Nd.cells] at HX H B0
 generalize (w.alloc (.cells #[.int .u32 fid, .int .u8 k, .int .u16 md, .int .u16 ln, .slice da zs.length dc, .slice ka ks.length kc] 37)) = V at *
 have LV : Hid (w.heap.size < V.heap.size) := hid (lt_blkR HX.out)
 have l0 : ∀ w', Below V.heap.size V w' → w'.cell? ⟨w.heap.size, 0, none⟩ = some (.int .u32 fid) := fun w' h => cell_of_row2 ((h.block _ LV.out).trans HX.out) 0 rfl
 have L0 := hid l0
 have LB : Hid (∀ w', Below V.heap.size V w' → w'.heap[w.heap.size]? = some (.cells (⟨fid, k, md, ln, da, dc, zs, ka, kc, ks⟩ : Nd).cells.toArray 37)) := hid (fun w' h => (h.block _ LV.out).trans HX.out)
 clear l0
 go_wp2
 go_loopg [5, 6, 7] n (fun gk v5 v6 v7 wr => ∃ m : Nat, m + gk = n ∧ v7 = .int .i64 m ∧ v6 = .bool (D m) ∧ Hid (OwN wr V.heap.size v5 (P m)) ∧ Hid (Below V.heap.size V wr))
 case atStart => exact ⟨0, by omega, rfl, by rw [D0.out], hid (by rw [P0.out]; exact OwN.nil _ _), hid (Below.refl _ _)⟩
 case round =>
   obtain ⟨m, hm2, rfl, rfl, HO, HB⟩ := hrel
   obtain ⟨va, vc, rfl⟩ := HO.out.shape
   by_cases hlt : m < n
   · have hltI : (m : Int) < n := by omega
     have h0I : (0 : Int) ≤ m := by omega
     have hln : m < l.length := by rw [← HN.out]; exact hlt
     obtain ⟨b, off, rfl, _⟩ := H.out.2.2 (by omega)
     have YL : Hid (∀ W, Below V.heap.size V W → NdC W b (off + m * 6) (l.getD m Nd.no)) := hid (fun W hW => (H.out.later hW).at (i := m) hln)
     have HS := hid (STP.out m hlt)
     have hle := LE.out m
     clear hln
     generalize l.getD m Nd.no = y at *
     obtain ⟨y0, y1, y2, y3, y4, y5⟩ := (YL.out wr HB.out).all
     have x0 := L0.out wr HB.out
     generalize D m = dm at *
     go_upto_region 6 with fail
     obtain ⟨A, hA⟩ : ∃ A, A = (!dm && decide (fid ≤ y.fid)) := ⟨_, rfl⟩
     go_cut [25] from 8 to 44 (fun s25 wx => s25 = .bool A ∧ ∃ wy, wy = wx ∧ Hid (Below wr.heap.size wr wy))
     case first =>
       clear y1 y2 y3 y4 y5
       have HA := hid hA
       clear hA
       cases dm with
       | true =>
         go_quiet (fail)
         generalize hq : World.drewN wr _ = wq
         have bq : Below wr.heap.size wr wq := by rw [← hq]; exact below_drewN (Below.refl _ _) _
         have BQ := hid bq
         clear hq bq
         go_wp2
         go_meet
         exact ⟨by rw [HA.out]; rfl, _, rfl, BQ⟩
       | false =>
         by_cases q : fid ≤ y.fid
         · have qd : decide (fid ≤ y.fid) = true := decide_eq_true q
           have HA2 : Hid (A = true) := hid (by rw [HA.out, qd]; rfl)
           clear HA
           go_quiet (fail)
           generalize hq : World.drewN wr _ = wq
           have bq : Below wr.heap.size wr wq := by rw [← hq]; exact below_drewN (Below.refl _ _) _
           have BQ := hid bq
           clear hq bq
           go_wp2
           go_meet
           exact ⟨by rw [HA2.out], _, rfl, BQ⟩
         · have qd : decide (fid ≤ y.fid) = false := decide_eq_false q
           have HA2 : Hid (A = false) := hid (by rw [HA.out, qd]; rfl)
           clear HA
           go_quiet (fail)
           generalize hq : World.drewN wr _ = wq
           have bq : Below wr.heap.size wr wq := by rw [← hq]; exact below_drewN (Below.refl _ _) _
           have BQ := hid bq
           clear hq bq
           go_wp2
           go_meet
           exact ⟨by rw [HA2.out], _, rfl, BQ⟩
     case rest =>
     obtain ⟨rfl, wq, rfl, HQ⟩ := hcut
     have OQ := hid (HO.out.later HQ.out)
     have BQ := hid (HB.out.trans (HQ.out.mono HB.out.size))
     have HA := hid hA
     clear hA y0 y1 y2 y3 y4 y5 x0 HO HB HQ
     have DA : Hid (A = true → dm = false ∧ decide (fid ≤ y.fid) = true) := hid (fun h => by rw [HA.out] at h; simpa using h)
     have DB : Hid (A = false → (dm || decide (fid ≤ y.fid)) = dm) := hid (fun h => by rw [HA.out] at h; cases dm <;> simp_all)
     have ZS : Hid (P (m + 1) = (if A then P m ++ [⟨fid, k, md, ln, da, dc, zs, ka, kc, ks⟩] else P m) ++ (if y.fid != fid then [y] else []) ∧ D (m + 1) = (dm || decide (fid ≤ y.fid))) := hid (by rw [HA.out]; exact HS.out)
     clear HS HA
     go_upto_if 25 with fail
     go_cut [5, 6] from 8 to 44 (fun s5 s6 wx => s6 = .bool (dm || decide (fid ≤ y.fid)) ∧ ∃ wy, wy = wx ∧ Hid (OwN wy V.heap.size s5 (if A then P m ++ [⟨fid, k, md, ln, da, dc, zs, ka, kc, ks⟩] else P m)) ∧ Hid (Below V.heap.size V wy))
     case first =>
       cases A with
       | true =>
         have QD := hid (DA.out rfl)
         obtain ⟨x0, x1, x2, x3, x4, x5⟩ := nd_cells (LB.out wq BQ.out)
         simp only at x0 x1 x2 x3 x4 x5
         have b1 := below_1 wq (.cells (⟨fid, k, md, ln, da, dc, zs, ka, kc, ks⟩ : Nd).cells.toArray 37)
         have O1 := hid (OQ.out.later b1)
         have B1 := hid (BQ.out.trans (b1.mono BQ.out.size))
         have N1 := hid (heap_alloc_new wq (.cells (⟨fid, k, md, ln, da, dc, zs, ka, kc, ks⟩ : Nd).cells.toArray 37))
         clear b1
         go_wp2_with (at_builtin; refine wpList_appNd _ rfl _ _ rfl V.heap.size _ (P m) rfl O1.out wq.heap.size _ ⟨fid, k, md, ln, da, dc, zs, ka, kc, ks⟩ rfl N1.out (by omega) B1.out.size ?_; intro v9 w9 hown9 hgrow9)
         have HB9 := hid (below_grownN B1.out O1.out (Nat.le_refl _) B1.out.size hgrow9)
         have HO9 := hid hown9
         clear hown9 hgrow9
         go_meet
         exact ⟨by rw [QD.out.2]; simp, _, rfl, HO9, HB9⟩
       | false =>
         have QD := hid (DB.out rfl)
         go_wp2
         go_meet
         exact ⟨by rw [QD.out], _, rfl, OQ, BQ⟩
     case rest =>
       obtain ⟨rfl, wy, rfl, OY, BY⟩ := hcut
       clear OQ BQ DA DB
       obtain ⟨y0, y1, y2, y3, y4, y5⟩ := (YL.out wy BY.out).all
       have x0 := L0.out wy BY.out
       obtain ⟨HS1, HS2⟩ := ZS.out
       have HP := hid HS1
       have HD := hid HS2
       clear ZS HS1 HS2
       obtain ⟨A, hA⟩ : ∃ A', A' = (if A then P m ++ [⟨fid, k, md, ln, da, dc, zs, ka, kc, ks⟩] else P m) := ⟨_, rfl⟩
       have hAl : A.length ≤ 2 * m + 1 := by rw [hA]; split <;> (try simp only [List.length_append, List.length_cons, List.length_nil]) <;> omega
       rw [← hA] at OY HP
       clear hA
       rw [← HD.out]
       clear HD
       obtain ⟨va2, vc2, rfl⟩ := OY.out.shape
       by_cases q : y.fid = fid
       · have qB : (y.fid != fid) = false := by simp [q]
         have HP2 : Hid (P (m + 1) = A) := hid (by rw [HP.out, qB]; simp)
         clear HP
         go_wp2
         go_quiet (fail)
         generalize hq : World.drewN wy _ = wq
         have bq : Below wy.heap.size wy wq := by rw [← hq]; exact below_drewN (Below.refl _ _) _
         have OQ : Hid (OwN wq V.heap.size (.slice va2 A.length vc2) (P (m + 1))) := hid (by rw [HP2.out]; exact OY.out.later bq)
         have BQ := hid (BY.out.trans (bq.mono BY.out.size))
         clear hq bq
         go_wp2
         go_roundg (gk - 1)
         case measure => omega
         case rel => exact ⟨m + 1, by omega, by go_num, rfl, OQ, BQ⟩
       · have qB : (y.fid != fid) = true := by simp [q]
         have HP2 : Hid (P (m + 1) = A ++ [y]) := hid (by rw [HP.out, qB]; rfl)
         clear HP
         go_wp2
         go_quiet (fail)
         generalize hq : World.drewN wy _ = wq
         have bq : Below wy.heap.size wy wq := by rw [← hq]; exact below_drewN (Below.refl _ _) _
         have OQ := hid (OY.out.later bq)
         have BQ := hid (BY.out.trans (bq.mono BY.out.size))
         clear y0 y1 y2 y3 y4 y5 x0
         obtain ⟨y0, y1, y2, y3, y4, y5⟩ := (YL.out wq BQ.out).all
         have b1 := below_1 wq (.cells y.cells.toArray 37)
         have O1 := hid (OQ.out.later b1)
         have B1 := hid (BQ.out.trans (b1.mono BQ.out.size))
         have N1 := hid (heap_alloc_new wq (.cells y.cells.toArray 37))
         clear hq bq b1 q qB
         go_wp2_with (at_builtin; refine wpList_appNd _ rfl _ _ rfl V.heap.size _ A rfl O1.out wq.heap.size _ y rfl N1.out (by omega) B1.out.size ?_; intro v9 w9 hown9 hgrow9)
         have HB9 := hid (below_grownN B1.out O1.out (Nat.le_refl _) B1.out.size hgrow9)
         have HO9 : Hid (OwN w9 V.heap.size v9 (P (m + 1))) := hid (by rw [HP2.out]; exact hown9)
         obtain ⟨a9, c9, rfl⟩ := hown9.shape
         clear hown9 hgrow9
         go_roundg (gk - 1)
         case measure => omega
         case rel => exact ⟨m + 1, by omega, by go_num, rfl, HO9, HB9⟩
   · have em : m = n := by omega
     subst em
     have hge : ¬ (m : Int) < m := by omega
     have hle := LE.out m
     have LW : Hid (w.heap.size ≤ V.heap.size) := hid (by have := LV.out; omega)
     have FB : Hid (∀ W, Below V.heap.size V W → Below w.heap.size w W) := hid (fun W h => B0.out.trans (h.mono LW.out))
     cases qd : D m with
     | true =>
       have HF : Hid (OwN wr w.heap.size (.slice va (P m).length vc) fin) := hid (by rw [FIN.out, qd]; exact own_low HO.out LW.out)
       clear HO
       go_wp2
       go_ret
       exact ⟨_, rfl, HF.out, FB.out _ HB.out⟩
     | false =>
       have HF : Hid (fin = P m ++ [⟨fid, k, md, ln, da, dc, zs, ka, kc, ks⟩]) := hid (by rw [FIN.out, qd]; rfl)
       obtain ⟨x0, x1, x2, x3, x4, x5⟩ := nd_cells (LB.out wr HB.out)
       simp only at x0 x1 x2 x3 x4 x5
       have b1 := below_1 wr (.cells (⟨fid, k, md, ln, da, dc, zs, ka, kc, ks⟩ : Nd).cells.toArray 37)
       have O1 := hid (HO.out.later b1)
       have B1 := hid (HB.out.trans (b1.mono HB.out.size))
       have N1 := hid (heap_alloc_new wr (.cells (⟨fid, k, md, ln, da, dc, zs, ka, kc, ks⟩ : Nd).cells.toArray 37))
       clear b1
       go_wp2_with (at_builtin; refine wpList_appNd _ rfl _ _ rfl V.heap.size _ (P m) rfl O1.out wr.heap.size _ ⟨fid, k, md, ln, da, dc, zs, ka, kc, ks⟩ rfl N1.out (by omega) B1.out.size ?_; intro v9 w9 hown9 hgrow9)
       go_ret
       exact ⟨_, rfl, by rw [HF.out]; exact own_low hown9 LW.out, FB.out _ (below_grownN B1.out O1.out (Nat.le_refl _) B1.out.size hgrow9)⟩
end Go.Proofs.YtkokjkaclcjnjaaGreatDoor
