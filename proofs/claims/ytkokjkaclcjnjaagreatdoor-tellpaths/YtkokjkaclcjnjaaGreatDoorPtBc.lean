/-
  The document's tree: operations in memory; New, Fold.
-/
import Derived.Test.YtkokjkaclcjnjaaGreatDoorPtBb
import Derived.Laws.IdiomStrings
import Derived.Deep.RegionHeld3
namespace Go.Proofs.YtkokjkaclcjnjaaGreatDoor
open Go.RowKit Go.ChangeShapes Go.WideShapes Go.ChangeAt Go.Maps Go.Shelf
set_option linter.unusedVariables false
set_option linter.unusedSimpArgs false
set_option maxRecDepth 100000
def IsOs (w : World) (a : Option Addr) (l : List Rec) : Prop :=
 l.length ≤ maxLen ∧ (∀ x ∈ l, x.Wf) ∧ (0 < l.length → ∃ b off, a = some ⟨b, off, none⟩ ∧ ∀ i, i < l.length → ∀ j v, (l.getD i Rec.no).ops[j]? = some v → w.cell? ⟨b, off + i * 8 + j, none⟩ = some v)
theorem IsOs.later {w w' : World} {a : Option Addr} {l : List Rec} (h : IsOs w a l) (hb : Below w.heap.size w w') : IsOs w' a l := by
 obtain ⟨h1, h2, h3⟩ := h
 refine ⟨h1, h2, fun hp => ?_⟩
 obtain ⟨b, off, e, hc⟩ := h3 hp
 exact ⟨b, off, e, fun i hi j v hv => cell_later hb (hc i hi j v hv)⟩
theorem IsOs.at {w : World} {b off : Nat} {l : List Rec} {i : Nat} (h : IsOs w (some ⟨b, off, none⟩) l) (hi : i < l.length) : ∀ j v, (l.getD i Rec.no).ops[j]? = some v → w.cell? ⟨b, off + i * 8 + j, none⟩ = some v := by
 obtain ⟨b', off', e, hc⟩ := h.2.2 (by omega)
 cases e
 exact hc i hi
theorem IsOs.wf {w : World} {a : Option Addr} {l : List Rec} (h : IsOs w a l) {i : Nat} (hi : i < l.length) : (l.getD i Rec.no).Wf := h.2.1 _ (getD_mem l Rec.no hi)
theorem IsOs.take {w : World} {a : Option Addr} {l : List Rec} (h : IsOs w a l) (n : Nat) : IsOs w a (l.take n) := by
 refine ⟨by have := h.1; rw [List.length_take]; omega, fun x hx => h.2.1 x (List.mem_of_mem_take hx), fun hp => ?_⟩
 rw [List.length_take] at hp
 obtain ⟨b, off, e, hc⟩ := h.2.2 (by omega)
 refine ⟨b, off, e, fun i hi j v hv => ?_⟩
 rw [List.length_take] at hi
 refine hc i (by omega) j v ?_
 rw [show (l.take n).getD i Rec.no = l.getD i Rec.no by simp [List.getD, List.getElem?_take, show i < n by omega]] at hv
 exact hv
def erV (x : Int) : Value := .int .i64 x
def OwE (w : World) (base : Nat) (v : Value) (es : List Int) : Prop := w.ownsRow base 38 1 v es.length (es.map erV)
theorem OwE.nil (w : World) (base : Nat) : OwE w base (.slice none 0 0) [] := World.ownsRow_nil _ _ _ _
theorem OwE.later {w w' : World} {base : Nat} {v : Value} {L : List Int} (h : OwE w base v L) (hb : Below w.heap.size w w') : OwE w' base v L := own_latR h hb
theorem OwE.shape {w : World} {base : Nat} {v : Value} {L : List Int} (h : OwE w base v L) : ∃ a cap, v = .slice a L.length cap := by
 rcases h.2 with ⟨hv, hn⟩ | ⟨g, cap, cur, hv, hrest⟩
 · exact ⟨none, 0, by rw [hv, hn]⟩
 · exact ⟨_, _, hv⟩
def IsEs (w : World) (a : Option Addr) (es : List Int) : Prop := 0 < es.length → ∃ b off, a = some ⟨b, off, none⟩ ∧ ∀ i, i < es.length → w.cell? ⟨b, off + i, none⟩ = some (erV (es.getD i 0))
theorem IsEs.later {w w' : World} {a : Option Addr} {es : List Int} (h : IsEs w a es) (hb : Below w.heap.size w w') : IsEs w' a es := fun hp => by
 obtain ⟨b, off, e, hc⟩ := h hp
 exact ⟨b, off, e, fun i hi => cell_later hb (hc i hi)⟩
theorem OwE.is {w : World} {base : Nat} {v : Value} {L : List Int} (h : OwE w base v L) : ∃ a cap, v = .slice a L.length cap ∧ IsEs w a L := by
 rcases h.2 with ⟨hv, hn⟩ | ⟨g, cap, cur, hv, hrest⟩
 · exact ⟨none, 0, by rw [hv, hn], fun hp => by rw [hn] at hp; cases hp⟩
 · refine ⟨_, _, hv, fun hp => ⟨g, 0, rfl, fun i hi => ?_⟩⟩
   have e := h.cells (g := g) (by rw [hv]; rfl) i (erV (L.getD i 0)) (by simp [List.getElem?_map, List.getD, hi])
   rw [← e]
   congr 1
   unfold Addr.add
   split
   · rename_i q; simp [q]
   · simp
theorem below_grownE {B : Nat} {a w w' : World} {base : Nat} {v : Value} {L : List Int} (h : Below B a w) (hown : OwE w base v L) (hB : B ≤ base) (hBw : B ≤ w.heap.size) (hg : w.grownBy w' v.ownBlock) : Below B a w' := by
 refine ⟨hg.os.trans h.os, hg.tape.trans h.tape, hg.output.trans h.output, Nat.le_trans h.size hg.size, fun k hk => ?_⟩
 rw [hg.block k (by omega) ?_]
 · exact h.block k hk
 · intro e
   rcases hown.2 with ⟨hv, hn⟩ | ⟨g, cap, cur, hv, hb, hrest⟩
   · rw [hv] at e; cases e
   · rw [hv] at e
     cases e
     have hb' : base ≤ g := hb
     have hk' : g < B := hk
     omega
theorem info_err : ∃ i : TypeInfo, Tryz.prog.info? 38 = some i ∧ i.zero = some (.int .i64 0) ∧ i.size = 1 ∧ i.bytes = 8 := by
 have h : (Tryz.prog.info? 38).map (fun i => (i.zero, i.size, i.bytes)) = some (some (.int .i64 0), 1, 8) := by kernel_rfl
 cases hi : Tryz.prog.info? 38 with
 | none => rw [hi] at h; cases h
 | some i => rw [hi] at h; simp at h; exact ⟨i, rfl, h.1, h.2.1, h.2.2⟩
theorem wpList_appE (w : World) {ops : Array Oper} {rest : List Oper} {o : Oper} {a : Act} {Q : Exit → Act → World → Prop} (hgd : o.guard = none) (s x : Operand)
   (ho : o.op = .call { callee := .builtin .append, args := #[s, x], argTypes := #[24, 24] }) (base : Nat) (v : Value) (L : List Int) (hs : a.eval s = v) (hown : OwE w base v L)
   (g : Nat) (fr : Nat × Nat) (y : Int) (hx : a.eval x = .slice (some ⟨g, 0, none⟩) 1 1) (hb : w.heap[g]? = some (.cells #[.int .i64 y] 38 fr)) (h63 : L.length ≤ 10000) (hbase : base ≤ w.heap.size)
   (h : ∀ v' w', OwE w' base v' (L ++ [y]) → w.grownBy w' v.ownBlock → wpList Tryz.prog ops Q rest (a.put o.dst v') w') : wpList Tryz.prog ops Q (o :: rest) a w := by
 obtain ⟨i0, hi, hz0, hz1, hz2⟩ := info_err
 refine wpList_append_own w hgd s x 24 ho base 38 i0 (.int .i64 0) 1 8 Tryz.underlying24 hi hz0 hz1 hz2 (by rfl) (by decide) v L.length (L.map erV) hs hown ⟨g, 0, none⟩ 1 1 [.int .i64 y] hx rfl (fun j u hu => by
   have e : (⟨g, 0, none⟩ : Addr).add j = ⟨g, 0 + j, none⟩ := by unfold Addr.add; split <;> simp_all
   rw [e, cell_of_row w g _ _ _ fr hb]
   rcases j with _ | j
   · simpa using hu
   · simp at hu) (fun u hu => by rw [List.mem_singleton] at hu; subst hu; rfl) (by unfold maxLen; omega) (by omega) hbase ?_
 intro v' w' h1 h2 h3
 refine h v' w' ?_ h2
 unfold OwE
 rw [List.map_append, List.length_append]
 exact h1
theorem own_other {w w' : World} {base b e e' size size' n n' : Nat} {v u : Value} {xs ys : List Value} (h : w.ownsRow base e size v n xs) (k : w.ownsRow b e' size' u n' ys) (hne : e ≠ e') (hg : w.grownBy w' u.ownBlock) : w'.ownsRow base e size v n xs := by
 refine ⟨h.1, ?_⟩
 rcases h.2 with q | ⟨g, cap, cur, hv, hb, hh, hr⟩
 · exact .inl q
 · refine .inr ⟨g, cap, cur, hv, hb, (hg.block g (lt_blkR hh) (fun q => ?_)).trans hh, hr⟩
   rcases k.2 with ⟨rfl, _⟩ | ⟨g', cap', cur', rfl, _, hh', _⟩
   · cases q
   · cases q
     rw [hh'] at hh
     cases hh
     exact hne rfl
theorem NsO.grownE {w w' : World} {base b : Nat} {v u : Value} {l : List Nd} {es : List Int} (h : NsO w base v l) (k : OwE w b u es) (hg : w.grownBy w' u.ownBlock) : NsO w' base v l :=
 ⟨own_other h.1 k (by decide) hg, fun x hx => ⟨(h.2 x hx).1, (h.2 x hx).2.1, (h.2 x hx).2.2.1.grown k (by decide) hg, (h.2 x hx).2.2.2.grown k (by decide) hg⟩⟩
def newL : List Nd := [⟨1, 2, 0, 0, none, 0, [], none, 0, []⟩]
set_option maxHeartbeats 1000000 in
theorem rNew_c (w : World) : Calls Tryz.prog 5 #[] w fun e w' => ∃ a c, e = .returned (.slice a 1 c) ∧ Tr w' a newL ∧ Below w.heap.size w w' := by
 have b1 := below_1 w (.cells #[.int .u32 1, .int .u8 2, .int .u16 0, .int .u16 0, .slice none 0 0, .slice none 0 0] 37)
 have h1 := heap_alloc_new w (.cells #[.int .u32 1, .int .u8 2, .int .u16 0, .int .u16 0, .slice none 0 0, .slice none 0 0] 37)
 have B1 := hid b1
 have H1 := hid h1
 clear b1 h1
 go_enter Tryz.func5, Tryz.ntmps5
 go_wp2
 go_ret
 refine ⟨_, _, rfl, ⟨⟨by show 1 ≤ maxLen; unfold maxLen; omega, fun x hx => ?_, fun _ => ⟨_, 0, rfl, fun i hi => ?_⟩⟩, fun x hx => ?_⟩, B1.out⟩
 · rw [newL, List.mem_singleton] at hx
   subst hx
   exact ⟨⟨by decide, by decide⟩, ⟨by decide, by decide⟩, ⟨by decide, by decide⟩, ⟨by decide, by decide⟩, (no_ok _).2.2.2.2.1, (no_ok _).2.2.2.2.2⟩
 · have e : i = 0 := by simp [newL] at hi; omega
   subst e
   intro j v hv
   rw [Nat.zero_add, cell_of_row _ _ _ _ _ _ H1.out, ← Array.getElem?_toList]
   exact hv
 · rw [newL, List.mem_singleton] at hx
   subst hx
   exact ⟨⟨fun _ => rfl, fun _ => rfl⟩, Nat.zero_le _, Nat.zero_le _⟩
def foldS (p : List Nd × List Int) (o : Rec) : List Nd × List Int := (if (ApplyL p.1 o).1 = 0 then (ApplyL p.1 o).2 else p.1, p.2 ++ [(ApplyL p.1 o).1])
def FoldL (l : List Nd) (ops : List Rec) : List Nd × List Int := if rightD l = true then ops.foldl foldS (l, []) else ([], List.replicate ops.length 3)
theorem foldS_len (l : List Nd) (ops : List Rec) (m : Nat) (hm : m ≤ ops.length) : ((ops.take m).foldl foldS (l, [])).2.length = m := by
 induction m with
 | zero => rfl
 | succ m ih =>
   rw [fold_take _ _ _ Rec.no (by omega)]
   simp only [foldS, List.length_append, List.length_cons, List.length_nil]
   rw [ih (by omega)]
theorem foldS_few (l : List Nd) (hl : l.length ≤ 43) (ops : List Rec) (m : Nat) : ((ops.take m).foldl foldS (l, [])).1.length ≤ 43 := by
 induction m with
 | zero => exact hl
 | succ m ih =>
   by_cases h : m < ops.length
   · rw [fold_take _ _ _ Rec.no h]
     simp only [foldS]
     split
     · exact (ApplyL_gd _ _).2
     · exact ih
   · rw [List.take_of_length_le (by omega)] at ih
     rw [List.take_of_length_le (by omega)]
     exact ih
def FoP (w : World) (r : List Nd × List Int) (e : Ending) (w' : World) : Prop := ∃ a c l b d, e = .returned (.tuple #[.slice a l.length c, .slice b r.2.length d]) ∧ Tr w' a l ∧ l.map Nd.er = r.1 ∧ IsEs w' b r.2 ∧ Below w.heap.size w w'
set_option maxHeartbeats 8000000 in
theorem rFold_c (a b : Option Addr) (cap cb : Nat) (l : List Nd) (ops : List Rec) (w : World) (h : Tr w a l) (ho : IsOs w b ops) (hm : l.length ≤ 900) (hn : ops.length ≤ 1000) :
   Calls Tryz.prog 4 #[.slice a l.length cap, .slice b ops.length cb] w (FoP w (FoldL (l.map Nd.er) ops)) := by
 obtain ⟨R, hR⟩ : ∃ R, R = FoldL (l.map Nd.er) ops := ⟨_, rfl⟩
 rw [← hR]
 unfold FoldL at hR
 rw [rightD_er] at hR
 have RC := hid (rRight_c a cap l w h.1 (by omega))
 have HT := hid h
 have HO := hid ho
 have HR := hid hR
 have HF : Hid (rightD l = true → l.length ≤ 40) := hid (fun e => (rightD_tok e).1.few)
 obtain ⟨n, hnn⟩ : ∃ n, n = ops.length := ⟨_, rfl⟩
 have HN := hid hnn
 rw [← hnn] at hn ⊢
 clear h ho hR hnn
 generalize rightD l = br at *
 cases br with
 | false =>
   have RE : Hid (R = ([], List.replicate n 3)) := hid (by rw [HN.out]; exact HR.out.trans (if_neg (by simp)))
   clear HR HF
   go_enter Tryz.func4, Tryz.ntmps4
   go_wp2_with (go_at_call 10; refine RC.out.mono ?_; rintro _ w1 ⟨rfl, hb1⟩; have B1 := hid hb1; clear hb1)
   go_loopg [6, 7] n (fun gk v i wr => ∃ m : Nat, m + gk = n ∧ i = .int .i64 m ∧ Hid (OwE wr w.heap.size v (List.replicate m 3)) ∧ Hid (Below w.heap.size w wr))
   case atStart => exact ⟨0, by omega, rfl, hid (OwE.nil _ _), B1⟩
   case round =>
     obtain ⟨m, hm2, rfl, OE, HB⟩ := hrel
     obtain ⟨va, vc, rfl⟩ := OE.out.shape
     by_cases hlt : m < n
     · have hltI : (m : Int) < n := by omega
       have b1 := below_1 wr (.cells #[.int .i64 3] 38)
       have O1 := hid (OE.out.later b1)
       have C1 := hid (HB.out.trans (b1.mono HB.out.size))
       have N1 := hid (heap_alloc_new wr (.cells #[.int .i64 3] 38))
       clear b1
       go_wp2_with (at_builtin; refine wpList_appE _ rfl _ _ rfl w.heap.size _ (List.replicate m 3) rfl O1.out wr.heap.size _ 3 rfl N1.out (by rw [List.length_replicate]; omega) C1.out.size ?_; intro v9 w9 hown9 hgrow9)
       have HB9 := hid (below_grownE C1.out O1.out (Nat.le_refl _) C1.out.size hgrow9)
       have HO9 : Hid (OwE w9 w.heap.size v9 (List.replicate (m + 1) 3)) := hid (by rw [List.replicate_succ']; exact hown9)
       obtain ⟨a9, c9, rfl⟩ := hown9.shape
       clear hown9 hgrow9
       go_roundg (gk - 1)
       case measure => omega
       case rel => exact ⟨m + 1, by omega, by go_num, HO9, HB9⟩
     · have em : m = n := by omega
       subst em
       have hge : ¬ (m : Int) < m := by omega
       obtain ⟨a5, c5, e5, i5⟩ := OE.out.is
       have EE := hid e5
       have IE := hid i5
       clear e5 i5
       go_wp2
       refine bodyPost_ret (v := .tuple #[.slice none 0 0, .slice va (List.replicate m (3 : Int)).length vc]) (by simp [results, Tryz.results4, go_sem]) rfl ⟨none, 0, [], a5, c5, ?_, Tr.nil _, by rw [RE.out]; rfl, by rw [RE.out]; exact IE.out, HB.out⟩
       rw [RE.out, EE.out]
       rfl
 | true =>
   have RE : Hid (R = ops.foldl foldS (l.map Nd.er, [])) := hid (HR.out.trans (if_pos rfl))
   have hl40 := HF.out rfl
   clear HR HF
   obtain ⟨P, hP⟩ : ∃ P : Nat → List Nd × List Int, P = fun m => (ops.take m).foldl foldS (l.map Nd.er, []) := ⟨_, rfl⟩
   have P0 : Hid (P 0 = (l.map Nd.er, [])) := hid (by rw [hP]; rfl)
   have PS : Hid (∀ m, m < n → P (m + 1) = foldS (P m) (ops.getD m Rec.no)) := hid (fun m hm => by rw [hP]; exact fold_take _ _ _ Rec.no (by rw [← HN.out]; exact hm))
   have PL : Hid (∀ m, m ≤ n → (P m).2.length = m) := hid (fun m hm => by rw [hP]; exact foldS_len _ ops m (by rw [← HN.out]; exact hm))
   have PF : Hid (∀ m, (P m).1.length ≤ 43) := hid (fun m => by rw [hP]; exact foldS_few _ (by rw [List.length_map]; omega) ops m)
   have PE : Hid (R = P n) := hid (by rw [RE.out, hP, HN.out]; simp only; rw [List.take_length])
   clear hP RE
   go_enter Tryz.func4, Tryz.ntmps4
   go_upto_region 8 with (go_at_call 10; refine RC.out.mono ?_; rintro _ w1 ⟨rfl, hb1⟩; have B1 := hid hb1; clear hb1)
   have CC := hid (rcopied_c a cap l w1 (HT.out.later B1.out).1 (by omega) HT.out.2)
   clear RC
   go_wp2_with (go_at_call 11; refine CC.out.mono ?_; intro e2 w2 h2; obtain ⟨v2, L2, rfl, ho2, he2, hr2, hb2⟩ := h2
                obtain ⟨a2, c2, hv2⟩ := ho2.shape
                subst hv2
                have T2 := hid ((show NsO w2 w1.heap.size _ L2 from ⟨ho2, hr2⟩).low B1.out.size)
                have E2 := hid he2
                have B2 := hid (B1.out.trans (hb2.mono B1.out.size))
                clear he2 hr2 hb2 ho2)
   go_loopg [6, 8, 9] n (fun gk v6 v8 v9 wr => ∃ (m : Nat) (ar : Option Addr) (cr : Nat) (L : List Nd), m + gk = n ∧ v9 = .int .i64 m ∧ v8 = .slice ar L.length cr ∧ Hid (NsO wr w.heap.size (.slice ar L.length cr) L) ∧ Hid (L.map Nd.er = (P m).1) ∧ Hid (OwE wr w.heap.size v6 (P m).2) ∧ Hid (Below w.heap.size w wr))
   case atStart => exact ⟨0, a2, c2, L2, by omega, rfl, rfl, T2, hid (by rw [P0.out]; exact E2.out), hid (by rw [P0.out]; exact OwE.nil _ _), B2⟩
   case round =>
     obtain ⟨m, ar, cr, L, hm2, rfl, rfl, TR, ER, OE, HB⟩ := hrel
     obtain ⟨va, vc, rfl⟩ := OE.out.shape
     by_cases hlt : m < n
     · have hltI : (m : Int) < n := by omega
       have hln : m < ops.length := by rw [← HN.out]; exact hlt
       obtain ⟨b', off, rfl, _⟩ := HO.out.2.2 (by omega)
       have hO := HO.out.later HB.out
       have hc := hO.at (i := m) hln
       have hw := hO.wf (i := m) hln
       have hps := PS.out m hlt
       have hpl := PL.out m (by omega)
       have hpf := PF.out m
       have hpf2 := ApplyL_gd (P m).1 (ops.getD m Rec.no)
       have hLl : L.length ≤ 43 := by have := congrArg List.length ER.out; rw [List.length_map] at this; omega
       have TRT : Tr wr ar L := by
         obtain ⟨a7, c7, e7, t7⟩ := TR.out.tr (by omega)
         simp only [Value.slice.injEq] at e7
         rw [e7.1]; exact t7
       have AC := hid (rApply_c ar cr L (ops.getD m Rec.no) wr TRT (by omega) hw)
       clear TRT
       rw [ER.out] at AC
       have HPS := hid hps
       have HPL := hid hpl
       clear hO hw hps hpl hpf hpf2 hln
       generalize ops.getD m Rec.no = x at *
       have o0 : wr.cell? ⟨b', off + m * 8, none⟩ = some (.int .u8 x.k) := hc 0 _ rfl
       have o1 : wr.cell? ⟨b', off + m * 8 + 1, none⟩ = some (.int .u32 x.fid) := hc 1 _ rfl
       have o2 : wr.cell? ⟨b', off + m * 8 + 2, none⟩ = some (.int .u32 x.dir) := hc 2 _ rfl
       have o3 : wr.cell? ⟨b', off + m * 8 + 3, none⟩ = some (.string x.nm) := hc 3 _ rfl
       have o4 : wr.cell? ⟨b', off + m * 8 + 4, none⟩ = some (.int .u32 x.to) := hc 4 _ rfl
       have o5 : wr.cell? ⟨b', off + m * 8 + 5, none⟩ = some (.string x.nm2) := hc 5 _ rfl
       have o6 : wr.cell? ⟨b', off + m * 8 + 6, none⟩ = some (.int .u16 x.md) := hc 6 _ rfl
       have o7 : wr.cell? ⟨b', off + m * 8 + 7, none⟩ = some (.string x.dt) := hc 7 _ rfl
       clear hc
       unfold foldS at HPS
       generalize ApplyL (P m).1 x = r at *
       obtain ⟨re, rl⟩ := r
       simp only [Rec.opV] at AC HPS
       go_upto_region 13 with (go_at_call 12; refine AC.out.mono ?_; intro e3 w3 h3; obtain ⟨v3, l3, rfl, ht3, he3, hb3⟩ := h3; (obtain ⟨a3, c3, hv3⟩ := ht3.1.shape); subst hv3; have T3 := hid (ht3.low HB.out.size); have E3 := hid he3; have B3 := hid (HB.out.trans (hb3.mono HB.out.size)); have O3 := hid (OE.out.later hb3); have K3 := hid hb3; clear ht3 he3 hb3)
       clear AC o0 o1 o2 o3 o4 o5 o6 o7
       have b1 := below_1 w3 (.cells #[.int .i64 re] 38)
       have O4 := hid (O3.out.later b1)
       have C4 := hid (B3.out.trans (b1.mono B3.out.size))
       have N4 := hid (heap_alloc_new w3 (.cells #[.int .i64 re] 38))
       have K4 := hid (K3.out.trans (b1.mono K3.out.size))
       have Q4 := hid b1
       clear b1
       by_cases q : re = 0
       · have qB : (re == 0) = true := by rw [q]; rfl
         have EP : Hid (P (m + 1) = (rl, (P m).2 ++ [re])) := hid (by rw [HPS.out, if_pos q])
         clear HPS q
         go_wp2_with (at_builtin; refine wpList_appE _ rfl _ _ rfl w.heap.size _ (P m).2 rfl O4.out w3.heap.size _ re rfl N4.out (by rw [HPL.out]; omega) C4.out.size ?_; intro v9 w9 hown9 hgrow9)
         have HB9 := hid (below_grownE C4.out O4.out (Nat.le_refl _) C4.out.size hgrow9)
         have HT9 : Hid (NsO w9 w.heap.size (.slice a3 l3.length c3) l3) := hid ((T3.out.later Q4.out).grownE O4.out hgrow9)
         have HO9 : Hid (OwE w9 w.heap.size v9 (P (m + 1)).2) := hid (by rw [EP.out]; exact hown9)
         obtain ⟨a9, c9, rfl⟩ := hown9.shape
         clear hown9 hgrow9
         go_roundg (gk - 1)
         case measure => omega
         case rel => exact ⟨m + 1, a3, c3, l3, by omega, by go_num, rfl, HT9, hid (by rw [EP.out]; exact E3.out), HO9, HB9⟩
       · have qB : (re == 0) = false := beq_eq_false_iff_ne.2 q
         have EP : Hid (P (m + 1) = ((P m).1, (P m).2 ++ [re])) := hid (by rw [HPS.out, if_neg q])
         clear HPS q
         go_wp2_with (at_builtin; refine wpList_appE _ rfl _ _ rfl w.heap.size _ (P m).2 rfl O4.out w3.heap.size _ re rfl N4.out (by rw [HPL.out]; omega) C4.out.size ?_; intro v9 w9 hown9 hgrow9)
         have HB9 := hid (below_grownE C4.out O4.out (Nat.le_refl _) C4.out.size hgrow9)
         have HT9 : Hid (NsO w9 w.heap.size (.slice ar L.length cr) L) := hid ((TR.out.later K4.out).grownE O4.out hgrow9)
         have HO9 : Hid (OwE w9 w.heap.size v9 (P (m + 1)).2) := hid (by rw [EP.out]; exact hown9)
         obtain ⟨a9, c9, rfl⟩ := hown9.shape
         clear hown9 hgrow9
         go_roundg (gk - 1)
         case measure => omega
         case rel => exact ⟨m + 1, ar, cr, L, by omega, by go_num, rfl, HT9, hid (by rw [EP.out]; exact ER.out), HO9, HB9⟩
     · have em : m = n := by omega
       subst em
       have hge : ¬ (m : Int) < m := by omega
       obtain ⟨a5, c5, e5, i5⟩ := OE.out.is
       have EE := hid e5
       have IE := hid i5
       have TRT : Hid (Tr wr ar L) := hid (by
         obtain ⟨a7, c7, e7, t7⟩ := TR.out.tr (by have := congrArg List.length ER.out; rw [List.length_map] at this; have := PF.out m; omega)
         simp only [Value.slice.injEq] at e7
         rw [e7.1]; exact t7)
       clear e5 i5
       go_wp2
       refine bodyPost_ret (v := .tuple #[.slice ar L.length cr, .slice va (P m).2.length vc]) (by simp [results, Tryz.results4, go_sem]) rfl ⟨ar, cr, L, a5, c5, ?_, TRT.out, by rw [PE.out]; exact ER.out, by rw [PE.out]; exact IE.out, HB.out⟩
       rw [PE.out, EE.out]
end Go.Proofs.YtkokjkaclcjnjaaGreatDoor
