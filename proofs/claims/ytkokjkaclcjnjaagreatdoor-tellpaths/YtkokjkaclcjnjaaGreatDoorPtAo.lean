/-
  The document's tree: enter: a directory with an entry more, or less.
-/
import Derived.Test.YtkokjkaclcjnjaaGreatDoorPtAn
namespace Go.Proofs.YtkokjkaclcjnjaaGreatDoor
open Go.RowKit Go.ChangeShapes Go.WideShapes Go.ChangeAt Go.Maps Go.Shelf
set_option linter.unusedVariables false
set_option linter.unusedSimpArgs false
set_option maxRecDepth 100000
def OwK (w : World) (base : Nat) (v : Value) (L : List Kd) : Prop := w.ownsRow base 65 2 v L.length (kcells L)
theorem OwK.nil (w : World) (base : Nat) : OwK w base (.slice none 0 0) [] := World.ownsRow_nil _ _ _ _
theorem OwK.later {w w' : World} {base : Nat} {v : Value} {L : List Kd} (h : OwK w base v L) (hb : Below w.heap.size w w') : OwK w' base v L := own_latR h hb
theorem OwK.shape {w : World} {base : Nat} {v : Value} {L : List Kd} (h : OwK w base v L) : ∃ a cap, v = .slice a L.length cap := by
 rcases h.2 with ⟨hv, hn⟩ | ⟨g, cap, cur, hv, hrest⟩
 · exact ⟨none, 0, by rw [hv, hn]⟩
 · exact ⟨_, _, hv⟩
theorem below_grownK {B : Nat} {a w w' : World} {base : Nat} {v : Value} {L : List Kd} (h : Below B a w) (hown : OwK w base v L) (hB : B ≤ base) (hBw : B ≤ w.heap.size) (hg : w.grownBy w' v.ownBlock) : Below B a w' := by
 refine ⟨hg.os.trans h.os, hg.tape.trans h.tape, hg.output.trans h.output, Nat.le_trans h.size hg.size, fun k hk => ?_⟩
 rw [hg.block k (by omega) ?_]
 · exact h.block k hk
 · intro e
   rcases hown.2 with ⟨hv, hn⟩ | ⟨g, cap, cur, hv, hb, hrest⟩
   · rw [hv] at e; cases e
   · rw [hv] at e
     cases e
     have hb' : base ≤ g := hb
     have hk' : g < B := hk
     omega
theorem wpList_appKd (w : World) {ops : Array Oper} {rest : List Oper} {o : Oper} {a : Act} {Q : Exit → Act → World → Prop} (hgd : o.guard = none) (s x : Operand)
   (ho : o.op = .call { callee := .builtin .append, args := #[s, x], argTypes := #[35, 35] }) (base : Nat) (v : Value) (L : List Kd) (hs : a.eval s = v) (hown : OwK w base v L)
   (g : Nat) (fr : Nat × Nat) (y : Kd) (hx : a.eval x = .slice (some ⟨g, 0, none⟩) 1 1) (hb : w.heap[g]? = some (.cells y.cells.toArray 65 fr)) (h63 : L.length ≤ 10000) (hbase : base ≤ w.heap.size)
   (h : ∀ v' w', OwK w' base v' (L ++ [y]) → w.grownBy w' v.ownBlock → wpList Tryz.prog ops Q rest (a.put o.dst v') w') : wpList Tryz.prog ops Q (o :: rest) a w := by
 obtain ⟨i0, hi, hz0, hz1, hz2⟩ := info_kid
 refine wpList_append_own w hgd s x 35 ho base 65 i0 Kd.no.val 2 24 Tryz.underlying35 hi hz0 hz1 hz2 (by rfl) (by decide) v L.length (kcells L) hs hown ⟨g, 0, none⟩ 1 1 y.cells hx rfl (kid_news hb) (kid_one y) (by unfold maxLen; omega) (by omega) hbase ?_
 intro v' w' h1 h2 h3
 refine h v' w' ?_ h2
 unfold OwK
 rw [kcells_snoc, List.length_append]
 exact h1
def entS (s : ByteArray) (f : Int) (p : List Kd × Bool) (x : Kd) : List Kd × Bool :=
 ((if !p.2 && leS s x.nm then p.1 ++ [⟨s, f⟩] else p.1) ++ (if decide (x.nm ≠ s) then [x] else []), p.2 || leS s x.nm)
def entL (l : List Kd) (s : ByteArray) (f : Int) : List Kd := if (l.foldl (entS s f) ([], f == 0)).2 then (l.foldl (entS s f) ([], f == 0)).1 else (l.foldl (entS s f) ([], f == 0)).1 ++ [⟨s, f⟩]
theorem entS_len (s : ByteArray) (f : Int) (l : List Kd) (m : Nat) : ((l.take m).foldl (entS s f) ([], f == 0)).1.length ≤ 2 * m := by
 induction m with
 | zero => simp
 | succ m ih =>
   by_cases h : m < l.length
   · rw [fold_take _ _ _ Kd.no h]
     generalize (l.take m).foldl (entS s f) ([], f == 0) = p at *
     simp only [entS]
     split <;> split <;> simp <;> omega
   · rw [List.take_of_length_le (by omega)] at ih
     rw [List.take_of_length_le (by omega)]
     omega
def Nd.kids (x : Nd) (ka : Option Addr) (kc : Nat) (ks : List Kd) : Nd := ⟨x.fid, x.k, x.md, x.ln, x.da, x.dc, x.zs, ka, kc, ks⟩
set_option maxHeartbeats 4000000 in
theorem renter_c (x : Nd) (s : ByteArray) (f : Int) (w : World) (h : x.Ok w) (hm : x.ks.length ≤ 1000) :
   Calls Tryz.prog 63 #[x.val, .string s, .int .u32 f] w fun e w' => ∃ ka kc, e = .returned (x.kids ka kc (entL x.ks s f)).val ∧ OwK w' w.heap.size (.slice ka (entL x.ks s f).length kc) (entL x.ks s f) ∧ Below w.heap.size w w' := by
 obtain ⟨fid, k, md, ln, da, dc, zs, ka, kc, l⟩ := x
 simp only [Nd.kids, Nd.val] at *
 have b0 := below_1 w (.cells (⟨fid, k, md, ln, da, dc, zs, ka, kc, l⟩ : Nd).cells.toArray 37)
 have h0 := heap_alloc_new w (.cells (⟨fid, k, md, ln, da, dc, zs, ka, kc, l⟩ : Nd).cells.toArray 37)
 have b1 := below_1 (w.alloc (.cells (⟨fid, k, md, ln, da, dc, zs, ka, kc, l⟩ : Nd).cells.toArray 37)) (.cells Nd.no.cells.toArray 37)
 have h1 := heap_alloc_new (w.alloc (.cells (⟨fid, k, md, ln, da, dc, zs, ka, kc, l⟩ : Nd).cells.toArray 37)) (.cells Nd.no.cells.toArray 37)
 have B0 := hid (b0.trans (b1.mono b0.size))
 have HK := hid (h.2.2.2.2.2.later B0.out)
 have HX := hid ((b1.block _ (lt_blkR h0)).trans h0)
 have HR := hid h1
 obtain ⟨fin, hfin⟩ : ∃ fin, fin = entL l s f := ⟨_, rfl⟩
 rw [← hfin]
 obtain ⟨P, hP⟩ : ∃ P : Nat → List Kd, P = fun m => ((l.take m).foldl (entS s f) ([], f == 0)).1 := ⟨_, rfl⟩
 obtain ⟨D, hD⟩ : ∃ D : Nat → Bool, D = fun m => ((l.take m).foldl (entS s f) ([], f == 0)).2 := ⟨_, rfl⟩
 have P0 : Hid (P 0 = []) := hid (by rw [hP]; rfl)
 have D0 : Hid (D 0 = (f == 0)) := hid (by rw [hD]; rfl)
 have STP : Hid (∀ m, m < l.length → P (m + 1) = (if !D m && leS s (l.getD m Kd.no).nm then P m ++ [⟨s, f⟩] else P m) ++ (if decide ((l.getD m Kd.no).nm ≠ s) then [l.getD m Kd.no] else []) ∧ D (m + 1) = (D m || leS s (l.getD m Kd.no).nm)) := hid (fun m hm => by
   rw [hP, hD]
   simp only
   rw [fold_take _ _ _ Kd.no hm]
   exact ⟨rfl, rfl⟩)
 have LE : Hid (∀ m, (P m).length ≤ 2 * m) := hid (fun m => by rw [hP]; exact entS_len s f l m)
 have FIN : Hid (fin = if D l.length then P l.length else P l.length ++ [⟨s, f⟩]) := hid (by rw [hP, hD, hfin]; simp only; rw [List.take_length]; rfl)
 obtain ⟨n, hn⟩ : ∃ n, n = l.length := ⟨_, rfl⟩
 have HN := hid hn
 simp only [Nd.cells] at HX HR B0 HK
 rw [← hn] at hm FIN STP HX HR B0 HK ⊢
 clear h hn hP hD hfin b0 b1 h0 h1
 have hsz : (w.alloc (.cells #[.int .u32 fid, .int .u8 k, .int .u16 md, .int .u16 ln, .slice da zs.length dc, .slice ka n kc] 37)).heap.size = w.heap.size + 1 := by simp
 simp only [List.length_nil, Nd.no] at HX HR B0 HK
 rw [hsz] at HR
 go_enter Tryz.func63, Tryz.ntmps63
 go_upto_region 1 with fail
 have HX2 : Hid (∀ W, Below ((w.alloc (.cells #[.int .u32 fid, .int .u8 k, .int .u16 md, .int .u16 ln, .slice da zs.length dc, .slice ka n kc] 37)).alloc (.cells #[.int .u32 0, .int .u8 0, .int .u16 0, .int .u16 0, .slice none 0 0, .slice none 0 0] 37)).heap.size ((w.alloc (.cells #[.int .u32 fid, .int .u8 k, .int .u16 md, .int .u16 ln, .slice da zs.length dc, .slice ka n kc] 37)).alloc (.cells #[.int .u32 0, .int .u8 0, .int .u16 0, .int .u16 0, .slice none 0 0, .slice none 0 0] 37)) W → W.heap[w.heap.size]? = some (.cells #[.int .u32 fid, .int .u8 k, .int .u16 md, .int .u16 ln, .slice da zs.length dc, .slice ka n kc] 37)) := hid (fun W hW => (hW.block _ (lt_blkR HX.out)).trans HX.out)
 have HR2 : Hid (∀ W, Below ((w.alloc (.cells #[.int .u32 fid, .int .u8 k, .int .u16 md, .int .u16 ln, .slice da zs.length dc, .slice ka n kc] 37)).alloc (.cells #[.int .u32 0, .int .u8 0, .int .u16 0, .int .u16 0, .slice none 0 0, .slice none 0 0] 37)).heap.size ((w.alloc (.cells #[.int .u32 fid, .int .u8 k, .int .u16 md, .int .u16 ln, .slice da zs.length dc, .slice ka n kc] 37)).alloc (.cells #[.int .u32 0, .int .u8 0, .int .u16 0, .int .u16 0, .slice none 0 0, .slice none 0 0] 37)) W → W.heap[w.heap.size + 1]? = some (.cells #[.int .u32 0, .int .u8 0, .int .u16 0, .int .u16 0, .slice none 0 0, .slice none 0 0] 37)) := hid (fun W hW => (hW.block _ (lt_blkR HR.out)).trans HR.out)
 have LV : Hid (((w.alloc (.cells #[.int .u32 fid, .int .u8 k, .int .u16 md, .int .u16 ln, .slice da zs.length dc, .slice ka n kc] 37)).alloc (.cells #[.int .u32 0, .int .u8 0, .int .u16 0, .int .u16 0, .slice none 0 0, .slice none 0 0] 37)).heap.size = w.heap.size + 2) := hid (by simp)
 clear HX HR hsz
 generalize ((w.alloc (.cells #[.int .u32 fid, .int .u8 k, .int .u16 md, .int .u16 ln, .slice da zs.length dc, .slice ka n kc] 37)).alloc (.cells #[.int .u32 0, .int .u8 0, .int .u16 0, .int .u16 0, .slice none 0 0, .slice none 0 0] 37)) = V at *
 have FB : Hid (∀ W, Below V.heap.size V W → Below w.heap.size w W) := hid (fun W h => B0.out.trans (h.mono B0.out.size))
 have Q5 : Hid (∀ W, Below V.heap.size V W → W.cell? ⟨w.heap.size, 5, none⟩ = some (.slice ka n kc)) := hid (fun W h => cell_of_row2 (HX2.out W h) 5 rfl)
 go_wp2
 go_loopg [7, 8, 9] n (fun gk v7 v8 v9 wr => ∃ m : Nat, m + gk = n ∧ v9 = .int .i64 m ∧ v8 = .bool (D m) ∧ Hid (OwK wr V.heap.size v7 (P m)) ∧ Hid (Below V.heap.size V wr))
 case atStart => exact ⟨0, by omega, rfl, by rw [D0.out], hid (by rw [P0.out]; exact OwK.nil _ _), hid (Below.refl _ _)⟩
 case round =>
   obtain ⟨m, hm2, rfl, rfl, HO, HB⟩ := hrel
   obtain ⟨va, vc, rfl⟩ := HO.out.shape
   have k5 := Q5.out wr HB.out
   by_cases hlt : m < n
   · have hltI : (m : Int) < n := by omega
     have hln : m < l.length := by rw [← HN.out]; exact hlt
     obtain ⟨b, off, rfl, _⟩ := HK.out.2.2 (by omega)
     have YL : Hid (∀ W, Below V.heap.size V W → KdAt W b (off + m * 2) (l.getD m Kd.no)) := hid (fun W hW => (HK.out.later hW).at (i := m) hln)
     have HS := hid (STP.out m hlt)
     have hle := LE.out m
     clear hln
     generalize l.getD m Kd.no = y at *
     obtain ⟨k0, k1⟩ := YL.out wr HB.out
     generalize D m = dm at *
     obtain ⟨A, hA⟩ : ∃ A, A = (!dm && leS s y.nm) := ⟨_, rfl⟩
     have DA : Hid (A = true → dm = false ∧ leS s y.nm = true) := hid (fun h => by rw [hA] at h; simpa using h)
     have DB : Hid (A = false → (dm || leS s y.nm) = dm) := hid (fun h => by rw [hA] at h; cases dm <;> simp_all)
     have ZS : Hid (P (m + 1) = (if A then P m ++ [⟨s, f⟩] else P m) ++ (if decide (y.nm ≠ s) then [y] else []) ∧ D (m + 1) = (dm || leS s y.nm)) := hid (by rw [hA]; exact HS.out)
     have HA := hid hA
     clear hA HS
     go_upto_region 6 with fail
     go_cut [30] from 12 to 52 (fun s30 wx => s30 = .bool A ∧ wx = wr)
     case first =>
       cases dm with
       | true =>
         go_wp2
         go_meet
         exact ⟨by rw [HA.out]; rfl, rfl⟩
       | false =>
         have q2 : leS s y.nm = (Op.bytesLess s.toList y.nm.toList || s.toList == y.nm.toList) := rfl
         cases q : (Op.bytesLess s.toList y.nm.toList || s.toList == y.nm.toList) with
         | true =>
           have HA2 : Hid (A = true) := hid (by rw [HA.out, q2, q]; rfl)
           clear HA DA DB ZS q2
           go_wp2
           go_meet
           exact ⟨by rw [HA2.out], rfl⟩
         | false =>
           have HA2 : Hid (A = false) := hid (by rw [HA.out, q2, q]; rfl)
           clear HA DA DB ZS q2
           go_wp2
           go_meet
           exact ⟨by rw [HA2.out], rfl⟩
     case rest =>
     obtain ⟨rfl, hw⟩ := hcut
     have hw2 := hw.symm
     clear hw
     subst hw2
     clear HA
     go_upto_if 30 with fail
     go_cut [7, 8] from 12 to 52 (fun s7 s8 wx => s8 = .bool (dm || leS s y.nm) ∧ ∃ wy, wy = wx ∧ Hid (OwK wy V.heap.size s7 (if A then P m ++ [⟨s, f⟩] else P m)) ∧ Hid (Below V.heap.size V wy))
     case first =>
       cases A with
       | true =>
         have QD := hid (DA.out rfl)
         have b1 := below_1 wr (.cells (⟨s, f⟩ : Kd).cells.toArray 65)
         have O1 := hid (HO.out.later b1)
         have B1 := hid (HB.out.trans (b1.mono HB.out.size))
         have N1 := hid (heap_alloc_new wr (.cells (⟨s, f⟩ : Kd).cells.toArray 65))
         clear b1
         go_wp2_with (at_builtin; refine wpList_appKd _ rfl _ _ rfl V.heap.size _ (P m) rfl O1.out wr.heap.size _ ⟨s, f⟩ rfl N1.out (by omega) B1.out.size ?_; intro v9 w9 hown9 hgrow9)
         have HB9 := hid (below_grownK B1.out O1.out (Nat.le_refl _) B1.out.size hgrow9)
         have HO9 := hid hown9
         clear hown9 hgrow9
         go_meet
         exact ⟨by rw [QD.out.2]; simp, _, rfl, HO9, HB9⟩
       | false =>
         have QD := hid (DB.out rfl)
         go_wp2
         go_meet
         exact ⟨by rw [QD.out], _, rfl, HO, HB⟩
     case rest =>
       obtain ⟨rfl, wy, rfl, OY, BY⟩ := hcut
       clear HO HB DA DB k0 k1 k5
       have k5 := Q5.out wy BY.out
       obtain ⟨k0, k1⟩ := YL.out wy BY.out
       obtain ⟨HS1, HS2⟩ := ZS.out
       have HP := hid HS1
       have HD := hid HS2
       clear ZS HS1 HS2
       obtain ⟨A, hA⟩ : ∃ A', A' = (if A then P m ++ [⟨s, f⟩] else P m) := ⟨_, rfl⟩
       have hAl : A.length ≤ 2 * m + 1 := by rw [hA]; split <;> (try simp only [List.length_append, List.length_cons, List.length_nil]) <;> omega
       rw [← hA] at OY HP
       clear hA
       rw [← HD.out]
       clear HD
       obtain ⟨va2, vc2, rfl⟩ := OY.out.shape
       by_cases q : y.nm = s
       · have HP2 : Hid (P (m + 1) = A) := hid (by rw [HP.out, q]; simp)
         have OQ : Hid (OwK wy V.heap.size (.slice va2 A.length vc2) (P (m + 1))) := hid (by rw [HP2.out]; exact OY.out)
         have qB : (y.nm.toList == s.toList) = true := by rw [ba_eq]; exact decide_eq_true q
         have qC : (y.nm.toList != s.toList) = false := by rw [bne, qB]; rfl
         clear HP q
         go_wp2
         go_roundg (gk - 1)
         case measure => omega
         case rel => exact ⟨m + 1, by omega, by go_num, rfl, OQ, BY⟩
       · have qB : (y.nm.toList == s.toList) = false := by rw [ba_eq]; exact decide_eq_false q
         have qC : (y.nm.toList != s.toList) = true := by rw [bne, qB]; rfl
         have HP2 : Hid (P (m + 1) = A ++ [y]) := hid (by rw [HP.out, decide_eq_true q]; rfl)
         have b1 := below_1 wy (.cells y.cells.toArray 65)
         have O1 := hid (OY.out.later b1)
         have B1 := hid (BY.out.trans (b1.mono BY.out.size))
         have N1 := hid (heap_alloc_new wy (.cells y.cells.toArray 65))
         clear HP b1 q
         go_wp2_with (at_builtin; refine wpList_appKd _ rfl _ _ rfl V.heap.size _ A rfl O1.out wy.heap.size _ y rfl N1.out (by omega) B1.out.size ?_; intro v9 w9 hown9 hgrow9)
         have HB9 := hid (below_grownK B1.out O1.out (Nat.le_refl _) B1.out.size hgrow9)
         have HO9 : Hid (OwK w9 V.heap.size v9 (P (m + 1))) := hid (by rw [HP2.out]; exact hown9)
         obtain ⟨a9, c9, rfl⟩ := hown9.shape
         clear hown9 hgrow9
         go_roundg (gk - 1)
         case measure => omega
         case rel => exact ⟨m + 1, by omega, by go_num, rfl, HO9, HB9⟩
   · have em : m = n := by omega
     subst em
     have hge : ¬ (m : Int) < m := by omega
     have hle := LE.out m
     go_upto_if 54 with fail
     go_cut [7, 8] from 12 to 60 (fun s7 s8 wx => ∃ wy, wy = wx ∧ Hid (OwK wy V.heap.size s7 fin) ∧ Hid (Below V.heap.size V wy))
     case first =>
       cases qd : D m with
       | true =>
         have HF : Hid (OwK wr V.heap.size (.slice va (P m).length vc) fin) := hid (by rw [FIN.out, qd]; exact HO.out)
         go_wp2
         go_meet
         exact ⟨_, rfl, HF, HB⟩
       | false =>
         have HF : Hid (fin = P m ++ [⟨s, f⟩]) := hid (by rw [FIN.out, qd]; rfl)
         have b1 := below_1 wr (.cells (⟨s, f⟩ : Kd).cells.toArray 65)
         have O1 := hid (HO.out.later b1)
         have B1 := hid (HB.out.trans (b1.mono HB.out.size))
         have N1 := hid (heap_alloc_new wr (.cells (⟨s, f⟩ : Kd).cells.toArray 65))
         clear b1
         go_wp2_with (at_builtin; refine wpList_appKd _ rfl _ _ rfl V.heap.size _ (P m) rfl O1.out wr.heap.size _ ⟨s, f⟩ rfl N1.out (by omega) B1.out.size ?_; intro v9 w9 hown9 hgrow9)
         have HB9 := hid (below_grownK B1.out O1.out (Nat.le_refl _) B1.out.size hgrow9)
         have HO9 : Hid (OwK w9 V.heap.size v9 fin) := hid (by rw [HF.out]; exact hown9)
         clear hown9 hgrow9
         go_meet
         exact ⟨_, rfl, HO9, HB9⟩
     case rest =>
       obtain ⟨wy, rfl, OY, BY⟩ := hcut
       obtain ⟨va2, vc2, rfl⟩ := OY.out.shape
       have fz : ∀ i, wy.frozen? ⟨w.heap.size, i, none⟩ = false := fun i => by simp [World.frozen?, HX2.out _ BY.out]
       have fy : ∀ i, wy.frozen? ⟨w.heap.size + 1, i, none⟩ = false := fun i => by simp [World.frozen?, HR2.out _ BY.out]
       have q0 : wy.cell? ⟨w.heap.size, 0, none⟩ = some (.int .u32 fid) := cell_of_row2 (HX2.out _ BY.out) 0 rfl
       have q1 : wy.cell? ⟨w.heap.size, 1, none⟩ = some (.int .u8 k) := cell_of_row2 (HX2.out _ BY.out) 1 rfl
       have q2 : wy.cell? ⟨w.heap.size, 2, none⟩ = some (.int .u16 md) := cell_of_row2 (HX2.out _ BY.out) 2 rfl
       have q3 : wy.cell? ⟨w.heap.size, 3, none⟩ = some (.int .u16 ln) := cell_of_row2 (HX2.out _ BY.out) 3 rfl
       have q4 : wy.cell? ⟨w.heap.size, 4, none⟩ = some (.slice da zs.length dc) := cell_of_row2 (HX2.out _ BY.out) 4 rfl
       have q5 : wy.cell? ⟨w.heap.size, 5, none⟩ = some (.slice ka m kc) := cell_of_row2 (HX2.out _ BY.out) 5 rfl
       have r0 : wy.cell? ⟨w.heap.size + 1, 0, none⟩ = some (.int .u32 0) := cell_of_row2 (HR2.out _ BY.out) 0 rfl
       have r1 : wy.cell? ⟨w.heap.size + 1, 1, none⟩ = some (.int .u8 0) := cell_of_row2 (HR2.out _ BY.out) 1 rfl
       have r2 : wy.cell? ⟨w.heap.size + 1, 2, none⟩ = some (.int .u16 0) := cell_of_row2 (HR2.out _ BY.out) 2 rfl
       have r3 : wy.cell? ⟨w.heap.size + 1, 3, none⟩ = some (.int .u16 0) := cell_of_row2 (HR2.out _ BY.out) 3 rfl
       have r4 : wy.cell? ⟨w.heap.size + 1, 4, none⟩ = some (.slice none 0 0) := cell_of_row2 (HR2.out _ BY.out) 4 rfl
       have r5 : wy.cell? ⟨w.heap.size + 1, 5, none⟩ = some (.slice none 0 0) := cell_of_row2 (HR2.out _ BY.out) 5 rfl
       have BW := hid (FB.out _ BY.out)
       have OW : Hid (OwK wy (w.heap.size + 2) (.slice va2 fin.length vc2) fin) := hid (by
         have := OY.out
         rw [LV.out] at this
         exact this)
       generalize hBB : w.heap.size = B at *
       have HBB := hid hBB
       clear OY HO HB k5 hBB
       go_wp2
       refine bodyPost_ret (v := .agg #[.int .u32 fid, .int .u8 k, .int .u16 md, .int .u16 ln, .slice da zs.length dc, .slice va2 fin.length vc2]) (by simp [results, Tryz.results63, go_sem, r0, r1, r2, r3, r4, r5]) rfl ⟨va2, vc2, rfl, ?_, ?_⟩
       · rw [HBB.out]
         exact own_low (own_set (own_set (own_set (own_set (own_set (own_set (own_set OW.out (p := ⟨B, 5, none⟩) (by show B < B + 2; omega) _) (p := ⟨B + 1, 0, none⟩) (by show B + 1 < B + 2; omega) _) (p := ⟨B + 1, 1, none⟩) (by show B + 1 < B + 2; omega) _) (p := ⟨B + 1, 2, none⟩) (by show B + 1 < B + 2; omega) _) (p := ⟨B + 1, 3, none⟩) (by show B + 1 < B + 2; omega) _) (p := ⟨B + 1, 4, none⟩) (by show B + 1 < B + 2; omega) _) (p := ⟨B + 1, 5, none⟩) (by show B + 1 < B + 2; omega) _) (by omega)
       · rw [HBB.out]
         exact ((((((BW.out.setCell (p := ⟨B, 5, none⟩) (Nat.le_refl _) _).setCell (p := ⟨B + 1, 0, none⟩) (Nat.le_succ _) _).setCell (p := ⟨B + 1, 1, none⟩) (Nat.le_succ _) _).setCell (p := ⟨B + 1, 2, none⟩) (Nat.le_succ _) _).setCell (p := ⟨B + 1, 3, none⟩) (Nat.le_succ _) _).setCell (p := ⟨B + 1, 4, none⟩) (Nat.le_succ _) _).setCell (p := ⟨B + 1, 5, none⟩) (Nat.le_succ _) _
end Go.Proofs.YtkokjkaclcjnjaaGreatDoor
