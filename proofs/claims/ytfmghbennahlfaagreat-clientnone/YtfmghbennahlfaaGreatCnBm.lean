/-
  
-/
import Derived.Test.YtfmghbennahlfaaGreatCnBl
import Derived.Test.YtfmghbennahlfaaGreatCnBe
namespace Go.Proofs.YtfmghbennahlfaaGreat
open Go.RowKit Go.ChangeShapes Go.WideShapes Go.ChangeAt Go.Maps Go.Shelf
set_option linter.unusedVariables false
set_option linter.unusedSimpArgs false
set_option maxRecDepth 100000
attribute [local go_sem] Oper.semAt_some
def SortOK : Prop := ∀ (g n cap : Nat) (f0 : Nat → Int) (w : World), FidsAt w g n f0 → (∀ a b, a < n → b < n → f0 a = f0 b → a = b) → n ≤ 12 → n ≤ cap → Calls Tryz.prog 241 #[.slice (some ⟨g, 0, none⟩) n cap] w (SortedTo w g n f0)
set_option maxHeartbeats 1000000 in
theorem keysT_gives (n : Nat) (hn : 1 ≤ n) (Bm b m : Nat) (f : Int → Option (Option Addr)) (w : World) (hBm : Bm < w.heap.size) (hm : w.cell? ⟨Bm, 0, none⟩ = some (.map (some b))) (hf : IsFm ptE w b m f) :
   SeqGives Fence.wide n Tryz.prog 242 #[.pointer (some ⟨Bm, 0, none⟩)] encF (fun ss => AllF f ss ∧ ss.length ≤ m) m w := by
 intro l J W hW hJ hY h0
 have hfW : IsFm ptE W b m f := hf.out (S := fun _ => False) (Ou.of hW) id
 have hmW : W.cell? ⟨Bm, 0, none⟩ = some (.map (some b)) := (hW.cell (p := ⟨Bm, 0, none⟩) hBm).trans hm
 obtain ⟨D, hown, hs, hfD⟩ := hfW
 have HF : Hid (∀ ss, (ss.Nodup ∧ ∀ i, i ∈ ss ↔ Maps.has D (kyF i) = true) → AllF f ss) := hid (fun ss h => ⟨h.1, fun i => by rw [h.2, Maps.has_eq_look_of (E := ptE) hown i, hfD i]⟩)
 have HS := hid hs
 clear hf hm hfD hW hBm hs
 refine callsIn_of_wp Tryz.func242 rfl trivial ?_ rfl
 simp only [Tryz.ntmps242, List.size_toArray, List.length_cons, List.length_nil, Nat.reduceAdd, Nat.reduceSub, Array.replicate_succ, Array.replicate_zero, List.push_toArray, List.append_toArray, List.nil_append, List.cons_append]
 gi_wp2_with (first
   | (gi_at_range; refine wpListIn_range_own _ rfl _ 187 rfl 35 131 lawF Tryz.underlying187 _ b m _ rfl hown ?_; intro w0 hrg0 hg0 hs0)
   | gi_in)
 go_frame
 gi_loopw [3] (fun _ wr => ∃ (left : Lit → Bool) (cnt : Nat) (ss : List Int), wr.ranges Tryz.prog 35 ptE.rd b W.heap.size m D left cnt ∧ ss.length + cnt ≤ m ∧ Col D left ss ∧ J ss wr) (fun _ wr => wr.rangeLeft b W.heap.size)
 case atStart => exact ⟨_, _, [], hrg0, by simp [HS.out], Col.start D, hJ [] W w0 none h0 hg0 (fun r e => by cases e)⟩
 case round =>
   obtain ⟨left, cnt, ss, hrg, hcs, hC, hJs⟩ := hrel
   gi_wp2_with (first
     | (gi_at_next; refine wpListIn_next_ranges _ rfl _ rfl 35 lawF ptE.rd encF id (fun key kl hk => by obtain ⟨x, hx, _⟩ := keyF_inv hk; exact ⟨x, hx⟩) (fun v _ _ => ⟨v, rfl⟩) b W.heap.size m _ _ _ rfl hrg ?_ ?_)
     | gi_in)
   · intro hc0 hl0
     gi_wp2
     exact body_endF (by kernel_rfl) rfl ⟨⟨_, rfl⟩, ss, ⟨HF.out ss (hC.all hl0), by omega⟩, hJs⟩
   · intro x c kl yd yp w2 cnt2 hkey hlk hv hat hrg2 hlt hg2 hs2 hen
     obtain ⟨x', ex, rfl⟩ := keyF_inv hkey
     obtain rfl : x = x' := by unfold encF at ex; cases ex; rfl
     have hJ2 : J ss w2 := hJ ss wr w2 (some W.heap.size) hJs hg2 (fun r e => by cases e; exact ⟨Nat.le_refl _, hrg.iter_walk⟩)
     obtain ⟨fn, tmps, assign, body, hy, hR⟩ := hY ss x w2 hJ2 (by omega)
     have hh : Maps.has D (kyF x) = true := Maps.has_true_of_atKey hat
     clear hs2
     gi_wp2
     refine hR.mono ?_
     rintro e W3 ⟨rfl, hJ3, hk3⟩
     gi_wp2
     have hrg3 := hrg2.of_walks hk3
     go_roundw
     case rel => exact ⟨_, cnt2, ss ++ [x], hrg3, by simp; omega, hC.step hlk hh, hJ3⟩
     case measure => rw [hrg3.left_eq, hrg.left_eq]; exact hlt
set_option maxHeartbeats 1000000 in
theorem sortedT_in (SO : SortOK) (g : Nat) (lb : Array Value) (eg : ∀ args w, (callFunc g args).run Tryz.prog w = .ok (.enter g args) w) (S : List Int → Prop) (N : Nat) (hN : N ≤ 1000000) (w : World) (hseq : SeqGives Fence.wide 2 Tryz.prog g lb encF S N w) (hnd : ∀ ss, S ss → ss.Nodup ∧ ss.length ≤ 12) :
   Calls Tryz.prog 177 #[.func (.func g) #[] lb] w (SortPost S w) := by
 go_enter Tryz.func177, Tryz.ntmps177
 go_wp2_with fail
 refine (collectF_in g lb eg S N hN w hseq).mono ?_
 rintro _ w1 ⟨v, ss, rfl, h1, h2, h3⟩
 obtain ⟨a, n, cap, rfl⟩ := own_sliceF h2
 obtain ⟨e1, hcap, hat⟩ := own_fids h2 rfl
 obtain ⟨hd, hl⟩ := hnd ss h1
 have E1 := hid e1
 clear e1 h2
 rcases Nat.eq_zero_or_pos n with h0 | h0
 · subst h0
   go_wp2_with fail
   refine (sortF_nil _ _ _).mono ?_
   rintro _ _ ⟨rfl, rfl⟩
   go_wp2_with fail
   go_ret
   refine ⟨_, _, _, fun _ => 0, rfl, hcap, fun h => by omega, h3, fun i j a b => by omega, fun i j a => by omega, ss, h1, E1.out.symm, fun x => ?_⟩
   have : ss = [] := List.eq_nil_of_length_eq_zero E1.out.symm
   subst this
   simp
 · obtain ⟨gg, rfl, hgg, hF⟩ := hat h0
   have hinj : ∀ i j, i < n → j < n → ss.getD i 0 = ss.getD j 0 → i = j := fun i j hi hj e => by
     have e1 := E1.out
     rw [getD_atJ (by omega), getD_atJ (by omega)] at e
     exact (List.getElem_inj hd).1 e
   have hn12 : n ≤ 12 := by have := E1.out; omega
   have HI := hid hinj
   have HF := hid hF
   clear hinj hF hat
   go_wp2_with fail
   refine (SO gg n cap _ w1 HF.out HI.out hn12 hcap).mono ?_
   rintro _ w2 ⟨rfl, f, hf, hs, hu, ho⟩
   go_wp2_with fail
   go_ret
   refine ⟨_, _, _, f, rfl, hcap, fun _ => ⟨gg, rfl, hgg, hf⟩, h3.trans (ho.below h3.size (fun k e => by subst e; exact hgg)), hu, hs.2, ss, h1, E1.out.symm, fun x => ?_⟩
   have e1 := E1.out
   rw [← hs.1 x]
   constructor
   · intro hx
     obtain ⟨k, hk, e⟩ := List.getElem_of_mem hx
     exact ⟨k, by omega, by show ss.getD k 0 = x; rw [getD_atJ hk]; exact e⟩
   · rintro ⟨k, hk, rfl⟩
     show ss.getD k 0 ∈ ss
     rw [getD_atJ (by omega)]
     exact List.getElem_mem _
set_option maxHeartbeats 400000 in
theorem keysT_c (b : Nat) (w : World) : Calls Tryz.prog 178 #[.map (some b)] w fun e w' => e = .returned (.func (.func 242) #[] #[.pointer (some ⟨w.heap.size, 0, none⟩)]) ∧ w' = w.alloc (.cells #[.map (some b)] 187) := by
 go_enter Tryz.func178, Tryz.ntmps178
 go_wp2
 go_ret
 exact ⟨rfl, rfl⟩
def atF (N : Tab) (f : Nat → Int) (k : Nat) : Nd := ((N (f k)).map (fun z => z.2.er)).getD Nd.no
theorem atF_all {N : Tab} {l : List Nd} {n : Nat} {f : Nat → Int} (hR : Rel N l) (hs : Srt l) (hfd : ∀ g p x, N g = some (p, x) → x.fid = g) (hup : UpF n f) (hinj : ∀ i j, i < n → j < n → f i = f j → i = j) (hm : ∀ x, (∃ k, k < n ∧ f k = x) ↔ (N x).isSome = true) : (List.range n).map (atF N f) = l := by
 have fd : ∀ k, k < n → (atF N f k).fid = f k := fun k hk => by
   have h := (hm (f k)).1 ⟨k, hk, rfl⟩
   unfold atF
   cases hN : N (f k) with
   | none => rw [hN] at h; cases h
   | some z =>
     obtain ⟨p, x⟩ := z
     exact hfd _ p x hN
 refine srt_ext ?_ hs (fun g => ?_)
 · show List.Pairwise _ _
   rw [List.pairwise_map]
   refine List.Pairwise.imp_of_mem ?_ List.pairwise_lt_range
   intro a b ha hb hab
   rw [List.mem_range] at ha hb
   have h1 := hup a b hab hb
   have h2 := hinj a b ha hb
   rw [fd a ha, fd b hb]
   unfold leI
   exact decide_eq_false (by omega)
 · rw [← hR g]
   cases hN : N g with
   | none =>
     unfold getF
     rw [List.find?_eq_none.2]
     · rfl
     · intro x hx
       obtain ⟨k, hk, rfl⟩ := List.mem_map.1 hx
       rw [List.mem_range] at hk
       rw [fd k hk]
       intro e
       have e2 : f k = g := by simpa using e
       have := (hm g).1 ⟨k, hk, e2⟩
       rw [hN] at this
       cases this
   | some z =>
     obtain ⟨k, hk, e⟩ := (hm g).2 (by rw [hN]; rfl)
     have hin : atF N f k ∈ (List.range n).map (atF N f) := List.mem_map.2 ⟨k, List.mem_range.2 hk, rfl⟩
     have hz : atF N f k = z.2.er := by unfold atF; rw [e, hN]; rfl
     cases hg : getF ((List.range n).map (atF N f)) g with
     | none =>
       unfold getF at hg
       rw [List.find?_eq_none] at hg
       exact absurd (by simp [fd k hk, e]) (hg _ hin)
     | some y =>
       obtain ⟨hy, hyg⟩ := getF_mem hg
       obtain ⟨k2, hk2, rfl⟩ := List.mem_map.1 hy
       rw [List.mem_range] at hk2
       rw [fd k2 hk2] at hyg
       have := hinj k2 k hk2 hk (by rw [hyg, e])
       subst this
       rw [hz]
       rfl
theorem FidsAt.grown {w w' : World} {b g n sz m : Nat} {f : Nat → Int} {e : TypeId} {v : Value} {xs : List Value} (h : FidsAt w g n f) (hown : w.ownsRow b e sz v m xs) (hne : 35 ≠ e) (hg : w.grownBy w' v.ownBlock) : FidsAt w' g n f := by
 obtain ⟨cs, h3, h4, h5⟩ := h
 refine ⟨cs, (hg.block g (lt_blkR h3) (fun q => ?_)).trans h3, h4, h5⟩
 rcases hown.2 with ⟨rfl, _⟩ | ⟨g', cap, cur, rfl, _, hg', _⟩
 · cases q
 · cases q
   rw [hg'] at h3
   cases h3
   exact hne rfl
theorem FidsAt.later {w w' : World} {g n : Nat} {f : Nat → Int} (h : FidsAt w g n f) (hb : Below w.heap.size w w') : FidsAt w' g n f := by
 obtain ⟨cs, h3, h4, h5⟩ := h
 exact ⟨cs, (hb.block g (lt_blkR h3)).trans h3, h4, h5⟩
set_option maxHeartbeats 4000000 in
theorem tlist_c (SO : SortOK) {w : World} {base tb : Nat} {N : Tab} {l : List Nd} (h : MT w base tb l.length N) (hR : Rel N l) (hs : Srt l) (hl40 : l.length ≤ 12) :
   Calls Tryz.prog 111 #[.map (some tb)] w fun e w' => ∃ v L, e = .returned v ∧ OwN w' w.heap.size v L ∧ L.map Nd.er = l ∧ (∀ x ∈ L, NdW w' base x) ∧ Below w.heap.size w w' := by
 obtain ⟨i0, hi, hz0, hz1, hz2⟩ := info_nd
 have H := hid h
 have LN : ∀ ty, (Builtin.len_ #[187] ty #[.map (some tb)]).run Tryz.prog w = .ok (.int .i64 (l.length : Int)) w := fun ty => h.map.len ht_tab ty
 have ATA : Hid (∀ n f, UpF n f → (∀ i j, i < n → j < n → f i = f j → i = j) → (∀ x, (∃ k, k < n ∧ f k = x) ↔ (N x).isSome = true) → (List.range n).map (atF N f) = l) := hid (fun n f h1 h2 h3 => atF_all hR hs (fun g p x e => (h.nd g p x e).2.2.2) h1 h2 h3)
 have SC : Hid (∀ (W : World) (B : Nat), Below w.heap.size w W → W.heap[B]? = some (.cells #[.map (some tb)] 187) → Calls Tryz.prog 177 #[.func (.func 242) #[] #[.pointer (some ⟨B, 0, none⟩)]] W (SortPost (fun ss => AllF N.ptr ss ∧ ss.length ≤ l.length) W)) := hid (fun W B hW hB =>
   sortedT_in SO 242 _ (enters_of Tryz.func242 (by kernel_rfl) rfl) _ l.length (by omega) W (keysT_gives 2 (by omega) B tb l.length N.ptr W (lt_blkR hB) (cell_of_box_a hB).1 (h.later hW).map) (fun ss hss => ⟨hss.1.1, by have := hss.2; omega⟩))
 clear h hR hs
 generalize l.length = n0 at *
 go_enter Tryz.func111, Tryz.ntmps111
 go_upto_region 2 with (at_make; refine wpList_make_own _ rfl _ _ 49 rfl w.heap.size 40 i0 _ 6 Tryz.underlying49 hi hz0 hz1 _ _ _ n0 rfl rfl (by omega) (by rw [hz2]; omega) (by unfold maxLen; omega) (Nat.le_refl _) ?_; intro w1 hown0 hgr0)
 have O0 : Hid (OwN w1 w.heap.size (.slice (some ⟨w.heap.size, 0, none⟩) 0 n0) []) := hid hown0
 have B0 : Hid (Below w.heap.size w w1) := hid ((Below.refl _ _).grown hgr0 (Nat.le_refl _) (fun k hk => by cases hk))
 clear hown0 hgr0 LN
 go_upto_region 3 with (first
   | (go_at_call 177; refine S2.out.mono ?_; rintro _ A0 ⟨a, n, cap, f, rfl, hcap, hat, hb12, hup, hinj, ss, hss, hlen, hmem⟩
      have hn40 : n ≤ n0 := by have := hss.2; omega
      have BA := hid (B2.out.trans (hb12.mono B2.out.size))
      have OA := hid (O2.out.later hb12)
      have HM : Hid (∀ x, (∃ k, k < n ∧ f k = x) ↔ (N x).isSome = true) := hid (fun x => by rw [← hmem x, hss.1.2 x]; unfold Tab.ptr; cases N x <;> rfl)
      have LE := hid (ATA.out n f hup hinj HM.out)
      have HAT := hid hat
      clear hat hup hinj hss hlen hmem hb12)
   | (go_at_call 178; refine (keysT_c tb _).mono ?_; rintro _ w2 ⟨rfl, e2⟩
      have hb2 : Below w1.heap.size w1 w2 := by rw [e2]; exact below_1 w1 _
      have B2 := hid (B0.out.trans (hb2.mono B0.out.size))
      have S2 := hid (SC.out w2 w1.heap.size B2.out (by rw [e2]; exact heap_alloc_new w1 _))
      have O2 := hid (O0.out.later hb2)
      clear e2 hb2))
 go_loopg [3, 13] n (fun gk v j wr => ∃ (m : Nat) (L : List Nd), m + gk = n ∧ Hid (L.length = m) ∧ j = .int .i64 m ∧ Hid (OwN wr w.heap.size v L) ∧ Hid (L.map Nd.er = (List.range m).map (atF N f)) ∧ Hid (∀ x ∈ L, NdW wr base x) ∧ Hid (0 < n → ∃ g, a = some ⟨g, 0, none⟩ ∧ FidsAt wr g n f) ∧ Hid (Below w.heap.size w wr))
 case atStart => exact ⟨0, [], by omega, hid rfl, rfl, OA, hid rfl, hid (fun x hx => by cases hx), hid (fun h => by obtain ⟨g, e, _, hF⟩ := HAT.out h; exact ⟨g, e, hF⟩), BA⟩
 case round =>
   obtain ⟨m, L, hm2, HL, rfl, HO, HE, HR, HF, HB⟩ := hrel
   obtain ⟨va, vc, rfl⟩ := HO.out.shape
   by_cases hlt : m < n
   · have hltI : (m : Int) < n := by omega
     have hL1000 : L.length ≤ 1000 := by have := HL.out; omega
     obtain ⟨gg, rfl, hF⟩ := HF.out (by omega)
     have r1 := (hF.cell hlt).1
     have hI := H.out.later HB.out
     obtain ⟨z, hz⟩ := Option.isSome_iff_exists.1 ((HM.out (f m)).1 ⟨m, hlt, rfl⟩)
     obtain ⟨p, y⟩ := z
     obtain ⟨hbp, hli, hw, hfd⟩ := hI.nd _ p y hz
     have hsp := hli.1
     have hk := hw.1.1
     rw [hfd] at hk
     have LK := hI.look hk.1 hk.2
     rw [hz] at LK
     have TK : Hid ((List.range (m + 1)).map (atF N f) = (List.range m).map (atF N f) ++ [y.er]) := hid (by
       rw [List.range_succ, List.map_append]
       simp [atF, hz])
     obtain ⟨y0, y1, y2, y3, y4, y5⟩ := hli.ndc.all
     obtain ⟨pb, po, ps⟩ := p
     simp only at hsp y0 y1 y2 y3 y4 y5 LK
     subst hsp
     have W8 := hid hw
     have HF1 := hid hF
     have mB : (0 : Int) ≤ m := by omega
     have b8 := below_1 wr (.cells y.cells.toArray 40)
     have N8 := hid (heap_alloc_new wr (.cells y.cells.toArray 40))
     have O8 := hid (HO.out.later b8)
     have B8 := hid (HB.out.trans (b8.mono HB.out.size))
     have C8 := hid b8
     clear hI hli hw hF b8 hz hbp hk hfd
     obtain ⟨yf, yk, ym, yl, yda, ydc, yzs, yka, ykc, yks⟩ := y
     simp only [Option.map_some] at *
     generalize f m = fm at *
     go_wp2_with (at_builtin; refine wpList_appNd _ rfl _ _ rfl w.heap.size _ L rfl O8.out wr.heap.size _ ⟨yf, yk, ym, yl, yda, ydc, yzs, yka, ykc, yks⟩ rfl N8.out (by omega) B8.out.size ?_; intro v9 w9 hown9 hgrow9)
     have HB9 := hid (below_grownN B8.out O8.out (Nat.le_refl _) B8.out.size hgrow9)
     have HO9 := hid hown9
     have HR9 : Hid (∀ x ∈ L ++ [⟨yf, yk, ym, yl, yda, ydc, yzs, yka, ykc, yks⟩], NdW w9 base x) := hid (fun x hx => by
       rcases List.mem_append.1 hx with hx | hx
       · exact ((HR.out x hx).later C8.out).grown O8.out hgrow9
       · rw [List.mem_singleton] at hx
         subst hx
         exact (W8.out.later C8.out).grown O8.out hgrow9)
     have HF9 := hid ((HF1.out.later C8.out).grown O8.out (by decide) hgrow9)
     have EL : Hid ((L ++ [(⟨yf, yk, ym, yl, yda, ydc, yzs, yka, ykc, yks⟩ : Nd)]).map Nd.er = (List.range (m + 1)).map (atF N f)) := hid (by rw [TK.out, List.map_append, HE.out]; rfl)
     clear hown9 hgrow9
     go_roundg (gk - 1)
     case measure => omega
     case rel => exact ⟨m + 1, _, by omega, hid (by rw [List.length_append, HL.out]; rfl), by go_num, HO9, EL, HR9, hid (fun _ => ⟨gg, rfl, HF9.out⟩), HB9⟩
   · have em : m = n := by omega
     subst em
     have hge : ¬ (m : Int) < m := by omega
     have EF : Hid (L.map Nd.er = l) := hid (by rw [HE.out]; exact LE.out)
     go_wp2
     go_ret
     exact ⟨_, rfl, L, HO.out, EF.out, HR.out, HB.out⟩
def Dis (L : List Nd) : Prop := ∀ i j, i < L.length → j < L.length → (L.getD i Nd.no).fid = (L.getD j Nd.no).fid → i = j
theorem dis_of {L l : List Nd} (he : L.map Nd.er = l) (hs : Srt l) : Dis L := fun i j hi hj e => by
 have hf : ∀ k (hk : k < L.length), (L.getD k Nd.no).fid = (l[k]'(by rw [← he]; simpa using hk)).fid := fun k hk => by
   subst he
   simp [List.getD, List.getElem?_eq_getElem hk]
   rfl
 have hlen : l.length = L.length := by rw [← he]; simp
 have hp := List.pairwise_iff_getElem.1 hs
 rw [hf i hi, hf j hj] at e
 rcases Nat.lt_trichotomy i j with h | h | h
 · have := hp i j (by omega) (by omega) h
   rw [e, leI_refl] at this
   cases this
 · exact h
 · have := hp j i (by omega) (by omega) h
   rw [e, leI_refl] at this
   cases this
theorem plN_all {L : List Nd} (hd : Dis L) : ∀ m, m ≤ L.length → plN L m = m
 | 0, _ => rfl
 | m + 1, hm => by
   unfold plN addN
   cases hp : plTo L m (L.getD m Nd.no).fid with
   | none => rw [plN_all hd m (by omega)]; rfl
   | some i =>
     obtain ⟨h1, h2⟩ := plTo_lt L m hp
     have := hd i m (by omega) (by omega) h2
     omega
theorem plTo_at {L : List Nd} (hd : Dis L) {i : Nat} : ∀ m, i < m → m ≤ L.length → plTo L m (L.getD i Nd.no).fid = some i
 | 0, h, _ => by omega
 | m + 1, h, hm => by
   unfold plTo updF
   by_cases e : (L.getD i Nd.no).fid = (L.getD m Nd.no).fid
   · have := hd i m (by omega) (by omega) e
     subst this
     rw [if_pos rfl]
   · rw [if_neg e]
     have : i ≠ m := fun e2 => e (by rw [e2])
     exact plTo_at hd m (by omega) (by omega)
theorem ndF_rel {L l : List Nd} (a : Option Addr) (he : L.map Nd.er = l) (hd : Dis L) : Rel (ndF a L L.length) l := fun f => by
 unfold ndF
 cases hp : plTo L L.length f with
 | none =>
   show none = _
   symm
   unfold getF
   rw [List.find?_eq_none]
   intro x hx
   rw [← he] at hx
   obtain ⟨y, hy, rfl⟩ := List.mem_map.1 hx
   obtain ⟨i, hi, rfl⟩ := List.getElem_of_mem hy
   intro e
   have e3 : L[i].er.fid = f := by simpa using e
   have e2 : (L.getD i Nd.no).fid = f := by rw [show L.getD i Nd.no = L[i] by simp [List.getD, List.getElem?_eq_getElem hi]]; exact e3
   have := plTo_at hd L.length hi (Nat.le_refl _)
   rw [e2, hp] at this
   cases this
 | some i =>
   obtain ⟨hi, hf⟩ := plTo_lt L _ hp
   show some (L.getD i Nd.no).er = _
   have hin : (L.getD i Nd.no).er ∈ l := by
     rw [← he]
     exact List.mem_map.2 ⟨_, getD_mem L Nd.no hi, rfl⟩
   cases hg : getF l f with
   | none =>
     unfold getF at hg
     rw [List.find?_eq_none] at hg
     exact absurd (by show ((L.getD i Nd.no).fid == f) = true; simpa using hf) (hg _ hin)
   | some y =>
     obtain ⟨hy, hyf⟩ := getF_mem hg
     rw [← he] at hy
     obtain ⟨z, hz, rfl⟩ := List.mem_map.1 hy
     obtain ⟨j, hj, rfl⟩ := List.getElem_of_mem hz
     have e1 : L.getD j Nd.no = L[j] := by simp [List.getD, List.getElem?_eq_getElem hj]
     have e2 : (L.getD j Nd.no).fid = f := by rw [e1]; exact hyf
     have := hd i j hi hj (by rw [hf, e2])
     subst this
     rw [e1]
theorem mt_of {w w' : World} {base : Nat} {a : Option Addr} {c : Nat} {L : List Nd} (ho : OwN w base (.slice a L.length c) L) (hn : ∀ x ∈ L, NdW w base x) (hk : KAp L) (hd : Dis L) (hz : base ≤ w.heap.size) (hb : Below w.heap.size w w')
   (ht : IsTab w' w.heap.size (plN L L.length) (ndF a L L.length)) : MT w' base w.heap.size L.length (ndF a L L.length) := by
 have hp := ht.1
 rw [plN_all hd _ (Nat.le_refl _)] at hp
 have ix : ∀ f p x, ndF a L L.length f = some (p, x) → ∃ i, i < L.length ∧ x = L.getD i Nd.no ∧ x.fid = f ∧ ∃ g cur, a = some ⟨g, 0, none⟩ ∧ p = ⟨g, i * 6, none⟩ ∧ base ≤ g ∧ w.heap[g]? = some (.cells cur 40 (0, 0)) ∧ ∀ j v, (L.getD i Nd.no).cells[j]? = some v → cur[i * 6 + j]? = some v := fun f p x e => by
   unfold ndF at e
   cases hq : plTo L L.length f with
   | none => rw [hq] at e; cases e
   | some i =>
     rw [hq] at e
     simp only [Option.map_some, Option.some.injEq, Prod.mk.injEq] at e
     obtain ⟨rfl, rfl⟩ := e
     obtain ⟨h1, h2⟩ := plTo_lt L _ hq
     rcases ho.2 with ⟨e, _⟩ | ⟨g, cap, cur, e, hbg, hg, _, _, _, h4⟩
     · injection e with _ e2 _
       omega
     · injection e with e1 _ _
       subst e1
       refine ⟨i, h1, rfl, h2, g, cur, rfl, by simp, hbg, hg, fun j v hv => ?_⟩
       have hj : j < 6 := (List.getElem?_eq_some_iff.1 hv).1
       rw [← Array.getElem?_toList, ← List.getElem?_take_of_lt (show i * 6 + j < L.length * 6 by omega), h4, ncells_get L i j h1 hj]
       exact hv
 refine ⟨hp, hz, fun f p x e => ?_, fun f g p q x y e1 e2 hne => ?_, fun f g p q x y e1 e2 hne b hb1 => ?_⟩
 · obtain ⟨i, hi, rfl, hf, g, cur, _, rfl, h1, h2, h3⟩ := ix f p x e
   exact ⟨h1, ⟨rfl, cur, (hb.block g (lt_blkR h2)).trans h2, h3⟩, (hn _ (getD_mem L Nd.no hi)).later hb, hf⟩
 · obtain ⟨i, hi, rfl, hf, g1, c1, ea, rfl, _, _, _⟩ := ix f p x e1
   obtain ⟨j, hj, rfl, hf2, g2, c2, ea2, rfl, _, _, _⟩ := ix g q y e2
   have : i ≠ j := fun e => hne (by rw [← hf, ← hf2, e])
   right
   simp only
   omega
 · obtain ⟨i, hi, rfl, hf, _⟩ := ix f p x e1
   obtain ⟨j, hj, rfl, hf2, _⟩ := ix g q y e2
   have hij : i ≠ j := fun e => hne (by rw [← hf, ← hf2, e])
   have hg : ∀ k (hk : k < L.length), L.getD k Nd.no = L[k] := fun k hk => by simp [List.getD, List.getElem?_eq_getElem hk]
   rw [hg i hi] at hb1
   rw [hg j hj]
   have hp := List.pairwise_iff_getElem.1 hk
   rcases Nat.lt_trichotomy i j with h | h | h
   · exact hp i j hi hj h b hb1
   · exact absurd h hij
   · intro hb2
     exact hp j i hj hi h b hb2 hb1
set_option maxHeartbeats 4000000 in
theorem tApply_c (SO : SortOK) (a : Option Addr) (cap : Nat) (l : List Nd) (o : Rec) (w : World) (h : Tr w a l) (hm : l.length ≤ 900) (ho : o.Wf) (hL : (ApplyL (l.map Nd.er) o).2.length ≤ 12) (DO : ∀ (W : World) (base tb : Nat) (N : Tab), MT W base tb (l.map Nd.er).length N → Rel N (l.map Nd.er) → Rt (l.map Nd.er) → Calls Tryz.prog 176 #[.map (some tb), o.opV] W (DoP W base tb (ApplyL (l.map Nd.er) o))) :
   Calls Tryz.prog 141 #[.slice a l.length cap, o.opV] w (ResO w (ApplyL (l.map Nd.er) o)) := by
 obtain ⟨r, hr⟩ : ∃ r, r = ApplyL (l.map Nd.er) o := ⟨_, rfl⟩
 have gd := ApplyL_gd (l.map Nd.er) o
 have rt2 : r.1 = 0 → Rt r.2 := fun e => by rw [hr] at e ⊢; exact ApplyL_rt ho e
 have er3 : rightD l = false → r = (3, []) := fun e => by rw [hr]; unfold ApplyL; rw [rightD_er, e]; rfl
 have TRC : Hid (∀ (W : World) (base tb : Nat) (N : Tab) (m : Nat), m = (l.map Nd.er).length → MT W base tb m N → Rel N (l.map Nd.er) → rightD l = true → Calls Tryz.prog 110 #[.map (some tb), o.opV] W (TryP W base tb r)) := hid (fun W base tb N m hm2 hM hR e => by
   subst hm2
   rw [hr]
   exact ttry_c o hM hR (rightD_rt.1 (by rw [rightD_er]; exact e)) ho (fun W' hM' => DO W' base tb N hM' hR (rightD_rt.1 (by rw [rightD_er]; exact e))))
 clear DO
 rw [← hr] at hL
 have HL := hid hL
 clear hL
 rw [← hr]
 rw [← hr] at gd
 obtain ⟨k, fid, dir, nm, tof, nm2, md, dt, sn⟩ := o
 have b0 := below_1 w (.cells #[.int .u8 k, .int .u32 fid, .int .u32 dir, .string nm, .int .u32 tof, .string nm2, .int .u16 md, .string dt] 111)
 have h0 := heap_alloc_new w (.cells #[.int .u8 k, .int .u32 fid, .int .u32 dir, .string nm, .int .u32 tof, .string nm2, .int .u16 md, .string dt] 111)
 have B0 := hid b0
 have OPL : Hid (∀ W, Below (w.alloc (.cells #[.int .u8 k, .int .u32 fid, .int .u32 dir, .string nm, .int .u32 tof, .string nm2, .int .u16 md, .string dt] 111)).heap.size (w.alloc (.cells #[.int .u8 k, .int .u32 fid, .int .u32 dir, .string nm, .int .u32 tof, .string nm2, .int .u16 md, .string dt] 111)) W → W.heap[w.heap.size]? = some (.cells #[.int .u8 k, .int .u32 fid, .int .u32 dir, .string nm, .int .u32 tof, .string nm2, .int .u16 md, .string dt] 111)) := hid (fun W hW => (hW.block _ (lt_blkR h0)).trans h0)
 have RV := hid (right_c a cap l (w.alloc (.cells #[.int .u8 k, .int .u32 fid, .int .u32 dir, .string nm, .int .u32 tof, .string nm2, .int .u16 md, .string dt] 111)) (h.later b0).1 (by omega))
 have HT := hid h
 simp only [Rec.opV] at *
 clear b0 h0 h ho hr
 cases hb : rightD l with
 | false =>
   have RE : Hid (r = (3, [])) := hid (er3 hb)
   have HRP : Hid (¬ RightP l) := hid (fun e => by rw [rightD_iff, hb] at e; cases e)
   clear er3 rt2 gd TRC hb OPL
   go_enter Tryz.func141, Tryz.ntmps141
   go_upto_region 1 with fail
   generalize (w.alloc (.cells #[.int .u8 k, .int .u32 fid, .int .u32 dir, .string nm, .int .u32 tof, .string nm2, .int .u16 md, .string dt] 111)) = V at *
   go_wp2_with (go_at_call 58; refine RV.out.mono ?_; rintro _ w1 ⟨b1, rfl, hb1, hw1⟩; have eb : b1 = false := (by cases b1 with | false => rfl | true => exact absurd (hb1.1 rfl) HRP.out); subst eb; have B1 := hid hw1; clear hb1 hw1)
   exact bodyPost_ret (v := .tuple #[.slice none 0 0, .int .i64 3]) (by simp [results, Tryz.results141, go_sem]) rfl (ResO.err RE.out (B0.out.trans (B1.out.mono B0.out.size)))
 | true =>
   have HRP : Hid (RightP l) := hid (by rw [rightD_iff]; exact hb)
   have HRT : Hid (Rt (l.map Nd.er)) := hid (rightD_rt.1 (by rw [rightD_er]; exact hb))
   have TRC := hid (fun W base tb N m h0 h1 h2 => TRC.out W base tb N m h0 h1 h2 hb)
   obtain ⟨c, L⟩ := r
   clear er3 hb
   by_cases hc : c = 0
   · have HRT2 : Hid (Rt L) := hid (rt2 hc)
     have hcB : (c == 0) = true := by rw [hc]; rfl
     have HC := hid hc
     clear rt2 gd
     go_enter Tryz.func141, Tryz.ntmps141
     go_upto_region 1 with fail
     generalize (w.alloc (.cells #[.int .u8 k, .int .u32 fid, .int .u32 dir, .string nm, .int .u32 tof, .string nm2, .int .u16 md, .string dt] 111)) = V at *
     subst hc
     go_wp2_with (first
     | (go_at_call 111; refine LS.out.mono ?_; rintro _ w5 ⟨v5, L5, rfl, ho5, he5, hn5, hb5⟩
        have B5 := hid (B4.out.trans (hb5.mono B4.out.size))
        have NS5 : Hid (NsO w5 w.heap.size v5 L5) := hid ⟨own_low ho5 B4.out.size, fun x hx => ((hn5 x hx).low (Nat.le_trans B0.out.size B1.out.size)).r⟩
        obtain ⟨a5, c5, rfl⟩ := ho5.shape
        have E5 := hid he5
        clear ho5 he5 hn5 hb5)
     | (go_at_call 110; refine TC.out.mono ?_; rintro _ w4 ⟨rfl, h4⟩
        have h5 : (∃ N', MT w4 w1.heap.size w2.heap.size L.length N' ∧ Rel N' L) ∧ Below w1.heap.size w3 w4 := by
          rcases h4 with ⟨_, h6, h7⟩ | ⟨h6, _⟩
          · exact ⟨h6, h7⟩
          · exact absurd rfl h6
        obtain ⟨⟨N', hM4, hR4⟩, hb4⟩ := h5
        have B4 := hid ((B0.out.trans (B3.out.mono B0.out.size)).trans (hb4.mono (Nat.le_trans B0.out.size B1.out.size)))
        have LS := hid (tlist_c SO hM4 hR4 HRT2.out.srt HL.out)
        clear h4 hM4 hR4 hb4)
     | (go_at_call 108; refine TO1.out.mono ?_; rintro _ w3 ⟨rfl, ht3, hb3⟩
        have M3 := mt_of O2.out NW2.out KA2.out D2.out Z2.out hb3 ht3
        have B3 := hid (B2.out.trans (hb3.mono B2.out.size))
        have oh := OPL.out _ B3.out
        have u0 : w3.cell? ⟨w.heap.size, 0, none⟩ = some (.int .u8 k) := cell_of_row2 oh 0 rfl; have u1 : w3.cell? ⟨w.heap.size, 1, none⟩ = some (.int .u32 fid) := cell_of_row2 oh 1 rfl; have u2 : w3.cell? ⟨w.heap.size, 2, none⟩ = some (.int .u32 dir) := cell_of_row2 oh 2 rfl; have u3 : w3.cell? ⟨w.heap.size, 3, none⟩ = some (.string nm) := cell_of_row2 oh 3 rfl; have u4 : w3.cell? ⟨w.heap.size, 4, none⟩ = some (.int .u32 tof) := cell_of_row2 oh 4 rfl; have u5 : w3.cell? ⟨w.heap.size, 5, none⟩ = some (.string nm2) := cell_of_row2 oh 5 rfl; have u6 : w3.cell? ⟨w.heap.size, 6, none⟩ = some (.int .u16 md) := cell_of_row2 oh 6 rfl; have u7 : w3.cell? ⟨w.heap.size, 7, none⟩ = some (.string dt) := cell_of_row2 oh 7 rfl
        have TC := hid (TRC.out w3 w1.heap.size w2.heap.size _ _ LL2.out M3 (ndF_rel a2 ER2.out D2.out))
        have ZB3 := hid M3.size
        clear ht3 hb3 M3 oh)
     | (go_at_call 109; refine CP1.out.mono ?_; rintro _ w2 ⟨v2, L2, rfl, ho2, he2, hn2, hk2, hb2⟩
        obtain ⟨a2, c2, rfl⟩ := ho2.shape
        have hL2 : L2.length = l.length := by have := congrArg List.length he2; simpa using this
        have LL2 : Hid (L2.length = (l.map Nd.er).length) := hid (by rw [List.length_map]; exact hL2)
        have O2 := hid ho2
        have NW2 := hid hn2
        have KA2 := hid hk2
        have ER2 := hid he2
        have D2 := hid (dis_of he2 HRT.out.srt)
        have Z2 := hid hb2.size
        have B2 := hid (B1.out.trans (hb2.mono B1.out.size))
        have TO1 := hid (tableOf_c a2 c2 L2 w2 (by
          obtain ⟨a', c', e', h'⟩ := ho2.is (fun x hx => (hn2 x hx).r.ok) (by omega)
          cases e'
          exact h') (by have := HRT.out.few; rw [List.length_map] at this; omega))
        clear ho2 he2 hn2 hk2 hb2 hL2)
     | (go_at_call 58; refine RV.out.mono ?_; rintro _ w1 ⟨b1, rfl, hb1, hw1⟩
        have eb := hb1.2 HRP.out
        subst eb
        have B1 := hid hw1
        have CP1 := hid (copyAll_c a cap l w1 (HT.out.later (B0.out.trans (hw1.mono B0.out.size))) (by omega))
        clear hb1 hw1))
     exact bodyPost_ret (v := .tuple #[.slice a5 L5.length c5, .int .i64 0]) (by simp [results, Tryz.results141, go_sem]) rfl ⟨_, L5, rfl, NS5.out, E5.out, B5.out⟩
   · have hcB : (c == 0) = false := beq_eq_false_iff_ne.2 hc
     have RE : Hid ((c, L) = ((c, []) : Int × List Nd)) := hid (by rw [show L = [] from gd.1 hc])
     have HC := hid hc
     clear rt2 gd
     go_enter Tryz.func141, Tryz.ntmps141
     go_upto_region 1 with fail
     generalize (w.alloc (.cells #[.int .u8 k, .int .u32 fid, .int .u32 dir, .string nm, .int .u32 tof, .string nm2, .int .u16 md, .string dt] 111)) = V at *
     go_wp2_with (first
     | (go_at_call 110; refine TC.out.mono ?_; rintro _ w4 ⟨rfl, h4⟩
        have hb4 : Below w3.heap.size w3 w4 := by
          rcases h4 with ⟨h6, _, _⟩ | ⟨_, h7⟩
          · exact absurd h6 HC.out
          · exact h7
        have B4 := hid (B0.out.trans ((B3.out.trans (hb4.mono B3.out.size)).mono B0.out.size))
        clear h4 hb4)
     | (go_at_call 108; refine TO1.out.mono ?_; rintro _ w3 ⟨rfl, ht3, hb3⟩
        have M3 := mt_of O2.out NW2.out KA2.out D2.out Z2.out hb3 ht3
        have B3 := hid (B2.out.trans (hb3.mono B2.out.size))
        have oh := OPL.out _ B3.out
        have u0 : w3.cell? ⟨w.heap.size, 0, none⟩ = some (.int .u8 k) := cell_of_row2 oh 0 rfl; have u1 : w3.cell? ⟨w.heap.size, 1, none⟩ = some (.int .u32 fid) := cell_of_row2 oh 1 rfl; have u2 : w3.cell? ⟨w.heap.size, 2, none⟩ = some (.int .u32 dir) := cell_of_row2 oh 2 rfl; have u3 : w3.cell? ⟨w.heap.size, 3, none⟩ = some (.string nm) := cell_of_row2 oh 3 rfl; have u4 : w3.cell? ⟨w.heap.size, 4, none⟩ = some (.int .u32 tof) := cell_of_row2 oh 4 rfl; have u5 : w3.cell? ⟨w.heap.size, 5, none⟩ = some (.string nm2) := cell_of_row2 oh 5 rfl; have u6 : w3.cell? ⟨w.heap.size, 6, none⟩ = some (.int .u16 md) := cell_of_row2 oh 6 rfl; have u7 : w3.cell? ⟨w.heap.size, 7, none⟩ = some (.string dt) := cell_of_row2 oh 7 rfl
        have TC := hid (TRC.out w3 w1.heap.size w2.heap.size _ _ LL2.out M3 (ndF_rel a2 ER2.out D2.out))
        have ZB3 := hid M3.size
        clear ht3 hb3 M3 oh)
     | (go_at_call 109; refine CP1.out.mono ?_; rintro _ w2 ⟨v2, L2, rfl, ho2, he2, hn2, hk2, hb2⟩
        obtain ⟨a2, c2, rfl⟩ := ho2.shape
        have hL2 : L2.length = l.length := by have := congrArg List.length he2; simpa using this
        have LL2 : Hid (L2.length = (l.map Nd.er).length) := hid (by rw [List.length_map]; exact hL2)
        have O2 := hid ho2
        have NW2 := hid hn2
        have KA2 := hid hk2
        have ER2 := hid he2
        have D2 := hid (dis_of he2 HRT.out.srt)
        have Z2 := hid hb2.size
        have B2 := hid (B1.out.trans (hb2.mono B1.out.size))
        have TO1 := hid (tableOf_c a2 c2 L2 w2 (by
          obtain ⟨a', c', e', h'⟩ := ho2.is (fun x hx => (hn2 x hx).r.ok) (by omega)
          cases e'
          exact h') (by have := HRT.out.few; rw [List.length_map] at this; omega))
        clear ho2 he2 hn2 hk2 hb2 hL2)
     | (go_at_call 58; refine RV.out.mono ?_; rintro _ w1 ⟨b1, rfl, hb1, hw1⟩
        have eb := hb1.2 HRP.out
        subst eb
        have B1 := hid hw1
        have CP1 := hid (copyAll_c a cap l w1 (HT.out.later (B0.out.trans (hw1.mono B0.out.size))) (by omega))
        clear hb1 hw1))
     exact bodyPost_ret (v := .tuple #[.slice none 0 0, .int .i64 c]) (by simp [results, Tryz.results141, go_sem]) rfl (ResO.err RE.out B4.out)
end Go.Proofs.YtfmghbennahlfaaGreat
