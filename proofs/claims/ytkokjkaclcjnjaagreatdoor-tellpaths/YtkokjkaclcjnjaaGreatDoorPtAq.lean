/-
  The document's tree: copied: nodes whose lists are their own.
-/
import Derived.Test.YtkokjkaclcjnjaaGreatDoorPtAp
namespace Go.Proofs.YtkokjkaclcjnjaaGreatDoor
open Go.RowKit Go.ChangeShapes Go.WideShapes Go.ChangeAt Go.Maps Go.Shelf
set_option linter.unusedVariables false
set_option linter.unusedSimpArgs false
set_option maxRecDepth 100000
def Nd.Nil (x : Nd) : Prop := (x.da = none → x.dc = 0) ∧ (x.ka = none → x.kc = 0)
def Nd.Fit (x : Nd) : Prop := (0 ≤ x.fid ∧ x.fid < 4294967296) ∧ (0 ≤ x.k ∧ x.k < 256) ∧ (0 ≤ x.md ∧ x.md < 65536) ∧ (0 ≤ x.ln ∧ x.ln < 65536) ∧ InB x.zs ∧ (∀ q ∈ x.ks, q.Wf) ∧ x.zs.length ≤ 1000 ∧ x.ks.length ≤ 1000
def NdR (w : World) (base : Nat) (x : Nd) : Prop := x.Fit ∧ x.Nil ∧ RowAt w base 5 x.da (x.zs.map u8V) ∧ RowAt w base 65 x.ka (kcells x.ks)
theorem NdR.later {w w' : World} {base : Nat} {x : Nd} (h : NdR w base x) (hb : Below w.heap.size w w') : NdR w' base x := ⟨h.1, h.2.1, h.2.2.1.later hb, h.2.2.2.later hb⟩
theorem RowAt.lowR {w : World} {base b : Nat} {t : TypeId} {p : Option Addr} {vs : List Value} (h : RowAt w base t p vs) (hb : b ≤ base) : RowAt w b t p vs := by
 rcases h with h | ⟨g, cs, fr, h1, h2, h3, h4⟩
 · exact .inl h
 · exact .inr ⟨g, cs, fr, h1, by omega, h3, h4⟩
theorem NdR.low {w : World} {base b : Nat} {x : Nd} (h : NdR w base x) (hb : b ≤ base) : NdR w b x := ⟨h.1, h.2.1, h.2.2.1.lowR hb, h.2.2.2.lowR hb⟩
theorem NdR.ok {w : World} {base : Nat} {x : Nd} (h : NdR w base x) : x.Ok w := by
 obtain ⟨⟨h1, h2, h3, h4, h5, h6, h7, h8⟩, _, hd, hk⟩ := h
 refine ⟨h1, h2, h3, h4, ⟨rfl, by unfold maxLen; omega, fun hp => ?_, h5⟩, ⟨by unfold maxLen; omega, h6, fun hp => ?_⟩⟩
 · rcases hd with hd | ⟨g, cs, fr, e1, e2, e3, e4⟩
   · have := congrArg List.length hd
     simp at this
     rw [this] at hp
     exact absurd hp (by simp)
   · refine ⟨g, 0, e1, fun i hi => ?_⟩
     rw [cell_of_row w g _ _ _ fr e3]
     refine e4 (0 + i) _ ?_
     simp [List.getElem?_map, List.getD, hi, u8V]
 · rcases hk with hk | ⟨g, cs, fr, e1, e2, e3, e4⟩
   · have := congrArg List.length hk
     rw [kcells_len] at this
     simp only [List.length_nil] at this
     omega
   · refine ⟨g, 0, e1, fun i hi => ?_⟩
     have key : ∀ j, j < 2 → ∀ u, (x.ks.getD i Kd.no).cells[j]? = some u → w.cell? ⟨g, 0 + i * 2 + j, none⟩ = some u := fun j hj u hu => by
       rw [cell_of_row w g _ _ _ fr e3]
       refine e4 (0 + i * 2 + j) _ ?_
       rw [Nat.zero_add, kcells_get x.ks i j hi hj]
       exact hu
     exact ⟨key 0 (by omega) _ rfl, key 1 (by omega) _ rfl⟩
theorem NdR.grown {w w' : World} {base b : Nat} {x : Nd} {v : Value} {L : List Nd} (h : NdR w base x) (hown : OwN w b v L) (hg : w.grownBy w' v.ownBlock) : NdR w' base x :=
 ⟨h.1, h.2.1, h.2.2.1.grown hown (by decide) hg, h.2.2.2.grown hown (by decide) hg⟩
theorem own_empty_at {w : World} {e : TypeId} {size g base : Nat} (h : w.heap[g]? = some (.cells #[] e (0, 0))) (hb : base ≤ g) : w.ownsRow base e size (.slice (some ⟨g, 0, none⟩) 0 0) 0 [] :=
 ⟨by simp, .inr ⟨g, 0, #[], rfl, hb, h, Nat.le_refl _, Nat.zero_le _, by simp, by simp⟩⟩
theorem wpList_cpB (w : World) {ops : Array Oper} {rest : List Oper} {o : Oper} {a : Act} {Q : Exit → Act → World → Prop} (hgd : o.guard = none) (s x : Operand)
   (ho : o.op = .call { callee := .builtin .append, args := #[s, x], argTypes := #[34, 34] }) (g : Nat) (hs : a.eval s = .slice (some ⟨g, 0, none⟩) 0 0) (hg0 : w.heap[g]? = some (.cells #[] 5 (0, 0)))
   (pa : Option Addr) (m c : Nat) (zs : List Int) (hx : a.eval x = .slice pa m c) (hb : IsB w pa m zs) (hc : pa = none → c = 0) (h63 : m ≤ 1000000)
   (h : ∀ v' w', OwB w' g v' zs → w.grownBy w' (some g) → wpList Tryz.prog ops Q rest (a.put o.dst v') w') : wpList Tryz.prog ops Q (o :: rest) a w := by
 obtain ⟨i0, hi, hz0, hz1, hz2⟩ := info_parts8
 have hown : w.ownsRow g 5 1 (.slice (some ⟨g, 0, none⟩) 0 0) 0 [] := own_empty_at hg0 (Nat.le_refl _)
 have hl := hb.1
 have hgs := lt_blkR hg0
 cases pa with
 | none =>
   have hm : m = 0 := by
     rcases Nat.eq_zero_or_pos m with h0 | h0
     · exact h0
     · obtain ⟨b, off, e, _⟩ := hb.2.2.1 h0; cases e
   subst hm
   have hz : zs = [] := List.eq_nil_of_length_eq_zero hb.1
   subst hz
   have hc0 := hc rfl
   subst hc0
   refine wpList_append_own_none hgd s x 34 ho g 5 i0 1 Tryz.underlying34 hi _ 0 [] hs hown hx ?_
   exact h _ w hown (World.grownBy.refl w _)
 | some ad =>
   by_cases hm : m = 0
   · subst hm
     have hz : zs = [] := List.eq_nil_of_length_eq_zero hb.1
     subst hz
     refine wpList_append_own w hgd s x 34 ho g 5 i0 (.int .u8 0) 1 1 Tryz.underlying34 hi hz0 hz1 hz2 rfl (by decide) _ 0 [] hs hown ad 0 c [] hx rfl (fun j u hu => by simp at hu) (fun u hu => by cases hu) (by unfold maxLen; omega) (by omega) (by omega) ?_
     intro v' w' h1 h2 h3
     exact h v' w' (by unfold OwB; simpa using h1) h2
   · obtain ⟨b, off, e, _⟩ := hb.2.2.1 (by omega)
     cases e
     refine wpList_append_own w hgd s x 34 ho g 5 i0 (.int .u8 0) 1 1 Tryz.underlying34 hi hz0 hz1 hz2 rfl (by decide) _ 0 [] hs hown ⟨b, off, none⟩ m c (zs.map u8V) hx (by simp [hl]) (isB_newsF hb) (u8V_one zs) (by unfold maxLen; omega) (by omega) (by omega) ?_
     intro v' w' h1 h2 h3
     refine h v' w' ?_ h2
     unfold OwB
     rw [hl]
     simpa using h1
theorem ks_news {w : World} {b off : Nat} {l : List Kd} (h : IsKs w (some ⟨b, off, none⟩) l) : ∀ j u, (kcells l)[j]? = some u → w.cell? ((⟨b, off, none⟩ : Addr).add j) = some u := fun j u hu => by
 have hj : j < l.length * 2 := by rw [← kcells_len]; exact (List.getElem?_eq_some_iff.1 hu).1
 have e : (⟨b, off, none⟩ : Addr).add j = ⟨b, off + j, none⟩ := by unfold Addr.add; split <;> simp_all
 have hd : j / 2 * 2 + j % 2 = j := by omega
 have hi : j / 2 < l.length := by omega
 obtain ⟨k0, k1⟩ := h.at hi
 rw [e]
 rw [← hd, kcells_get l (j / 2) (j % 2) hi (by omega)] at hu
 have hm : j % 2 = 0 ∨ j % 2 = 1 := by omega
 rcases hm with hm | hm
 · rw [hm] at hu hd
   have : u = .string (l.getD (j / 2) Kd.no).nm := by simpa [Kd.cells] using hu.symm
   rw [this, ← k0]
   congr 2
   omega
 · rw [hm] at hu hd
   have : u = .int .u32 (l.getD (j / 2) Kd.no).fid := by simpa [Kd.cells] using hu.symm
   rw [this, ← k1]
   congr 2
   omega
theorem kcells_one (l : List Kd) : ∀ u ∈ kcells l, u.oneCell' = true := fun u hu => by
 unfold kcells at hu
 rw [List.mem_flatMap] at hu
 obtain ⟨x, _, hx⟩ := hu
 exact kid_one x u hx
theorem wpList_cpK (w : World) {ops : Array Oper} {rest : List Oper} {o : Oper} {a : Act} {Q : Exit → Act → World → Prop} (hgd : o.guard = none) (s x : Operand)
   (ho : o.op = .call { callee := .builtin .append, args := #[s, x], argTypes := #[35, 35] }) (g : Nat) (hs : a.eval s = .slice (some ⟨g, 0, none⟩) 0 0) (hg0 : w.heap[g]? = some (.cells #[] 65 (0, 0)))
   (pa : Option Addr) (m c : Nat) (l : List Kd) (hx : a.eval x = .slice pa m c) (hb : IsKs w pa l) (hl : m = l.length) (hc : pa = none → c = 0) (h63 : m ≤ 100000)
   (h : ∀ v' w', OwK w' g v' l → w.grownBy w' (some g) → wpList Tryz.prog ops Q rest (a.put o.dst v') w') : wpList Tryz.prog ops Q (o :: rest) a w := by
 obtain ⟨i0, hi, hz0, hz1, hz2⟩ := info_kid
 have hown : w.ownsRow g 65 2 (.slice (some ⟨g, 0, none⟩) 0 0) 0 [] := own_empty_at hg0 (Nat.le_refl _)
 have hgs := lt_blkR hg0
 cases pa with
 | none =>
   have hm : l = [] := by
     cases l with
     | nil => rfl
     | cons y ys => obtain ⟨b, off, e, _⟩ := hb.2.2 (by simp); cases e
   subst hm
   simp only [List.length_nil] at hl
   subst hl
   have hc0 := hc rfl
   subst hc0
   refine wpList_append_own_none hgd s x 35 ho g 65 i0 2 Tryz.underlying35 hi _ 0 [] hs hown hx ?_
   exact h _ w hown (World.grownBy.refl w _)
 | some ad =>
   by_cases hm : l.length = 0
   · have hz : l = [] := List.eq_nil_of_length_eq_zero hm
     subst hz
     subst hl
     refine wpList_append_own w hgd s x 35 ho g 65 i0 Kd.no.val 2 24 Tryz.underlying35 hi hz0 hz1 hz2 (by rfl) (by decide) _ 0 [] hs hown ad 0 c [] hx rfl (fun j u hu => by simp at hu) (fun u hu => by cases hu) (by unfold maxLen; omega) (by omega) (by omega) ?_
     intro v' w' h1 h2 h3
     exact h v' w' (by unfold OwK; exact h1) h2
   · obtain ⟨b, off, e, _⟩ := hb.2.2 (by omega)
     cases e
     subst hl
     refine wpList_append_own w hgd s x 35 ho g 65 i0 Kd.no.val 2 24 Tryz.underlying35 hi hz0 hz1 hz2 (by rfl) (by decide) _ 0 [] hs hown ⟨b, off, none⟩ l.length c (kcells l) hx (by rw [kcells_len]) (ks_news hb) (kcells_one l) (by unfold maxLen; omega) (by omega) (by omega) ?_
     intro v' w' h1 h2 h3
     refine h v' w' ?_ h2
     unfold OwK
     simpa using h1
theorem OwB.shapeR {w : World} {base : Nat} {v : Value} {zs : List Int} (h : OwB w base v zs) : ∃ a cap, v = .slice a zs.length cap ∧ (a = none → cap = 0) ∧ RowAt w base 5 a (zs.map u8V) := by
 have hz : zs.length = 0 → zs.map u8V = [] := fun e => by rw [List.eq_nil_of_length_eq_zero e]; rfl
 rcases h.2 with ⟨hv, hn⟩ | ⟨g, cap, cur, hv, hrest⟩
 · exact ⟨none, 0, by rw [hv, hn], fun _ => rfl, .inl (hz hn)⟩
 · exact ⟨_, _, hv, (fun e => by cases e), RowAt.own h hv hz⟩
theorem OwK.shapeR {w : World} {base : Nat} {v : Value} {l : List Kd} (h : OwK w base v l) : ∃ a cap, v = .slice a l.length cap ∧ (a = none → cap = 0) ∧ RowAt w base 65 a (kcells l) := by
 have hz : l.length = 0 → kcells l = [] := fun e => by rw [List.eq_nil_of_length_eq_zero e]; rfl
 rcases h.2 with ⟨hv, hn⟩ | ⟨g, cap, cur, hv, hrest⟩
 · exact ⟨none, 0, by rw [hv, hn], fun _ => rfl, .inl (hz hn)⟩
 · exact ⟨_, _, hv, (fun e => by cases e), RowAt.own h hv hz⟩
theorem RowAt.setR {w : World} {base : Nat} {t : TypeId} {p : Option Addr} {vs : List Value} {q : Addr} {cs : Array Value} {e : TypeId} {fr : Nat × Nat} (h : RowAt w base t p vs) (hq : w.heap[q.block]? = some (.cells cs e fr)) (hne : t ≠ e) (u : Value) : RowAt (w.setCell q u) base t p vs := by
 rcases h with h | ⟨g, cs', fr', h1, h2, h3, h4⟩
 · exact .inl h
 · refine .inr ⟨g, cs', fr', h1, h2, ?_, h4⟩
   have : g ≠ q.block := fun e1 => by
     subst e1
     rw [hq] at h3
     cases h3
     exact hne rfl
   rw [Below.heap_setCell _ _ _ _ this]
   exact h3
set_option maxHeartbeats 4000000 in
theorem rcopied_c (a : Option Addr) (cap : Nat) (l : List Nd) (w : World) (h : IsNs w a l) (hm : l.length ≤ 1000) (hN : ∀ x ∈ l, x.Nil ∧ x.zs.length ≤ 1000 ∧ x.ks.length ≤ 1000) :
   Calls Tryz.prog 11 #[.slice a l.length cap] w fun e w' => ∃ v L, e = .returned v ∧ OwN w' w.heap.size v L ∧ L.map Nd.er = l.map Nd.er ∧ (∀ x ∈ L, NdR w' w.heap.size x) ∧ Below w.heap.size w w' := by
 have H := hid h
 have HI := hid hN
 obtain ⟨n, hn⟩ : ∃ n, n = l.length := ⟨_, rfl⟩
 rw [← hn] at hm ⊢
 have HN := hid hn
 clear h hn hN
 go_enter Tryz.func11, Tryz.ntmps11
 go_wp2
 go_loopg [3, 4] n (fun gk v j wr => ∃ (m : Nat) (L : List Nd), m + gk = n ∧ L.length = m ∧ j = .int .i64 m ∧ Hid (OwN wr w.heap.size v L) ∧ Hid (L.map Nd.er = (l.take m).map Nd.er) ∧ Hid (∀ x ∈ L, NdR wr w.heap.size x) ∧ Hid (Below w.heap.size w wr))
 case atStart => exact ⟨0, [], by omega, rfl, rfl, hid (OwN.nil _ _), hid rfl, hid (fun x hx => by cases hx), hid (Below.refl _ _)⟩
 case round =>
   obtain ⟨m, L, hm2, hL, rfl, HO, HE, HR, HB⟩ := hrel
   obtain ⟨va, vc, rfl⟩ := HO.out.shape
   by_cases hlt : m < n
   · have hltI : (m : Int) < n := by omega
     have hln : m < l.length := by rw [← HN.out]; exact hlt
     obtain ⟨b, off, rfl, _⟩ := H.out.2.2 (by omega)
     have hI := H.out.later HB.out
     obtain ⟨y0, y1, y2, y3, y4, y5⟩ := (hI.at (i := m) hln).all
     have XO := hid (hI.ok (i := m) hln)
     obtain ⟨hnil, hz1000, hk1000⟩ := HI.out _ (getD_mem l Nd.no hln)
     have XN := hid hnil
     have TK : Hid ((l.take (m + 1)).map Nd.er = (l.take m).map Nd.er ++ [(l.getD m Nd.no).er]) := hid (by
       rw [List.take_add_one, List.getElem?_eq_getElem hln, List.map_append]
       simp [List.getD, hln])
     clear hI hln hnil
     generalize l.getD m Nd.no = x at *
     obtain ⟨fid, k, md, ln, da, dc, zs, ka, kc, ks⟩ := x
     simp only at y0 y1 y2 y3 y4 y5 hz1000 hk1000
     obtain ⟨nz, hnz⟩ : ∃ nz, zs.length = nz := ⟨_, rfl⟩
     obtain ⟨nk, hnk⟩ : ∃ nk, ks.length = nk := ⟨_, rfl⟩
     rw [hnz] at y4 hz1000
     rw [hnk] at y5 hk1000
     have HZ := hid hnz
     have HK := hid hnk
     have HL := hid hL
     have hLm : L.length ≤ 1000 := by omega
     clear hnz hnk hL
     go_upto_region 6 with fail
     obtain ⟨g0, hgg⟩ : ∃ g0, wr.heap.size = g0 := ⟨_, rfl⟩
     have b1 := below_1 wr (.cells #[.int .u32 fid, .int .u8 k, .int .u16 md, .int .u16 ln, .slice da nz dc, .slice ka nk kc] 37)
     have bx := heap_alloc_new wr (.cells #[.int .u32 fid, .int .u8 k, .int .u16 md, .int .u16 ln, .slice da nz dc, .slice ka nk kc] 37)
     have hsz : (wr.alloc (.cells #[.int .u32 fid, .int .u8 k, .int .u16 md, .int .u16 ln, .slice da nz dc, .slice ka nk kc] 37)).heap.size = wr.heap.size + 1 := by simp
     have XB := hid ((XO.out.later b1).2.2.2.2.1)
     have XK := hid ((XO.out.later b1).2.2.2.2.2)
     simp only at XB XK
     rw [HZ.out] at XB
     rw [hgg] at b1 bx hsz ⊢
     have CB := hid b1
     have BX := hid bx
     have HG := hid hgg
     have hlv : g0 < (wr.alloc (.cells #[.int .u32 fid, .int .u8 k, .int .u16 md, .int .u16 ln, .slice da nz dc, .slice ka nk kc] 37)).heap.size := by omega
     have LV := hid hsz
     clear b1 hsz hgg
     generalize (wr.alloc (.cells #[.int .u32 fid, .int .u8 k, .int .u16 md, .int .u16 ln, .slice da nz dc, .slice ka nk kc] 37)) = V at *
     have hne : g0 ≠ V.heap.size := by omega
     have x0 : V.cell? ⟨g0, 0, none⟩ = some (.int .u32 fid) := cell_of_row2 bx 0 rfl
     have x1 : V.cell? ⟨g0, 1, none⟩ = some (.int .u8 k) := cell_of_row2 bx 1 rfl
     have x2 : V.cell? ⟨g0, 2, none⟩ = some (.int .u16 md) := cell_of_row2 bx 2 rfl
     have x3 : V.cell? ⟨g0, 3, none⟩ = some (.int .u16 ln) := cell_of_row2 bx 3 rfl
     have x4 : V.cell? ⟨g0, 4, none⟩ = some (.slice da nz dc) := cell_of_row2 bx 4 rfl
     have x5 : V.cell? ⟨g0, 5, none⟩ = some (.slice ka nk kc) := cell_of_row2 bx 5 rfl
     have fz : ∀ i, V.frozen? ⟨g0, i, none⟩ = false := fun i => by simp [World.frozen?, bx]
     clear bx y0 y1 y2 y3 y4 y5
     go_upto_region 7 with (at_builtin; refine wpList_cpB _ rfl _ _ rfl V.heap.size rfl (heap_alloc_new V _) da nz dc zs rfl (XB.out.later (below_1 _ _)) XN.out.1 (by omega) ?_; intro v3 w3 hO3 hg3
                            obtain ⟨da3, dc3, hv3, hn3, hr3⟩ := hO3.shapeR
                            rw [HZ.out] at hv3
                            subst hv3
                            have bx3 := (hg3.block g0 (Nat.lt_of_lt_of_le hlv (below_1 V _).size) (by simpa using hne)).trans (((below_1 V _).block _ hlv).trans BX.out)
                            have C3 := hid ((CB.out.alloc (Nat.le_of_lt hlv) _).grown hg3 (Nat.le_trans (Nat.le_of_lt hlv) (below_1 V _).size) (fun k hk => by cases hk; omega))
                            have G3 := hid hg3.size
                            have XK3 := hid (XK.out.later ((below_1 V _).grown hg3 (below_1 V _).size (fun k hk => by cases hk; exact Nat.le_refl _)))
                            have R3 := hid hr3
                            have N3 := hid hn3
                            have BX3 := hid bx3
                            clear x0 x1 x2 x3 x4 x5 fz hO3 hg3 hr3 hn3
                            have z0 : w3.cell? ⟨g0, 0, none⟩ = some (.int .u32 fid) := cell_of_row2 bx3 0 rfl
                            have z1 : w3.cell? ⟨g0, 1, none⟩ = some (.int .u8 k) := cell_of_row2 bx3 1 rfl
                            have z2 : w3.cell? ⟨g0, 2, none⟩ = some (.int .u16 md) := cell_of_row2 bx3 2 rfl
                            have z3 : w3.cell? ⟨g0, 3, none⟩ = some (.int .u16 ln) := cell_of_row2 bx3 3 rfl
                            have z4 : w3.cell? ⟨g0, 4, none⟩ = some (.slice da nz dc) := cell_of_row2 bx3 4 rfl
                            have z5 : w3.cell? ⟨g0, 5, none⟩ = some (.slice ka nk kc) := cell_of_row2 bx3 5 rfl
                            have fz3 : ∀ i, w3.frozen? ⟨g0, i, none⟩ = false := fun i => by simp [World.frozen?, bx3]
                            clear bx3)
     have bx4 : (w3.setCell ⟨g0, 4, none⟩ (.slice da3 nz dc3)).heap[g0]? = some (.cells #[.int .u32 fid, .int .u8 k, .int .u16 md, .int .u16 ln, .slice da3 nz dc3, .slice ka nk kc] 37) := heap_setCell_same w3 g0 4 _ _ _ BX3.out
     have C4 := hid (C3.out.setCell (p := ⟨g0, 4, none⟩) (Nat.le_refl _) (.slice da3 nz dc3))
     have R4 := hid (R3.out.setR (q := ⟨g0, 4, none⟩) BX3.out (by decide) (.slice da3 nz dc3))
     have hl4 : g0 < (w3.setCell ⟨g0, 4, none⟩ (.slice da3 nz dc3)).heap.size := by simp; exact lt_blkR BX3.out
     have BX4 := hid bx4
     have XK4 : Hid (IsKs (w3.setCell ⟨g0, 4, none⟩ (.slice da3 nz dc3)) ka ks) := hid (XO.out.2.2.2.2.2.later (by rw [HG.out]; exact C4.out))
     clear BX3 z0 z1 z2 z3 z4 z5 fz3 C3 R3 XK3 XK XB
     generalize (w3.setCell ⟨g0, 4, none⟩ (.slice da3 nz dc3)) = V4 at *
     have hne4 : g0 ≠ V4.heap.size := by omega
     have x0 : V4.cell? ⟨g0, 0, none⟩ = some (.int .u32 fid) := cell_of_row2 bx4 0 rfl
     have x1 : V4.cell? ⟨g0, 1, none⟩ = some (.int .u8 k) := cell_of_row2 bx4 1 rfl
     have x2 : V4.cell? ⟨g0, 2, none⟩ = some (.int .u16 md) := cell_of_row2 bx4 2 rfl
     have x3 : V4.cell? ⟨g0, 3, none⟩ = some (.int .u16 ln) := cell_of_row2 bx4 3 rfl
     have x4 : V4.cell? ⟨g0, 4, none⟩ = some (.slice da3 nz dc3) := cell_of_row2 bx4 4 rfl
     have x5 : V4.cell? ⟨g0, 5, none⟩ = some (.slice ka nk kc) := cell_of_row2 bx4 5 rfl
     have fz : ∀ i, V4.frozen? ⟨g0, i, none⟩ = false := fun i => by simp [World.frozen?, bx4]
     clear bx4
     go_upto_region 8 with (at_builtin; refine wpList_cpK _ rfl _ _ rfl V4.heap.size rfl (heap_alloc_new V4 _) ka nk kc ks rfl (XK4.out.later (below_1 _ _)) HK.out.symm XN.out.2 (by omega) ?_; intro v6 w6 hO6 hg6
                            obtain ⟨ka6, kc6, hv6, hn6, hr6⟩ := hO6.shapeR
                            rw [HK.out] at hv6
                            subst hv6
                            have bx6 := (hg6.block g0 (Nat.lt_of_lt_of_le hl4 (below_1 V4 _).size) (by simpa using hne4)).trans (((below_1 V4 _).block _ hl4).trans BX4.out)
                            have C6 := hid ((C4.out.alloc (Nat.le_of_lt hl4) _).grown hg6 (Nat.le_trans (Nat.le_of_lt hl4) (below_1 V4 _).size) (fun k hk => by cases hk; omega))
                            have R6 := hid (R4.out.later ((below_1 V4 _).grown hg6 (below_1 V4 _).size (fun k hk => by cases hk; exact Nat.le_refl _)))
                            have Q6 := hid hr6
                            have N6 := hid hn6
                            have BX6 := hid bx6
                            clear x0 x1 x2 x3 x4 x5 fz hO6 hg6 hr6 hn6
                            have z0 : w6.cell? ⟨g0, 0, none⟩ = some (.int .u32 fid) := cell_of_row2 bx6 0 rfl
                            have z1 : w6.cell? ⟨g0, 1, none⟩ = some (.int .u8 k) := cell_of_row2 bx6 1 rfl
                            have z2 : w6.cell? ⟨g0, 2, none⟩ = some (.int .u16 md) := cell_of_row2 bx6 2 rfl
                            have z3 : w6.cell? ⟨g0, 3, none⟩ = some (.int .u16 ln) := cell_of_row2 bx6 3 rfl
                            have z4 : w6.cell? ⟨g0, 4, none⟩ = some (.slice da3 nz dc3) := cell_of_row2 bx6 4 rfl
                            have z5 : w6.cell? ⟨g0, 5, none⟩ = some (.slice ka nk kc) := cell_of_row2 bx6 5 rfl
                            have fz6 : ∀ i, w6.frozen? ⟨g0, i, none⟩ = false := fun i => by simp [World.frozen?, bx6]
                            clear bx6)
     have bx7 : (w6.setCell ⟨g0, 5, none⟩ (.slice ka6 nk kc6)).heap[g0]? = some (.cells #[.int .u32 fid, .int .u8 k, .int .u16 md, .int .u16 ln, .slice da3 nz dc3, .slice ka6 nk kc6] 37) := heap_setCell_same w6 g0 5 _ _ _ BX6.out
     have C7 := hid (C6.out.setCell (p := ⟨g0, 5, none⟩) (Nat.le_refl _) (.slice ka6 nk kc6))
     have R7 := hid (R6.out.setR (q := ⟨g0, 5, none⟩) BX6.out (by decide) (.slice ka6 nk kc6))
     have Q7 := hid (Q6.out.setR (q := ⟨g0, 5, none⟩) BX6.out (by decide) (.slice ka6 nk kc6))
     have hl7 : g0 < (w6.setCell ⟨g0, 5, none⟩ (.slice ka6 nk kc6)).heap.size := by simp; exact lt_blkR BX6.out
     clear BX6 z0 z1 z2 z3 z4 z5 fz6 C6 R6 Q6 C4 R4 XK4
     generalize (w6.setCell ⟨g0, 5, none⟩ (.slice ka6 nk kc6)) = V7 at *
     have x0 : V7.cell? ⟨g0, 0, none⟩ = some (.int .u32 fid) := cell_of_row2 bx7 0 rfl
     have x1 : V7.cell? ⟨g0, 1, none⟩ = some (.int .u8 k) := cell_of_row2 bx7 1 rfl
     have x2 : V7.cell? ⟨g0, 2, none⟩ = some (.int .u16 md) := cell_of_row2 bx7 2 rfl
     have x3 : V7.cell? ⟨g0, 3, none⟩ = some (.int .u16 ln) := cell_of_row2 bx7 3 rfl
     have x4 : V7.cell? ⟨g0, 4, none⟩ = some (.slice da3 nz dc3) := cell_of_row2 bx7 4 rfl
     have x5 : V7.cell? ⟨g0, 5, none⟩ = some (.slice ka6 nk kc6) := cell_of_row2 bx7 5 rfl
     clear bx7
     rw [← HG.out] at C7
     have B7 := hid (HB.out.trans (C7.out.mono HB.out.size))
     have O7 := hid (HO.out.later C7.out)
     have b8 := below_1 V7 (.cells (⟨fid, k, md, ln, da3, dc3, zs, ka6, kc6, ks⟩ : Nd).cells.toArray 37)
     have O8 := hid (O7.out.later b8)
     have B8 := hid (B7.out.trans (b8.mono B7.out.size))
     have N8 := hid (heap_alloc_new V7 (.cells (⟨fid, k, md, ln, da3, dc3, zs, ka6, kc6, ks⟩ : Nd).cells.toArray 37))
     have RR : Hid (∀ x ∈ L, NdR (V7.alloc (.cells (⟨fid, k, md, ln, da3, dc3, zs, ka6, kc6, ks⟩ : Nd).cells.toArray 37)) w.heap.size x) := hid (fun x hx => ((HR.out x hx).later C7.out).later b8)
     have FT : Hid (Nd.Fit ⟨fid, k, md, ln, da3, dc3, zs, ka6, kc6, ks⟩) := hid (by
       obtain ⟨o1, o2, o3, o4, o5, o6⟩ := XO.out
       exact ⟨o1, o2, o3, o4, o5.2.2.2, o6.2.1, by have := HZ.out; simp only; omega, by have := HK.out; simp only; omega⟩)
     have RN : Hid (NdR (V7.alloc (.cells (⟨fid, k, md, ln, da3, dc3, zs, ka6, kc6, ks⟩ : Nd).cells.toArray 37)) w.heap.size ⟨fid, k, md, ln, da3, dc3, zs, ka6, kc6, ks⟩) := hid (by
       refine ⟨FT.out, ⟨N3.out, N6.out⟩, (R7.out.lowR (by have := HB.out.size; have := LV.out; have := HG.out; omega)).later b8, (Q7.out.lowR (by have := HB.out.size; have := HG.out; omega)).later b8⟩)
     have EL : Hid ((L ++ [(⟨fid, k, md, ln, da3, dc3, zs, ka6, kc6, ks⟩ : Nd)]).map Nd.er = (l.take (m + 1)).map Nd.er) := hid (by rw [TK.out, List.map_append, HE.out]; rfl)
     clear b8 R7 Q7 C7
     simp only [Nd.cells] at O8 B8 N8 RR RN
     rw [HZ.out, HK.out] at O8 B8 N8 RR RN
     go_wp2_with (at_builtin; refine wpList_appNd _ rfl _ _ rfl w.heap.size _ L rfl O8.out V7.heap.size _ ⟨fid, k, md, ln, da3, dc3, zs, ka6, kc6, ks⟩ rfl (by simp only [Nd.cells]; rw [HZ.out, HK.out]; exact N8.out) (by omega) B8.out.size ?_; intro v9 w9 hown9 hgrow9)
     have HB9 := hid (below_grownN B8.out O8.out (Nat.le_refl _) B8.out.size hgrow9)
     have HO9 := hid hown9
     have HR9 : Hid (∀ x ∈ L ++ [⟨fid, k, md, ln, da3, dc3, zs, ka6, kc6, ks⟩], NdR w9 w.heap.size x) := hid (fun x hx => by
       rcases List.mem_append.1 hx with hx | hx
       · exact (RR.out x hx).grown O8.out hgrow9
       · rw [List.mem_singleton] at hx
         subst hx
         exact RN.out.grown O8.out hgrow9)
     clear hown9 hgrow9
     go_roundg (gk - 1)
     case measure => omega
     case rel => exact ⟨m + 1, _, by omega, by rw [List.length_append, HL.out]; rfl, by go_num, HO9, EL, HR9, HB9⟩
   · have em : m = n := by omega
     subst em
     have hge : ¬ (m : Int) < m := by omega
     have HLm := hid hL
     clear hL
     have EF : Hid (L.map Nd.er = l.map Nd.er) := hid (by rw [HE.out, List.take_of_length_le (by rw [← HN.out]; exact Nat.le_refl _)])
     go_wp2
     go_ret
     exact ⟨_, rfl, L, HO.out, EF.out, HR.out, HB.out⟩
end Go.Proofs.YtkokjkaclcjnjaaGreatDoor
