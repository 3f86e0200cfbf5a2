/-
  The document's Touch, Next, Drop, Mark of caches.
-/
import Derived.Test.YtilcbkejmpfnfaaCR2
import Derived.Deep.RegionHeld3
namespace Go.Proofs.Ytilcbkejmpfnfaa
open Go.RowKit Go.ChangeShapes Go.WideShapes Go.ChangeAt Go.Maps Go.Shelf
set_option linter.unusedVariables false
set_option linter.unusedSimpArgs false
set_option maxRecDepth 100000
/-- What a call leaves of the document's cache: its blocks are those that it had, or new ones. -/
def TurnR (w w' : World) (g : Nat) (vl vh : Value) (r' : Rc) : Prop := ∃ vl' vh', IsRc w' g vl' vh' r' ∧ Ou (Bk g vl vh) w w' ∧ ∀ k, Bk g vl' vh' k → Bk g vl vh k ∨ w.heap.size ≤ k
theorem TurnR.refl {w : World} {g : Nat} {vl vh : Value} {r : Rc} (h : IsRc w g vl vh r) : TurnR w w g vl vh r := ⟨vl, vh, h, Ou.refl _ _, fun k hk => .inl hk⟩
theorem TurnR.later {w w1 w2 : World} {g : Nat} {vl vh : Value} {r : Rc} (h : TurnR w w1 g vl vh r) (hb : Below w1.heap.size w1 w2) : TurnR w w2 g vl vh r := by
  obtain ⟨a, b, h1, h2, h3⟩ := h
  exact ⟨a, b, h1.later hb, h2.trans (Ou.of hb), h3⟩
theorem TurnR.of {w w1 : World} {g : Nat} {vl vh : Value} {r : Rc} (h : IsRc w g vl vh r) (hb : Below w.heap.size w w1) : TurnR w w1 g vl vh r := (TurnR.refl h).later hb
theorem IsRc.notg {w : World} {g : Nat} {vl vh : Value} {r : Rc} (h : IsRc w g vl vh r) : (∀ k, vl.ownBlock = some k → k ≠ g) ∧ ∀ k, vh.ownBlock = some k → k ≠ g := by
  constructor
  · rintro k hk rfl
    rcases h.2.1.2 with ⟨rfl, _⟩ | ⟨g', cap, cur, rfl, _, e3, _⟩
    · cases hk
    · cases hk; rw [h.1] at e3; cases e3
  · rintro k hk rfl
    rcases h.2.2.2 with ⟨rfl, _⟩ | ⟨g', cap, cur, rfl, _, e3, _⟩
    · cases hk
    · cases hk; rw [h.1] at e3; cases e3
theorem TurnR.rowL {w w1 : World} {g : Nat} {vl vh v : Value} {r : Rc} {L : List (Int × Bool)} (h : IsRc w g vl vh r) (hb : Below w.heap.size w w1) (hv : OwI w1 w.heap.size v L) : TurnR w (w1.setCell ⟨g, 1, none⟩ v) g vl vh ⟨r.most, L, r.H⟩ := by
  have h1 := h.later hb
  have hg := h.cells.2.2.2.2
  have ho : Ou (fun k => k = g) w1 (w1.setCell ⟨g, 1, none⟩ v) := (Ou.refl _ _).set rfl
  refine ⟨v, vh, ⟨row_set 1 _ h1.1, own_baseC (own_outC hv ho (fun k hk e => by have := (hv.lt k hk).1; omega)) (Nat.zero_le _), own_outC h1.2.2 ho (fun k hk e => h1.notg.2 k hk e)⟩, (Ou.of hb).trans (ho.mono fun k e => .inl e), fun k hk => ?_⟩
  rcases hk with e | e | e
  · exact .inl (.inl e)
  · exact .inr (hv.lt k e).1
  · exact .inl (.inr (.inr e))
theorem TurnR.rowH {w w1 : World} {g : Nat} {vl vh v : Value} {r : Rc} {H : List (Int × Int)} (h : IsRc w g vl vh r) (hb : Below w.heap.size w w1) (hv : OwD w1 w.heap.size v H) : TurnR w (w1.setCell ⟨g, 2, none⟩ v) g vl vh ⟨r.most, r.L, H⟩ := by
  have h1 := h.later hb
  have hg := h.cells.2.2.2.2
  have ho : Ou (fun k => k = g) w1 (w1.setCell ⟨g, 2, none⟩ v) := (Ou.refl _ _).set rfl
  refine ⟨vl, v, ⟨row_set 2 _ h1.1, own_outC h1.2.1 ho (fun k hk e => h1.notg.1 k hk e), own_baseC (own_outC hv ho (fun k hk e => by have := (hv.lt k hk).1; omega)) (Nat.zero_le _)⟩, (Ou.of hb).trans (ho.mono fun k e => .inl e), fun k hk => ?_⟩
  rcases hk with e | e | e
  · exact .inl (.inl e)
  · exact .inl (.inr (.inl e))
  · exact .inr (hv.lt k e).1
theorem own_anyC {w : World} {base e size n : Nat} {v : Value} {xs : List Value} (h : w.ownsRow base e size v n xs) : ∃ a k cap, v = .slice a k cap := by
  obtain ⟨a, cap, e, _⟩ := own_shapeC h
  exact ⟨a, n, cap, e⟩
theorem alloc_le (w : World) (o : Obj) : w.heap.size ≤ (w.alloc o).heap.size := by simp
/-- append of one item, as one step of a region that draws. -/
theorem step_appI (w : World) {ops : Array Oper} {o : Oper} {a : Act} {K : Act → World → Prop} {Q : Exit → Act → World → Prop} {E : Prop} (hgd : o.guard = none) (s x : Operand)
    (ho : o.op = .call { callee := .builtin .append, args := #[s, x], argTypes := #[72, 72] })
    (base : Nat) (v : Value) (L : List (Int × Bool)) (hs : a.eval s = v) (hown : OwI w base v L) (gN : Nat) (p : Int × Bool) (hx : a.eval x = .slice (some ⟨gN, 0, none⟩) 1 1)
    (hn : w.heap[gN]? = some (.cells #[.int .u32 p.1, .bool p.2] 78 (0, 0))) (hl : L.length ≤ 1000) (hb : base ≤ w.heap.size)
    (h : ∀ v' w', OwI w' base v' (L ++ [p]) → w.grownBy w' v.ownBlock → K (a.put o.dst v') w') :
    if Region.wanted o (yielded ops a.tmps) = true then Oper.wp Try.prog o a w K Q else E := by
  rw [if_pos (by simp [Region.wanted, hgd])]
  obtain ⟨i0, hi0, hz0, hz1, hz2⟩ := info_item
  exact wp_append_own w s x 72 ho base 78 i0 _ 2 8 Try.underlying72 hi0 hz0 hz1 hz2 (by rfl) (by decide) v L.length _ hs hown ⟨gN, 0, none⟩ 1 1 (itC p) hx rfl (two_news hn) (itC_one p) (by unfold maxLen; omega) (by omega) hb fun v' w' q1 q2 _ => h v' w' (by unfold OwI; rw [List.flatMap_append, List.length_append]; simpa using q1) q2
def Rc.touchS (r : Rc) (f : Int) : Rc := if 0 ≤ r.at f then ⟨r.most, r.L.eraseIdx (r.at f).toNat ++ [(r.fid (r.at f).toNat, r.dty (r.at f).toNat)], r.H⟩ else r
set_option maxHeartbeats 4000000 in
theorem rctouch_c {w : World} {g : Nat} {vl vh : Value} {r : Rc} (h : IsRc w g vl vh r) (hm : r.L.length ≤ 900) (f : Int) :
    Calls Try.prog 47 #[pA g, .int .u32 f] w fun e w' => e = .returned (.bool (decide (0 ≤ r.at f))) ∧ TurnR w w' g vl vh (r.touchS f) := by
  have AC := hid (rcat_c h (by omega) f)
  have H := hid h
  by_cases hat : r.ix f < r.L.length
  · have ea : r.at f = ((r.ix f : Nat) : Int) := by unfold Rc.at; rw [if_pos hat]
    have ES : Hid (r.touchS f = ⟨r.most, r.L.eraseIdx (r.ix f) ++ [(r.fid (r.ix f), r.dty (r.ix f))], r.H⟩) := hid (by unfold Rc.touchS; rw [ea, if_pos (by omega)]; rfl)
    rw [ea] at AC ⊢
    have hd0 : decide ((0 : Int) ≤ ((r.ix f : Nat) : Int)) = true := by simp
    rw [hd0]
    have WC : Hid (∀ W, Below w.heap.size w W → Calls Try.prog 62 #[pA g, .int .i64 (r.ix f)] W fun e w' => ∃ v, e = .returned v ∧ OwI w' W.heap.size v (r.L.eraseIdx (r.ix f)) ∧ Below W.heap.size W w') := hid (fun W hb => rcwithout_c (h.later hb) (by omega) hat)
    obtain ⟨c0, c1, c2, cf, cl⟩ := h.cells
    have f1 := cf 1
    obtain ⟨gl, o, cap, rfl, hc⟩ := h.rowL (by omega)
    obtain ⟨k0, k1⟩ := hc (r.ix f) hat
    have hLE : (r.L.eraseIdx (r.ix f)).length ≤ 1000 := by have := List.length_eraseIdx_le r.L (r.ix f); omega
    clear h hc cf ea hd0
    generalize r.ix f = i at *
    generalize r.fid i = fm at *
    generalize r.dty i = dm at *
    generalize r.L.eraseIdx i = L1 at *
    have hiI : (i : Int) < (r.L.length : Int) := by omega
    have hi0 : ¬ (i : Int) < 0 := by omega
    generalize r.L.length = n at *
    go_enter Try.func47, Try.ntmps47
    go_wp2_with (go_at_call 52; refine AC.out.mono ?_; rintro _ w1 ⟨rfl, h1⟩; rw [h1]; clear h1)
    have hX := heap_alloc_new w (.cells #[.int .u32 fm, .bool dm] 78)
    have hBV : Below w.heap.size w (w.alloc (.cells #[.int .u32 fm, .bool dm] 78)) := (Below.refl _ _).alloc (Nat.le_refl _) _
    have hzV : (w.alloc (.cells #[.int .u32 fm, .bool dm] 78)).heap.size = w.heap.size + 1 := by simp
    have WC2 : Hid (∀ W, Below (w.heap.size + 1) (w.alloc (.cells #[.int .u32 fm, .bool dm] 78)) W → Calls Try.prog 62 #[pA g, .int .i64 i] W fun e w' => ∃ v, e = .returned v ∧ OwI w' (w.heap.size + 1) v L1 ∧ Below W.heap.size W w') := hid (fun W hb => (WC.out W (hBV.trans (hb.mono (by omega)))).mono fun e w' ⟨v, e1, o1, b1⟩ => ⟨v, e1, own_baseC o1 (by have := hb.size; rw [hzV] at this; exact this), b1⟩)
    have hgX : g ≠ w.heap.size := by omega
    have BV := hid hBV
    generalize w.alloc (.cells #[.int .u32 fm, .bool dm] 78) = V at *
    have KS : Hid (∀ W, Below (w.heap.size + 1) V W → W.cell? ⟨w.heap.size, 0, none⟩ = some (.int .u32 fm) ∧ W.cell? ⟨w.heap.size, 1, none⟩ = some (.bool dm)) := hid (fun W hb => by
      have e := hb.block w.heap.size (by omega)
      rw [hX] at e
      exact ⟨by simp [World.cell?, e], by simp [World.cell?, e]⟩)
    have KG : Hid (∀ W, Below (w.heap.size + 1) V W → W.frozen? ⟨g, 1, none⟩ = false ∧ ∃ u, W.cell? ⟨g, 1, none⟩ = some u) := hid (fun W hb => by
      have h1 := (H.out.later (BV.out.trans (hb.mono (by omega)))).cells
      exact ⟨h1.2.2.2.1 1, _, h1.2.1⟩)
    have D1 : Hid (Below (w.heap.size + 1) V V.drew) := hid ((Below.refl _ V).drew)
    have D2 : Hid (Below (w.heap.size + 1) V (V.alloc (.cells #[.int .u32 fm, .bool dm] 78)).drew) := hid (((Below.refl _ V).alloc (Nat.le_of_eq hzV.symm) _).drew)
    have N0 : Hid ((V.alloc (.cells #[.int .u32 fm, .bool dm] 78)).drew.heap[w.heap.size + 1]? = some (.cells #[.int .u32 fm, .bool dm] 78 (0, 0))) := hid (by rw [← hzV]; exact heap_alloc_new V _)
    obtain ⟨x0, x1⟩ := KS.out V (Below.refl _ _)
    have Z1 : Hid (w.heap.size + 1 ≤ V.drew.heap.size) := hid (Nat.le_of_eq hzV.symm)
    have Z2 : Hid (w.heap.size + 1 ≤ (V.alloc (.cells #[.int .u32 fm, .bool dm] 78)).drew.heap.size) := hid (Nat.le_trans Z1.out (alloc_le V _))
    have Z3 : Hid (w.heap.size + 1 < (V.alloc (.cells #[.int .u32 fm, .bool dm] 78)).drew.heap.size) := hid (by simp [World.drew, hzV])
    have ZV := hid (Nat.le_of_eq hzV.symm)
    clear hX hBV WC
    go_region_held3 (fun w' => w'.cell? ⟨w.heap.size, 0, none⟩ = some (.int .u32 fm) ∧ w'.cell? ⟨w.heap.size, 1, none⟩ = some (.bool dm)) (first | (with_reducible exact KS.out _ B2.out) | (with_reducible exact KS.out _ B9.out) | go_keep)
      (first
        | (go_at_call 62; with_reducible refine (WC2.out _ D1.out).mono ?_; rintro _ w2 ⟨v2, rfl, ho2, hb2⟩; have O2 := hid ho2; have B2 := hid (D1.out.trans (hb2.mono Z1.out)); have Z4 := hid (Nat.le_trans ZV.out B2.out.size); have T1 := hid ho2; clear ho2 hb2)
        | (go_at_call 62; with_reducible refine (WC2.out _ D2.out).mono ?_; rintro _ w2 ⟨v2, rfl, ho2, hb2⟩; have O2 := hid ho2; have B2 := hid (D2.out.trans (hb2.mono Z2.out)); have Z4 := hid (Nat.le_trans ZV.out B2.out.size); have N2 : Hid (w2.heap[w.heap.size + 1]? = some (.cells #[.int .u32 fm, .bool dm] 78 (0, 0))) := hid (by rw [hb2.block (w.heap.size + 1) Z3.out]; exact N0.out); clear ho2 hb2)
        | (refine step_appI _ (by rfl) _ _ (by rfl) (w.heap.size + 1) _ L1 (by rfl) (own_latC T1.out ((Below.refl _ _).alloc (Nat.le_refl _) _)) w2.heap.size (fm, dm) (by rfl) (heap_alloc_new w2 _) hLE (Nat.le_trans Z4.out (alloc_le _ _)) ?_; intro v9 w9 ho9 hg9; have O9 := hid ho9; have B9 := hid (below_grownC (B2.out.alloc Z4.out _) (own_latC T1.out ((Below.refl _ _).alloc (Nat.le_refl _) _)) (Nat.le_refl _) (Nat.le_trans Z4.out (alloc_le _ _)) hg9); obtain ⟨f9, u9, c9⟩ := KG.out _ B9.out; obtain ⟨a9, n9, p9, rfl⟩ := own_anyC ho9; clear ho9 hg9)
        | (refine step_appI _ (by rfl) _ _ (by rfl) (w.heap.size + 1) _ L1 (by rfl) O2.out (w.heap.size + 1) (fm, dm) (by rfl) N2.out hLE Z4.out ?_; intro v9 w9 ho9 hg9; have O9 := hid ho9; have B9 := hid (below_grownC B2.out O2.out (Nat.le_refl _) Z4.out hg9); obtain ⟨f9, u9, c9⟩ := KG.out _ B9.out; obtain ⟨a9, n9, p9, rfl⟩ := own_anyC ho9; clear ho9 hg9)
        | fail)
    all_goals (
      go_wp2
      go_ret
      refine ⟨rfl, ?_⟩
      rw [ES.out]
      exact TurnR.rowL H.out (BV.out.trans (B9.out.mono (by omega))) (own_baseC O9.out (Nat.le_succ _)))
  · have ea : r.at f = -1 := by unfold Rc.at; rw [if_neg hat]
    have ES : Hid (r.touchS f = r) := hid (by unfold Rc.touchS; rw [ea, if_neg (by decide)])
    rw [ea] at AC ⊢
    clear h ea hat
    go_enter Try.func47, Try.ntmps47
    go_wp2_with (go_at_call 52; refine AC.out.mono ?_; rintro _ w1 ⟨rfl, h1⟩; rw [h1]; clear h1)
    go_ret
    exact ⟨rfl, by rw [ES.out]; exact TurnR.refl H.out⟩
end Go.Proofs.Ytilcbkejmpfnfaa
