/-
  
-/
import Derived.Test.YtpolbbdaippclaaGreatNsAa
import Derived.Deep.RegionHeld3
import Derived.Test.YtpolbbdaippclaaGreatNsAs
import Derived.OwnWalk
import Derived.Test.YtpolbbdaippclaaGreatNsAd
import Derived.Test.YtpolbbdaippclaaGreatNsAq
import Derived.Test.YtpolbbdaippclaaGreatNsAr
import Derived.Deep.RegionWith
namespace Go.Proofs.YtpolbbdaippclaaGreat
open Go.RowKit Go.ChangeShapes Go.WideShapes Go.ChangeAt
set_option linter.unusedVariables false
set_option maxRecDepth 100000
theorem at_drop {l r : List Oper} {i : Nat} {o : Oper} (h : l.drop i = o :: r) : l.toArray[i]? = some o := by
 have := congrArg (fun x : List Oper => x[0]?) h
 simpa using this
theorem take_l {P : Program} {md : Region.Mode} {l r : List Oper} {Q : Exit → Act → World → Prop} {S : World → Prop} (i : Nat) {oi : Oper} {v : Value} {fuel : Nat} {listed : Array Bool} {a : Act} {w : World} (hi : l.drop i = oi :: r)
   (hs : Region.noSelect l.toArray = true) (hf : Region.free md l.toArray listed i = true) (hr : (Region.ready md l.toArray listed).contains i = true)
   (hQ : ∀ c a w, Q (.panic c) (a.put oi.dst v) w → Q (.panic c) a w) (hy : YieldsIf P l.toArray S oi v a) (hS : S w)
   (h : wpAnyH P md l.toArray Q S fuel (listed.setIfInBounds i true) (a.put oi.dst v) w) : wpAnyH P md l.toArray Q S (fuel + 1) listed a w :=
 wpAnyH_take (at_drop hi) hs hf hr hQ hy hS h
theorem cons_l {P : Program} {md : Region.Mode} {l r : List Oper} {Q : Exit → Act → World → Prop} {S : World → Prop} (i : Nat) {fuel : Nat} {listed : Array Bool} {a : Act} {w : World} {o : Oper} (ho : l.drop i = o :: r)
   (hr : Region.ready md l.toArray listed = [i])
   (h : ∀ K' : Act → World → Prop, Shut (∀ a w, S w → (S w → wpAnyH P md l.toArray Q S fuel (listed.setIfInBounds i true) a w) → K' a w) → if Region.wanted o (yielded l.toArray a.tmps) = true then Oper.wp P o a w K' Q else K' (a.put o.dst undef) w) :
   wpAnyH P md l.toArray Q S (fuel + 1) listed a w :=
 wpAnyH_ready hr (by simp) (AllReadyH.cons (at_drop ho) h AllReadyH.nil)
end Go.Proofs.YtpolbbdaippclaaGreat
namespace Go.Proofs.YtpolbbdaippclaaGreat
open Go.RowKit Go.ChangeShapes Go.WideShapes Go.ChangeAt Go.Maps Go.Shelf
set_option linter.unusedVariables false
set_option linter.unusedSimpArgs false
set_option maxRecDepth 100000
theorem made_st (n : Nat) : (madeCells St.no.val.cells (n * 3)).toList = stcells (List.replicate n St.no) := by
 refine List.ext_getElem? fun k => ?_
 by_cases hk : k < n * 3
 · have e := stcells_get (List.replicate n St.no) (k / 3) (k % 3) (by simp; omega) (by omega)
   rw [show k / 3 * 3 + k % 3 = k by omega] at e
   rw [e]
   have e2 : (List.replicate n St.no).getD (k / 3) St.no = St.no := by simp [List.getD, List.getElem?_replicate]; split <;> rfl
   rw [e2]
   unfold madeCells
   have hm : k % 3 = 0 ∨ k % 3 = 1 ∨ k % 3 = 2 := by omega
   have h3 : St.no.val.cells.size = 3 := rfl
   simp only [Array.toList_map, List.getElem?_map, Array.toList_range, List.getElem?_range hk, Option.map_some, h3]
   rcases hm with hm | hm | hm <;> (rw [hm]; rfl)
 · rw [List.getElem?_eq_none (by simp [size_madeCells]; omega), List.getElem?_eq_none (by rw [stcells_len]; simp; omega)]
theorem OwT.put {w : World} {base g cap : Nat} {S : List St} (h : OwT w base (.slice (some ⟨g, 0, none⟩) S.length cap) S) (i : Nat) (hi : i < S.length) (y : St) :
   OwT (((w.setCell ⟨g, i * 3, none⟩ (.int .u32 y.fid)).setCell ⟨g, i * 3 + 1, none⟩ (.int .u64 y.ver)).setCell ⟨g, i * 3 + 2, none⟩ (.int .u8 y.wr)) base (.slice (some ⟨g, 0, none⟩) S.length cap) (S.set i y) := by
 have := own_put (own_put (own_put h (i * 3) (by omega) (.int .u32 y.fid)) (i * 3 + 1) (by omega) (.int .u64 y.ver)) (i * 3 + 2) (by omega) (.int .u8 y.wr)
 unfold OwT
 rw [List.length_set, stcells_set S i hi y]
 exact this
set_option maxHeartbeats 8000000 in
theorem stampsOf_c (b off : Nat) (ad bd ad2 : Addr) (ca cb c2 : Nat) (l : List Nd) (ss : List St) (L : List Nd) (w : World)
   (k0 : w.cell? ⟨b, off, none⟩ = some (.slice (some ad) l.length ca)) (k1 : w.cell? ⟨b, off + 1, none⟩ = some (.slice (some bd) ss.length cb))
   (h : IsNs w (some ad) l) (hs : IsSs w (some bd) ss) (h2 : IsNs w (some ad2) L) (hll : ss.length = l.length) (hm : l.length ≤ 900) (hL : L.length ≤ 900) :
   Calls Tryz.prog 109 #[.pointer (some ⟨b, off, none⟩), .slice (some ad2) L.length c2] w fun e w' => ∃ v, e = .returned v ∧ OwT w' w.heap.size v (stampsL l ss L) ∧ Below w.heap.size w w' := by
 obtain ⟨i0, hi, hz0, hz1, hz2⟩ := info_st
 have K0 := hid k0
 have K1 := hid k1
 have H := hid h
 have HS := hid hs
 have H2 := hid h2
 have HLL := hid hll
 obtain ⟨n, hn⟩ : ∃ n, n = L.length := ⟨_, rfl⟩
 rw [← hn] at hL ⊢
 have HN := hid hn
 clear k0 k1 h hs h2 hn hll
 go_enter Tryz.func109, Tryz.ntmps109
 go_upto_region 2 with (at_make; refine wpList_make_full _ rfl _ _ 42 rfl w.heap.size 47 i0 _ 3 Tryz.underlying42 hi hz0 hz1 _ _ _ _ n rfl rfl rfl rfl (by rw [hz2]; omega) (by unfold maxLen; omega) (Nat.le_refl _) ?_; intro w1 hown hgrow)
 have O1 : Hid (OwT w1 w.heap.size (.slice (some ⟨w.heap.size, 0, none⟩) n n) (List.replicate n St.no)) := hid (by unfold OwT; rw [List.length_replicate, ← made_st]; exact hown)
 have B1 : Hid (Below w.heap.size w w1) := hid ((Below.refl _ _).grown hgrow (Nat.le_refl _) (fun k hk => by cases hk))
 clear hown hgrow
 go_upto_region 3 with fail
 go_loopg [14] n (fun gk j wr => ∃ (m : Nat) (S : List St), m + gk = n ∧ j = .int .i64 m ∧ Hid (S.length = n) ∧ Hid (OwT wr w.heap.size (.slice (some ⟨w.heap.size, 0, none⟩) n n) S) ∧ Hid (∀ k, k < m → S.getD k St.no = stOfN l ss (L.getD k Nd.no).fid) ∧ Hid (∀ k, m ≤ k → k < n → S.getD k St.no = St.no) ∧ Hid (Below w.heap.size w wr))
 case atStart => exact ⟨0, _, by omega, rfl, hid (by simp), O1, hid (fun k hk => by omega), hid (fun k _ hk => by simp [List.getD, List.getElem?_replicate]; split <;> rfl), B1⟩
 case round =>
   obtain ⟨m, S, hm2, rfl, HSL, HO, HD, HX, HB⟩ := hrel
   by_cases hlt : m < n
   · have hltI : (m : Int) < n := by omega
     have hln : m < L.length := by rw [← HN.out]; exact hlt
     obtain ⟨b2, off2, e2, _⟩ := H2.out.2.2 (by omega)
     cases e2
     obtain ⟨y0, y1, y2, y3, y4, y5⟩ := ((H2.out.later HB.out).at (i := m) hln).all
     obtain ⟨g9, cap9, cur, eg, hgb, hgc, hgg, hcur⟩ := own_block HO.out (by rw [HSL.out]; omega)
     obtain ⟨hs1, hs2⟩ : g9 = w.heap.size ∧ cap9 = n := by cases eg; exact ⟨rfl, rfl⟩
     subst hs1 hs2
     have hgl : w.heap.size < wr.heap.size := lt_blkR hgg
     have SP : Hid (∀ (W : World) (y : St), OwT W w.heap.size (.slice (some ⟨w.heap.size, 0, none⟩) cap9 cap9) S → OwT (((W.setCell ⟨w.heap.size, m * 3, none⟩ (.int .u32 y.fid)).setCell ⟨w.heap.size, m * 3 + 1, none⟩ (.int .u64 y.ver)).setCell ⟨w.heap.size, m * 3 + 2, none⟩ (.int .u8 y.wr)) w.heap.size (.slice (some ⟨w.heap.size, 0, none⟩) cap9 cap9) (S.set m y)) := hid (fun W y hW => by
       have q := OwT.put (S := S) (by rw [HSL.out]; exact hW) m (by rw [HSL.out]; exact hlt) y
       rw [HSL.out] at q
       exact q)
     have GG := hid hgg
     clear eg hcur hgg hgb hgc
     generalize hxx : L.getD m Nd.no = x at *
     obtain ⟨xf, xk, xm, xl, xda, xdc, xzs, xka, xkc, xks⟩ := x
     have DN : Hid (∀ T : List St, T.length = cap9 → (∀ k, k < m → T.getD k St.no = S.getD k St.no) → T.getD m St.no = stOfN l ss xf → ∀ k, k < m + 1 → T.getD k St.no = stOfN l ss (L.getD k Nd.no).fid) := hid (fun T hT h1 h3 k hk => by
       by_cases q : k = m
       · subst q; rw [hxx]; exact h3
       · rw [h1 k (by omega)]; exact HD.out k (by omega))
     clear hxx hln
     simp only at y0 y1 y2 y3 y4 y5
     go_upto_region 5 with fail
     have b5 := below_1 wr (.cells #[.int .u32 xf, .int .u8 xk, .int .u16 xm, .int .u16 xl, .slice xda xzs.length xdc, .slice xka xks.length xkc] 52)
     have h5 := heap_alloc_new wr (.cells #[.int .u32 xf, .int .u8 xk, .int .u16 xm, .int .u16 xl, .slice xda xzs.length xdc, .slice xka xks.length xkc] 52)
     have D5 := hid b5
     have G5 : Hid ((wr.alloc (.cells #[.int .u32 xf, .int .u8 xk, .int .u16 xm, .int .u16 xl, .slice xda xzs.length xdc, .slice xka xks.length xkc] 52)).heap[w.heap.size]? = some (.cells cur 47 (0, 0))) := hid ((b5.block _ hgl).trans GG.out)
     have LW : Hid ((wr.alloc (.cells #[.int .u32 xf, .int .u8 xk, .int .u16 xm, .int .u16 xl, .slice xda xzs.length xdc, .slice xka xks.length xkc] 52)).heap.size = wr.heap.size + 1) := hid (by simp)
     clear b5 y0 y1 y2 y3 y4 y5
     generalize (wr.alloc (.cells #[.int .u32 xf, .int .u8 xk, .int .u16 xm, .int .u16 xl, .slice xda xzs.length xdc, .slice xka xks.length xkc] 52)) = V5 at *
     obtain ⟨g0, hg0⟩ : ∃ g0, g0 = wr.heap.size := ⟨_, rfl⟩
     rw [← hg0] at h5 hgl LW
     rw [← hg0]
     have c0 : V5.cell? ⟨g0, 0, none⟩ = some (.int .u32 xf) := cell_of_row2 h5 0 rfl
     have BV := hid (HB.out.trans (D5.out.mono HB.out.size))
     have c1 : V5.cell? ⟨b, off, none⟩ = some (.slice (some ad) l.length ca) := cell_later BV.out K0.out
     have c2' : V5.cell? ⟨b, off + 1, none⟩ = some (.slice (some bd) ss.length cb) := cell_later BV.out K1.out
     have hS0 : V5.drew.cell? ⟨g0, 0, none⟩ = some (.int .u32 xf) ∧ V5.drew.cell? ⟨b, off, none⟩ = some (.slice (some ad) l.length ca) := ⟨c0, c1⟩
     have O1' : ∀ w' : World, (w'.cell? ⟨g0, 0, none⟩ = some (.int .u32 xf) ∧ w'.cell? ⟨b, off, none⟩ = some (.slice (some ad) l.length ca)) → w'.cell? ⟨g0, 0, none⟩ = some (.int .u32 xf) := fun w' h => h.1
     have O2' : ∀ w' : World, (w'.cell? ⟨g0, 0, none⟩ = some (.int .u32 xf) ∧ w'.cell? ⟨b, off, none⟩ = some (.slice (some ad) l.length ca)) → w'.cell? ⟨b, off, none⟩ = some (.slice (some ad) l.length ca) := fun w' h => h.2
     have C2 := hid c2'
     clear hg0 h5 c0 c1 c2'
     have PC := hid (splaceOf_c (some ad) ca l xf V5.drew (H.out.later (Below.drew BV.out)) (by omega))
     have DD := hid (Below.drew (Below.refl V5.heap.size V5))
     have PA := plI_at l xf
     obtain ⟨old, ho⟩ : ∃ old, old = plI l xf := ⟨_, rfl⟩
     rw [← ho] at PC PA
     have OLD := hid ho
     clear ho
     go_wp2_with fail
     refine wp_region_held_drew (S := fun w' => w'.cell? ⟨g0, 0, none⟩ = some (.int .u32 xf) ∧ w'.cell? ⟨b, off, none⟩ = some (.slice (some ad) l.length ca)) (by kernel_rfl) hS0 (fun hHeld => ?_)
     refine take_l 0 (v := ?_) rfl (by kernel_rfl) (by kernel_rfl) (by kernel_rfl) (fun _ _ _ h => h) (Or.inl ⟨by rfl, ?_⟩) (by assumption) ?_
     rotate_left
     · (intro w' hSw; clear hSw; go_simp; first | done | with_reducible rfl)
     try simp only [Act.put, List.setIfInBounds_toArray, List.set_cons_zero, List.set_cons_succ]
     refine take_l 1 (v := ?_) rfl (by kernel_rfl) (by kernel_rfl) (by kernel_rfl) (fun _ _ _ h => h) (Or.inl ⟨by rfl, ?_⟩) (by assumption) ?_
     rotate_left
     · (intro w' hSw; clear hSw; go_simp; first | done | with_reducible rfl)
     try simp only [Act.put, List.setIfInBounds_toArray, List.set_cons_zero, List.set_cons_succ]
     refine take_l 2 (v := ?_) rfl (by kernel_rfl) (by kernel_rfl) (by kernel_rfl) (fun _ _ _ h => h) (Or.inl ⟨by rfl, ?_⟩) (by assumption) ?_
     rotate_left
     · (intro w' hSw; clear hSw; go_simp; first | done | with_reducible rfl)
     try simp only [Act.put, List.setIfInBounds_toArray, List.set_cons_zero, List.set_cons_succ]
     refine take_l 3 (v := ?_) rfl (by kernel_rfl) (by kernel_rfl) (by kernel_rfl) (fun _ _ _ h => h) (Or.inl ⟨by rfl, ?_⟩) (by assumption) ?_
     rotate_left
     · (intro w' hSw; clear hSw; go_simp; first | done | with_reducible rfl)
     try simp only [Act.put, List.setIfInBounds_toArray, List.set_cons_zero, List.set_cons_succ]
     refine take_l 4 (v := ?_) rfl (by kernel_rfl) (by kernel_rfl) (by kernel_rfl) (fun _ _ _ h => h) (Or.inl ⟨by rfl, ?_⟩) (by assumption) ?_
     rotate_left
     · (intro w' hSw; (have kq := O2' _ hSw); clear hSw; go_simp; first | done | with_reducible rfl)
     try simp only [Act.put, List.setIfInBounds_toArray, List.set_cons_zero, List.set_cons_succ]
     refine take_l 5 (v := ?_) rfl (by kernel_rfl) (by kernel_rfl) (by kernel_rfl) (fun _ _ _ h => h) (Or.inl ⟨by rfl, ?_⟩) (by assumption) ?_
     rotate_left
     · (intro w' hSw; clear hSw; go_simp; first | done | with_reducible rfl)
     try simp only [Act.put, List.setIfInBounds_toArray, List.set_cons_zero, List.set_cons_succ]
     refine take_l 6 (v := ?_) rfl (by kernel_rfl) (by kernel_rfl) (by kernel_rfl) (fun _ _ _ h => h) (Or.inl ⟨by rfl, ?_⟩) (by assumption) ?_
     rotate_left
     · (intro w' hSw; (have kq := O1' _ hSw); clear hSw; go_simp; first | done | with_reducible rfl)
     try simp only [Act.put, List.setIfInBounds_toArray, List.set_cons_zero, List.set_cons_succ]
     refine cons_l 7 rfl (by kernel_rfl) (fun K hK => ?_)
     go_simp
     refine PC.out.mono ?_; rintro _ w6 ⟨rfl, hb6⟩
     have D6 := hid (DD.out.trans (hb6.mono DD.out.size))
     have hS6 : w6.cell? ⟨g0, 0, none⟩ = some (.int .u32 xf) ∧ w6.cell? ⟨b, off, none⟩ = some (.slice (some ad) l.length ca) := ⟨cell_later hb6 hS0.1, cell_later hb6 hS0.2⟩
     clear hb6 hS0
     go_simp
     refine hK.out _ _ hS6 (fun hHeld => ?_)
     clear hK K
     try simp only [Act.put, List.setIfInBounds_toArray, List.set_cons_zero, List.set_cons_succ]
     refine take_l 8 (v := ?_) rfl (by kernel_rfl) (by kernel_rfl) (by kernel_rfl) (fun _ _ _ h => h) (Or.inl ⟨by rfl, ?_⟩) (by assumption) ?_
     rotate_left
     · (intro w' hSw; clear hSw; go_simp; first | done | with_reducible rfl)
     try simp only [Act.put, List.setIfInBounds_toArray, List.set_cons_zero, List.set_cons_succ]
     refine wpAnyH_done (by kernel_rfl) ?_ _
     have B6 := hid (BV.out.trans (D6.out.mono BV.out.size))
     have O6 := hid (HO.out.later (D5.out.trans (D6.out.mono D5.out.size)))
     have k1 : w6.cell? ⟨b, off + 1, none⟩ = some (.slice (some bd) ss.length cb) := cell_later D6.out C2.out
     have G6 : w6.heap[w.heap.size]? = some (.cells cur 47 (0, 0)) := (D6.out.block _ (lt_blkR G5.out)).trans G5.out
     clear hS6 O1' O2' hHeld
     rcases PA with rfl | ⟨i, hi2, rfl⟩
     · have DE := hid (DN.out S HSL.out (fun k _ => rfl) (by rw [HX.out m (Nat.le_refl _) hlt]; unfold stOfN; rw [← OLD.out]; rfl))
       clear G6 k1 OLD
       go_wp2
       go_roundg (gk - 1)
       case measure => omega
       case rel => exact ⟨m + 1, S, by omega, by go_num, HSL, O6, DE, hid (fun k h1 h3 => HX.out k (by omega) h3), B6⟩
     · have hiB : (0 : Int) ≤ (i : Int) := by omega
       have his : i < ss.length := by rw [HLL.out]; exact hi2
       obtain ⟨b3, off3, e3, _⟩ := HS.out.2.2 (by omega)
       cases e3
       obtain ⟨z0, z1, z2⟩ := (HS.out.later B6.out).at (i := i) his
       have hisI : (i : Int) < (ss.length : Int) := by omega
       have DE : Hid (∀ T : List St, T = S.set m (ss.getD i St.no) → ∀ k, k < m + 1 → T.getD k St.no = stOfN l ss (L.getD k Nd.no).fid) := hid (fun T hT => by
         refine DN.out T (by rw [hT, List.length_set]; exact HSL.out) (fun k hk => ?_) ?_
         · rw [hT]; simp only [List.getD, List.getElem?_set]; rw [if_neg (by omega)]
         · rw [hT]; unfold stOfN; rw [← OLD.out, if_neg (by omega)]
           simp [List.getD, HSL.out, hlt])
       have OP := hid (SP.out w6 (ss.getD i St.no) O6.out)
       have sf : ∀ k, w6.frozen? ⟨w.heap.size, k, none⟩ = false := fun k => by simp [World.frozen?, G6]
       have hsz := O6.out
       obtain ⟨q0, q1, q2⟩ : (∃ v, w6.cell? ⟨w.heap.size, m * 3, none⟩ = some v) ∧ (∃ v, w6.cell? ⟨w.heap.size, m * 3 + 1, none⟩ = some v) ∧ ∃ v, w6.cell? ⟨w.heap.size, m * 3 + 2, none⟩ = some v := by
         rcases hsz.2 with ⟨e, _⟩ | ⟨g8, cap8, cur8, e, _, hg8, _, _, hs8, _⟩
         · cases e
         · obtain ⟨e1, e2⟩ : g8 = w.heap.size ∧ cap8 = cap9 := by cases e; exact ⟨rfl, rfl⟩
           rw [e1] at hg8
           rw [e2] at hs8
           have hx : ∀ k, k < cap9 * 3 → ∃ v, w6.cell? ⟨w.heap.size, k, none⟩ = some v := fun k hk => by
             rw [cell_of_row w6 _ _ _ _ _ hg8]
             exact ⟨_, Array.getElem?_eq_getElem (by omega)⟩
           exact ⟨hx _ (by omega), hx _ (by omega), hx _ (by omega)⟩
       obtain ⟨u0, q0⟩ := q0
       obtain ⟨u1, q1⟩ := q1
       obtain ⟨u2, q2⟩ := q2
       clear hsz OLD G6
       generalize hst : ss.getD i St.no = st at *
       have HST := hid hst
       clear hst
       obtain ⟨sfd, sv, sw⟩ := st
       simp only at z0 z1 z2 OP
       go_wp2
       have BS : Hid (Below w.heap.size w (((w6.setCell ⟨w.heap.size, m * 3, none⟩ (.int .u32 sfd)).setCell ⟨w.heap.size, m * 3 + 1, none⟩ (.int .u64 sv)).setCell ⟨w.heap.size, m * 3 + 2, none⟩ (.int .u8 sw))) := hid (((B6.out.setCell (p := ⟨w.heap.size, m * 3, none⟩) (Nat.le_refl _) _).setCell (p := ⟨w.heap.size, m * 3 + 1, none⟩) (Nat.le_refl _) _).setCell (p := ⟨w.heap.size, m * 3 + 2, none⟩) (Nat.le_refl _) _)
       go_roundg (gk - 1)
       case measure => omega
       case rel =>
         refine ⟨m + 1, S.set m ⟨sfd, sv, sw⟩, by omega, by go_num, hid (by rw [List.length_set]; exact HSL.out), OP, hid (DE.out _ rfl), hid (fun k h1 h3 => ?_), BS⟩
         simp only [List.getD, List.getElem?_set]
         rw [if_neg (by omega)]
         exact HX.out k (by omega) h3
   · have em : m = n := by omega
     subst em
     have hge : ¬ (m : Int) < m := by omega
     have EF : Hid (S = stampsL l ss L) := hid (by
       refine List.ext_getElem? fun k => ?_
       by_cases hk : k < m
       · have h1 := HD.out k hk
         have hl : k < L.length := by rw [← HN.out]; exact hk
         rw [← stampsL_at l ss L hl] at h1
         simp only [List.getD] at h1
         rw [List.getElem?_eq_getElem (by rw [HSL.out]; exact hk), List.getElem?_eq_getElem (by rw [stampsL_len]; exact hl)] at h1 ⊢
         simpa using h1
       · rw [List.getElem?_eq_none (by rw [HSL.out]; omega), List.getElem?_eq_none (by rw [stampsL_len, ← HN.out]; omega)])
     go_wp2
     go_ret
     exact ⟨_, rfl, by rw [← EF.out]; exact HO.out, HB.out⟩
end Go.Proofs.YtpolbbdaippclaaGreat
namespace Go.Proofs.YtpolbbdaippclaaGreat
open Go.RowKit Go.ChangeShapes Go.WideShapes Go.ChangeAt
set_option linter.unusedVariables false
set_option linter.unusedSimpArgs false
set_option maxRecDepth 100000
theorem own_sliceY {w : World} {base : Nat} {e size n : Nat} {v : Value} {xs : List Value} (h : w.ownsRow base e size v n xs) : ∃ a m c, v = .slice a m c := by
 rcases h.2 with ⟨e, _⟩ | ⟨g, cap, cur, e, _⟩
 · exact ⟨_, _, _, e⟩
 · exact ⟨_, _, _, e⟩
def be4 (n : Int) : List Int := [n / 16777216, n / 65536 % 256, n / 256 % 256, n % 256]
def OwY (w : World) (base : Nat) (v : Value) (zs : List Int) : Prop := w.ownsRow base 5 1 v zs.length (zs.map u8V)
theorem OwY.nil (w : World) (base : Nat) : OwY w base (.slice none 0 0) [] := World.ownsRow_nil _ _ _ _
theorem row_news {w : World} {g : Nat} {l : List Value} {t : TypeId} (h : w.heap[g]? = some (.cells l.toArray t (0, 0))) : ∀ j u, l[j]? = some u → w.cell? ((⟨g, 0, none⟩ : Addr).add j) = some u := fun j u hu => by
 have e : (⟨g, 0, none⟩ : Addr).add j = ⟨g, 0 + j, none⟩ := by unfold Addr.add; split <;> simp_all
 rw [e, Nat.zero_add]
 exact cell_of_row2 h j (by simpa using hu)
theorem wpList_appY (w : World) {ops : Array Oper} {rest : List Oper} {o : Oper} {a : Act} {Q : Exit → Act → World → Prop} (hgd : o.guard = none) (s x : Operand)
   (ho : o.op = .call { callee := .builtin .append, args := #[s, x], argTypes := #[49, 49] }) (base : Nat) (v : Value) (zs ns : List Int) (hs : a.eval s = v) (hown : OwY w base v zs)
   (g m c : Nat) (hx : a.eval x = .slice (some ⟨g, 0, none⟩) m c) (hl : ns.length = m) (hg : w.heap[g]? = some (.cells (ns.map u8V).toArray 5 (0, 0))) (hz : zs.length ≤ 1000000) (hn : ns.length ≤ 1000000) (hb : base ≤ w.heap.size)
   (h : ∀ v' w', OwY w' base v' (zs ++ ns) → w.grownBy w' v.ownBlock → wpList Tryz.prog ops Q rest (a.put o.dst v') w') : wpList Tryz.prog ops Q (o :: rest) a w := by
 obtain ⟨i0, hi, hz0, hz1, hz2⟩ := info_parts8
 refine wpList_append_own w hgd s x 49 ho base 5 i0 (.int .u8 0) 1 1 Tryz.underlying49 hi hz0 hz1 hz2 rfl (by decide) v zs.length _ hs hown ⟨g, 0, none⟩ m c (ns.map u8V) hx (by simp [hl]) (row_news hg) (u8V_one ns) (by unfold maxLen; omega) (by omega) hb ?_
 intro v' w' h1 h2 _
 exact h v' w' (by unfold OwY; rw [List.length_append, List.map_append, hl]; exact h1) h2
theorem below_grownY {B : Nat} {a w w' : World} {base : Nat} {v : Value} {zs : List Int} (h : Below B a w) (hown : OwY w base v zs) (hB : B ≤ base) (hBw : B ≤ w.heap.size) (hg : w.grownBy w' v.ownBlock) : Below B a w' :=
 h.grown hg hBw (fun k hk => Nat.le_trans hB (hown.lt k hk).1)
theorem OwY.later {w w' : World} {base : Nat} {v : Value} {zs : List Int} (h : OwY w base v zs) (hb : Below w.heap.size w w') : OwY w' base v zs := own_latR h hb
set_option maxHeartbeats 2000000 in
theorem wnum_c (base : Nat) (v : Value) (zs : List Int) (n : Int) (w : World) (ho : OwY w base v zs) (hb : base ≤ w.heap.size) (hz : zs.length ≤ 100000) (h0 : 0 ≤ n) (h1 : n < 4294967296) :
   Calls Tryz.prog 52 #[v, .int .u32 n] w fun e w' => ∃ v', e = .returned v' ∧ OwY w' base v' (zs ++ be4 n) ∧ Below base w w' := by
 obtain ⟨a, m, c, rfl⟩ := own_sliceY ho
 have HO := hid ho
 clear ho
 go_enter Tryz.func52, Tryz.ntmps52
 go_wp2_with (at_builtin; refine wpList_appY _ rfl _ _ rfl base _ zs (be4 n) rfl (HO.out.later (below_1 _ _)) w.heap.size 4 4 rfl rfl (heap_alloc_new w _) (by omega) (by show 4 ≤ _; omega) (by simp; omega) ?_; intro v' w' ho' hg'; have O' := hid ho'; have B' := hid (below_grownY ((below_1 w _).mono hb) (HO.out.later (below_1 w _)) (Nat.le_refl _) (by simp; omega) hg'); clear ho' hg')
 obtain ⟨a', m', c', rfl⟩ := own_sliceY O'.out
 go_ret
 exact ⟨_, rfl, O'.out, B'.out⟩
set_option maxHeartbeats 2000000 in
theorem wnone_c (base : Nat) (v : Value) (zs : List Int) (w : World) (ho : OwY w base v zs) (hb : base ≤ w.heap.size) (hz : zs.length ≤ 100000) :
   Calls Tryz.prog 80 #[v, .slice none 0 0] w fun e w' => ∃ v', e = .returned v' ∧ OwY w' base v' (zs ++ [0]) ∧ Below base w w' := by
 obtain ⟨a, m, c, rfl⟩ := own_sliceY ho
 have HO := hid ho
 clear ho
 go_enter Tryz.func80, Tryz.ntmps80
 go_upto_region 3 with (at_builtin; refine wpList_appY _ rfl _ _ rfl base _ zs [0] rfl (HO.out.later (below_1 _ _)) w.heap.size 1 1 rfl rfl (heap_alloc_new w _) (by omega) (by decide) (by simp; omega) ?_; intro v' w' ho' hg'; have O' := hid ho'; have B' := hid (below_grownY ((below_1 w _).mono hb) (HO.out.later (below_1 w _)) (Nat.le_refl _) (by simp; omega) hg'); clear ho' hg')
 obtain ⟨a', m', c', rfl⟩ := own_sliceY O'.out
 go_loopg [0, 15] 0 (fun gk v0 v15 wr => v0 = .slice a' m' c' ∧ v15 = .int .i64 0 ∧ Hid (OwY wr base (.slice a' m' c') (zs ++ [0])) ∧ Hid (Below base w wr))
 case atStart => exact ⟨rfl, rfl, O', B'⟩
 case round =>
   obtain ⟨rfl, rfl, O2, B2⟩ := hrel
   go_wp2
   go_ret
   exact ⟨_, rfl, O2.out, B2.out⟩
def numB (ver d0 d1 d2 : Int) : List Int := be4 (ver / 4294967296) ++ be4 (ver % 4294967296) ++ be4 d0 ++ be4 d1 ++ be4 d2
theorem OwY.low {w : World} {base b : Nat} {v : Value} {zs : List Int} (h : OwY w base v zs) (hb : b ≤ base) : OwY w b v zs := by
 obtain ⟨h1, h2⟩ := h
 refine ⟨h1, ?_⟩
 rcases h2 with h2 | ⟨g, cap, cur, q1, q2, q3⟩
 · exact .inl h2
 · exact .inr ⟨g, cap, cur, q1, Nat.le_trans hb q2, q3⟩
theorem uidx0 (a b c : Int) (w : World) : (Instr.index 74 (.agg #[.int .u32 a, .int .u32 b, .int .u32 c]) (.int .i64 0)).run Tryz.prog w = .ok (.int .u32 a) w := by kernel_rfl
theorem uidx1 (a b c : Int) (w : World) : (Instr.index 74 (.agg #[.int .u32 a, .int .u32 b, .int .u32 c]) (.int .i64 1)).run Tryz.prog w = .ok (.int .u32 b) w := by kernel_rfl
theorem uidx2 (a b c : Int) (w : World) : (Instr.index 74 (.agg #[.int .u32 a, .int .u32 b, .int .u32 c]) (.int .i64 2)).run Tryz.prog w = .ok (.int .u32 c) w := by kernel_rfl
end Go.Proofs.YtpolbbdaippclaaGreat
namespace Go.Proofs.YtpolbbdaippclaaGreat
open Go.RowKit Go.ChangeShapes Go.WideShapes Go.ChangeAt Go.Maps Go.Shelf
set_option linter.unusedVariables false
set_option linter.unusedSimpArgs false
set_option maxRecDepth 100000
theorem cons_2 {P : Program} {md : Region.Mode} {l r r' : List Oper} {Q : Exit → Act → World → Prop} {S : World → Prop} (i j : Nat) {fuel : Nat} {listed : Array Bool} {a : Act} {w : World} {o o' : Oper} (ho : l.drop i = o :: r) (ho' : l.drop j = o' :: r')
   (hr : Region.ready md l.toArray listed = [i, j])
   (h : ∀ K' : Act → World → Prop, Shut (∀ a w, S w → (S w → wpAnyH P md l.toArray Q S fuel (listed.setIfInBounds i true) a w) → K' a w) → if Region.wanted o (yielded l.toArray a.tmps) = true then Oper.wp P o a w K' Q else K' (a.put o.dst undef) w)
   (h' : ∀ K' : Act → World → Prop, Shut (∀ a w, S w → (S w → wpAnyH P md l.toArray Q S fuel (listed.setIfInBounds j true) a w) → K' a w) → if Region.wanted o' (yielded l.toArray a.tmps) = true then Oper.wp P o' a w K' Q else K' (a.put o'.dst undef) w) :
   wpAnyH P md l.toArray Q S (fuel + 1) listed a w :=
 wpAnyH_ready hr (by simp) (AllReadyH.cons (at_drop ho) h (AllReadyH.cons (at_drop ho') h' AllReadyH.nil))
set_option maxHeartbeats 1000000 in
theorem changes_c (k : Int) (hk : k = 1 ∨ k = 2) (w : World) : Calls Tryz.prog 110 #[.int .u8 k] w fun e w' => e = .returned (.bool true) ∧ w' = w := by
 rcases hk with rfl | rfl
 · go_enter Tryz.func110, Tryz.ntmps110
   go_wp2
   go_ret
   exact ⟨rfl, rfl⟩
 · go_enter Tryz.func110, Tryz.ntmps110
   go_wp2
   go_ret
   exact ⟨rfl, rfl⟩
theorem two_cells {W : World} {A T : Nat} {u0 u1 : Value} (h : W.heap[A]? = some (.cells #[u0, u1] T (0, 0))) (v0 v1 : Value) :
   ((W.setCell ⟨A, 0, none⟩ v0).setCell ⟨A, 1, none⟩ v1).heap[A]? = some (.cells #[v0, v1] T (0, 0)) := by
 simp only [World.setCell]
 simp [Array.getElem?_modify, h]
theorem newTr {w : World} {g : Nat} (h : w.heap[g]? = some (.cells #[.int .u32 1, .int .u8 2, .int .u16 0, .int .u16 0, .slice none 0 0, .slice none 0 0] 52 (0, 0))) : Tr w (some ⟨g, 0, none⟩) newL := by
 refine ⟨⟨by show 1 ≤ maxLen; unfold maxLen; omega, fun x hx => ?_, fun _ => ⟨_, 0, rfl, fun i hi => ?_⟩⟩, fun x hx => ?_⟩
 · rw [newL, List.mem_singleton] at hx
   subst hx
   exact ⟨⟨by decide, by decide⟩, ⟨by decide, by decide⟩, ⟨by decide, by decide⟩, ⟨by decide, by decide⟩, (no_ok _).2.2.2.2.1, (no_ok _).2.2.2.2.2⟩
 · have e : i = 0 := by simp [newL] at hi; omega
   subst e
   intro j v hv
   rw [Nat.zero_add, cell_of_row _ _ _ _ _ _ h, ← Array.getElem?_toList]
   exact hv
 · rw [newL, List.mem_singleton] at hx
   subst hx
   exact ⟨⟨fun _ => rfl, fun _ => rfl⟩, Nat.zero_le _, Nat.zero_le _⟩
set_option maxHeartbeats 1000000 in
theorem newRow_c (w : World) : Calls Tryz.prog 94 #[] w fun e w' => ∃ g, e = .returned (.slice (some ⟨g, 0, none⟩) 1 1) ∧ w.heap.size ≤ g ∧ w'.heap[g]? = some (.cells #[.int .u32 1, .int .u8 2, .int .u16 0, .int .u16 0, .slice none 0 0, .slice none 0 0] 52 (0, 0)) ∧ Below w.heap.size w w' := by
 have b1 := below_1 w (.cells #[.int .u32 1, .int .u8 2, .int .u16 0, .int .u16 0, .slice none 0 0, .slice none 0 0] 52)
 have h1 := heap_alloc_new w (.cells #[.int .u32 1, .int .u8 2, .int .u16 0, .int .u16 0, .slice none 0 0, .slice none 0 0] 52)
 go_enter Tryz.func94, Tryz.ntmps94
 go_wp2
 go_ret
 exact ⟨_, rfl, Nat.le_refl _, h1, b1⟩
set_option maxHeartbeats 4000000 in
theorem firstSnap_c (w : World) : Calls Tryz.prog 62 #[] w fun e w' => ∃ g s, e = .returned (.agg #[.slice (some ⟨g, 0, none⟩) 1 1, .slice (some ⟨s, 0, none⟩) 1 1]) ∧ w.heap.size ≤ g ∧ w.heap.size ≤ s ∧ w'.heap[g]? = some (.cells #[.int .u32 1, .int .u8 2, .int .u16 0, .int .u16 0, .slice none 0 0, .slice none 0 0] 52 (0, 0)) ∧ w'.heap[s]? = some (.cells #[.int .u32 1, .int .u64 1, .int .u8 0] 47 (0, 0)) ∧ Below w.heap.size w w' := by
 have NC := hid (fun W => newRow_c W)
 go_enter Tryz.func62, Tryz.ntmps62
 go_upto_region 2 with fail
 have b1 := (below_1 w (.cells #[.slice none 0 0, .slice none 0 0] 44))
 have b2 := below_1 (w.alloc (.cells #[.slice none 0 0, .slice none 0 0] 44)) (.cells #[.int .u32 1, .int .u64 1, .int .u8 0] 47)
 have hS := heap_alloc_new (w.alloc (.cells #[.slice none 0 0, .slice none 0 0] 44)) (.cells #[.int .u32 1, .int .u64 1, .int .u8 0] 47)
 have hR := (b2.block _ (lt_blkR (heap_alloc_new w _))).trans (heap_alloc_new w (.cells #[.slice none 0 0, .slice none 0 0] 44))
 have B1 := hid (b1.trans (b2.mono b1.size))
 have hz1 : (w.alloc (.cells #[.slice none 0 0, .slice none 0 0] 44)).heap.size = w.heap.size + 1 := by simp
 rw [hz1] at hS
 clear b1 b2 hz1
 generalize (w.alloc (.cells #[.slice none 0 0, .slice none 0 0] 44)).alloc (.cells #[.int .u32 1, .int .u64 1, .int .u8 0] 47) = V at *
 have HK : Hid (∀ W, Below V.heap.size V W → W.heap[w.heap.size + 1]? = some (.cells #[.int .u32 1, .int .u64 1, .int .u8 0] 47 (0, 0))) := hid (fun W h => (h.block _ (lt_blkR hS)).trans hS)
 have HR : Hid (∀ W, Below V.heap.size V W → W.heap[w.heap.size]? = some (.cells #[.slice none 0 0, .slice none 0 0] 44 (0, 0))) := hid (fun W h => (h.block _ (lt_blkR hR)).trans hR)
 have LR : Hid (w.heap.size < V.heap.size) := hid (lt_blkR hR)
 have D1 := hid (Below.drew (Below.refl V.heap.size V))
 have O0 : ∀ w' : World, w'.heap[w.heap.size + 1]? = some (.cells #[.int .u32 1, .int .u64 1, .int .u8 0] 47 (0, 0)) → w'.cell? ⟨w.heap.size + 1, 0, none⟩ = some (.int .u32 1) := fun w' h => cell_of_row2 h 0 rfl
 have O1 : ∀ w' : World, w'.heap[w.heap.size + 1]? = some (.cells #[.int .u32 1, .int .u64 1, .int .u8 0] 47 (0, 0)) → w'.cell? ⟨w.heap.size + 1, 1, none⟩ = some (.int .u64 1) := fun w' h => cell_of_row2 h 1 rfl
 have O2 : ∀ w' : World, w'.heap[w.heap.size + 1]? = some (.cells #[.int .u32 1, .int .u64 1, .int .u8 0] 47 (0, 0)) → w'.cell? ⟨w.heap.size + 1, 2, none⟩ = some (.int .u8 0) := fun w' h => cell_of_row2 h 2 rfl
 clear hS hR
 go_wp2_with fail
 refine wp_region_held_drew (S := fun w' => w'.heap[w.heap.size + 1]? = some (.cells #[.int .u32 1, .int .u64 1, .int .u8 0] 47 (0, 0))) (by kernel_rfl) (HK.out _ D1.out) (fun hHeld => ?_)
 refine take_l 1 (v := ?_) rfl (by kernel_rfl) (by kernel_rfl) (by kernel_rfl) (fun _ _ _ h => h) (Or.inl ⟨by rfl, ?_⟩) (by assumption) ?_
 rotate_left
 · (intro w' hSw; (have k0 := O0 _ hSw); (have k1 := O1 _ hSw); (have k2 := O2 _ hSw); clear hSw; go_simp; first | done | with_reducible rfl)
 try simp only [Act.put, List.setIfInBounds_toArray, List.set_cons_zero, List.set_cons_succ]
 refine cons_2 0 2 rfl rfl (by kernel_rfl) (fun K hK => ?_) (fun K hK => ?_)
 · skip
   go_simp
   refine (NC.out _).mono ?_; rintro _ w2 ⟨g2, rfl, hg2, hr2, hb2⟩
   have T2 := hid hr2
   have D2 := hid (D1.out.trans (hb2.mono D1.out.size))
   have G2 := hid (show V.heap.size ≤ g2 from Nat.le_trans D1.out.size hg2)
   clear hr2 hb2 hg2
   go_simp
   refine hK.out _ _ (HK.out _ D2.out) (fun hHeld => ?_)
   clear hK K
   try simp only [Act.put, List.setIfInBounds_toArray, List.set_cons_zero, List.set_cons_succ]
   refine cons_l 2 rfl (by kernel_rfl) (fun K hK => ?_)
   go_simp
   have b3 := below_1 w2 (.cells #[.int .u32 1, .int .u64 1, .int .u8 0] 47)
   have N3 := hid (heap_alloc_new w2 (.cells #[.int .u32 1, .int .u64 1, .int .u8 0] 47))
   have D3 := hid (D2.out.trans (b3.mono D2.out.size))
   have T3 := hid ((b3.block _ (lt_blkR T2.out)).trans T2.out)
   have G3 := hid (show V.heap.size ≤ w2.heap.size from D2.out.size)
   generalize w2.heap.size = s3 at *
   generalize w2.alloc (.cells #[.int .u32 1, .int .u64 1, .int .u8 0] 47) = W3 at *
   clear b3
   refine hK.out _ _ (HK.out _ D3.out) (fun hHeld => ?_)
   clear hK K
   try simp only [Act.put, List.setIfInBounds_toArray, List.set_cons_zero, List.set_cons_succ]
   refine take_l 3 (v := ?_) rfl (by kernel_rfl) (by kernel_rfl) (by kernel_rfl) (fun _ _ _ h => h) (Or.inl ⟨by rfl, ?_⟩) (by assumption) ?_
   rotate_left
   · (intro w' hSw; clear hSw; go_simp; first | done | with_reducible rfl)
   try simp only [Act.put, List.setIfInBounds_toArray, List.set_cons_zero, List.set_cons_succ]
   have R3 := HR.out _ D3.out
   have r0 : W3.cell? ⟨w.heap.size, 0, none⟩ = some (.slice none 0 0) := cell_of_row2 R3 0 rfl
   have r1 : W3.cell? ⟨w.heap.size, 1, none⟩ = some (.slice none 0 0) := cell_of_row2 R3 1 rfl
   have fz : ∀ i, W3.frozen? ⟨w.heap.size, i, none⟩ = false := fun i => by simp [World.frozen?, R3]
   refine cons_l 4 rfl (by kernel_rfl) (fun K hK => ?_)
   go_simp
   have Q9 := hid (two_cells R3 (.slice (some ⟨g2, 0, none⟩) 1 1) (.slice (some ⟨s3, 0, none⟩) 1 1))
   have S9 := (Below.heap_setCell (W3.setCell ⟨w.heap.size, 0, none⟩ (.slice (some ⟨g2, 0, none⟩) 1 1)) ⟨w.heap.size, 1, none⟩ (.slice (some ⟨s3, 0, none⟩) 1 1) (w.heap.size + 1) (by simp)).trans ((Below.heap_setCell W3 ⟨w.heap.size, 0, none⟩ (.slice (some ⟨g2, 0, none⟩) 1 1) (w.heap.size + 1) (by simp)).trans (HK.out _ D3.out))
   refine hK.out _ _ S9 (fun hHeld => ?_)
   clear hK K
   try simp only [Act.put, List.setIfInBounds_toArray, List.set_cons_zero, List.set_cons_succ]
   refine wpAnyH_done (by kernel_rfl) ?_ _
   have l9 := LR.out
   have l8 := G2.out
   have l7 := G3.out
   have X1 := (Below.heap_setCell (W3.setCell ⟨w.heap.size, 0, none⟩ (.slice (some ⟨g2, 0, none⟩) 1 1)) ⟨w.heap.size, 1, none⟩ (.slice (some ⟨s3, 0, none⟩) 1 1) g2 (by simp; omega)).trans ((Below.heap_setCell W3 ⟨w.heap.size, 0, none⟩ (.slice (some ⟨g2, 0, none⟩) 1 1) g2 (by simp; omega)).trans T3.out)
   have X2 := (Below.heap_setCell (W3.setCell ⟨w.heap.size, 0, none⟩ (.slice (some ⟨g2, 0, none⟩) 1 1)) ⟨w.heap.size, 1, none⟩ (.slice (some ⟨s3, 0, none⟩) 1 1) s3 (by simp; omega)).trans ((Below.heap_setCell W3 ⟨w.heap.size, 0, none⟩ (.slice (some ⟨g2, 0, none⟩) 1 1) s3 (by simp; omega)).trans N3.out)
   have B9 := hid ((((B1.out.trans (D3.out.mono B1.out.size)).setCell (p := ⟨w.heap.size, 0, none⟩) (Nat.le_refl _) (.slice (some ⟨g2, 0, none⟩) 1 1)).setCell (p := ⟨w.heap.size, 1, none⟩) (Nat.le_refl _) (.slice (some ⟨s3, 0, none⟩) 1 1)))
   have X1h := hid X1
   have X2h := hid X2
   have q9 := Q9.out
   clear X1 X2 S9 r0 r1 fz R3
   generalize ((W3.setCell ⟨w.heap.size, 0, none⟩ (.slice (some ⟨g2, 0, none⟩) 1 1)).setCell ⟨w.heap.size, 1, none⟩ (.slice (some ⟨s3, 0, none⟩) 1 1)) = W9 at *
   have r0 : W9.cell? ⟨w.heap.size, 0, none⟩ = some (.slice (some ⟨g2, 0, none⟩) 1 1) := cell_of_row2 q9 0 rfl
   have r1 : W9.cell? ⟨w.heap.size, 1, none⟩ = some (.slice (some ⟨s3, 0, none⟩) 1 1) := cell_of_row2 q9 1 rfl
   go_wp2
   refine bodyPost_ret (v := .agg #[.slice (some ⟨g2, 0, none⟩) 1 1, .slice (some ⟨s3, 0, none⟩) 1 1]) (by simp [results, Tryz.results62, go_sem, r0, r1]) rfl ⟨_, _, rfl, by omega, by omega, X1h.out, X2h.out, B9.out⟩
 · skip
   go_simp
   have N2 : Hid ((V.alloc (.cells #[.int .u32 1, .int .u64 1, .int .u8 0] 47)).drew.heap[V.heap.size]? = some (.cells #[.int .u32 1, .int .u64 1, .int .u8 0] 47 (0, 0))) := hid (heap_alloc_new V (.cells #[.int .u32 1, .int .u64 1, .int .u8 0] 47))
   have D2 : Hid (Below V.heap.size V (V.alloc (.cells #[.int .u32 1, .int .u64 1, .int .u8 0] 47)).drew) := hid (Below.drew (below_1 V (.cells #[.int .u32 1, .int .u64 1, .int .u8 0] 47)))
   obtain ⟨s3, hs3⟩ : ∃ s3, s3 = V.heap.size := ⟨_, rfl⟩
   have G3 : Hid (V.heap.size ≤ s3) := hid (by omega)
   have HS3 := hid hs3
   generalize (V.alloc (.cells #[.int .u32 1, .int .u64 1, .int .u8 0] 47)).drew = W2 at *
   refine hK.out _ _ (HK.out _ D2.out) (fun hHeld => ?_)
   clear hK K
   try simp only [Act.put, List.setIfInBounds_toArray, List.set_cons_zero, List.set_cons_succ]
   refine cons_l 0 rfl (by kernel_rfl) (fun K hK => ?_)
   go_simp
   refine (NC.out _).mono ?_; rintro _ W3 ⟨g2, rfl, hg2, hr2, hb2⟩
   have T3 := hid hr2
   have D3 := hid (D2.out.trans (hb2.mono D2.out.size))
   have G2 := hid (show V.heap.size ≤ g2 from Nat.le_trans D2.out.size hg2)
   have N3 : Hid (W3.heap[s3]? = some (.cells #[.int .u32 1, .int .u64 1, .int .u8 0] 47 (0, 0))) := hid (by rw [HS3.out]; exact (hb2.block _ (lt_blkR N2.out)).trans N2.out)
   clear hr2 hb2 hg2 N2
   rw [← hs3]
   clear hs3
   go_simp
   refine hK.out _ _ (HK.out _ D3.out) (fun hHeld => ?_)
   clear hK K
   try simp only [Act.put, List.setIfInBounds_toArray, List.set_cons_zero, List.set_cons_succ]
   refine take_l 3 (v := ?_) rfl (by kernel_rfl) (by kernel_rfl) (by kernel_rfl) (fun _ _ _ h => h) (Or.inl ⟨by rfl, ?_⟩) (by assumption) ?_
   rotate_left
   · (intro w' hSw; clear hSw; go_simp; first | done | with_reducible rfl)
   try simp only [Act.put, List.setIfInBounds_toArray, List.set_cons_zero, List.set_cons_succ]
   have R3 := HR.out _ D3.out
   have r0 : W3.cell? ⟨w.heap.size, 0, none⟩ = some (.slice none 0 0) := cell_of_row2 R3 0 rfl
   have r1 : W3.cell? ⟨w.heap.size, 1, none⟩ = some (.slice none 0 0) := cell_of_row2 R3 1 rfl
   have fz : ∀ i, W3.frozen? ⟨w.heap.size, i, none⟩ = false := fun i => by simp [World.frozen?, R3]
   refine cons_l 4 rfl (by kernel_rfl) (fun K hK => ?_)
   go_simp
   have Q9 := hid (two_cells R3 (.slice (some ⟨g2, 0, none⟩) 1 1) (.slice (some ⟨s3, 0, none⟩) 1 1))
   have S9 := (Below.heap_setCell (W3.setCell ⟨w.heap.size, 0, none⟩ (.slice (some ⟨g2, 0, none⟩) 1 1)) ⟨w.heap.size, 1, none⟩ (.slice (some ⟨s3, 0, none⟩) 1 1) (w.heap.size + 1) (by simp)).trans ((Below.heap_setCell W3 ⟨w.heap.size, 0, none⟩ (.slice (some ⟨g2, 0, none⟩) 1 1) (w.heap.size + 1) (by simp)).trans (HK.out _ D3.out))
   refine hK.out _ _ S9 (fun hHeld => ?_)
   clear hK K
   try simp only [Act.put, List.setIfInBounds_toArray, List.set_cons_zero, List.set_cons_succ]
   refine wpAnyH_done (by kernel_rfl) ?_ _
   have l9 := LR.out
   have l8 := G2.out
   have l7 := G3.out
   have X1 := (Below.heap_setCell (W3.setCell ⟨w.heap.size, 0, none⟩ (.slice (some ⟨g2, 0, none⟩) 1 1)) ⟨w.heap.size, 1, none⟩ (.slice (some ⟨s3, 0, none⟩) 1 1) g2 (by simp; omega)).trans ((Below.heap_setCell W3 ⟨w.heap.size, 0, none⟩ (.slice (some ⟨g2, 0, none⟩) 1 1) g2 (by simp; omega)).trans T3.out)
   have X2 := (Below.heap_setCell (W3.setCell ⟨w.heap.size, 0, none⟩ (.slice (some ⟨g2, 0, none⟩) 1 1)) ⟨w.heap.size, 1, none⟩ (.slice (some ⟨s3, 0, none⟩) 1 1) s3 (by simp; omega)).trans ((Below.heap_setCell W3 ⟨w.heap.size, 0, none⟩ (.slice (some ⟨g2, 0, none⟩) 1 1) s3 (by simp; omega)).trans N3.out)
   have B9 := hid ((((B1.out.trans (D3.out.mono B1.out.size)).setCell (p := ⟨w.heap.size, 0, none⟩) (Nat.le_refl _) (.slice (some ⟨g2, 0, none⟩) 1 1)).setCell (p := ⟨w.heap.size, 1, none⟩) (Nat.le_refl _) (.slice (some ⟨s3, 0, none⟩) 1 1)))
   have X1h := hid X1
   have X2h := hid X2
   have q9 := Q9.out
   clear X1 X2 S9 r0 r1 fz R3
   generalize ((W3.setCell ⟨w.heap.size, 0, none⟩ (.slice (some ⟨g2, 0, none⟩) 1 1)).setCell ⟨w.heap.size, 1, none⟩ (.slice (some ⟨s3, 0, none⟩) 1 1)) = W9 at *
   have r0 : W9.cell? ⟨w.heap.size, 0, none⟩ = some (.slice (some ⟨g2, 0, none⟩) 1 1) := cell_of_row2 q9 0 rfl
   have r1 : W9.cell? ⟨w.heap.size, 1, none⟩ = some (.slice (some ⟨s3, 0, none⟩) 1 1) := cell_of_row2 q9 1 rfl
   go_wp2
   refine bodyPost_ret (v := .agg #[.slice (some ⟨g2, 0, none⟩) 1 1, .slice (some ⟨s3, 0, none⟩) 1 1]) (by simp [results, Tryz.results62, go_sem, r0, r1]) rfl ⟨_, _, rfl, by omega, by omega, X1h.out, X2h.out, B9.out⟩
end Go.Proofs.YtpolbbdaippclaaGreat
