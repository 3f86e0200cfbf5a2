/-
  The package tell: entries' function, that calls itself.
-/
import Derived.Test.YtkokjkaclcjnjaaGreatDoorPtBo
namespace Go.Proofs.YtkokjkaclcjnjaaGreatDoor
open Go.RowKit Go.ChangeShapes Go.WideShapes Go.ChangeAt Go.Shelf
attribute [local go_sem] Oper.semAt_some
set_option linter.unusedVariables false
set_option linter.unusedSimpArgs false
set_option maxRecDepth 100000
theorem room_any (n : Nat) : Fence.wide.room n := fun d h => by cases h
theorem round_any {m m' l l' : Nat} {P : Program} {fn : FuncId} {tmps : Array Value} {assign body : Code} {w : World} {R : Ending → World → Prop} (h : RoundIn Fence.wide m P l fn tmps assign body w R) : RoundIn (Fence.wide.inRound l') m' P l fn tmps assign body w R :=
 ⟨trivial, fun c cs _ => h.2 c cs (room_any _)⟩
theorem row_kid {w : World} {base : Nat} {ka : Option Addr} {ks : List Kd} (h : RowAt w base 65 ka (kcells ks)) {i : Nat} (hi : i < ks.length) : ∃ g, ka = some ⟨g, 0, none⟩ ∧ base ≤ g ∧ g < w.heap.size ∧ ∀ W : World, W.heap[g]? = w.heap[g]? → KdAt W g (i * 2) (ks.getD i Kd.no) := by
 rcases h with h | ⟨g, cs, fr, h1, h2, h3, h4⟩
 · exfalso
   have := congrArg List.length h
   rw [kcells_len] at this
   rw [List.length_nil] at this
   omega
 · refine ⟨g, h1, h2, lt_blkR h3, fun W hW => ?_⟩
   rw [h3] at hW
   exact ⟨cell_of_row2 hW 0 (h4 (i * 2) _ (kcells_get ks i 0 hi (by omega))), cell_of_row2 hW 0 (h4 (i * 2 + 1) _ (kcells_get ks i 1 hi (by omega)))⟩
theorem ent_c (a : Option Addr) (n cap : Nat) (f : Int) (p : ByteArray) (w : World) : Calls Tryz.prog 15 #[.slice a n cap, .int .u32 f, .string p] w fun e w' => e = .returned (.func (.func 32) #[] #[.pointer (some ⟨w.heap.size, 0, none⟩), .pointer (some ⟨w.heap.size + 1, 0, none⟩), .pointer (some ⟨w.heap.size + 2, 0, none⟩)]) ∧ w' = ((w.alloc (.cells #[.slice a n cap] 23)).alloc (.cells #[.int .u32 f] 31)).alloc (.cells #[.string p] 9) := by
 go_enter Tryz.func15, Tryz.ntmps15
 go_wp2
 go_ret
 exact ⟨rfl, rfl⟩
def InJ (J : (Nat → Prop) → List ByteArray → World → Prop) (l1 D1 y0 : Nat) (rec bx : Obj) (U : Nat → Prop) (pre : List ByteArray) (A : World) : Prop :=
 ∃ U0, J U0 pre A ∧ A.heap[l1]? = some rec ∧ A.heap[D1]? = some (.deferred (some [])) ∧ A.heap[y0]? = some bx ∧ ¬ U0 l1 ∧ ¬ U0 D1 ∧ ¬ U0 y0 ∧ U = fun k => U0 k ∨ k = l1 ∨ k = D1 ∨ k = y0
set_option maxHeartbeats 4000000 in
theorem ent_walk {L : List Nd} {a : Option Addr} {cap : Nat} {w0 : World} (h0 : Tr w0 a L) (hm : L.length ≤ 1000) (f : Int) (p : ByteArray) (ks : List Kd) (hks : kidsF L f = ks) (hnm : ∀ x ∈ ks, x.nm.size ≤ 1000) (hkl : ks.length ≤ 1000) (hp : p.size ≤ 100000) (G : Kd → List ByteArray) (IH : ∀ x ∈ ks, EntC L a cap w0 x.fid (ownB p x) (G x)) :
   EntC L a cap w0 f p (ks.flatMap fun x => ownB p x :: G x) := by
 intro lp N J U pre W bt bf bp S hW hJ hU hbt hbf hbp nt nf np hN
 have HS := hid S
 have hW1 := below_1 W (.cells #[.func (.yield lp) #[] #[]] 74)
 have GC := hid (tGet_c a cap L f _ (h0.later (hW.trans (hW1.mono hW.size))) (by omega))
 have ct : W.cell? ⟨bt, 0, none⟩ = some (.slice a L.length cap) := cell_of_row2 hbt 0 rfl
 have cf : W.cell? ⟨bf, 0, none⟩ = some (.int .u32 f) := cell_of_row2 hbf 0 rfl
 have lt1 := lt_blkR hbt
 have lt2 := lt_blkR hbf
 refine callsIn_of_wp_marks Tryz.func32 rfl trivial ?_ rfl
 simp only [Tryz.ntmps32, List.size_toArray, List.length_cons, List.length_nil, Nat.reduceAdd, Nat.reduceSub, Array.replicate_succ, Array.replicate_zero, List.push_toArray, List.append_toArray, List.nil_append, List.cons_append]
 gi_wp2_with fail
 refine ⟨trivial, (callsIn_wide.2 GC.out).mono ?_⟩
 rintro e0 w2 ⟨hg, hb2⟩
 obtain ⟨y, yb, rfl, hyk, hrow⟩ : ∃ (y : Nd) (yb : Bool), e0 = .returned (.tuple #[y.val, .bool yb]) ∧ y.ks = ks ∧ RowAt w2 (W.heap.size + 1) 65 y.ka (kcells y.ks) := by
   cases e : getF L f with
   | none =>
     rw [e] at hg
     exact ⟨Nd.no, false, hg, by rw [← hks]; unfold kidsF; rw [e]; rfl, .inl rfl⟩
   | some x =>
     rw [e] at hg
     obtain ⟨y, h1, h2, h3⟩ := hg
     have h4 : y.ks = x.ks := by { have q := congrArg Nd.ks h2; exact q }
     have h5 := h3.2.2.2
     rw [World.size_alloc] at h5
     exact ⟨y, true, h1, by rw [h4, ← hks, kidsF_some e], h5⟩
 have hb02 : Below W.heap.size W w2 := hW1.trans (hb2.mono hW1.size)
 have hy0 : w2.heap[W.heap.size]? = some (.cells #[.func (.yield lp) #[] #[]] 74 (0, 0)) := (hb2.block _ (by simp)).trans (heap_alloc_new W _)
 have HROW := hid hrow
 have HB2 := hid hb02
 have HY0 := hid hy0
 have HYK := hid hyk
 clear hg hb2 hrow hb02 hy0 GC h0 hks ct cf hyk hW1
 obtain ⟨yf, ykd, ym, yl, yda, ydc, yzs, yka, ykc, yks⟩ := y
 simp only [Nd.val]
 gi_wp2_with fail
 have hyk : yks = ks := HYK.out
 subst hyk
 clear HYK
 have hV := below_1 w2 (.cells #[.int .u32 yf, .int .u8 ykd, .int .u16 ym, .int .u16 yl, .slice yda yzs.length ydc, .slice yka yks.length ykc] 37)
 have HBV : Hid (Below W.heap.size W (w2.alloc (.cells #[.int .u32 yf, .int .u8 ykd, .int .u16 ym, .int .u16 yl, .slice yda yzs.length ydc, .slice yka yks.length ykc] 37))) := hid (HB2.out.trans (hV.mono HB2.out.size))
 have HYV := hid ((hV.block _ (lt_blkR HY0.out)).trans HY0.out)
 have HRV : Hid (RowAt (w2.alloc (.cells #[.int .u32 yf, .int .u8 ykd, .int .u16 ym, .int .u16 yl, .slice yda yzs.length ydc, .slice yka yks.length ykc] 37)) (W.heap.size + 1) 65 yka (kcells yks)) := hid (HROW.out.later hV)
 have hWV : W.heap.size < (w2.alloc (.cells #[.int .u32 yf, .int .u8 ykd, .int .u16 ym, .int .u16 yl, .slice yda yzs.length ydc, .slice yka yks.length ykc] 37)).heap.size := lt_blkR HYV.out
 clear hV HB2 HY0 HROW
 generalize w2.alloc (.cells #[.int .u32 yf, .int .u8 ykd, .int .u16 ym, .int .u16 yl, .slice yda yzs.length ydc, .slice yka yks.length ykc] 37) = V at *
 obtain ⟨ks, hks⟩ : ∃ ks, ks = yks := ⟨_, rfl⟩
 subst hks
 generalize Value.agg #[.int .u32 yf, .int .u8 ykd, .int .u16 ym, .int .u16 yl, .slice yda yzs.length ydc, .slice yka ks.length ykc] = z15
 generalize Value.tuple #[z15, .bool yb] = z11
 generalize Value.pointer (some ⟨w2.heap.size, 0, none⟩) = z5
 generalize Value.pointer (some ⟨w2.heap.size, 5, none⟩) = z17
 have HJV : Hid (J U pre V) := hid (HS.out.later hJ (HBV.out.mono (Nat.le_refl _)))
 have HUW : Hid (∀ k, U k → k < W.heap.size) := hid (fun k hk => HS.out.lt _ _ _ _ hJ hk)
 have HN := hid hN
 have HIH := hid IH
 have HU := hid hU
 have HBT := hid hbt
 have HBP := hid hbp
 have NT := hid nt
 have NP := hid np
 have HNM := hid hnm
 clear hJ hN IH hU hbt hbf hbp nt nf np hnm S lt1 lt2
 refine wpIn_loop (fun a' w' => ∃ (i : Nat) (U' : Nat → Prop) (ds : List Deferred) (Ds : List Nat) (u8 u9 u10 u21 u22 u23 u24 u25 u26 u27 u28 u29 u30 u31 u32 u33 u34 u35 u36 u37 u38 u39 u40 u41 u42 u43 : Value), (i ≤ ks.length ∧ Hid (J U' (pre ++ (ks.take i).flatMap (fun x => ownB p x :: G x)) w') ∧ Hid (∀ k, U' k → U k ∨ V.heap.size ≤ k) ∧ Hid (Ou U V w') ∧ Hid (Mks w' ds Ds) ∧ Hid (∀ D ∈ Ds, V.heap.size ≤ D ∧ ¬ U' D)) ∧ a' = { tmps := #[.func (.yield lp) #[] #[], .pointer (some ⟨bt, 0, none⟩), .pointer (some ⟨bf, 0, none⟩), .pointer (some ⟨bp, 0, none⟩), .pointer (some ⟨W.heap.size, 0, none⟩), z5, .bool yb, undef, u8, u9, u10, z11, .slice a L.length cap, .int .u32 f, z11, z15, .bool yb, z17, .slice yka ks.length ykc, .int .i64 (ks.length : Int), .int .i64 (i : Int), u21, u22, u23, u24, u25, u26, u27, u28, u29, u30, u31, u32, u33, u34, u35, u36, u37, u38, u39, u40, u41, u42, u43], defers := ds }) (fun a' _ => ks.length - (intOf (a'.tmps.getD 20 undef)).toNat) ?start ?round
 case start =>
   refine ⟨0, U, [], [], ?_⟩
   repeat apply Exists.intro
   exact ⟨⟨Nat.zero_le _, hid (by simpa using HJV.out), hid (fun k hk => .inl hk), hid (Ou.refl _ _), hid trivial, hid (fun D hD => by cases hD)⟩, rfl⟩
 case round =>
   rintro _ wr ⟨i, U', ds, Ds, u8, u9, u10, u21, u22, u23, u24, u25, u26, u27, u28, u29, u30, u31, u32, u33, u34, u35, u36, u37, u38, u39, u40, u41, u42, u43, ⟨hi, HJ, HU', HO, HM, HD⟩, rfl⟩
   clear HJV
   by_cases hin : i < ks.length
   · obtain ⟨g, rfl, hg1, hg2, hgk⟩ := row_kid HRV.out hin
     have hmem := getD_mem ks Kd.no hin
     have HX := hid (HIH.out _ hmem)
     have hnx := HNM.out _ hmem
     have TK : Hid ((ks.take (i + 1)).flatMap (fun x => ownB p x :: G x) = (ks.take i).flatMap (fun x => ownB p x :: G x) ++ ownB p (ks.getD i Kd.no) :: G (ks.getD i Kd.no)) := hid (by rw [List.take_succ_eq_append_getElem hin, List.flatMap_append, List.getD, List.getElem?_eq_getElem hin]; simp)
     have LN : Hid (pre.length + ((ks.take i).flatMap (fun x => ownB p x :: G x)).length + 1 + (G (ks.getD i Kd.no)).length ≤ N) := hid (by
       have h1 := HN.out
       have h2 : (ks.flatMap (fun x => ownB p x :: G x)).length = ((ks.take (i + 1)).flatMap (fun x => ownB p x :: G x)).length + ((ks.drop (i + 1)).flatMap (fun x => ownB p x :: G x)).length := by
         rw [← List.length_append, ← List.flatMap_append, List.take_append_drop]
       rw [h2, TK.out, List.length_append, List.length_cons] at h1
       omega)
     obtain ⟨c0, c1⟩ := hgk wr (HO.out.block g hg2 (fun e => by have := HUW.out _ e; omega))
     clear hgk hmem
     generalize ks.getD i Kd.no = x at *
     obtain ⟨nm, fid⟩ := x
     simp only at c0 c1 hnx HX TK LN
     obtain ⟨qs, hqs⟩ : ∃ qs, qs = pre ++ (ks.take i).flatMap (fun x => ownB p x :: G x) := ⟨_, rfl⟩
     have HQS := hid hqs
     rw [← hqs] at HJ
     clear hqs
     have hsW : W.heap.size ≤ V.heap.size := by omega
     have hbtr := HO.out.box NT.out ((HBV.out.block bt (lt_blkR HBT.out)).trans HBT.out)
     have hbpr := HO.out.box NP.out ((HBV.out.block bp (lt_blkR HBP.out)).trans HBP.out)
     have hy0r := HO.out.box (fun e => by have := HUW.out _ e; omega) HYV.out
     have rp : wr.cell? ⟨bp, 0, none⟩ = some (.string p) := cell_of_row2 hbpr 0 rfl
     have ry : wr.cell? ⟨W.heap.size, 0, none⟩ = some (.func (.yield lp) #[] #[]) := cell_of_row2 hy0r 0 rfl
     have i1 : (i : Int) < ks.length := by omega
     have i2 : (0 : Int) ≤ i := by omega
     have z1 : ¬ 9223372036854775807 < p.size + 1 := by omega
     have z2 : ¬ 9223372036854775807 < p.size + 1 + nm.size := by omega
     have b1 := below_1 wr (.cells #[.string nm, .int .u32 fid] 65)
     have hL1 : qs.length < N := by rw [HQS.out, List.length_append]; have := LN.out; omega
     obtain ⟨fn, tmps, assign, body, hy, hR⟩ := HS.out.yield U' qs (p ++ ⟨#[47]⟩ ++ nm) _ (HS.out.later HJ.out b1) hL1
     have HR := hid hR
     have HUr : Hid (∀ k, U' k → k < wr.heap.size) := hid (fun k hk => HS.out.lt _ _ _ _ HJ.out hk)
     have HKr := hid (heap_alloc_new wr (.cells #[.string nm, .int .u32 fid] 65))
     have l1 := lt_blkR hbpr
     have l2 := lt_blkR hy0r
     have l3 := lt_blkR hbtr
     have HBTr := hid hbtr
     have HY0r := hid hy0r
     clear hR hL1 hbtr hbpr hy0r b1
     gi_wp2_with fail
     refine HR.out.mono ?_
     rintro _ A2 ⟨rfl, U2, hJ2, hU2, ho2⟩
     have NU : Hid (∀ k, k < V.heap.size → ¬ U k → ¬ U' k) := hid (fun k hk hn e => by rcases HU'.out k e with q | q; exact hn q; omega)
     have ltb : bt < W.heap.size := lt_blkR HBT.out
     have hbtA := ho2.box (NU.out bt (by omega) NT.out) ((Below.heap_alloc _ _ _ l3).trans HBTr.out)
     have hy0A := ho2.box (NU.out _ hWV (fun e => by have := HUW.out _ e; omega)) ((Below.heap_alloc _ _ _ l2).trans HY0r.out)
     have hkA := ho2.box (fun e => by have := HUr.out _ e; omega) HKr.out
     have rt : A2.cell? ⟨bt, 0, none⟩ = some (.slice a L.length cap) := cell_of_row2 hbtA 0 rfl
     have rf : A2.cell? ⟨wr.heap.size, 1, none⟩ = some (.int .u32 fid) := cell_of_row2 hkA 0 rfl
     have HOW : Hid (ownB p ⟨nm, fid⟩ = p ++ ⟨#[47]⟩ ++ nm) := hid rfl
     have HJ2 := hid hJ2
     have HU2 := hid hU2
     have HO2 := hid ho2
     have HY2 := hid hy0A
     clear hJ2 hU2 ho2 hbtA hy0A hkA c0 c1 rp ry hy
     generalize p ++ ⟨#[47]⟩ ++ nm = ow at *
     have EC := hid (ent_c a L.length cap fid ow A2)
     gi_wp2_with fail
     refine ⟨trivial, (callsIn_wide.2 EC.out).mono ?_⟩
     rintro _ A3 ⟨rfl, hA3⟩
     have hb3 : Below A2.heap.size A2 A3 := by rw [hA3]; exact ((below_1 A2 _).trans ((below_1 _ _).mono (by simp))).trans ((below_1 _ _).mono (by simp; omega))
     have hs3 : A3.heap.size = A2.heap.size + 3 := by rw [hA3]; simp
     have x0 : A3.heap[A2.heap.size]? = some (.cells #[.slice a L.length cap] 23 (0, 0)) := by
       rw [hA3, Below.heap_alloc _ _ _ (by simp; omega), Below.heap_alloc _ _ _ (by simp)]; exact heap_alloc_new A2 _
     have x1 : A3.heap[A2.heap.size + 1]? = some (.cells #[.int .u32 fid] 31 (0, 0)) := by
       rw [hA3, Below.heap_alloc _ _ _ (by simp)]; have := heap_alloc_new (A2.alloc (.cells #[.slice a L.length cap] 23)) (.cells #[.int .u32 fid] 31); rwa [World.size_alloc] at this
     have x2 : A3.heap[A2.heap.size + 2]? = some (.cells #[.string ow] 9 (0, 0)) := by
       rw [hA3]; have := heap_alloc_new ((A2.alloc (.cells #[.slice a L.length cap] 23)).alloc (.cells #[.int .u32 fid] 31)) (.cells #[.string ow] 9); simpa using this
     have HX0 := hid x0
     have HX1 := hid x1
     have HX2 := hid x2
     have HB3 := hid hb3
     have HS3 := hid hs3
     clear hA3 x0 x1 x2 hb3 hs3 rt rf
     gi_wp2_with fail
     have hs2 : wr.heap.size + 1 ≤ A2.heap.size := by have := HO2.out.size; simpa using this
     have h3e := HS3.out
     refine wpIn_wide.2 ?_
     refine (wpIn_wide (n := 3)).1 ?_
     refine (Rg.range_go (gf := 32) (lb := #[.pointer (some ⟨A2.heap.size, 0, none⟩), .pointer (some ⟨A2.heap.size + 1, 0, none⟩), .pointer (some ⟨A2.heap.size + 2, 0, none⟩)]) rfl (enters_of Tryz.func32 (by kernel_rfl) rfl) (fun W' => ∃ U4, J U4 (qs ++ [ow] ++ G ⟨nm, fid⟩) W' ∧ (∀ k, U4 k → U2 k ∨ A3.heap.size + 2 ≤ k) ∧ Ou U2 A3 W') ?hit ?done)
     case hit =>
       intro fn2
       generalize hR : Rg.recOf fn2 _ _ _ _ _ = R
       have hB1 : Below A3.heap.size A3 ((A3.alloc (.deferred (some []))).alloc (.loop (R .ready))) := (below_1 A3 _).trans ((below_1 _ _).mono (by simp))
       have hD1 : ((A3.alloc (.deferred (some []))).alloc (.loop (R .ready))).heap[A3.heap.size]? = some (.deferred (some [])) := (Below.heap_alloc _ _ _ (by simp)).trans (heap_alloc_new A3 _)
       have hLl : ((A3.alloc (.deferred (some []))).alloc (.loop (R .ready))).heap[A3.heap.size + 1]? = some (.loop (R .ready)) := by
         have := heap_alloc_new (A3.alloc (.deferred (some []))) (.loop (R .ready)); rwa [World.size_alloc] at this
       generalize ((A3.alloc (.deferred (some []))).alloc (.loop (R .ready))) = W1 at *
       have hUA : ∀ k, U2 k → k < A2.heap.size := fun k hk => HS.out.lt _ _ _ _ HJ2.out hk
       have ny0 : ¬ U2 W.heap.size := fun e => by
         rcases HU2.out _ e with q | q
         · rcases HU'.out _ q with q | q
           · have := HUW.out _ q; omega
           · omega
         · simp at q; omega
       have hy3 : A3.heap[W.heap.size]? = some (.cells #[.func (.yield lp) #[] #[]] 74 (0, 0)) := (HB3.out.block _ (lt_blkR HY2.out)).trans HY2.out
       have hw0 : Below w0.heap.size w0 W1 := by
         have q1 : Below w0.heap.size w0 V := hW.trans (HBV.out.mono hW.size)
         have q2 := q1.trans (HO.out.below q1.size HU.out)
         have q3 := q2.trans (((below_1 wr (.cells #[.string nm, .int .u32 fid] 65))).mono q2.size)
         have q4 := q3.trans (HO2.out.below q3.size (fun k hk => by rcases HU'.out k hk with q | q; exact HU.out k q; have := q1.size; omega))
         have q5 := q4.trans (HB3.out.mono q4.size)
         exact q5.trans (hB1.mono q5.size)
       have hJ1 : InJ J (A3.heap.size + 1) A3.heap.size W.heap.size (.loop (R .ready)) (.cells #[.func (.yield lp) #[] #[]] 74 (0, 0)) (fun k => U2 k ∨ k = A3.heap.size + 1 ∨ k = A3.heap.size ∨ k = W.heap.size) (qs ++ [ow]) W1 :=
         ⟨U2, HS.out.later (HS.out.later HJ2.out HB3.out) hB1, hLl, hD1, (hB1.block _ (lt_blkR hy3)).trans hy3, fun e => by have := hUA _ e; omega, fun e => by have := hUA _ e; omega, ny0, rfl⟩
       refine (HX.out (A3.heap.size + 1) N (InJ J (A3.heap.size + 1) A3.heap.size W.heap.size (.loop (R .ready)) (.cells #[.func (.yield lp) #[] #[]] 74 (0, 0))) _ (qs ++ [ow]) W1 A2.heap.size (A2.heap.size + 1) (A2.heap.size + 2) ?sink hw0 hJ1 ?ge ((hB1.block _ (lt_blkR HX0.out)).trans HX0.out) ((hB1.block _ (lt_blkR HX1.out)).trans HX1.out) ((hB1.block _ (lt_blkR HX2.out)).trans (by rw [HOW.out]; exact HX2.out)) ?n0 ?n1 ?n2 ?len).mono ?fin
       case sink =>
         refine ⟨?_, ?_, ?_⟩
         · rintro _ pr A B ⟨U0, hj, h1, h2, h3, n1, n2, n3, rfl⟩ ho
           exact ⟨U0, HS.out.stab _ _ _ _ hj (ho.mono (fun k hk e => hk (.inl e))), ho.box (fun q => q (.inr (.inl rfl))) h1, ho.box (fun q => q (.inr (.inr (.inl rfl)))) h2, ho.box (fun q => q (.inr (.inr (.inr rfl)))) h3, n1, n2, n3, rfl⟩
         · rintro _ pr A k ⟨U0, hj, h1, h2, h3, n1, n2, n3, rfl⟩ (q | rfl | rfl | rfl)
           · exact HS.out.lt _ _ _ _ hj q
           · exact lt_blkR h1
           · exact lt_blkR h2
           · exact lt_blkR h3
         · rintro _ pr t A ⟨U0, hj, h1, h2, h3, n1, n2, n3, rfl⟩ hlen
           have h1' := h1
           rw [← hR] at h1'
           refine Rg.round_go h1' (by rfl) ?_
           gi_wp2
           refine ⟨h1', ?_⟩
           rw [hR]
           have ll := lt_blkR h1
           have hov := HO.out.size
           have ey : W.heap.size ≠ A3.heap.size + 1 := by omega
           have eyd : W.heap.size ≠ A3.heap.size := by omega
           clear h3e
           have ed : A3.heap.size ≠ A3.heap.size + 1 := by omega
           have hjb : J U0 pr (A.putObj (A3.heap.size + 1) (.loop (R .busy))) := HS.out.stab _ _ _ _ hj (Ou.put A _ n1)
           have k1 : (A.putObj (A3.heap.size + 1) (.loop (R .busy))).heap[A3.heap.size + 1]? = some (.loop (R .busy)) := World.putObj_heap_same ll
           have k2 := (World.putObj_heap_other (w := A) (o := .loop (R .busy)) ed).trans h2
           have k3 := (World.putObj_heap_other (w := A) (o := .loop (R .busy)) ey).trans h3
           have ks : (A.putObj (A3.heap.size + 1) (.loop (R .busy))).heap.size = A.heap.size := by simp
           have ko : Ou (fun k => k = A3.heap.size + 1) A (A.putObj (A3.heap.size + 1) (.loop (R .busy))) := Ou.put A _ rfl
           generalize A.putObj (A3.heap.size + 1) (.loop (R .busy)) = A1 at *
           obtain ⟨fn9, tm9, as9, bo9, hy9, hr9⟩ := HS.out.yield U0 pr t A1 hjb hlen
           have HR9 := hid hr9
           have cy : A1.cell? ⟨W.heap.size, 0, none⟩ = some (.func (.yield lp) #[] #[]) := cell_of_row2 k3 0 rfl
           clear hr9
           gi_wp2_with fail
           refine (round_any HR9.out).mono ?_
           rintro _ B ⟨rfl, U', hj', hU', ho'⟩
           gi_wp2
           have hbl := ho'.size
           have nu : ∀ k, k < A.heap.size → ¬ U0 k → ¬ U' k := fun k hk hn e => by
             rcases hU' k e with q | q
             · exact hn q
             · omega
           have m1 := nu _ ll n1
           have m2 := nu _ (lt_blkR h2) n2
           have m3 := nu _ (lt_blkR h3) n3
           have b1 := ho'.box n1 k1
           have b2 := ho'.box n2 k2
           have b3 := ho'.box n3 k3
           refine ⟨b1, _, ⟨U', HS.out.stab _ _ _ _ hj' (Ou.put B _ m1), World.putObj_heap_same (lt_blkR b1), (World.putObj_heap_other ed).trans b2, (World.putObj_heap_other ey).trans b3, m1, m2, m3, rfl⟩, ?_, ?_⟩
           · rintro k (q | q)
             · rcases hU' k q with q | q
               · exact .inl (.inl q)
               · exact .inr (by omega)
             · exact .inl (.inr q)
           · exact ((ko.mono (fun k hk => .inr (.inl hk))).trans (ho'.mono (fun k hk => .inl hk))).trans (Ou.put B _ (.inr (.inl rfl)))
       case ge =>
         have q0 := hW.size
         rintro k (q | rfl | rfl | rfl)
         · rcases HU2.out k q with q | q
           · rcases HU'.out k q with q | q
             · exact HU.out k q
             · omega
           · simp at q
             have := HO.out.size
             omega
         · have := HO.out.size; omega
         · have := HO.out.size; omega
         · exact q0
       case n0 => rintro (q | q | q | q); (have := hUA _ q; omega); all_goals (have := HO.out.size; omega)
       case n1 => rintro (q | q | q | q); (have := hUA _ q; omega); all_goals (have := HO.out.size; omega)
       case n2 => rintro (q | q | q | q); (have := hUA _ q; omega); all_goals (have := HO.out.size; omega)
       case len =>
         rw [List.length_append, List.length_singleton, HQS.out, List.length_append]
         have := LN.out
         omega
       case fin =>
         rintro e W' ⟨he, U5, ⟨U4, hJ4, hr4, hD4, hy4, nn1, nn2, nn3, rfl⟩, hU5, hO5⟩
         have hb := hB1.size
         have l4 := lt_blkR hy3
         refine ⟨he, hr4, hD4, U4, hJ4, fun k hk => ?_, ⟨hO5.os.trans hB1.os, hO5.tape.trans hB1.tape, hO5.output.trans hB1.output, Nat.le_trans hb hO5.size, fun k hk hn => ?_⟩⟩
         · rcases hU5 k (.inl hk) with (q | rfl | rfl | rfl) | q
           · exact .inl q
           · exact absurd hk nn1
           · exact absurd hk nn2
           · exact absurd hk nn3
           · exact .inr (by have := lt_blkR hLl; omega)
         · by_cases e : k = W.heap.size
           · rw [e, hy4, hy3]
           · exact (hO5.block k (by omega) (fun q => by rcases q with q | q | q | q; exact hn q; omega; omega; exact e q)).trans (hB1.block k hk)
     case done =>
       rintro W' o ⟨U4, hJ4, hU4, hO4⟩ hD4 hlt4
       have i3 : (i : Int) < 1000 := by omega
       have hov := HO.out.size
       have hz2 := HO2.out.size
       rw [World.size_alloc] at hz2
       have hUA : ∀ k, U2 k → k < A2.heap.size := fun k hk => HS.out.lt _ _ _ _ HJ2.out hk
       have hU2' : ∀ k, U2 k → U' k ∨ wr.heap.size + 1 ≤ k := fun k hk => by have := HU2.out k hk; rwa [World.size_alloc] at this
       have nl : ¬ U4 (A3.heap.size + 1) := fun e => by
         rcases hU4 _ e with q | q
         · have := hUA _ q; omega
         · omega
       have nD : ¬ U4 A3.heap.size := fun e => by
         rcases hU4 _ e with q | q
         · have := hUA _ q; omega
         · omega
       have hUV : ∀ k, U4 k → U k ∨ V.heap.size ≤ k := fun k hk => by
         rcases hU4 k hk with q | q
         · rcases hU2' k q with q | q
           · exact HU'.out k q
           · exact .inr (by omega)
         · exact .inr (by omega)
       have hJ5 : J U4 (pre ++ (ks.take (i + 1)).flatMap (fun x => ownB p x :: G x)) (W'.putObj (A3.heap.size + 1) o) := by
         rw [TK.out, HOW.out, ← List.append_assoc, ← HQS.out, List.append_cons]
         exact HS.out.stab _ _ _ _ hJ4 (Ou.put W' _ nl)
       have hO5 : Ou U V (W'.putObj (A3.heap.size + 1) o) := by
         have q1 : Ou U V (wr.alloc (.cells #[.string nm, .int .u32 fid] 65)) := HO.out.trans (Ou.al wr _)
         have q2 := q1.trans' HO2.out (fun k hk => HU'.out k hk)
         have q3 := q2.trans (Ou.of HB3.out)
         have q4 := q3.trans' hO4 (fun k hk => by
           rcases hU2' k hk with q | q
           · exact HU'.out k q
           · exact .inr (by omega))
         exact q4.trans' (Ou.put (S := fun k => k = A3.heap.size + 1) W' o rfl) (fun k hk => .inr (by omega))
       have hkeep : ∀ D ∈ Ds, (W'.putObj (A3.heap.size + 1) o).heap[D]? = wr.heap[D]? := fun D hD => by
         have d1 := mks_lt HM.out D hD
         have d2 := (HD.out D hD).2
         rw [World.putObj_heap_other (by omega), hO4.block D (by omega) (fun e => by rcases hU2' D e with q | q; exact d2 q; omega), HB3.out.block D (by omega), HO2.out.block D (by rw [World.size_alloc]; omega) d2]
         exact Below.heap_alloc _ _ _ d1
       have hM5 : Mks (W'.putObj (A3.heap.size + 1) o) ({ target := .collected A3.heap.size, args := #[] } :: ds) (A3.heap.size :: Ds) :=
         ⟨rfl, (World.putObj_heap_other (by omega)).trans hD4, fun e => by have := mks_lt HM.out _ e; omega, HM.out.keep hkeep⟩
       have hD5 : ∀ D ∈ A3.heap.size :: Ds, V.heap.size ≤ D ∧ ¬ U4 D := fun D hD => by
         rcases List.mem_cons.1 hD with e | e
         · rw [e]; exact ⟨by omega, nD⟩
         · have d1 := mks_lt HM.out D e
           have d2 := HD.out D e
           refine ⟨d2.1, fun q => ?_⟩
           rcases hU4 D q with q | q
           · rcases hU2' D q with q | q
             · exact d2.2 q
             · omega
           · omega
       have KJ := hid hJ5
       have KO := hid hO5
       have KM := hid hM5
       have KD := hid hD5
       have KU := hid hUV
       clear hJ5 hO5 hkeep hM5 hD5 hUV hJ4 hU4 hO4 hD4 h3e hz2 hov nl nD hU2' hUA
       generalize W'.putObj (A3.heap.size + 1) o = W5 at *
       gi_wp2
       refine ⟨⟨i + 1, U4, { target := .collected A3.heap.size, args := #[] } :: ds, A3.heap.size :: Ds, ?_⟩, ?_⟩
       · repeat apply Exists.intro
         exact ⟨⟨hin, KJ, KU, KO, KM, KD⟩, rfl⟩
       · simp [intOf]
         omega
   · have hie : i = ks.length := by omega
     have HIE := hid hie
     clear hie
     gi_wp2
     refine leave_marks HM.out (fun w' hw' => ?_)
     refine ⟨.tuple #[], by simp [results, Tryz.results32, go_sem], ⟨_, rfl⟩, U', ?_, ?_, ?_⟩
     · have := HJ.out
       rw [HIE.out, List.take_length] at this
       exact HS.out.stab _ _ _ _ this (hw'.mono (fun k hk => (HD.out k hk).2))
     · intro k hk
       rcases HU'.out k hk with q | q
       · exact .inl q
       · exact .inr (by omega)
     · have q1 := (Ou.of HBV.out (S := U)).trans HO.out
       exact q1.trans' hw' (fun k hk => .inr (by have := (HD.out k hk).1; omega))
end Go.Proofs.YtkokjkaclcjnjaaGreatDoor
