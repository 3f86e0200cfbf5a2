/-
  The document's Node.
-/
import Derived.Test.YtbgninmkglgfeaaRN2
namespace Go.Proofs.Ytbgninmkglgfeaa
open Go.RowKit Go.ChangeShapes Go.WideShapes Go.ChangeAt
set_option linter.unusedVariables false
set_option linter.unusedSimpArgs false
set_option maxRecDepth 100000
theorem OwB.grown {w w' : World} {b : Nat} {u v : Value} {ys : List Int} (h : OwB w b u ys) (hg : w.grownBy w' v.ownBlock) (hv : ∀ k, v.ownBlock = some k → k < b) : OwB w' b u ys := by
  rcases h.2 with ⟨h1, h2⟩ | ⟨g, cap, cur, h1, h2, h3, h4⟩
  · exact ⟨h.1, .inl ⟨h1, h2⟩⟩
  · exact ⟨h.1, .inr ⟨g, cap, cur, h1, h2, (hg.block g (lt_blkR h3) (fun e => by have := hv g e.symm; omega)).trans h3, h4⟩⟩
theorem OwB.lt {w : World} {b : Nat} {v : Value} {zs : List Int} (h : OwB w b v zs) : ∀ k, v.ownBlock = some k → k < w.heap.size := fun k e => (World.ownsRow.lt h k e).2
def RnP (x : Nd) (w : World) (e : Ending) (w' : World) : Prop :=
  (if nodeOk x then ∃ v, e = .returned (.tuple #[v, .int .i64 0]) ∧ OwB w' w.heap.size v (nodeB x) else e = .returned (.tuple #[.slice none 0 0, .int .i64 3])) ∧ Below w.heap.size w w'
set_option maxHeartbeats 8000000 in
theorem rnode_c (x : Nd) (w : World) (h : x.Ok w) :
    Calls Try.prog 40 #[x.val] w fun e w' => RnP x w e w' := by
  have hX : (w.alloc (.cells x.cells.toArray 39)).heap[w.heap.size]? = some (.cells x.cells.toArray 39 (0, 0)) := heap_alloc_new w _
  have hBV : Below w.heap.size w (w.alloc (.cells x.cells.toArray 39)) := below_1 _ _
  have hzV : (w.alloc (.cells x.cells.toArray 39)).heap.size = w.heap.size + 1 := by simp
  have hOk := h.later hBV
  have AC := hid (alone_c x (w.alloc (.cells x.cells.toArray 39)) hOk)
  have BV := hid hBV
  have LT : Hid (∀ W, Below (w.heap.size + 1) (w.alloc (.cells x.cells.toArray 39)) W → x.Ok W) := hid (fun W hb => h.later (hBV.trans (hb.mono (Nat.le_succ _))))
  have KS : Hid (∀ W, Below (w.heap.size + 1) (w.alloc (.cells x.cells.toArray 39)) W → W.cell? ⟨w.heap.size, 0, none⟩ = some (.int .u32 x.fid) ∧ W.cell? ⟨w.heap.size, 1, none⟩ = some (.int .u8 x.k) ∧ W.cell? ⟨w.heap.size, 2, none⟩ = some (.int .u16 x.md) ∧ W.cell? ⟨w.heap.size, 3, none⟩ = some (.int .u16 x.ln) ∧ W.cell? ⟨w.heap.size, 4, none⟩ = some (.slice x.da x.zs.length x.dc) ∧ W.cell? ⟨w.heap.size, 5, none⟩ = some (.slice x.ka x.ks.length x.kc) ∧ (convert 22 9 (.slice x.da x.zs.length x.dc)).run Try.prog W = .ok (.string (Fr.tx x.zs)) W) := hid (fun W hb => by
    obtain ⟨a0, a1, a2, a3, a4, a5⟩ := nd_cells ((hb.block w.heap.size (by omega)).trans hX)
    exact ⟨a0, a1, a2, a3, a4, a5, conv_anyN (LT.out W hb).2.2.2.2.1⟩)
  cases hr : nodeOk x with
  | false =>
    rw [hr] at AC
    obtain ⟨y0, y1, y2, y3, y4, y5⟩ := nd_cells hX
    have HF := hid hr
    unfold Nd.val at AC ⊢
    clear hX hBV hOk h hzV LT KS hr
    go_enter Try.func40, Try.ntmps40
    go_wp2_with (go_at_call 33; refine AC.out.mono ?_; rintro _ w1 ⟨rfl, hb1⟩)
    go_ret2
    exact ⟨by rw [if_neg (by rw [HF.out]; simp)]; rfl, BV.out.trans (hb1.mono BV.out.size)⟩
  | true =>
    rw [hr] at AC
    obtain ⟨s1, s2, s3⟩ := node_small hr
    have HR := hid hr
    obtain ⟨⟨f0, f1⟩, ⟨k0, k1⟩, ⟨m0, m1⟩, ⟨n0, n1⟩, _⟩ := h
    have P1 : Hid (∀ W, Calls Try.prog 41 #[.int .u64 x.fid, .int .i64 4] W fun e w' => ∃ v, e = .returned v ∧ OwB w' W.heap.size v (beF x.fid 4) ∧ Below W.heap.size W w') := hid (fun W => rput_c x.fid 4 W (by omega) (by omega) (by omega))
    have P2 : Hid (∀ W, Calls Try.prog 41 #[.int .u64 x.md, .int .i64 2] W fun e w' => ∃ v, e = .returned v ∧ OwB w' W.heap.size v (beF x.md 2) ∧ Below W.heap.size W w') := hid (fun W => rput_c x.md 2 W (by omega) (by omega) (by omega))
    have P3 : Hid (∀ W, Calls Try.prog 41 #[.int .u64 x.ln, .int .i64 2] W fun e w' => ∃ v, e = .returned v ∧ OwB w' W.heap.size v (beF x.ln 2) ∧ Below W.heap.size W w') := hid (fun W => rput_c x.ln 2 W (by omega) (by omega) (by omega))
    have TC := hid (fun W => rtext_c (Fr.tx x.zs) W (by rw [tx_size]; omega))
    have wu1 : IntKind.u64.wrap x.fid = x.fid := by rw [IntKind.wrap_u64]; omega
    have wu2 : IntKind.u64.wrap x.md = x.md := by rw [IntKind.wrap_u64]; omega
    have wu3 : IntKind.u64.wrap x.ln = x.ln := by rw [IntKind.wrap_u64]; omega
    have w8 : IntKind.u8.wrap (x.ks.length : Int) = x.ks.length := by rw [IntKind.wrap_u8]; omega
    have EK : Hid (beF x.k 1 = [x.k]) := hid (by unfold beF beF; simp; omega)
    have EN : Hid (beF (x.ks.length : Int) 1 = [(x.ks.length : Int)]) := hid (by unfold beF beF; simp; omega)
    have l1 : (beF x.fid 4).length = 4 := beF_len _ _
    have l2 : (beF x.md 2).length = 2 := beF_len _ _
    have l3 : (beF x.ln 2).length = 2 := beF_len _ _
    have l4 : (txF (Fr.tx x.zs)).length ≤ 100 := by rw [txF_len, tx_size]; omega
    have ENB : Hid (nodeB x = ((((beF x.fid 4 ++ [x.k]) ++ beF x.md 2 ++ beF x.ln 2) ++ txF (Fr.tx x.zs) ++ [(x.ks.length : Int)]) ++ kidsB x.ks)) := hid (by unfold nodeB; rw [EK.out, EN.out]; simp only [List.append_assoc])
    have HSM := hid s3
    unfold Nd.val at AC ⊢
    clear f0 f1 k0 k1 m0 m1 n0 n1 hX hBV hOk hr s3
    generalize beF x.fid 4 = z1 at *
    generalize beF x.md 2 = z2 at *
    generalize beF x.ln 2 = z3 at *
    generalize txF (Fr.tx x.zs) = z4 at *
    go_enter Try.func40, Try.ntmps40
    go_upto_region 1 with fail
    change Code.wp _ _ _ _ (w.alloc (.cells x.cells.toArray 39))
    generalize w.alloc (.cells x.cells.toArray 39) = V at *
    have ZV := hid (Nat.le_of_eq hzV.symm)
    clear hzV
    obtain ⟨y0, y1, y2, y3, y4, y5, _⟩ := KS.out V (Below.refl _ _)
    go_upto_region 3 with (go_at_call 33; refine AC.out.mono ?_; rintro _ w1 ⟨rfl, hb1⟩; (have HB := hid (hb1.mono ZV.out)); clear hb1)
    clear y0 y1 y2 y3 y4 y5 AC
    obtain ⟨y0, y1, y2, y3, y4, y5, _⟩ := KS.out w1 HB.out
    have DV : Hid (Below (w.heap.size + 1) V w1.drew) := hid HB.out.drew
    have W1 : Hid (w.heap.size + 1 ≤ w1.heap.size) := hid (Nat.le_trans ZV.out HB.out.size)
    have ZD : Hid (w.heap.size + 1 ≤ w1.drew.heap.size) := hid W1.out
    have ZA : Hid (w.heap.size + 1 ≤ (w1.alloc (.cells #[.int .u8 (x.k : Int)] 5)).drew.heap.size) := hid (Nat.le_trans W1.out (alloc_leR w1 _))
    have DA : Hid (Below (w.heap.size + 1) V (w1.alloc (.cells #[.int .u8 (x.k : Int)] 5)).drew) := hid ((HB.out.alloc W1.out _).drew)
    have NV : Hid (OwB (w1.alloc (.cells #[.int .u8 (x.k : Int)] 5)).drew 0 (.slice (some ⟨w1.heap.size, 0, none⟩) 1 1) [x.k]) := hid ((OwB.new w1 x.k).base (Nat.zero_le _))
    go_cut [4] from 9 to 16 (fun s4 wx => Hid (OwB wx (w.heap.size + 1) s4 (z1 ++ [x.k])) ∧ Hid (Below (w.heap.size + 1) V wx))
    case first =>
      go_region_held3 (fun w' => w'.cell? ⟨w.heap.size, 0, none⟩ = some (.int .u32 x.fid) ∧ w'.cell? ⟨w.heap.size, 1, none⟩ = some (.int .u8 x.k) ∧ w'.cell? ⟨w.heap.size, 2, none⟩ = some (.int .u16 x.md) ∧ w'.cell? ⟨w.heap.size, 3, none⟩ = some (.int .u16 x.ln) ∧ w'.cell? ⟨w.heap.size, 4, none⟩ = some (.slice x.da x.zs.length x.dc) ∧ w'.cell? ⟨w.heap.size, 5, none⟩ = some (.slice x.ka x.ks.length x.kc) ∧ (convert 22 9 (.slice x.da x.zs.length x.dc)).run Try.prog w' = .ok (.string (Fr.tx x.zs)) w') (first | (with_reducible exact KS.out _ B9.out) | (with_reducible exact KS.out _ B2.out) | (with_reducible exact KS.out _ DV.out) | (with_reducible exact KS.out _ DA.out) | (with_reducible exact KS.out _ BB.out) | go_keep)
        (first
          | (have _q := TA.out; clear _q; refine step_appB9 _ (by rfl) _ _ (by rfl) (w.heap.size + 1) _ z1 (by rfl) OA.out _ [x.k] (by rfl) R2.out (by omega) (by simp) ZW.out ?_; intro v9 w9 ho9 hg9; have O9 := hid ho9; have B9 := hid (grown_bel B2.out OA.out (Nat.le_refl _) ZW.out hg9); obtain ⟨a9, n9, c9, rfl⟩ := ho9.any; clear ho9 hg9)
          | (have _q := TB.out; clear _q; refine step_appB9 _ (by rfl) _ _ (by rfl) (w.heap.size + 1) _ z1 (by rfl) (OA.out.later ((Below.refl _ _).alloc (Nat.le_refl _) _)) _ [x.k] (by rfl) ((OwB.new w2 x.k).base (Nat.zero_le _)) (by omega) (by simp) (Nat.le_trans ZW.out (alloc_leR _ _)) ?_; intro v9 w9 ho9 hg9; have O9 := hid ho9; have B9 := hid (grown_bel BB.out (OA.out.later ((Below.refl _ _).alloc (Nat.le_refl _) _)) (Nat.le_refl _) (Nat.le_trans ZW.out (alloc_leR _ _)) hg9); obtain ⟨a9, n9, c9, rfl⟩ := ho9.any; clear ho9 hg9)
          | (go_at_call 41; with_reducible refine (P1.out w1.drew).mono ?_; rintro _ w2 ⟨v2, rfl, ho2, hb2⟩; have OA := hid (ho2.base ZD.out); have B2 := hid (DV.out.trans (hb2.mono ZD.out)); have ZW := hid (Nat.le_trans ZD.out hb2.size); have BB := hid (B2.out.alloc ZW.out (.cells #[.int .u8 (x.k : Int)] 5)); have TB := hid ho2; clear ho2 hb2)
          | (go_at_call 41; with_reducible refine (P1.out _).mono ?_; rintro _ w2 ⟨v2, rfl, ho2, hb2⟩; have OA := hid (ho2.base ZA.out); have R2 := hid (NV.out.later hb2); have B2 := hid (DA.out.trans (hb2.mono ZA.out)); have ZW := hid (Nat.le_trans ZA.out hb2.size); have TA := hid ho2; clear ho2 hb2))
      all_goals (
        go_wp2_with fail
        go_meet
        exact ⟨O9, B9⟩)
    clear y0 y1 y2 y3 y4 y5 DV DA NV ZD ZA W1 HB
    obtain ⟨H3, HB⟩ := hcut
    obtain ⟨va, vn, vc, rfl⟩ := H3.out.any
    obtain ⟨y0, y1, y2, y3, y4, y5, _⟩ := KS.out wc HB.out
    have W0 : Hid (w.heap.size + 1 ≤ wc.drew.heap.size) := hid (Nat.le_trans ZV.out HB.out.size)
    have HD : Hid (Below (w.heap.size + 1) V wc.drew) := hid HB.out.drew
    have O0 : Hid (OwB wc.drew (w.heap.size + 1) (.slice va vn vc) (z1 ++ [x.k])) := hid H3.out
    have LZ : (z1 ++ [x.k]).length ≤ 5000 := by simp; omega
    go_upto_region 4 with fail
    go_cut [4] from 17 to 27 (fun s4 wx => Hid (OwB wx (w.heap.size + 1) s4 ((z1 ++ [x.k]) ++ z2 ++ z3)) ∧ Hid (Below (w.heap.size + 1) V wx))
    case first =>
      go_region_held3 (fun w' => w'.cell? ⟨w.heap.size, 0, none⟩ = some (.int .u32 x.fid) ∧ w'.cell? ⟨w.heap.size, 1, none⟩ = some (.int .u8 x.k) ∧ w'.cell? ⟨w.heap.size, 2, none⟩ = some (.int .u16 x.md) ∧ w'.cell? ⟨w.heap.size, 3, none⟩ = some (.int .u16 x.ln) ∧ w'.cell? ⟨w.heap.size, 4, none⟩ = some (.slice x.da x.zs.length x.dc) ∧ w'.cell? ⟨w.heap.size, 5, none⟩ = some (.slice x.ka x.ks.length x.kc) ∧ (convert 22 9 (.slice x.da x.zs.length x.dc)).run Try.prog w' = .ok (.string (Fr.tx x.zs)) w') (first | (with_reducible exact KS.out _ B7.out) | (with_reducible exact KS.out _ B6.out) | (with_reducible exact KS.out _ B5.out) | (with_reducible exact KS.out _ B4.out) | (with_reducible exact KS.out _ HD.out) | go_keep)
        (first
          | (have _q := U6.out; clear _q; refine step_appB9 _ (by rfl) _ _ (by rfl) (w.heap.size + 1) _ _ (by rfl) O6.out _ z3 (by rfl) R6.out (by rw [List.length_append]; omega) (by omega) Z6.out ?_; intro v7 w7 ho7 hg7; have O7 := hid ho7; have B7 := hid (grown_bel B6.out O6.out (Nat.le_refl _) Z6.out hg7); obtain ⟨a7, n7, c7, rfl⟩ := ho7.any; clear ho7 hg7)
          | (have _q := U5.out; clear _q; go_at_call 41; with_reducible refine (P3.out w5).mono ?_; rintro _ w6 ⟨v6, rfl, ho6, hb6⟩; have R6 := hid (ho6.base (Nat.zero_le _)); have O6 := hid (O5.out.later hb6); have B6 := hid (B5.out.trans (hb6.mono Z5.out)); have Z6 := hid (Nat.le_trans Z5.out hb6.size); have U6 := hid ho6; clear ho6 hb6)
          | (have _q := U4.out; clear _q; refine step_appB9 _ (by rfl) _ _ (by rfl) (w.heap.size + 1) _ _ (by rfl) O4.out _ z2 (by rfl) R4.out (by omega) (by omega) Z4.out ?_; intro v5 w5 ho5 hg5; have O5 := hid ho5; have B5 := hid (grown_bel B4.out O4.out (Nat.le_refl _) Z4.out hg5); have Z5 := hid (Nat.le_trans Z4.out hg5.size); have U5 := hid ho5; obtain ⟨a5, n5, c5, rfl⟩ := ho5.any; clear ho5 hg5)
          | (go_at_call 41; with_reducible refine (P2.out wc.drew).mono ?_; rintro _ w4 ⟨v4, rfl, ho4, hb4⟩; have R4 := hid (ho4.base (Nat.zero_le _)); have O4 := hid (O0.out.later hb4); have B4 := hid (HD.out.trans (hb4.mono W0.out)); have Z4 := hid (Nat.le_trans W0.out hb4.size); have U4 := hid ho4; clear ho4 hb4))
      all_goals (
        go_wp2_with fail
        go_meet
        exact ⟨O7, B7⟩)
    clear y0 y1 y2 y3 y4 y5 W0 HD O0 LZ H3 HB
    obtain ⟨H3, HB⟩ := hcut
    obtain ⟨va, vn, vc, rfl⟩ := H3.out.any
    obtain ⟨y0, y1, y2, y3, y4, y5, y6⟩ := KS.out wc HB.out
    have W1 : Hid (w.heap.size + 1 ≤ wc.heap.size) := hid (Nat.le_trans ZV.out HB.out.size)
    have W0 : Hid (w.heap.size + 1 ≤ wc.drew.heap.size) := hid W1.out
    have HD : Hid (Below (w.heap.size + 1) V wc.drew) := hid HB.out.drew
    have O0 : Hid (OwB wc.drew (w.heap.size + 1) (.slice va vn vc) (z1 ++ [x.k] ++ z2 ++ z3)) := hid H3.out
    have ZA : Hid (w.heap.size + 1 ≤ (wc.alloc (.cells #[.int .u8 (x.ks.length : Int)] 5)).drew.heap.size) := hid (Nat.le_trans W1.out (alloc_leR wc _))
    have DA : Hid (Below (w.heap.size + 1) V (wc.alloc (.cells #[.int .u8 (x.ks.length : Int)] 5)).drew) := hid ((HB.out.alloc W1.out _).drew)
    have NV : Hid (OwB (wc.alloc (.cells #[.int .u8 (x.ks.length : Int)] 5)).drew wc.heap.size (.slice (some ⟨wc.heap.size, 0, none⟩) 1 1) [(x.ks.length : Int)]) := hid (OwB.new wc x.ks.length)
    have OA0 : Hid (OwB (wc.alloc (.cells #[.int .u8 (x.ks.length : Int)] 5)).drew (w.heap.size + 1) (.slice va vn vc) (z1 ++ [x.k] ++ z2 ++ z3)) := hid (H3.out.later ((Below.refl _ wc).alloc (Nat.le_refl _) _).drew)
    have LTc := hid H3.out.lt
    have LZ : (z1 ++ [x.k] ++ z2 ++ z3).length ≤ 5000 := by simp; omega
    go_upto_region 5 with fail
    go_cut [4] from 28 to 39 (fun s4 wx => Hid (OwB wx (w.heap.size + 1) s4 ((z1 ++ [x.k] ++ z2 ++ z3) ++ z4 ++ [(x.ks.length : Int)])) ∧ Hid (Below (w.heap.size + 1) V wx))
    case first =>
      go_region_held3 (fun w' => w'.cell? ⟨w.heap.size, 0, none⟩ = some (.int .u32 x.fid) ∧ w'.cell? ⟨w.heap.size, 1, none⟩ = some (.int .u8 x.k) ∧ w'.cell? ⟨w.heap.size, 2, none⟩ = some (.int .u16 x.md) ∧ w'.cell? ⟨w.heap.size, 3, none⟩ = some (.int .u16 x.ln) ∧ w'.cell? ⟨w.heap.size, 4, none⟩ = some (.slice x.da x.zs.length x.dc) ∧ w'.cell? ⟨w.heap.size, 5, none⟩ = some (.slice x.ka x.ks.length x.kc) ∧ (convert 22 9 (.slice x.da x.zs.length x.dc)).run Try.prog w' = .ok (.string (Fr.tx x.zs)) w') (first | (with_reducible exact KS.out _ B9.out) | (with_reducible exact KS.out _ BC.out) | (with_reducible exact KS.out _ B5.out) | (with_reducible exact KS.out _ BB.out) | (with_reducible exact KS.out _ B4.out) | (with_reducible exact KS.out _ DA.out) | (with_reducible exact KS.out _ HD.out) | go_keep)
        (first
          | (have _q := V5.out; clear _q; refine step_appB9 _ (by rfl) _ _ (by rfl) (w.heap.size + 1) _ _ (by rfl) O5.out _ [(x.ks.length : Int)] (by rfl) S5.out (by rw [List.length_append]; omega) (by simp) Z5.out ?_; intro v9 w9 ho9 hg9; have O9 := hid ho9; have B9 := hid (grown_bel B5.out O5.out (Nat.le_refl _) Z5.out hg9); obtain ⟨a9, n9, c9, rfl⟩ := ho9.any; clear ho9 hg9)
          | (have _q := C5.out; clear _q; refine step_appB9 _ (by rfl) _ _ (by rfl) (w.heap.size + 1) _ _ (by rfl) (O5.out.later ((Below.refl _ _).alloc (Nat.le_refl _) _)) _ [(x.ks.length : Int)] (by rfl) ((OwB.new w5 x.ks.length).base (Nat.zero_le _)) (by rw [List.length_append]; omega) (by simp) (Nat.le_trans Z5.out (alloc_leR _ _)) ?_; intro v9 w9 ho9 hg9; have O9 := hid ho9; have B9 := hid (grown_bel BC.out (O5.out.later ((Below.refl _ _).alloc (Nat.le_refl _) _)) (Nat.le_refl _) (Nat.le_trans Z5.out (alloc_leR _ _)) hg9); obtain ⟨a9, n9, c9, rfl⟩ := ho9.any; clear ho9 hg9)
          | (have _q := UA.out; clear _q; refine step_appB9 _ (by rfl) _ _ (by rfl) (w.heap.size + 1) _ _ (by rfl) O4.out _ z4 (by rfl) R4.out (by omega) (by omega) Z4.out ?_; intro v5 w5 ho5 hg5; have O5 := hid ho5; have B5 := hid (grown_bel B4.out O4.out (Nat.le_refl _) Z4.out hg5); have Z5 := hid (Nat.le_trans Z4.out hg5.size); have S5 := hid ((S4.out.grown hg5 LTc.out).base (Nat.zero_le _)); have V5 := hid ho5; obtain ⟨a5, n5, c5, rfl⟩ := ho5.any; clear ho5 hg5)
          | (have _q := UB.out; clear _q; refine step_appB9 w4 (by rfl) _ _ (by rfl) (w.heap.size + 1) _ _ (by rfl) O4.out _ z4 (by rfl) R4.out (by omega) (by omega) Z4.out ?_; intro v5 w5 ho5 hg5; have O5 := hid ho5; have B5 := hid (grown_bel B4.out O4.out (Nat.le_refl _) Z4.out hg5); have Z5 := hid (Nat.le_trans Z4.out hg5.size); have BC := hid (B5.out.alloc Z5.out (.cells #[.int .u8 (x.ks.length : Int)] 5)); have C5 := hid ho5; obtain ⟨a5, n5, c5, rfl⟩ := ho5.any; clear ho5 hg5 UB)
          | (have _q := UB.out; clear _q; refine step_appB9 (w4.alloc (.cells #[.int .u8 (x.ks.length : Int)] 5)) (by rfl) _ _ (by rfl) (w.heap.size + 1) _ _ (by rfl) (O4.out.later ((Below.refl _ _).alloc (Nat.le_refl _) _)) _ z4 (by rfl) (R4.out.later ((Below.refl _ _).alloc (Nat.le_refl _) _)) (by omega) (by omega) (Nat.le_trans Z4.out (alloc_leR _ _)) ?_; intro v5 w5 ho5 hg5; have O5 := hid ho5; have B5 := hid (grown_bel BB.out (O4.out.later ((Below.refl _ _).alloc (Nat.le_refl _) _)) (Nat.le_refl _) (Nat.le_trans Z4.out (alloc_leR _ _)) hg5); have Z5 := hid (Nat.le_trans (Nat.le_trans Z4.out (alloc_leR _ _)) hg5.size); have S5 := hid (((OwB.new w4 x.ks.length).grown hg5 O4.out.lt).base (Nat.zero_le _)); have V5 := hid ho5; obtain ⟨a5, n5, c5, rfl⟩ := ho5.any; clear ho5 hg5 UB)
          | (go_at_call 82; with_reducible refine (TC.out wc.drew).mono ?_; rintro _ w4 ⟨v4, rfl, ho4, hb4⟩; have R4 := hid (ho4.base (Nat.zero_le _)); have O4 := hid (O0.out.later hb4); have B4 := hid (HD.out.trans (hb4.mono W0.out)); have Z4 := hid (Nat.le_trans W0.out hb4.size); have BB := hid (B4.out.alloc Z4.out (.cells #[.int .u8 (x.ks.length : Int)] 5)); have UB := hid ho4; clear ho4 hb4)
          | (go_at_call 82; with_reducible refine (TC.out _).mono ?_; rintro _ w4 ⟨v4, rfl, ho4, hb4⟩; have R4 := hid (ho4.base (Nat.zero_le _)); have O4 := hid (OA0.out.later hb4); have B4 := hid (DA.out.trans (hb4.mono ZA.out)); have Z4 := hid (Nat.le_trans ZA.out hb4.size); have S4 := hid (NV.out.later hb4); have UA := hid ho4; clear ho4 hb4))
      all_goals (
        go_wp2_with fail
        go_meet
        exact ⟨O9, B9⟩)
    clear y0 y1 y2 y3 y4 y5 y6 W0 W1 HD O0 ZA DA NV OA0 LTc LZ H3 HB
    obtain ⟨H3, HB⟩ := hcut
    obtain ⟨va, vn, vc, rfl⟩ := H3.out.any
    obtain ⟨zz, hzz⟩ : ∃ zz, zz = (z1 ++ [x.k] ++ z2 ++ z3) ++ z4 ++ [(x.ks.length : Int)] := ⟨_, rfl⟩
    have lzz : zz.length ≤ 5000 := by rw [hzz]; simp; omega
    rw [← hzz] at H3 ENB
    clear hzz
    go_wp2
    go_loopg [4, 5] x.ks.length (fun gk v i wr => ∃ m : Nat, m + gk = x.ks.length ∧ i = .int .i64 m ∧ Hid (OwB wr (w.heap.size + 1) v (zz ++ kidsB (x.ks.take m))) ∧ Hid (Below (w.heap.size + 1) V wr))
    case atStart => exact ⟨0, by omega, rfl, hid (by simpa [kidsB] using H3.out), HB⟩
    case round =>
      clear H3 HB
      obtain ⟨m, hm2, rfl, HO, HB⟩ := hrel
      obtain ⟨va, vn, vc, rfl⟩ := HO.out.any
      by_cases hlt : m < x.ks.length
      · have hltI : (m : Int) < x.ks.length := by omega
        have h0I : (0 : Int) ≤ m := by omega
        have hOk := LT.out wr HB.out
        obtain ⟨b, off, ea, _⟩ := hOk.2.2.2.2.2.2.2 (by omega)
        have HT := hid (take_kid (l := x.ks) (m := m) hlt)
        have hwf := hOk.2.2.2.2.2.wf (i := m) hlt
        have hsz := HSM.out (x.ks.getD m Kd.no) (by rw [List.getD, List.getElem?_eq_getElem hlt]; exact List.getElem_mem _)
        have hkl := kidsB_le (smallK_take HSM.out m)
        rw [List.length_take] at hkl
        have KK : Hid (∀ W, Below (w.heap.size + 1) V W → W.cell? ⟨w.heap.size, 5, none⟩ = some (.slice (some ⟨b, off, none⟩) x.ks.length x.kc) ∧ W.cell? ⟨b, off + m * 2, none⟩ = some (.string (x.ks.getD m Kd.no).nm) ∧ W.cell? ⟨b, off + m * 2 + 1, none⟩ = some (.int .u32 (x.ks.getD m Kd.no).fid)) := hid (fun W hW => by
          obtain ⟨_, _, _, _, _, a5, _⟩ := KS.out W hW
          have o := LT.out W hW
          have o5 := o.2.2.2.2.2
          rw [ea] at a5 o5
          exact ⟨a5, (o5.at hlt).1, (o5.at hlt).2⟩)
        have EB : Hid (kidsB (x.ks.take (m + 1)) = kidsB (x.ks.take m) ++ txF (x.ks.getD m Kd.no).nm ++ beF (x.ks.getD m Kd.no).fid 4) := hid (by rw [HT.out, kidsB_snoc, List.append_assoc]; rfl)
        clear ea hOk HT
        generalize x.ks.getD m Kd.no = y at *
        have TK := hid (fun W => rtext_c y.nm W (by omega))
        have PK : Hid (∀ W, Calls Try.prog 41 #[.int .u64 y.fid, .int .i64 4] W fun e w' => ∃ v, e = .returned v ∧ OwB w' W.heap.size v (beF y.fid 4) ∧ Below W.heap.size W w') := hid (fun W => rput_c y.fid 4 W (by omega) hwf.2.1 (by have := hwf.2.2; omega))
        have wuk : IntKind.u64.wrap y.fid = y.fid := by rw [IntKind.wrap_u64]; have := hwf.2; omega
        have lk1 : (txF y.nm).length ≤ 300 := by rw [txF_len]; omega
        have lk2 : (beF y.fid 4).length = 4 := beF_len _ _
        obtain ⟨zk, hzk⟩ : ∃ zk, zk = zz ++ kidsB (x.ks.take m) := ⟨_, rfl⟩
        have lzk : zk.length ≤ 10000 := by rw [hzk, List.length_append]; omega
        rw [← hzk] at HO
        have HZK := hid hzk
        clear hzk hkl hsz hwf
        obtain ⟨y5, c0, c1⟩ := KK.out wr HB.out
        have W0 : Hid (w.heap.size + 1 ≤ wr.drew.heap.size) := hid (Nat.le_trans ZV.out HB.out.size)
        have HD : Hid (Below (w.heap.size + 1) V wr.drew) := hid HB.out.drew
        have O0 : Hid (OwB wr.drew (w.heap.size + 1) (.slice va vn vc) zk) := hid HO.out
        go_upto_region 9 with fail
        go_region_held3 (fun w' => w'.cell? ⟨w.heap.size, 5, none⟩ = some (.slice (some ⟨b, off, none⟩) x.ks.length x.kc) ∧ w'.cell? ⟨b, off + m * 2, none⟩ = some (.string y.nm) ∧ w'.cell? ⟨b, off + m * 2 + 1, none⟩ = some (.int .u32 y.fid)) (first | (with_reducible exact KK.out _ B7.out) | (with_reducible exact KK.out _ B6.out) | (with_reducible exact KK.out _ B5.out) | (with_reducible exact KK.out _ B4.out) | (with_reducible exact KK.out _ HD.out) | go_keep)
          (first
            | (have _q := U6.out; clear _q; refine step_appB9 _ (by rfl) _ _ (by rfl) (w.heap.size + 1) _ _ (by rfl) O6.out _ (beF y.fid 4) (by rfl) R6.out (by rw [List.length_append]; omega) (by omega) Z6.out ?_; intro v7 w7 ho7 hg7; have O7 := hid ho7; have B7 := hid (grown_bel B6.out O6.out (Nat.le_refl _) Z6.out hg7); obtain ⟨a7, n7, c7, rfl⟩ := ho7.any; clear ho7 hg7)
            | (have _q := U5.out; clear _q; go_at_call 41; with_reducible refine (PK.out w5).mono ?_; rintro _ w6 ⟨v6, rfl, ho6, hb6⟩; have R6 := hid (ho6.base (Nat.zero_le _)); have O6 := hid (O5.out.later hb6); have B6 := hid (B5.out.trans (hb6.mono Z5.out)); have Z6 := hid (Nat.le_trans Z5.out hb6.size); have U6 := hid ho6; clear ho6 hb6)
            | (have _q := U4.out; clear _q; refine step_appB9 _ (by rfl) _ _ (by rfl) (w.heap.size + 1) _ _ (by rfl) O4.out _ (txF y.nm) (by rfl) R4.out (by omega) (by omega) Z4.out ?_; intro v5 w5 ho5 hg5; have O5 := hid ho5; have B5 := hid (grown_bel B4.out O4.out (Nat.le_refl _) Z4.out hg5); have Z5 := hid (Nat.le_trans Z4.out hg5.size); have U5 := hid ho5; obtain ⟨a5, n5, c5, rfl⟩ := ho5.any; clear ho5 hg5)
            | (go_at_call 82; with_reducible refine (TK.out wr.drew).mono ?_; rintro _ w4 ⟨v4, rfl, ho4, hb4⟩; have R4 := hid (ho4.base (Nat.zero_le _)); have O4 := hid (O0.out.later hb4); have B4 := hid (HD.out.trans (hb4.mono W0.out)); have Z4 := hid (Nat.le_trans W0.out hb4.size); have U4 := hid ho4; clear ho4 hb4))
        all_goals (
          go_wp2_with fail
          go_roundg (gk - 1)
          case measure => omega
          case rel => exact ⟨m + 1, by omega, by go_num, hid (by rw [EB.out, ← List.append_assoc, ← List.append_assoc, ← HZK.out]; exact O7.out), B7⟩)
      · have em : m = x.ks.length := by omega
        have hge : ¬ (m : Int) < x.ks.length := by omega
        have ET : Hid (x.ks.take m = x.ks) := hid (List.take_of_length_le (by omega))
        obtain ⟨_, _, _, _, _, y5, _⟩ := KS.out wr HB.out
        go_wp2
        go_ret2
        exact ⟨by rw [if_pos HR.out]; exact ⟨_, rfl, by have := HO.out; rw [ET.out, ← ENB.out] at this; exact this.base (Nat.le_succ _)⟩, BV.out.trans (HB.out.mono (Nat.le_succ _))⟩
end Go.Proofs.Ytbgninmkglgfeaa
