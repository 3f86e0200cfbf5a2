/-
  Get of the program's tree.
  What is stored last is what is there; nothing else changes by it. A pair of texts that comes in.
-/
import Derived.Test.YtloojakcknnilaaGreatSmBm
import Derived.Test.YtloojakcknnilaaGreatSmBn
namespace Go.Proofs.YtloojakcknnilaaGreat
open Go.RowKit Go.ChangeShapes Go.WideShapes Go.ChangeAt
set_option linter.unusedVariables false
set_option linter.unusedSimpArgs false
set_option maxRecDepth 100000
def GtP (o : Option Nd) (w : World) (e : Ending) (w' : World) : Prop := (match o with
 | none => e = .returned (.tuple #[Nd.no.val, .bool false])
 | some x => ∃ y : Nd, e = .returned (.tuple #[y.val, .bool true]) ∧ y.er = x.er ∧ NdP w' y) ∧ Below w.heap.size w w'
set_option maxHeartbeats 2000000 in
theorem tGet_c (a : Option Addr) (cap : Nat) (l : List Nd) (f : Int) (w : World) (h : Tr w a l) (hm : l.length ≤ 100000) :
   Calls Tryz.prog 28 #[.slice a l.length cap, .int .u32 f] w (GtP (getF l f) w) := by
 have b0 := below_1 w (.cells Nd.no.cells.toArray 58)
 have h0 := heap_alloc_new w (.cells Nd.no.cells.toArray 58)
 have hV := h.later b0
 have PC := hid (placeOf_c a cap l f _ hV.1 hm)
 have B0 := hid b0
 have H0 := hid h0
 have hsV : w.heap.size < (w.alloc (.cells Nd.no.cells.toArray 58)).heap.size := lt_blkR h0
 have H := hid hV
 clear b0 h0 h hV
 cases hx : getF l f with
 | none =>
   rw [pl_none hx] at PC
   clear H hx
   generalize l.length = n at *
   go_enter Tryz.func28, Tryz.ntmps28
   go_upto_region 1 with fail
   change Code.wp _ _ _ _ (w.alloc (.cells Nd.no.cells.toArray 58))
   generalize (w.alloc (.cells Nd.no.cells.toArray 58)) = V at *
   go_wp2_with (go_at_call 54; refine PC.out.mono ?_; rintro _ w1 ⟨rfl, hb1⟩; have h1 := (hb1.block _ hsV).trans H0.out; have fz : ∀ i, w1.frozen? ⟨w.heap.size, i, none⟩ = false := (fun i => by simp [World.frozen?, h1]); obtain ⟨q0, q1, q2, q3, q4, q5⟩ := nd_cells h1; simp only [Nd.no, List.length_nil] at q0 q1 q2 q3 q4 q5; have B1 := hid (B0.out.trans (hb1.mono B0.out.size)); clear hb1 h1)
   refine bodyPost_ret (v := .tuple #[Nd.no.val, .bool false]) (by simp [results, Tryz.results28, go_sem, Nd.val, Nd.no, q0, q1, q2, q3, q4, q5]) rfl ⟨rfl, ?_⟩
   exact (((((B1.out.setCell (p := ⟨w.heap.size, 0, none⟩) (Nat.le_refl _) _).setCell (p := ⟨w.heap.size, 1, none⟩) (Nat.le_refl _) _).setCell (p := ⟨w.heap.size, 2, none⟩) (Nat.le_refl _) _).setCell (p := ⟨w.heap.size, 3, none⟩) (Nat.le_refl _) _).setCell (p := ⟨w.heap.size, 4, none⟩) (Nat.le_refl _) _).setCell (p := ⟨w.heap.size, 5, none⟩) (Nat.le_refl _) _
 | some x =>
   obtain ⟨i, e1, e2, e3⟩ := pl_some hx
   rw [e1] at PC
   obtain ⟨b, off, rfl, _⟩ := H.out.1.2.2 (by omega)
   have hxm : x ∈ l := by rw [← e3]; exact getD_mem _ _ e2
   have NP := hid (H.out.nd hxm)
   have HA := hid (H.out.1.at (i := i) e2)
   rw [e3] at HA
   have e2I : (i : Int) < l.length := by omega
   clear H hx e1 e3 hxm
   generalize l.length = n at *
   go_enter Tryz.func28, Tryz.ntmps28
   go_upto_region 1 with fail
   change Code.wp _ _ _ _ (w.alloc (.cells Nd.no.cells.toArray 58))
   generalize (w.alloc (.cells Nd.no.cells.toArray 58)) = V at *
   obtain ⟨xf, xk, xm, xl, xda, xdc, xzs, xka, xkc, xks⟩ := x
   have CO : Hid (∀ W, Below V.heap.size V W → Calls Tryz.prog 56 #[.agg #[.int .u32 xf, .int .u8 xk, .int .u16 xm, .int .u16 xl, .slice xda xzs.length xdc, .slice xka xks.length xkc]] W fun e w' => ∃ da dc ka kc, e = .returned (.agg #[.int .u32 xf, .int .u8 xk, .int .u16 xm, .int .u16 xl, .slice da xzs.length dc, .slice ka xks.length kc]) ∧ NdW w' W.heap.size ⟨xf, xk, xm, xl, da, dc, xzs, ka, kc, xks⟩ ∧ Below W.heap.size W w') := hid (fun W hW => copyOf_c ⟨xf, xk, xm, xl, xda, xdc, xzs, xka, xkc, xks⟩ W (NP.out.later hW))
   have CC : Hid (∀ W, Below V.heap.size V W → NdC W b (off + i * 6) ⟨xf, xk, xm, xl, xda, xdc, xzs, xka, xkc, xks⟩) := hid (fun W hW => HA.out.later hW)
   clear NP HA
   go_wp2_with (first
     | (go_at_call 54; refine PC.out.mono ?_; rintro _ w1 ⟨rfl, hb1⟩; have B1 := hid hb1; clear hb1; obtain ⟨y0, y1, y2, y3, y4, y5⟩ := (CC.out w1 B1.out).all; have E1 := hid (CO.out w1 B1.out))
     | (go_at_call 56; refine E1.out.mono ?_; rintro _ w2 ⟨da, dc, ka, kc, rfl, hW2, hb2⟩; have B2 := hid (B1.out.trans (hb2.mono B1.out.size)); have W2 := hid hW2.r; clear hb2 hW2; have h1 := (B2.out.block _ hsV).trans H0.out; have fz : ∀ i, w2.frozen? ⟨w.heap.size, i, none⟩ = false := (fun i => by simp [World.frozen?, h1]); obtain ⟨q0, q1, q2, q3, q4, q5⟩ := nd_cells h1; simp only [Nd.no, List.length_nil] at q0 q1 q2 q3 q4 q5; clear h1))
   have hs1 : w.heap.size < w1.heap.size := Nat.lt_of_lt_of_le hsV B1.out.size
   have B3 : Below w.heap.size w w2 := B0.out.trans (B2.out.mono B0.out.size)
   refine bodyPost_ret (v := .tuple #[(⟨xf, xk, xm, xl, da, dc, xzs, ka, kc, xks⟩ : Nd).val, .bool true]) (by simp [results, Tryz.results28, go_sem, Nd.val, q0, q1, q2, q3, q4, q5]) rfl ⟨⟨⟨xf, xk, xm, xl, da, dc, xzs, ka, kc, xks⟩, rfl, rfl, ?_⟩, ?_⟩
   · exact ((((((W2.out.setLow hs1).setLow hs1).setLow hs1).setLow hs1).setLow hs1).setLow hs1).p
   · exact (((((B3.setCell (p := ⟨w.heap.size, 0, none⟩) (Nat.le_refl _) _).setCell (p := ⟨w.heap.size, 1, none⟩) (Nat.le_refl _) _).setCell (p := ⟨w.heap.size, 2, none⟩) (Nat.le_refl _) _).setCell (p := ⟨w.heap.size, 3, none⟩) (Nat.le_refl _) _).setCell (p := ⟨w.heap.size, 4, none⟩) (Nat.le_refl _) _).setCell (p := ⟨w.heap.size, 5, none⟩) (Nat.le_refl _) _
end Go.Proofs.YtloojakcknnilaaGreat
namespace Go.Proofs.YtloojakcknnilaaGreat
open Go.RowKit Go.ChangeShapes Go.WideShapes Go.ChangeAt
set_option linter.unusedVariables false
set_option linter.unusedSimpArgs false
theorem open_pairT {H : Type} {enc : TypeId × Value → H} {P : Program} {W : World} {r : Reach} {b0 : Nat} {t e : TypeId} {v : Value} {d : DataW H} {p : List MemPlace}
   (ht : P.underlying t = some (.array 2 e)) (he : P.underlying e = some .string) (hce : P.cellsOf e = 1) (hct : P.cellsOf t = 2)
   (hv : Value.okWide P W r b0 t v) (h : DataW.Trod enc P W 0 (fun _ => true) true t v d p) :
   ∃ x y : ByteArray, v = .agg #[.string x, .string y] ∧ x.size ≤ maxLen ∧ y.size ≤ maxLen := by
 simp only [Value.okWide, ht] at hv
 obtain ⟨cs, rfl, hsz, _⟩ := hv
 obtain ⟨fuel, hf⟩ := h
 obtain ⟨xs, m, _, _, _, hlen, hel⟩ := DataW.trod_array ht hf
 have h0 := hel 0 (by omega)
 have h1 := hel 1 (by omega)
 rw [hct] at hsz
 obtain ⟨c0, c1, rfl⟩ : ∃ c0 c1, cs = #[c0, c1] := by
   obtain ⟨l⟩ := cs
   match l, hsz with
   | [c0, c1], _ => exact ⟨c0, c1, rfl⟩
 match xs, hlen with
 | [x0, x1], _ =>
   simp [hce, Value.cells] at h0 h1
   obtain ⟨n0, e0, _, w0⟩ := DataW.trod_string he h0
   obtain ⟨n1, e1, _, w1⟩ := DataW.trod_string he h1
   simp at e0 e1
   subst e0 e1
   exact ⟨n0, n1, rfl, w0, w1⟩
def stO (f : Int) (s : ByteArray) : Rec := ⟨8, f, 0, ⟨#[]⟩, 0, ⟨#[]⟩, 0, s, 0⟩
theorem st_wf {f : Int} {s : ByteArray} (h0 : 0 ≤ f) (h1 : f < 4294967296) (hs : s.size ≤ maxLen) : (stO f s).Wf :=
 ⟨⟨by show (0 : Int) ≤ 8; omega, by show (8 : Int) < 256; omega⟩, ⟨h0, h1⟩, ⟨by show (0 : Int) ≤ 0; omega, by show (0 : Int) < _; omega⟩, ⟨by show (0 : Int) ≤ 0; omega, by show (0 : Int) < _; omega⟩, ⟨by show (0 : Int) ≤ 0; omega, by show (0 : Int) < _; omega⟩, ⟨by show (0 : Int) ≤ 0; omega, by show (0 : Int) < _; omega⟩, by show 0 ≤ _; exact Nat.zero_le _, by show 0 ≤ _; exact Nat.zero_le _, hs⟩
theorem st_write (l : List Nd) (f : Int) (s : ByteArray) : applyL l (stO f s) = writeL l (stO f s) := by
 unfold applyL
 have hk : (stO f s).k = 8 := rfl
 rw [if_neg (by omega), if_neg (by omega), if_neg (by omega), if_neg (by omega)]
theorem set_set {l : List Nd} (h : Srt l) {x y : Nd} (e : x.fid = y.fid) : setL (setL l x) y = setL l y :=
 srt_ext (srt_set _ (srt_set _ h)) (srt_set _ h) (fun g => by
   rw [getF_set, getF_set, getF_set, e]
   by_cases q : g = y.fid
   · rw [if_pos q, if_pos q]
   · rw [if_neg q, if_neg q, if_neg q])
theorem store_all {t : List Nd} (R : Rt t) {f : Int} {s0 s1 : ByteArray} (h0 : 0 ≤ f) (h1 : f < 4294967296) (hs0 : s0.size ≤ maxLen) (hs1 : s1.size ≤ maxLen) (ha : (ApplyL t (stO f s0)).1 = 0) (hb : (ApplyL t (stO f s1)).1 = 0) :
   ApplyL (ApplyL t (stO f s0)).2 (stO f s1) = (0, (ApplyL t (stO f s1)).2) ∧ (∃ n, getF (ApplyL t (stO f s1)).2 f = some n ∧ n.zs = txB s1) ∧ (ApplyL t (stO f s1)).2.length = t.length := by
 have RX := ApplyL_rt (st_wf h0 h1 hs0) ha
 obtain ⟨r0, e0⟩ := applyL_of ha
 obtain ⟨r1, e1⟩ := applyL_of hb
 rw [ApplyL_do RX r1]
 rw [e0, st_write] at ha ⊢
 rw [e1, st_write] at hb ⊢
 rw [st_write]
 obtain ⟨n, n1, n2, n3⟩ := write_ok ha
 obtain ⟨m, m1, m2, m3⟩ := write_ok hb
 have nm : n = m := by
   have a1 : getF t f = some n := n1
   have a2 : getF t f = some m := m1
   rw [a1] at a2
   exact Option.some.inj a2
 subst nm
 have fn : n.fid = f := (getF_mem n1).2
 have w0 : n.wr (stO f s0) = ⟨n.fid, n.k, n.md, n.ln, none, 0, txB s0, none, 0, n.ks⟩ := by unfold Nd.wr; rw [if_neg (by show ¬ (8 : Int) = 9; decide)]; rfl
 have w1 : n.wr (stO f s1) = ⟨n.fid, n.k, n.md, n.ln, none, 0, txB s1, none, 0, n.ks⟩ := by unfold Nd.wr; rw [if_neg (by show ¬ (8 : Int) = 9; decide)]; rfl
 have hk : n.k ≠ 2 ∧ n.k ≠ 3 := by
   rcases n2 with q | q
   · exact absurd q (by show ¬ (8 : Int) = 9; decide)
   · exact q
 rw [n3, m3]
 refine ⟨?_, ⟨n.wr (stO f s1), ?_, by rw [w1]⟩, ?_⟩
 · have g1 : getF (setL t (n.wr (stO f s0))) (stO f s1).fid = some (n.wr (stO f s0)) := by
     rw [getF_set, w0]
     exact if_pos fn.symm
   rw [write_do g1 (.inr (by rw [w0]; exact hk))]
   have w2 : (n.wr (stO f s0)).wr (stO f s1) = n.wr (stO f s1) := by
     rw [w1, w0]; unfold Nd.wr; rw [if_neg (by show ¬ (8 : Int) = 9; decide)]; rfl
   rw [w2, set_set R.srt (by rw [w0, w1])]
 · rw [getF_set, w1]
   exact if_pos fn.symm
 · have := len_set (n.wr (stO f s1)) R.srt
   rw [w1] at this ⊢
   have g2 : getF t n.fid = some n := by rw [fn]; exact n1
   rw [show (⟨n.fid, n.k, n.md, n.ln, none, 0, txB s1, none, 0, n.ks⟩ : Nd).fid = n.fid from rfl, g2] at this
   simp only [Option.elim] at this
   omega
theorem tx_txB (s : ByteArray) : Fr.tx (txB s) = s := Fr.tx_bs s
end Go.Proofs.YtloojakcknnilaaGreat
