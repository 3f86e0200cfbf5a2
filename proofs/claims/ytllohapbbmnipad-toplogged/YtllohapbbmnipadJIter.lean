/-
  The groups of an area, gone through by a function that yields: for every loop body that goes on and keeps rows of sectors.
-/
import Derived.Test.YtllohapbbmnipadJCount
namespace Go.Proofs.Ytllohapbbmnipad
open Go.RowKit Go.ChangeShapes Go.WideShapes Go.ChangeAt Go.Maps Go.Shelf
attribute [local go_sem] Oper.semAt_some
set_option linter.unusedVariables false
set_option linter.unusedSimpArgs false
theorem IsSS.blk {w w' : World} {b off n : Nat} {ss : List (List Int)} (h : IsSS w (some ⟨b, off, none⟩) n ss) (hb : w'.heap[b]? = w.heap[b]?) : IsSS w' (some ⟨b, off, none⟩) n ss := by
  obtain ⟨h1, h2, h3, h4⟩ := h
  refine ⟨h1, h2, h3, fun hp => ?_⟩
  obtain ⟨b', off', e, hc⟩ := h4 hp
  cases e
  exact ⟨b, off, rfl, fun i hi j v hv => by rw [World.cell?_of_block (a := ⟨b, off + i * 32 + j, none⟩) hb]; exact hc i hi j v hv⟩
theorem IsSS.rest {w : World} {b off n : Nat} {ss : List (List Int)} (h : IsSS w (some ⟨b, off, none⟩) n ss) (m : Nat) (hm : m ≤ n) : IsSS w (some ⟨b, off + m * 32, none⟩) (n - m) (ss.drop m) := by
  have h1 := h.sub m (n - m) (by omega)
  rwa [List.take_of_length_le (by simp [h.1])] at h1
/-- What is left behind the groups gs. -/
def Left (t : Int) (ss : List (List Int)) (gs : List Jo.Gr) (r : List (List Int)) : Prop :=
  r.length + 2 * gs.length ≤ ss.length ∧ Jo.groupsF t (ss.length + 1) 1 ss = gs ++ Jo.groupsF t (ss.length + 1 - gs.length) ((gs.length : Int) + 1) r
theorem Left.start (t : Int) (ss : List (List Int)) : Left t ss [] ss := ⟨by simp, by simp⟩
theorem need_two {t n : Int} {g : Jo.Gr} {r : List (List Int)} (h : Jo.readF t n r = some g) (hs : ∀ s ∈ r, Jo.Sct s) : 2 ≤ Jo.needF g ∧ Jo.needF g ≤ r.length ∧ Jo.okG g = true := by
  obtain ⟨⟨ho, r', e⟩, _⟩ := Jo.of_read h hs
  have h1 := Jo.need_ok ho
  have h2 := Jo.laid_len g t n
  refine ⟨by rw [h1]; unfold Jo.secsOf; omega, ?_, ho⟩
  rw [h1, ← h2, e, List.length_append]; omega
theorem Left.next {t : Int} {ss r : List (List Int)} {gs : List Jo.Gr} {g : Jo.Gr} (h : Left t ss gs r) (hg : Jo.readF t ((gs.length : Int) + 1) r = some g) (hs : ∀ s ∈ r, Jo.Sct s) : Left t ss (gs ++ [g]) (r.drop (Jo.needF g)) := by
  have hn := need_two hg hs
  refine ⟨by simp; have := h.1; omega, ?_⟩
  rw [h.2]
  obtain ⟨k, hk⟩ : ∃ k, ss.length + 1 - gs.length = k + 1 := ⟨ss.length - gs.length, by have := h.1; omega⟩
  rw [hk]
  conv => lhs; unfold Jo.groupsF; rw [hg]
  simp only [List.length_append, List.length_cons, List.length_nil, List.append_assoc, List.cons_append, List.nil_append]
  rw [show ss.length + 1 - (gs.length + (0 + 1)) = k by omega, show (((gs.length + (0 + 1) : Nat)) : Int) + 1 = (gs.length : Int) + 1 + 1 by omega]
theorem Left.last {t : Int} {ss r : List (List Int)} {gs : List Jo.Gr} (h : Left t ss gs r) (hg : Jo.readF t ((gs.length : Int) + 1) r = none) : Jo.groupsF t (ss.length + 1) 1 ss = gs := by
  rw [h.2]
  obtain ⟨k, hk⟩ : ∃ k, ss.length + 1 - gs.length = k + 1 := ⟨ss.length - gs.length, by have := h.1; omega⟩
  rw [hk]
  unfold Jo.groupsF
  rw [hg]
  simp
/-- All groups of an area's sectors. -/
def allG (t : Int) (ss : List (List Int)) : List Jo.Gr := Jo.groupsF t (ss.length + 1) 1 ss
set_option maxRecDepth 20000 in
set_option maxHeartbeats 4000000 in
theorem groups1_in (l jb ab : Nat) (j d b1 b2 N : Nat) (on : Int → Sec) (c : Int → Option Sec) (k t : Int) (st en : Nat) (hse : st ≤ en) (hen : en ≤ N) (ht : 0 ≤ t ∧ t < 4294967296) (W : World) (I : List Jo.Gr → World → Prop)
    (hJ : IsJ W j d b1 b2 N on c) (hjb : W.heap[jb]? = some (.cells #[pB j] 24 (0, 0))) (hab : W.heap[ab]? = some (.cells #[.int .i64 k, .int .u32 t, .int .i64 st, .int .i64 en] 60 (0, 0)))
    (hL : ∀ (gs : List Jo.Gr) (V V' : World), I gs V → Below V.heap.size V V' → I gs V') (hab' : ∀ (gs : List Jo.Gr) (V : World), I gs V → V.heap[ab]? = some (.cells #[.int .i64 k, .int .u32 t, .int .i64 st, .int .i64 en] 60 (0, 0)))
    (hY : ∀ (gs : List Jo.Gr) (g : Jo.Gr) (v : Value) (V : World), I gs V → W.heap.size ≤ V.heap.size → PG W.heap.size V v g → gs.length < 2048 → YieldAt Fence.wide 1 Try.prog l #[v, .int .i64 (Jo.needF g : Nat)] V fun e V' => e = .returned (.bool true) ∧ I (gs ++ [g]) V' ∧ W.heap.size ≤ V'.heap.size ∧ ∀ (q : Nat) (cur : Array Value) (fr : Nat × Nat), V.heap[q]? = some (Obj.cells cur 90 fr) → V'.heap[q]? = V.heap[q]?)
    (h0 : I [] W) :
    CallsIn Fence.wide 2 Try.prog 33 #[.func (.yield l) #[] #[], .pointer (some ⟨jb, 0, none⟩), .pointer (some ⟨ab, 0, none⟩)] W fun e V' => (∃ v, e = .returned v) ∧ I (allG t (secs (vw on c) st (en - st))) V' := by
  have hN := hJ.2.1.two
  have hv := fun i => hJ.2.1.sec i
  have hsct := secs_sct hv st (en - st)
  have hsl := secs_len (vw on c) st (en - st)
  have SC := hid (sectors_c hJ k t st en hse hen)
  unfold arV at SC
  have cj := cell_box hjb
  have a0 : W.cell? ⟨ab, 0, none⟩ = some (.int .i64 k) := by rw [cell_of_row W _ 0 _ _ _ hab]; rfl
  have a1 : W.cell? ⟨ab, 1, none⟩ = some (.int .u32 t) := by rw [cell_of_row W _ 1 _ _ _ hab]; rfl
  have a2 : W.cell? ⟨ab, 2, none⟩ = some (.int .i64 st) := by rw [cell_of_row W _ 2 _ _ _ hab]; rfl
  have a3 : W.cell? ⟨ab, 3, none⟩ = some (.int .i64 en) := by rw [cell_of_row W _ 3 _ _ _ hab]; rfl
  have H0 := hid h0
  have hm : (secs (vw on c) st (en - st)).length ≤ 2048 := by omega
  have HSL := hid hsl
  clear hsl
  unfold allG
  generalize secs (vw on c) st (en - st) = ss at *
  clear hJ hv h0
  refine callsIn_of_wp Try.func33 rfl trivial ?_ rfl
  simp only [Try.ntmps33, List.size_toArray, List.length_cons, List.length_nil, Nat.reduceAdd, Nat.reduceSub, Array.replicate_succ, Array.replicate_zero, List.push_toArray, List.append_toArray, List.nil_append, List.cons_append]
  gi_wp2_with fail
  refine ⟨trivial, (callsIn_wide.2 SC.out).mono ?_⟩
  rintro _ W1 ⟨v, rfl, hown, hb1⟩
  obtain ⟨ra, rc, rfl, hS, hrc, hin⟩ := own_isSS hown hsct (by omega)
  have hT : ∀ q, ra = some q → ∃ cur fr, W1.heap[q.block]? = some (.cells cur 90 fr) := by
    intro q e
    rcases hown.2 with ⟨hv, _⟩ | ⟨g, cap, cur, hv, _, e3, _⟩
    · cases e; cases hv
    · cases e; cases hv; exact ⟨_, _, e3⟩
  have hI1 := hL _ _ _ H0.out hb1
  clear hown hin
  gi_wp2
  gi_loopw [4, 5] (fun s i wr => ∃ (gs : List Jo.Gr) (r : List (List Int)) (a : Option Addr) (m cp : Nat), s = .slice a m cp ∧ m ≤ cp ∧ i = .int .u32 ((gs.length : Int) + 1) ∧ Left t ss gs r ∧ IsSS wr a m r ∧ I gs wr ∧ W.heap.size ≤ wr.heap.size ∧ (∀ q, a = some q → ∃ cur fr, wr.heap[q.block]? = some (.cells cur 90 fr))) (fun s _ _ => match s with | .slice _ m _ => m | _ => 0)
  case atStart => exact ⟨[], ss, ra, _, rc, rfl, hrc, rfl, Left.start t ss, hS, hI1, hb1.size, hT⟩
  case round =>
    obtain ⟨gs, r, a, m, cp, rfl, hmc, rfl, hLf, hSr, hIr, hzr, hTr⟩ := hrel
    have hgl : gs.length ≤ 1024 := by have := hLf.1; omega
    have hrl := hSr.1
    have hrm : m ≤ 2048 := by have := hLf.1; omega
    have x1 : wr.cell? ⟨ab, 1, none⟩ = some (.int .u32 t) := by rw [cell_of_row wr _ 1 _ _ _ (hab' _ _ hIr)]; rfl
    have RG : Calls Try.prog 35 #[.slice a m cp, .int .u32 t, .int .u32 ((gs.length : Int) + 1)] wr (GroupPost t ((gs.length : Int) + 1) r wr) := by
      cases r with
      | nil =>
        have : m = 0 := by simpa using hrl.symm
        subst this
        exact readGroup_none a cp t _ wr
      | cons s r =>
        obtain ⟨b, off, rfl, _⟩ := hSr.2.2.2 (by rw [← hrl]; simp)
        exact readGroup_some b off m cp t _ s r wr hSr hmc hrm ht (by omega)
    have HRG := hid RG
    have HLf := hid hLf
    have HSr := hid hSr
    have HIr := hid hIr
    have HTr := hid hTr
    clear RG hLf hSr hIr hTr
    gi_wp2_with fail
    refine ⟨trivial, (callsIn_wide.2 HRG.out).mono ?_⟩
    rintro _ w2 ⟨⟨g, gv, hg, rfl, hP⟩ | ⟨hg, rfl⟩, hb2⟩
    · have hn2 := need_two hg HSr.out.2.2.1
      have HNX := hid (HLf.out.next hg HSr.out.2.2.1)
      rw [hrl] at hn2
      obtain ⟨b, off, rfl, _⟩ := HSr.out.2.2.2 (by omega)
      obtain ⟨cur, fr, hcur⟩ := HTr.out _ rfl
      have hcur2 : w2.heap[b]? = some (.cells cur 90 fr) := by rw [hb2.block b (lt_blk hcur)]; exact hcur
      obtain ⟨fn, tmps, assign, body, hy, hR⟩ := hY gs g gv w2 (hL _ _ _ HIr.out hb2) (Nat.le_trans hzr hb2.size) (hP.base hzr) (by omega)
      obtain ⟨ga, gc, hgv, _⟩ := hP.isG0 (by have := (Jo.ok_iff.1 hn2.2.2).2.1; omega)
      subst hgv
      have HR := hid hR
      have HS2 := hid (HSr.out.later hb2)
      clear hR hP hg hcur
      generalize Jo.needF g = ng at *
      have i0 : (0 : Int) ≤ ng := by omega
      have i1 : (ng : Int) ≤ m := by omega
      have i2 : (ng : Int) ≤ cp := by omega
      have i3 : (m : Int) ≤ cp := by omega
      have hgl2 : (gs.length : Int) + 1 + 1 < 4294967296 := by omega
      gi_wp2_with fail
      refine HR.out.mono ?_
      rintro _ W3 ⟨rfl, hI3, hz3, hk3⟩
      have hb3 := hk3 b cur fr hcur2
      have SS3 := (HS2.out.blk hb3).rest ng (by omega)
      have T3 : W3.heap[b]? = some (.cells cur 90 fr) := hb3.trans hcur2
      by_cases hcp : cp = ng
      · have hm0 : m = ng := by omega
        have SS0 : IsSS W3 (some ⟨b, off, none⟩) 0 (r.drop ng) := ⟨by rw [SS3.1]; omega, by omega, SS3.2.2.1, fun hp => by omega⟩
        have HSS0 := hid SS0
        clear SS3 SS0
        gi_wp2
        go_roundw
        case rel => exact ⟨gs ++ [g], r.drop ng, some ⟨b, off, none⟩, _, _, rfl, by omega, by simp, HNX.out, HSS0.out, hI3, hz3, fun q e => by cases e; exact ⟨_, _, T3⟩⟩
        case measure => simp; omega
      · have HSS3 := hid SS3
        clear SS3
        gi_wp2
        go_roundw
        case rel => exact ⟨gs ++ [g], r.drop ng, some ⟨b, off + ng * 32, none⟩, _, _, rfl, by omega, by simp, HNX.out, HSS3.out, hI3, hz3, fun q e => by cases e; exact ⟨_, _, T3⟩⟩
        case measure => simp; omega
    · have E := hid (HLf.out.last hg)
      have hI2 := hL _ _ _ HIr.out hb2
      gi_wp2
      refine ⟨fun _ h => (by cases h), ?_⟩
      gi_wp2
      refine bodyPost_ret (results_none (by kernel_rfl) _ _ _) rfl ?_
      exact ⟨⟨_, rfl⟩, by rw [E.out]; exact hI2⟩
end Go.Proofs.Ytllohapbbmnipad
