/-
  The document's Optimise and Clean, walked.
-/
import Derived.Test.YtegkmkbbmdplkaaCROnceW
namespace Go.Proofs.Ytegkmkbbmdplkaa
open Go.RowKit Go.ChangeShapes Go.WideShapes Go.ChangeAt Go.Maps Go.Shelf
set_option linter.unusedVariables false
set_option linter.unusedSimpArgs false
theorem once_wf {L r : List Rec} (h : onceL L = some r) (hw : ∀ x ∈ L, x.Wf) : ∀ x ∈ r, x.Wf := fun x hx => hw x ((once_sub L r h).subset hx)
set_option maxRecDepth 20000 in
set_option maxHeartbeats 4000000 in
theorem roptimise_c (a : Option Addr) (cap : Nat) (l : List Rec) (w : World) (h : IsL w a l) (hm : l.length ≤ 100000) :
    Calls Try.prog 10 #[.slice a l.length cap] w fun e w' => ∃ v, e = .returned v ∧ w'.ownsRow w.heap.size 37 9 v (optF l).length (rcells (optF l)) ∧ Below w.heap.size w w' := by
  obtain ⟨i0, hi, hz0, hz1, hz2⟩ := info_rec
  have HL := hid h
  have HO0 := hid (opt_it l)
  have HWN := hid (fun x (hx : x ∈ neededF l) => keep_wf (p := needF l) h.2.1 l.length (Nat.le_refl _) x hx)
  have hkn : (neededF l).length ≤ l.length := keep_len _ _ _
  have ND := hid (fun i W (hW : Below w.heap.size w W) (hi : i < l.length) => rneeded_c a cap l i W (h.later hW) hm hi)
  clear h
  generalize optF l = A at *
  obtain ⟨p, hp⟩ : ∃ p, p = needF l := ⟨_, rfl⟩
  have HN0 : Hid (neededF l = keepF p l l.length) := hid (by rw [hp]; rfl)
  rw [← hp] at ND
  clear hp
  obtain ⟨n, hn⟩ : ∃ n, n = l.length := ⟨_, rfl⟩
  rw [← hn] at hm hkn HN0 ⊢
  have HN := hid hn
  clear hn
  go_enter Try.func10, Try.ntmps10
  go_wp2
  go_loopg [3, 4] n (fun g v i wr => ∃ m : Nat, m + g = n ∧ i = .int .i64 m ∧ Hid (wr.ownsRow w.heap.size 37 9 v (keepF p l m).length (rcells (keepF p l m))) ∧ Hid (Below w.heap.size w wr))
  case atStart => exact ⟨0, by omega, rfl, World.ownsRow_nil _ _ 37 9, Below.refl _ _⟩
  case round =>
    obtain ⟨m, hm2, rfl, HO, HB⟩ := hrel
    obtain ⟨va, vc, rfl⟩ := own_shapeR HO.out
    by_cases hlt : m < n
    · have hltI : (m : Int) < n := by omega
      have hk1 : keepF p l (m + 1) = if p m then keepF p l m else keepF p l m ++ [l.getD m Rec.no] := rfl
      have hkl := keep_len p l m
      have NC := hid (ND.out m wr HB.out (by rw [← HN.out]; exact hlt))
      rw [← HN.out] at NC
      cases e : p m with
      | true =>
        rw [e, if_pos rfl] at hk1
        rw [e] at NC
        have HO2 : Hid (wr.ownsRow w.heap.size 37 9 (.slice va (keepF p l m).length vc) (keepF p l (m + 1)).length (rcells (keepF p l (m + 1)))) := hid (by rw [hk1]; exact HO.out)
        clear hk1 e HO
        go_wp2_with (go_at_call 25; refine NC.out.mono ?_; rintro _ w2 ⟨rfl, hb2⟩; have O2 := hid (own_latR HO2.out hb2); have B2 := hid (HB.out.trans (hb2.mono HB.out.size)); clear hb2)
        go_roundg (gk - 1)
        case measure => omega
        case rel => exact ⟨m + 1, by omega, by go_num, O2, B2⟩
      | false =>
        rw [e, if_neg (by simp)] at hk1
        rw [e] at NC
        have HK := hid hk1
        clear hk1 e
        have hil := HL.out.later HB.out
        obtain ⟨b, off, rfl, _⟩ := hil.2.2 (by rw [← HN.out]; omega)
        have HR := hid (hil.at (i := m) (by rw [← HN.out]; exact hlt))
        clear hil
        generalize l.getD m Rec.no = x at *
        go_wp2_with (first
          | (at_builtin; refine wpList_append_own _ rfl _ _ 22 rfl w.heap.size 37 i0 Rec.no.val 9 88 Try.underlying22 hi hz0 hz1 hz2 (by rfl) (by decide) _ _ _ rfl O1.out ⟨w2.heap.size, 0, none⟩ 1 1 x.cells rfl rfl (rec_news N1.out) (rec_one x) (by unfold maxLen; omega) (by omega) B1.out.size ?_; intro v9 w9 hown9 hgrow9 hnil9)
          | (go_at_call 25; refine NC.out.mono ?_; rintro _ w2 ⟨rfl, hb2⟩
             have b1 := below_one w2 (.cells x.cells.toArray 37)
             have O2 := own_latR HO.out hb2
             have B2 := HB.out.trans (hb2.mono HB.out.size)
             have O1 := hid (own_latR O2 b1)
             have B1 := hid (B2.trans (b1.mono B2.size))
             have N1 := hid (heap_alloc_new w2 (.cells x.cells.toArray 37))
             have hr := HR.out.later hb2
             have k0 : w2.cell? ⟨b, off + m * 9, none⟩ = some (.int .u8 x.k) := hr 0 _ rfl
             have k1 : w2.cell? ⟨b, off + m * 9 + 1, none⟩ = some (.int .u32 x.fid) := hr 1 _ rfl
             have k2 : w2.cell? ⟨b, off + m * 9 + 2, none⟩ = some (.int .u32 x.dir) := hr 2 _ rfl
             have k3 : w2.cell? ⟨b, off + m * 9 + 3, none⟩ = some (.string x.nm) := hr 3 _ rfl
             have k4 : w2.cell? ⟨b, off + m * 9 + 4, none⟩ = some (.int .u32 x.to) := hr 4 _ rfl
             have k5 : w2.cell? ⟨b, off + m * 9 + 5, none⟩ = some (.string x.nm2) := hr 5 _ rfl
             have k6 : w2.cell? ⟨b, off + m * 9 + 6, none⟩ = some (.int .u16 x.md) := hr 6 _ rfl
             have k7 : w2.cell? ⟨b, off + m * 9 + 7, none⟩ = some (.string x.dt) := hr 7 _ rfl
             have k8 : w2.cell? ⟨b, off + m * 9 + 8, none⟩ = some (.int .u64 x.sn) := hr 8 _ rfl
             clear b1 O2 B2 hr hb2))
        have HB9 := hid (below_grownR B1.out O1.out (Nat.le_refl _) B1.out.size hgrow9)
        have HO9 : Hid (w9.ownsRow w.heap.size 37 9 v9 (keepF p l (m + 1)).length (rcells (keepF p l (m + 1)))) := by
          show World.ownsRow _ _ _ _ _ _ _
          rw [HK.out]
          simp only [List.length_append, List.length_cons, List.length_nil, rcells_snoc]
          exact hown9
        obtain ⟨a9, c9, rfl⟩ := own_shapeR hown9
        clear hown9 hgrow9 hnil9
        go_roundg (gk - 1)
        case measure => omega
        case rel => exact ⟨m + 1, by omega, by go_num, HO9, HB9⟩
    · have em : m = n := by omega
      have hge : ¬ (m : Int) < n := by omega
      have HO2 : Hid (wr.ownsRow w.heap.size 37 9 (.slice va (keepF p l m).length vc) (neededF l).length (rcells (neededF l))) := hid (by rw [HN0.out, ← em]; exact HO.out)
      clear HO
      generalize (keepF p l m).length = km at *
      generalize wr = wo at *
      go_wp2
      go_loopg [3] ((neededF l).length + 1) (fun g v wr => ∃ L : List Rec, Hid (wr.ownsRow w.heap.size 37 9 v L.length (rcells L)) ∧ Hid (L.length < g ∧ L.length ≤ n ∧ itL g L = A ∧ ∀ x ∈ L, x.Wf) ∧ Hid (Below w.heap.size w wr))
      case atStart => exact ⟨_, HO2, hid ⟨by omega, hkn, HO0.out.symm, HWN.out⟩, HB⟩
      case round =>
        clear HO2 HB
        obtain ⟨L, HO, HQ, HB⟩ := hrel
        obtain ⟨va, vc, rfl, hIL, _, _⟩ := isL_own HO.out HQ.out.2.2.2
        obtain ⟨g1, rfl⟩ : ∃ g1, gk = g1 + 1 := ⟨gk - 1, by have := HQ.out.1; omega⟩
        have OC := hid (ronce_c va vc L wr hIL (by have := HQ.out.2.1; omega))
        have HIT : Hid (itL (g1 + 1) L = match onceL L with | none => L | some L' => itL g1 L') := hid rfl
        rw [HQ.out.2.2.1] at HIT
        have HLN := hid (fun r (hr : onceL L = some r) => once_len L r hr)
        have HLW := hid (fun r (hr : onceL L = some r) => once_wf hr HQ.out.2.2.2)
        unfold OncePost at OC
        clear hIL
        cases ho : onceL L with
        | none =>
          rw [ho] at OC HIT
          simp only at OC HIT
          go_wp2_with (go_at_call 26; refine OC.out.mono ?_; rintro _ w5 ⟨rfl, hb5⟩)
          go_ret
          refine ⟨_, rfl, ?_, HB.out.trans (hb5.mono HB.out.size)⟩
          rw [HIT.out]
          exact own_latR HO.out hb5
        | some r =>
          rw [ho] at OC HIT
          simp only at OC HIT
          have hl1 := HLN.out r ho
          have HW1 := hid (HLW.out r ho)
          clear ho HLN HLW
          go_wp2_with (go_at_call 26; refine OC.out.mono ?_; rintro _ w5 ⟨⟨v5, rfl, hO5⟩, hb5⟩; obtain ⟨a5, c5, rfl⟩ := own_shapeR hO5; have O5 := hid (own_baseR hO5 HB.out.size); have B5 := hid (HB.out.trans (hb5.mono HB.out.size)); clear hO5 hb5)
          go_roundg g1
          case measure => omega
          case rel => exact ⟨r, O5, hid ⟨by have := HQ.out.1; omega, by have := HQ.out.2.1; omega, HIT.out.symm, HW1.out⟩, B5⟩
set_option maxHeartbeats 1000000 in
theorem rclean_c (a : Option Addr) (cap : Nat) (l : List Rec) (w : World) (h : IsL w a l) (hm : l.length ≤ 100000) :
    Calls Try.prog 12 #[.slice a l.length cap] w fun e w' => e = .returned (.bool (eqL (optF l) l)) ∧ Below w.heap.size w w' := by
  have OC := hid (roptimise_c a cap l w h hm)
  have HI := hid h
  have HW := hid (opt_wf h.2.1)
  have HLN := hid (Nat.le_trans (opt_len l) hm)
  clear h
  go_enter Try.func12, Try.ntmps12
  go_wp2_with (first
    | (go_at_call 15; refine SC.out.mono ?_; rintro _ w2 ⟨rfl, hb2⟩)
    | (go_at_call 10; refine OC.out.mono ?_; rintro _ w1 ⟨v1, rfl, hO1, hb1⟩; obtain ⟨a1, c1, rfl, hI1, _, _⟩ := isL_own hO1 HW.out; have HB1 := hid hb1; have SC := hid (rsame_c a1 a c1 cap (optF l) l w1 hI1 (HI.out.later hb1) HLN.out hm); clear hO1 hI1 hb1))
  go_ret
  exact ⟨rfl, HB1.out.trans (hb2.mono HB1.out.size)⟩
end Go.Proofs.Ytegkmkbbmdplkaa
