/-
  once of the document's, walked.
-/
import Derived.Test.YtegkmkbbmdplkaaCROnce
namespace Go.Proofs.Ytegkmkbbmdplkaa
open Go.RowKit Go.ChangeShapes Go.WideShapes Go.ChangeAt Go.Maps Go.Shelf
set_option linter.unusedVariables false
set_option linter.unusedSimpArgs false
def OncePost (w : World) (l : List Rec) (e : Ending) (w' : World) : Prop :=
  (match onceL l with
    | none => e = .returned (.tuple #[.slice none 0 0, .bool false])
    | some r => ∃ v, e = .returned (.tuple #[v, .bool true]) ∧ w'.ownsRow w.heap.size 37 9 v r.length (rcells r)) ∧ Below w.heap.size w w'
theorem bne_nat (k i : Nat) : ((k : Int) != (i : Int)) = !(k == i) := by
  by_cases q : k = i
  · subst q; simp
  · have h1 : ((k : Int) == (i : Int)) = false := by simp; omega
    have h2 : (k == i) = false := by simpa using q
    rw [bne, h1, h2]
set_option maxRecDepth 20000 in
set_option maxHeartbeats 4000000 in
theorem ronce_c (a : Option Addr) (cap : Nat) (l : List Rec) (w : World) (h : IsL w a l) (hm : l.length ≤ 100000) :
    Calls Try.prog 26 #[.slice a l.length cap] w (OncePost w l) := by
  obtain ⟨i0, hi, hz0, hz1, hz2⟩ := info_rec
  have HL := hid h
  have HP0 := hid (fun i j W (hW : Below w.heap.size w W) (h1 : i < j) (h2 : j < l.length) => rpair_c a cap l i j W (h.later hW) hm h1 h2)
  clear h
  obtain ⟨n, hn⟩ : ∃ n, n = l.length := ⟨_, rfl⟩
  have HN := hid hn
  rw [← hn] at hm ⊢
  clear hn
  go_enter Try.func26, Try.ntmps26
  go_wp2
  go_loopg [4] n (fun g v wr => ∃ i : Nat, i + g = n ∧ v = .int .i64 i ∧ Hid (∀ i', i' < i → noP l i') ∧ Hid (Below w.heap.size w wr))
  case atStart => exact ⟨0, by omega, rfl, hid (fun i' h => by omega), hid (Below.refl _ _)⟩
  case round =>
    obtain ⟨i, hig, rfl, HI, HB⟩ := hrel
    by_cases hlt : i < n
    · have hltI : (i : Int) < n := by omega
      obtain ⟨g1, hg1⟩ : ∃ g1, g1 = gk := ⟨_, rfl⟩
      have hig1 : i + g1 = n := by omega
      generalize wr = wo at *
      go_wp2_with fail
      go_loopg [5] n (fun g v wr => ∃ j : Nat, i < j ∧ j ≤ n ∧ j + g = n + i + 1 ∧ v = .int .i64 j ∧ Hid (∀ j', i < j' → j' < j → rpairF l i j' = false) ∧ Hid (Below w.heap.size w wr))
      case atStart => exact ⟨i + 1, by omega, by omega, by omega, by go_num, hid (fun j' h1 h2 => by omega), HB⟩
      case round =>
        clear HB hg1
        obtain ⟨j, hij, hjn, hjg, rfl, HJ, HB⟩ := hrel
        by_cases hjlt : j < n
        · have hjI : (j : Int) < n := by omega
          have PC := hid (HP0.out i j wr HB.out hij (by rw [← HN.out]; exact hjlt))
          rw [← HN.out] at PC
          cases hp : rpairF l i j with
          | false =>
            rw [hp] at PC
            have HJ2 : Hid (∀ j', i < j' → j' < j + 1 → rpairF l i j' = false) := hid (fun j' h1 h2 => by
              by_cases q : j' = j
              · rw [q]; exact hp
              · exact HJ.out j' h1 (by omega))
            clear HJ hp
            go_wp2_with (go_at_call 37; refine PC.out.mono ?_; rintro _ w2 ⟨rfl, hb2⟩; have B2 := hid (HB.out.trans (hb2.mono HB.out.size)); clear hb2)
            go_roundg (gk - 1)
            case measure => omega
            case rel => exact ⟨j + 1, by omega, by omega, by omega, by go_num, HJ2, B2⟩
          | true =>
            rw [hp] at PC
            have HON := hid (once_got hij (by rw [← HN.out]; exact hjlt) hp HJ.out HI.out)
            obtain ⟨p, hpp⟩ : ∃ p, p = outF l g0 i j j (l.getD i Rec.no).fid := ⟨_, rfl⟩
            rw [← hpp, ← HN.out] at HON
            have HPP := hid hpp
            clear HJ hp hpp
            go_wp2_with (go_at_call 37; refine PC.out.mono ?_; rintro _ w2 ⟨rfl, hb2⟩; have B2 := hid (HB.out.trans (hb2.mono HB.out.size)); clear hb2)
            clear PC HB
            generalize wr = wp at *
            go_loopg [6, 7] n (fun g v6 v7 wr => ∃ k : Nat, k + g = n ∧ v7 = .int .i64 k ∧ Hid (wr.ownsRow w.heap.size 37 9 v6 (keepF p l k).length (rcells (keepF p l k))) ∧ Hid (Below w.heap.size w wr))
            case atStart => exact ⟨0, by omega, rfl, hid (World.ownsRow_nil _ _ 37 9), B2⟩
            case round =>
              obtain ⟨k, hkg, rfl, HO, HB⟩ := hrel
              obtain ⟨va, vc, rfl⟩ := own_shapeR HO.out
              by_cases hk : k < n
              · have hkI : (k : Int) < n := by omega
                have hil := HL.out.later HB.out
                obtain ⟨b, off, rfl, _⟩ := hil.2.2 (by rw [← HN.out]; omega)
                have hz := hil.at (i := k) (by rw [← HN.out]; omega)
                have hx := hil.at (i := i) (by rw [← HN.out]; omega)
                have hk1 : keepF p l (k + 1) = if p k then keepF p l k else keepF p l k ++ [l.getD k Rec.no] := rfl
                have hkl := keep_len p l k
                have hpk : p k = (k == i || k == j || (decide (i < k) && decide (k < j) && touchF (l.getD k Rec.no) (l.getD i Rec.no).fid)) := by
                  rw [HPP.out]; unfold outF g0; simp only [Bool.false_or]
                have HPK := hid hpk
                have HK := hid hk1
                clear hil hk1 hpk
                generalize l.getD k Rec.no = z at *
                generalize l.getD i Rec.no = x at *
                have HZ := hid hz
                have z0 : ∀ w', Below wr.heap.size wr w' → w'.cell? ⟨b, off + k * 9, none⟩ = some (.int .u8 z.k) := fun w' h => (hz.later h) 0 _ rfl
                have z1 : ∀ w', Below wr.heap.size wr w' → w'.cell? ⟨b, off + k * 9 + 1, none⟩ = some (.int .u32 z.fid) := fun w' h => (hz.later h) 1 _ rfl
                have z2 : ∀ w', Below wr.heap.size wr w' → w'.cell? ⟨b, off + k * 9 + 2, none⟩ = some (.int .u32 z.dir) := fun w' h => (hz.later h) 2 _ rfl
                have z3 : ∀ w', Below wr.heap.size wr w' → w'.cell? ⟨b, off + k * 9 + 3, none⟩ = some (.string z.nm) := fun w' h => (hz.later h) 3 _ rfl
                have z4 : ∀ w', Below wr.heap.size wr w' → w'.cell? ⟨b, off + k * 9 + 4, none⟩ = some (.int .u32 z.to) := fun w' h => (hz.later h) 4 _ rfl
                have z5 : ∀ w', Below wr.heap.size wr w' → w'.cell? ⟨b, off + k * 9 + 5, none⟩ = some (.string z.nm2) := fun w' h => (hz.later h) 5 _ rfl
                have z6 : ∀ w', Below wr.heap.size wr w' → w'.cell? ⟨b, off + k * 9 + 6, none⟩ = some (.int .u16 z.md) := fun w' h => (hz.later h) 6 _ rfl
                have z7 : ∀ w', Below wr.heap.size wr w' → w'.cell? ⟨b, off + k * 9 + 7, none⟩ = some (.string z.dt) := fun w' h => (hz.later h) 7 _ rfl
                have z8 : ∀ w', Below wr.heap.size wr w' → w'.cell? ⟨b, off + k * 9 + 8, none⟩ = some (.int .u64 z.sn) := fun w' h => (hz.later h) 8 _ rfl
                have x1 : ∀ w', Below wr.heap.size wr w' → w'.cell? ⟨b, off + i * 9 + 1, none⟩ = some (.int .u32 x.fid) := fun w' h => (hx.later h) 1 _ rfl
                have TC0 := fun W => rtouches_c z x.fid W
                obtain ⟨T, hT⟩ : ∃ T, T = touchF z x.fid := ⟨_, rfl⟩
                rw [← hT] at TC0 HPK
                have TC := hid TC0
                obtain ⟨D1, hD1⟩ : ∃ D1, ((k : Int) != (i : Int)) = D1 := ⟨_, rfl⟩
                obtain ⟨D2, hD2⟩ : ∃ D2, ((k : Int) != (j : Int)) = D2 := ⟨_, rfl⟩
                obtain ⟨D3, hD3⟩ : ∃ D3, decide ((i : Int) < (k : Int)) = D3 := ⟨_, rfl⟩
                obtain ⟨D4, hD4⟩ : ∃ D4, decide ((k : Int) < (j : Int)) = D4 := ⟨_, rfl⟩
                have HPK2 : Hid (p k = !(D1 && D2 && !(D3 && D4 && T))) := hid (by
                  rw [HPK.out, ← hD1, ← hD2, ← hD3, ← hD4]
                  have q1 : ((k : Int) != (i : Int)) = !(k == i) := bne_nat k i
                  have q2 : ((k : Int) != (j : Int)) = !(k == j) := bne_nat k j
                  have q3 : decide ((i : Int) < (k : Int)) = decide (i < k) := by by_cases q : i < k <;> simp [q]
                  have q4 : decide ((k : Int) < (j : Int)) = decide (k < j) := by by_cases q : k < j <;> simp [q]
                  rw [q1, q2, q3, q4]
                  cases (k == i) <;> cases (k == j) <;> cases decide (i < k) <;> cases decide (k < j) <;> cases T <;> rfl)
                have E1 := hid hD1
                have E2 := hid hD2
                have E3 := hid hD3
                have E4 := hid hD4
                clear TC0 hx hz hT hD1 hD2 hD3 hD4 HPK
                go_upto_region 12 with fail
                go_cut [64] from 27 to 71 (fun s64 wx => s64 = .bool (!p k) ∧ Hid (Below wr.heap.size wr wx))
                case first =>
                  cases D1 <;> cases D2 <;> cases D3 <;> cases D4 <;> cases T
                  all_goals
                    refine wp_region_class (by kernel_rfl) (by kernel_rfl) ?_
                    repeat (first
                      | go_big_quiet_skip
                      | (go_big_quiet_want
                         apply quiet_by
                         · intro w7 hw7
                           have z0 := z0 w7 hw7
                           have z1 := z1 w7 hw7
                           have z2 := z2 w7 hw7
                           have z3 := z3 w7 hw7
                           have z4 := z4 w7 hw7
                           have z5 := z5 w7 hw7
                           have z6 := z6 w7 hw7
                           have z7 := z7 w7 hw7
                           have z8 := z8 w7 hw7
                           have x1 := x1 w7 hw7
                           first
                             | exact qneqN _ _ _ k i rfl rfl rfl _ E1.out hw7
                             | exact qneqN _ _ _ k j rfl rfl rfl _ E2.out hw7
                             | exact qgtrN _ _ _ k i rfl rfl rfl _ E3.out hw7
                             | exact qlssN _ _ _ k j rfl rfl rfl _ E4.out hw7
                             | (go_simp; first | rfl | (go_at_call 19; exact class_of hw7 (TC.out _)))
                         · go_simp; rfl
                         go_big_quiet_on))
                    refine wpQuiet_nil ?_
                    intro w8 hw8
                    go_wp2
                    go_meet
                    exact ⟨by rw [HPK2.out]; rfl, hid hw8⟩
                case rest =>
                  obtain ⟨rfl, HC⟩ := hcut
                  have HB3 := hid (HB.out.trans (HC.out.mono HB.out.size))
                  have HO3 := hid (own_latR HO.out HC.out)
                  have hr := HZ.out.later HC.out
                  clear z0 z1 z2 z3 z4 z5 z6 z7 z8 x1 HPK2 E1 E2 E3 E4 TC HZ HB HO
                  cases hpk : p k with
                  | true =>
                    rw [hpk] at HK
                    go_wp2
                    go_roundg (gk - 1)
                    case measure => omega
                    case rel => exact ⟨k + 1, by omega, by go_num, by rw [HK.out]; exact HO3, HB3⟩
                  | false =>
                    rw [hpk] at HK
                    have k0 : wc.cell? ⟨b, off + k * 9, none⟩ = some (.int .u8 z.k) := hr 0 _ rfl
                    have k1 : wc.cell? ⟨b, off + k * 9 + 1, none⟩ = some (.int .u32 z.fid) := hr 1 _ rfl
                    have k2 : wc.cell? ⟨b, off + k * 9 + 2, none⟩ = some (.int .u32 z.dir) := hr 2 _ rfl
                    have k3 : wc.cell? ⟨b, off + k * 9 + 3, none⟩ = some (.string z.nm) := hr 3 _ rfl
                    have k4 : wc.cell? ⟨b, off + k * 9 + 4, none⟩ = some (.int .u32 z.to) := hr 4 _ rfl
                    have k5 : wc.cell? ⟨b, off + k * 9 + 5, none⟩ = some (.string z.nm2) := hr 5 _ rfl
                    have k6 : wc.cell? ⟨b, off + k * 9 + 6, none⟩ = some (.int .u16 z.md) := hr 6 _ rfl
                    have k7 : wc.cell? ⟨b, off + k * 9 + 7, none⟩ = some (.string z.dt) := hr 7 _ rfl
                    have k8 : wc.cell? ⟨b, off + k * 9 + 8, none⟩ = some (.int .u64 z.sn) := hr 8 _ rfl
                    clear hr
                    have b1 := below_one wc (.cells z.cells.toArray 37)
                    have O1 := hid (own_latR HO3.out b1)
                    have B1 := hid (HB3.out.trans (b1.mono HB3.out.size))
                    have N1 := hid (heap_alloc_new wc (.cells z.cells.toArray 37))
                    clear b1
                    go_wp2_with (at_builtin; refine wpList_append_own _ rfl _ _ 22 rfl w.heap.size 37 i0 Rec.no.val 9 88 Try.underlying22 hi hz0 hz1 hz2 (by rfl) (by decide) _ _ _ rfl O1.out ⟨wc.heap.size, 0, none⟩ 1 1 z.cells rfl rfl (rec_news N1.out) (rec_one z) (by unfold maxLen; omega) (by omega) B1.out.size ?_; intro v9 w9 hown9 hgrow9 hnil9)
                    have HB9 := hid (below_grownR B1.out O1.out (Nat.le_refl _) B1.out.size hgrow9)
                    have HO9 : Hid (w9.ownsRow w.heap.size 37 9 v9 (keepF p l (k + 1)).length (rcells (keepF p l (k + 1)))) := by
                      show World.ownsRow _ _ _ _ _ _ _
                      rw [HK.out]
                      simp only [Bool.false_eq_true, if_false, List.length_append, List.length_cons, List.length_nil, rcells_snoc]
                      exact hown9
                    obtain ⟨a9, c9, rfl⟩ := own_shapeR hown9
                    clear hown9 hgrow9 hnil9
                    go_roundg (gk - 1)
                    case measure => omega
                    case rel => exact ⟨k + 1, by omega, by go_num, HO9, HB9⟩
              · have em : k = n := by omega
                subst em
                have hge : ¬ (k : Int) < k := by omega
                go_wp2
                go_ret2
                refine ⟨?_, HB.out⟩
                rw [HON.out]
                exact ⟨_, rfl, HO.out⟩
        · have em : j = n := by omega
          have hge : ¬ (j : Int) < n := by omega
          have HI2 : Hid (∀ i', i' < i + 1 → noP l i') := hid (fun i' h => by
            by_cases q : i' = i
            · subst q
              intro j' h1 h2
              exact HJ.out j' h1 (by rw [← HN.out] at h2; omega)
            · exact HI.out i' (by omega))
          clear HJ
          go_wp2
          go_roundg (g1 - 1)
          case measure => omega
          case rel => exact ⟨i + 1, by omega, by go_num, HI2, HB⟩
    · have em : i = n := by omega
      subst em
      have hge : ¬ (i : Int) < i := by omega
      have HE := hid (once_nil (fun i' h => HI.out i' (by rw [← HN.out] at h; exact h)))
      clear HI
      go_wp2
      go_ret2
      refine ⟨?_, HB.out⟩
      rw [HE.out]
      rfl
end Go.Proofs.Ytegkmkbbmdplkaa
