/-
  What is left by the document's writing of sectors: plain laws, and a sector's load in a drawn region.
  The document's append, also where the power goes: append of backwaterref05.
  The document's reset, also where the power goes: reset of backwaterref05.
  The document's Append, Reset and Torn.
-/
import Derived.Test.YtfmkgflhgapeoabGK
import Derived.Test.YtfmkgflhgapeoabGI
import Derived.Test.YtfmkgflhgapeoabGF
import Derived.Test.YtfmkgflhgapeoabGE
import Derived.Deep.RegionHeld3
namespace Go.Proofs.Ytfmkgflhgapeoab
open Go.RowKit Go.ChangeShapes Go.WideShapes Go.ChangeAt Go.Maps
set_option linter.unusedVariables false
set_option linter.unusedSimpArgs false
/-- The sectors of a list, by their places. -/
def onL (L : List Sec) (i : Int) : Sec := L.getD i.toNat zsec
theorem vw_onL (L : List Sec) (B : List (Int × Sec)) : vw (onL L) (bufAt B) = vwR L B := rfl
theorem onL_at (L : List Sec) (k : Nat) : onL L (k : Int) = L.getD k zsec := by unfold onL; simp
/-- A sector's load in a region that draws its order. -/
theorem step_loadR (w : World) {ops : Array Oper} {o : Oper} {a : Act} {K : Act → World → Prop} {Q : Exit → Act → World → Prop} {E : Prop} (hgd : o.guard = none) (x : Operand) (ho : o.op = .load 36 x) (b off : Nat) (hx : a.eval x = .pointer (some ⟨b, off, none⟩))
    (s : Sec) (hs : s.length = 32) (hr : w.rangeAt b off (s.map by8)) (h : K (a.put o.dst (secV s)) w) : if Region.wanted o (yielded ops a.tmps) = true then Oper.wp Try.prog o a w K Q else E := by
  rw [if_pos (by simp [Region.wanted, hgd])]
  have hl := qsecR hr hs
  unfold Oper.wp
  simp only [execOp, ho, hx, Sem.run_bind, hl, Result.andThen, Sem.run_pure]
  exact h
theorem own_isSSR {w : World} {base : Nat} {v : Value} {ss : List (List Int)} (h : w.ownsRow base 36 32 v ss.length (scells ss)) (hs : ∀ s ∈ ss, Jo.Sct s) (hm : ss.length ≤ 100000) (hp : 0 < ss.length) : ∃ g cap, v = .slice (some ⟨g, 0, none⟩) ss.length cap ∧ IsSS w (some ⟨g, 0, none⟩) ss.length ss ∧ ss.length ≤ cap ∧ base ≤ g ∧ g < w.heap.size := by
  have hlt := h.lt
  rcases h with ⟨hl, ⟨rfl, hn⟩ | ⟨g, cap, cur, rfl, hg, hbk, hnc, hcm, hcs, ht⟩⟩
  · omega
  · refine ⟨g, cap, rfl, ⟨rfl, hm, hs, fun hp => ⟨g, 0, rfl, fun i hi j v hv => ?_⟩⟩, hnc, hlt g rfl⟩
    have hj : j < 32 := by
      have h1 := (List.getElem?_eq_some_iff.1 hv).1
      have h2 : (ss.getD i []).length = 32 := by rw [List.getD, List.getElem?_eq_getElem hi]; exact (hs _ (List.getElem_mem hi)).1
      simp only [List.length_map] at h1; omega
    rw [cell_of_row w g _ cur 36 (0, 0) hbk]
    have e1 : (cur.toList.take (ss.length * 32))[i * 32 + j]? = (scells ss)[i * 32 + j]? := by rw [ht]
    rw [scells_get (fun s h => (hs s h).1) i hi j hj, hv, List.getElem?_take, if_pos (by omega)] at e1
    rw [Nat.zero_add, ← Array.getElem?_toList]
    exact e1
theorem lt_rng {w : World} {b off : Nat} {s : Sec} (h : w.rangeAt b off (s.map by8)) (hs : 0 < s.length) : b < w.heap.size := by
  have h1 := h 0 (by8 s[0]) (by simp [hs])
  unfold World.cell? at h1
  split at h1
  · rename_i e; exact lt_blk e
  · cases h1
theorem updL_take {c : Int → Option Sec} {st k : Nat} {ss : List (List Int)} (hk : k < ss.length) : upd (updL c st (ss.take k)) ((st + k : Nat) : Int) (some (ss.getD k [])) = updL c st (ss.take (k + 1)) := by
  have hl : (ss.take k).length = k := by rw [List.length_take]; omega
  have := updL_snoc c st (ss.take k) (ss.getD k [])
  rw [hl] at this
  rw [this, List.take_succ_eq_append_getElem hk]
  congr 2
  simp [List.getD, hk]
/-- What a Flush, or a Crash, leaves of sectors that were written. -/
theorem out_upd {L : List Sec} {B B' : List (Int × Sec)} {N st : Nat} {ss : List (List Int)} (all : Bool) (ks : List Int) (hp : B'.Pairwise (fun p q => p.1 < q.1)) (h0 : ∀ p ∈ B', 0 ≤ p.1) (hL : L.length = N) (hb : bufAt B' = updL (bufAt B) st ss) (k : Nat) (hk : k < N) :
    (outL all ks B' L).getD k zsec = if all = true ∨ (k : Int) ∈ ks then updO (vwR L B) st ss (k : Int) else onL L (k : Int) := by
  rw [outL_get all ks B' L hp h0 k (by omega), hb]
  have e := congrFun (updL_updO (onL L) (bufAt B) st ss) (k : Int)
  rw [vw_onL] at e
  rw [← e, onL_at]
theorem updL_one (st : Nat) (s : Sec) : updL (fun _ => none) st [s] = upd (fun _ => none) (st : Int) (some s) := by
  have := updL_snoc (fun _ => none) st [] s
  rw [updL_nil] at this
  simpa using this.symm
theorem buf_ins {B : List (Int × Sec)} (hp : B.Pairwise (fun p q => p.1 < q.1)) (i : Int) (s : Sec) : bufAt (ins i s B) = upd (bufAt B) i (some s) := funext fun k => bufAt_ins hp i s k
/-- What is on the document's disk behind an Append or a Reset; st: where the power goes (-1: nowhere). -/
def leftF (st : Int) (zs : List Int) (v0 v1 v2 : Int → Sec) : Int → Sec := if st = 0 ∨ st = 1 then tornF st zs v0 v1 v2 else v2
theorem left_zero (zs : List Int) (v0 v1 v2 : Int → Sec) (i : Int) : leftF 0 zs v0 v1 v2 i = if i ∈ zs then v1 i else v0 i := by unfold leftF tornF; simp
theorem left_one (zs : List Int) (v0 v1 v2 : Int → Sec) (i : Int) : leftF 1 zs v0 v1 v2 i = if i ∈ zs then v2 i else v1 i := by unfold leftF tornF; simp
theorem left_none {st : Int} (h0 : st ≠ 0) (h1 : st ≠ 1) (zs : List Int) (v0 v1 v2 : Int → Sec) (i : Int) : leftF st zs v0 v1 v2 i = v2 i := by unfold leftF; rw [if_neg (by omega)]
theorem IsR.pair {w : World} {r N : Nat} {L : List Sec} {B : List (Int × Sec)} (h : IsR w r N L B) : B.Pairwise (fun p q => p.1 < q.1) ∧ (∀ p ∈ B, 0 ≤ p.1) ∧ L.length = N ∧ r < w.heap.size := by
  obtain ⟨⟨lv, bv, h1, _⟩, h2, _, h3, h4, _⟩ := h
  exact ⟨h3, fun p hp => (h4 p hp).2.1, h2, lt_blk h1⟩
theorem laid_sct_of {w : World} {a : Option Addr} {len : Nat} {g : Jo.Gr} (h : IsG0 w a len g) (ho : Jo.okG g = true) (t n : Int) : ∀ s ∈ Jo.laid g t n, Jo.Sct s := Jo.laid_sct h.isG.bytes (Jo.ok_iff.1 ho).2.1 t n
theorem updO_cong {f f' : Int → Sec} {e : Nat} {ss : List (List Int)} {i : Int} (h : f i = f' i) : updO f e ss i = updO f' e ss i := by unfold updO; rw [h]
theorem drop_last1 {ss : List (List Int)} {n : Nat} (h : ss.length = n) (hn : 0 < n) : ss.drop (n - 1) = [ss.getD (n - 1) []] := by
  rw [List.drop_eq_getElem_cons (by omega), List.drop_eq_nil_of_le (by omega)]
  simp [List.getD, show n - 1 < ss.length by omega]
/-- The last sector, written behind the others. -/
theorem out_last {v : Int → Sec} {L1 : List Sec} {N en n : Nat} {ss : List (List Int)} (all : Bool) (ks : List Int) (hl : ss.length = n) (hn : 0 < n) (hL : L1.length = N) (h1 : ∀ k : Nat, k < N → L1.getD k zsec = updO v en (ss.take (n - 1)) (k : Int)) (hen : en + n ≤ N) (k : Nat) (hk : k < N) :
    (outL all ks (ins ((en + (n - 1) : Nat) : Int) (ss.getD (n - 1) []) []) L1).getD k zsec = if all = true ∨ (k : Int) ∈ ks then updO v en ss (k : Int) else updO v en (ss.take (n - 1)) (k : Int) := by
  have hp : ([] : List (Int × Sec)).Pairwise (fun p q => p.1 < q.1) := List.Pairwise.nil
  have hb : bufAt (ins ((en + (n - 1) : Nat) : Int) (ss.getD (n - 1) []) []) = updL (bufAt []) (en + (n - 1)) [ss.getD (n - 1) []] := by
    rw [buf_ins hp]
    exact (updL_one _ _).symm
  have hpw := ins_rising ((en + (n - 1) : Nat) : Int) (ss.getD (n - 1) []) [] hp
  have h0 : ∀ p ∈ ins ((en + (n - 1) : Nat) : Int) (ss.getD (n - 1) []) [], 0 ≤ p.1 := fun p hpm => by
    have e : ins ((en + (n - 1) : Nat) : Int) (ss.getD (n - 1) []) [] = [(((en + (n - 1) : Nat) : Int), ss.getD (n - 1) [])] := rfl
    rw [e] at hpm
    rw [List.mem_singleton.1 hpm]; simp only; omega
  rw [out_upd all ks hpw h0 hL hb k hk, onL_at, h1 k hk]
  have e2 : updO (vwR L1 []) (en + (n - 1)) [ss.getD (n - 1) []] (k : Int) = updO (updO v en (ss.take (n - 1))) (en + (n - 1)) (ss.drop (n - 1)) (k : Int) := by
    rw [drop_last1 hl hn]
    refine updO_cong ?_
    rw [← h1 k hk]
    show (bufAt [] (k : Int)).getD _ = _
    simp [bufAt]
  rw [e2, updO_two _ _ _ _ (by omega)]
/-- One sector, written by itself. -/
theorem out_one {f : Int → Sec} {L1 : List Sec} {N q : Nat} {s : Sec} (all : Bool) (ks : List Int) (hL : L1.length = N) (h1 : ∀ k : Nat, k < N → L1.getD k zsec = f (k : Int)) (k : Nat) (hk : k < N) :
    (outL all ks (ins (q : Int) s []) L1).getD k zsec = if all = true ∨ (k : Int) ∈ ks then updO f q [s] (k : Int) else f (k : Int) := by
  have hp : ([] : List (Int × Sec)).Pairwise (fun p q => p.1 < q.1) := List.Pairwise.nil
  have hb : bufAt (ins (q : Int) s []) = updL (bufAt []) q [s] := by
    rw [buf_ins hp]
    exact (updL_one _ _).symm
  have hpw := ins_rising (q : Int) s [] hp
  have h0 : ∀ p ∈ ins (q : Int) s [], 0 ≤ p.1 := fun p hpm => by
    have e : ins (q : Int) s [] = [((q : Int), s)] := rfl
    rw [e] at hpm
    rw [List.mem_singleton.1 hpm]; simp only; omega
  rw [out_upd all ks hpw h0 hL hb k hk, onL_at, h1 k hk]
  have e2 : updO (vwR L1 []) q [s] (k : Int) = updO f q [s] (k : Int) := by
    refine updO_cong ?_
    rw [← h1 k hk]
    show (bufAt [] (k : Int)).getD _ = _
    simp [bufAt]
  rw [e2]
end Go.Proofs.Ytfmkgflhgapeoab
namespace Go.Proofs.Ytfmkgflhgapeoab
open Go.RowKit Go.ChangeShapes Go.WideShapes Go.ChangeAt Go.Maps
set_option linter.unusedVariables false
set_option linter.unusedSimpArgs false
/-- What the document's append answers. -/
def RAppPost (j r N : Nat) (L : List Sec) (B : List (Int × Sec)) (g : Jo.Gr) (st : Int) (zs : List Int) (w : World) (e : Ending) (w' : World) : Prop :=
  (Jo.needF g = 0 ∧ e = .returned (.int .i64 2) ∧ Below w.heap.size w w') ∨
  (Jo.needF g ≠ 0 ∧ arSt (vwR L B) N + asz N < arEnd (vwR L B) N + Jo.needF g ∧ e = .returned (.int .i64 4) ∧ Below w.heap.size w w') ∨
  (Jo.needF g ≠ 0 ∧ arEnd (vwR L B) N + Jo.needF g ≤ arSt (vwR L B) N + asz N ∧ e = .returned (.int .i64 0) ∧
    (∃ L', IsRJ w' j r N L' [] ∧ ∀ k : Nat, k < N → L'.getD k zsec = leftF st zs (onL L) (updO (vwR L B) (arEnd (vwR L B) N) ((Jo.laid g (best (vwR L B) 2).2 ((grps (vwR L B) N).length + 1)).take (Jo.needF g - 1))) (added (vwR L B) N g) (k : Int)) ∧ Out (fun k => k = r) w w')
set_option maxRecDepth 100000 in
set_option maxHeartbeats 4000000 in
theorem rappend_c {w : World} {j r N : Nat} {L : List Sec} {B : List (Int × Sec)} (h : IsRJ w j r N L B) (a : Option Addr) (len cap : Nat) (g : Jo.Gr) (hG : IsG0 w a len g) (st : Int) (hst : -9223372036854775808 ≤ st ∧ st < 9223372036854775808) (z : Option Addr) (zl zc : Nat) (zs : List Int) (hz : ∀ W, Out (fun k => k = r) w W → IsZ W z zl zs) :
    Calls Try.prog 46 #[pB j, .slice a len cap, .int .i64 st, .slice z zl zc] w (RAppPost j r N L B g st zs w) := by
  have hN := h.two
  have hv := fun i => h.2.1.sec i
  have hbb := best_bd hv 2 (Nat.le_refl _)
  have hle := grpsR_end (N := N) hv
  have haz : 2 * asz N + 2 ≤ N := by unfold asz; omega
  have hlim : arSt (vwR L B) N + asz N ≤ N := by
    have : (best (vwR L B) 2).1 * asz N ≤ 1 * asz N := Nat.mul_le_mul_right _ hbb.1
    unfold arSt; omega
  have hnl := need_le g
  have NC : Hid (∀ W, Below w.heap.size w W → Calls Try.prog 63 #[.slice a len cap] W fun e w' => e = .returned (.int .i64 (Jo.needF g : Nat)) ∧ w' = W) := fun W hW => rneed_c a len cap g W ((hG.later hW).isG)
  have FC := hid (rfree_c h)
  have CC : Hid (∀ W, Below w.heap.size w W → Calls Try.prog 43 #[pB j] W fun e w' => e = .returned (.tuple #[.int .i64 ((best (vwR L B) 2).1 : Nat), .int .u32 (best (vwR L B) 2).2]) ∧ Below W.heap.size W w') := fun W hW => rcounts_c (h.later hW)
  have AC : Hid (∀ W, Below w.heap.size w W → Calls Try.prog 44 #[pB j] W fun e w' => ∃ v, e = .returned (.tuple #[v, .int .i64 (arEnd (vwR L B) N : Nat)]) ∧ PGs W.heap.size w' v (grps (vwR L B) N) ∧ Below W.heap.size W w') := fun W hW => rall_c (h.later hW)
  by_cases hz0 : Jo.needF g = 0
  · rw [hz0] at NC
    have HZ := hid hz0
    clear h hG hv hz0 hbb hle hlim
    go_enter Try.func46, Try.ntmps46
    go_wp2_with (go_at_call 63; refine (NC.out _ (Below.refl _ _)).mono ?_; rintro _ w1 ⟨rfl, hw1⟩; rw [hw1]; clear hw1)
    go_ret
    exact .inl ⟨HZ.out, rfl, Below.refl _ _⟩
  · have HZ := hid hz0
    by_cases hsp : arSt (vwR L B) N + asz N < arEnd (vwR L B) N + Jo.needF g
    · have HSP := hid hsp
      obtain ⟨nd, hnd⟩ : ∃ nd, nd = Jo.needF g := ⟨_, rfl⟩
      obtain ⟨lim, hlm⟩ : ∃ lim, lim = arSt (vwR L B) N + asz N := ⟨_, rfl⟩
      obtain ⟨en, hen⟩ : ∃ en, en = arEnd (vwR L B) N := ⟨_, rfl⟩
      rw [← hnd] at NC hz0 hsp hnl
      rw [← hlm, ← hen] at FC
      rw [← hlm] at hsp hle hlim
      rw [← hen] at hsp hle
      have e1 : ((nd : Int) == 0) = false := by simp; omega
      have e2 : ((lim : Int) - en) < nd := by omega
      clear h hG hv hbb hnd hlm hen
      go_enter Try.func46, Try.ntmps46
      go_wp2_with (first
        | (go_at_call 63; refine (NC.out _ (Below.refl _ _)).mono ?_; rintro _ w1 ⟨rfl, hw1⟩; rw [hw1]; clear hw1)
        | (go_at_call 27; refine FC.out.mono ?_; rintro _ w2 ⟨rfl, hb2⟩))
      go_ret
      exact .inr (.inl ⟨HZ.out, HSP.out, rfl, hb2⟩)
    · have HSP := hid (Nat.le_of_not_lt hsp)
      have hok := (Jo.need_pos hz0).1
      have HOK := hid hok
      have hlaid : (Jo.laid g (best (vwR L B) 2).2 ((grps (vwR L B) N).length + 1)).length = Jo.needF g := by rw [Jo.laid_len, Jo.need_ok hok]
      have hlsct := laid_sct_of hG hok (best (vwR L B) 2).2 ((grps (vwR L B) N).length + 1)
      have hn3 : 3 ≤ Jo.needF g := by
        have hp := Jo.need_pos hz0
        have hl4 := (Jo.ok_load hp.1).1
        rw [hp.2]; unfold Jo.secsOf Jo.many; omega
      have hgl := grps_len (vwR L B) N
      have LC : Hid (∀ W, Below w.heap.size w W → Calls Try.prog 64 #[.slice a len cap, .int .u32 (best (vwR L B) 2).2, .int .u32 (((grps (vwR L B) N).length : Int) + 1)] W fun e w' => ∃ v, e = .returned v ∧ w'.ownsRow W.heap.size 36 32 v (Jo.laid g (best (vwR L B) 2).2 ((grps (vwR L B) N).length + 1)).length (scells (Jo.laid g (best (vwR L B) 2).2 ((grps (vwR L B) N).length + 1))) ∧ Below W.heap.size W w') := fun W hW => rlay_c a len cap g _ _ W (hG.later hW) hok hbb.2 (by omega)
      have HA : Hid (added (vwR L B) N g = updO (vwR L B) (arEnd (vwR L B) N) (Jo.laid g (best (vwR L B) 2).2 ((grps (vwR L B) N).length + 1))) := rfl
      have HRJ := hid h
      have HZS := hid hz
      have hjr := h.2.1.pair
      unfold RAppPost
      rw [HA.out]
      clear h hG hv hbb hz hok HA
      obtain ⟨ss, hss⟩ : ∃ ss, ss = Jo.laid g (best (vwR L B) 2).2 ((grps (vwR L B) N).length + 1) := ⟨_, rfl⟩
      rw [← hss] at hlaid hlsct LC ⊢
      generalize hvv : vwR L B = v at *
      have HVV := hid hvv.symm
      obtain ⟨nd, hnd⟩ : ∃ nd, nd = Jo.needF g := ⟨_, rfl⟩
      obtain ⟨lim, hlm⟩ : ∃ lim, lim = arSt v N + asz N := ⟨_, rfl⟩
      obtain ⟨en, hen⟩ : ∃ en, en = arEnd v N := ⟨_, rfl⟩
      rw [← hnd] at NC hz0 hsp hnl hlaid hn3 HZ HSP ⊢
      rw [← hlm, ← hen] at FC HSP
      rw [← hlm] at hsp hle hlim ⊢
      rw [← hen] at hsp hle AC ⊢
      clear hss hnd hlm hen hvv
      generalize (best v 2).2 = t at *
      generalize (best v 2).1 = kk at *
      generalize hcn : (grps v N) = gs at *
      have e1 : ((nd : Int) == 0) = false := by simp; omega
      have e2 : ¬ ((lim : Int) - en) < nd := by omega
      have hgl2 : gs.length ≤ 1024 := by omega
      clear hcn hsp
      go_enter Try.func46, Try.ntmps46
      go_wp2_with (first
        | (go_at_call 63; refine (NC.out _ (Below.refl _ _)).mono ?_; rintro _ w1 ⟨rfl, hw1⟩; rw [hw1]; clear hw1)
        | (go_at_call 27; refine FC.out.mono ?_; rintro _ w2 ⟨rfl, hb2⟩; have HB2 := hid hb2; clear hb2)
        | (go_at_call 43; refine (CC.out _ HB2.out).mono ?_; rintro _ w3 ⟨rfl, hb3⟩; have HB3 := hid (HB2.out.trans (hb3.mono HB2.out.size)); clear hb3)
        | (go_at_call 44; refine (AC.out _ HB3.out).mono ?_; rintro _ w4 ⟨lv, rfl, hP4, hb4⟩; obtain ⟨la, lc, rfl⟩ := hP4.shape; have HB4 := hid (HB3.out.trans (hb4.mono HB3.out.size)); clear hb4 hP4)
        | (go_at_call 64; refine (LC.out _ HB4.out).mono ?_; rintro _ w5 ⟨rv, rfl, hrow5, hb5⟩; obtain ⟨rg, rc, rfl, hS5, hrc, hgb⟩ := own_isSSR hrow5 hlsct (by omega) (by omega); (have HB5 := hid (HB4.out.trans (hb5.mono HB4.out.size))); (have hrgr : rg ≠ r := by have := HB4.out.size; have := hjr.2.2.2; omega); have HS5 := hid hS5; clear hb5 hrow5 hS5))
      rw [hlaid] at HS5 hrc
      have hcapI : (nd : Int) ≤ rc := by omega
      have HO5 : Hid (Out (fun k => k = r) w w5) := Out.of HB5.out
      have HRJ5 := hid (HRJ.out.later HB5.out)
      have hjl : j < w.heap.size := lt_blk HRJ.out.1
      clear NC FC CC AC LC HB2 HB3 HB4
      go_loopw [14] (fun i wr => ∃ (p : Nat) (Bp : List (Int × Sec)), p ≤ nd - 1 ∧ i = .int .i64 p ∧ Hid (IsRJ wr j r N L Bp) ∧ Hid (bufAt Bp = updL (bufAt B) en (ss.take p)) ∧ Hid (Out (fun k => k = r) w wr) ∧ Hid (IsSS wr (some ⟨rg, 0, none⟩) nd ss)) (fun i _ => (nd - intOf i).toNat)
      case atStart => exact ⟨0, B, by omega, rfl, HRJ5, by show _ = _; rw [List.take_zero, updL_nil], HO5, HS5⟩
      case round =>
        obtain ⟨p, Bp, hp, rfl, HJ, HBF, HO, HS⟩ := hrel
        by_cases hlt : p < nd - 1
        · have hltI : (p : Int) < (nd : Int) - 1 := by omega
          have hp2 : (p : Int) < nd := by omega
          obtain ⟨hrng, hsct⟩ := HS.out.at p (by omega)
          have hs32 := hsct.1
          have HTK := hid (updL_take (c := bufAt B) (st := en) (ss := ss) (k := p) (by omega))
          generalize ss.getD p [] = s at *
          have hr0 : wr.drew.rangeAt rg (p * 32) (s.map by8) := by
            have : wr.rangeAt rg (0 + p * 32) (s.map by8) := hrng
            rw [Nat.zero_add] at this; exact this
          have c0 : wr.drew.cell? ⟨j, 0, none⟩ = some (pD r) := HJ.out.cell
          have HJD : Hid (IsRJ wr.drew j r N L Bp) := HJ.out
          have WC := hid (rwrite_c HJD.out.2.1 ((en : Int) + p) s (sct_sec hsct) (by omega) (by omega))
          have HPR := hid (HJ.out.2.1.pair).1
          have HWP := hid (IntWalk.i64_in ((en : Int) + p) (by omega))
          have hsz : (Try.prog.info? 36).map (·.size) = some (s.map by8).length := by rw [List.length_map, hs32]; exact sizeR
          have hun := Try.underlying36
          have hrl : rg < wr.heap.size := by have := HO.out.size; have := HB5.out.size; have := lt_blk HRJ.out.1; first | omega | exact lt_rng hrng (by omega)
          clear hrng hsct
          unfold secV at WC
          go_wp2_with fail
          go_region_held3 (fun w' => w'.cell? ⟨j, 0, none⟩ = some (pD r) ∧ w'.rangeAt rg (p * 32) (s.map by8)) (first | (with_reducible exact ⟨CK6, RK6⟩) | (with_reducible exact ⟨c0, hr0⟩) | go_keep)
            (first
              | (go_at_call 7; rw [HWP.out]; refine WC.out.mono ?_; rintro _ w6 ⟨rfl, hR6, ho6⟩; (have HJ6 := hid (HJD.out.next hR6 ho6)); (have CK6 := HJ6.out.cell); (have RK6 : w6.rangeAt rg (p * 32) (s.map by8) := fun q x hx => by (rw [World.cell?_of_block (a := ⟨rg, p * 32 + q, none⟩) (ho6.block rg (by simpa using hrl) hrgr)]; exact hr0 q x hx)); have HO6 := hid ho6; clear hR6 ho6))
          go_wp2
          go_roundw
          case rel => exact ⟨p + 1, ins ((en : Int) + p) s Bp, by omega, by go_num, HJ6, by show _ = _; rw [buf_ins HPR.out, HBF.out, ← HTK.out]; push_cast; rfl, HO.out.drew.trans HO6.out, HS.out.blk (HO6.out.block rg (by simpa using hrl) hrgr)⟩
          case measure => simp [intOf]; omega
        · have ep : p = nd - 1 := by omega
          have hge : ¬ (p : Int) < (nd : Int) - 1 := by omega
          have hpr := HJ.out.2.1.pair
          rw [ep] at HBF
          have HOU := fun all ks k hk => hid (out_upd (L := L) (B := B) (N := N) all ks hpr.1 hpr.2.1 hpr.2.2.1 HBF.out k hk)
          have HOU := hid HOU
          clear hpr
          by_cases h0 : st = 0
          · subst h0
            have PC := hid (rpause_t HJ.out z zl zc zs (HZS.out wr HO.out))
            go_wp2_with (go_at_call 65; refine PC.out.mono ?_; rintro _ w7 ⟨rfl, hJ7, ho7⟩)
            go_ret
            refine .inr (.inr ⟨HZ.out, HSP.out, rfl, ⟨_, hJ7, fun k hk => ?_⟩, HO.out.trans ho7⟩)
            rw [left_zero, (HOU.out false zs k hk).out, HVV.out]
            simp
          · have PC := hid (rpause_f HJ.out z zl zc)
            have e0 : (st == 0) = false := by simpa using h0
            go_wp2_with fail
            refine PC.out.mono ?_
            rintro _ w7 ⟨rfl, hJ7, ho7⟩
            have HL1 : Hid (∀ k : Nat, k < N → (outL true [] Bp L).getD k zsec = updO v en (ss.take (nd - 1)) (k : Int)) := fun k hk => by
              rw [(HOU.out true [] k hk).out, HVV.out]; simp
            have hll := hJ7.2.1.pair.2.2.1
            generalize outL true [] Bp L = L1 at *
            have HO7 := hid (HO.out.trans ho7)
            have HS7 : Hid (IsSS w7 (some ⟨rg, 0, none⟩) nd ss) := HS.out.blk (ho7.block rg (lt_rng (HS.out.at 0 (by omega)).1 (by rw [(HS.out.at 0 (by omega)).2.1]; omega)) hrgr)
            have HJ7 := hid hJ7
            clear hJ7 ho7 PC HS HJ HO HOU HBF
            obtain ⟨hrng, hsct⟩ := HS7.out.at (nd - 1) (by omega)
            have hs32 := hsct.1
            have HOL := fun all ks k hk => hid (out_last (v := v) (N := N) (en := en) all ks hlaid (by omega) hll HL1.out (by have := HSP.out; omega) k hk)
            have HOL := hid HOL
            generalize ss.getD (nd - 1) [] = s at *
            have hr0 : w7.drew.rangeAt rg ((nd - 1) * 32) (s.map by8) := by
              have : w7.rangeAt rg (0 + (nd - 1) * 32) (s.map by8) := hrng
              rw [Nat.zero_add] at this; exact this
            have c0 : w7.drew.cell? ⟨j, 0, none⟩ = some (pD r) := HJ7.out.cell
            have HJD : Hid (IsRJ w7.drew j r N L1 []) := HJ7.out
            have WC := hid (rwrite_c HJD.out.2.1 ((en + (nd - 1) : Nat) : Int) s (sct_sec hsct) (by omega) (by have := HSP.out; omega))
            have hsz : (Try.prog.info? 36).map (·.size) = some (s.map by8).length := by rw [List.length_map, hs32]; exact sizeR
            have hun := Try.underlying36
            have hrl : rg < w7.heap.size := lt_rng hrng (by omega)
            have hn1 : (0 : Int) ≤ (nd : Int) - 1 := by omega
            have hn2 : ((nd - 1 : Nat) : Int) < nd := by omega
            have hn4 : (0 : Int) ≤ ((nd - 1 : Nat) : Int) := by omega
            have HWQ : Hid ((en : Int) + nd - 1 = ((en + (nd - 1) : Nat) : Int)) := by show _ = _; omega
            have hwn : IntKind.i64.wrap ((nd : Int) - 1) = ((nd - 1 : Nat) : Int) := by rw [IntWalk.i64_in _ (by omega)]; omega
            have HWP : Hid (IntKind.i64.wrap (IntKind.i64.wrap ((en : Int) + nd) - 1) = ((en + (nd - 1) : Nat) : Int)) := by
              show _ = _
              rw [IntWalk.i64_in ((en : Int) + nd) (by omega), IntWalk.i64_in _ (by omega)]; omega
            clear hrng hsct
            unfold secV at WC
            go_wp2_with fail
            go_region_held3 (fun w' => w'.cell? ⟨j, 0, none⟩ = some (pD r) ∧ w'.rangeAt rg ((nd - 1) * 32) (s.map by8)) (first | (with_reducible exact ⟨CK8, RK8⟩) | (with_reducible exact ⟨c0, hr0⟩) | go_keep)
              (first
                | (go_at_call 7; (first | rw [HWP.out] | rw [HWQ.out]); refine WC.out.mono ?_; rintro _ w8 ⟨rfl, hR8, ho8⟩; (have HJ8 := hid (HJD.out.next hR8 ho8)); (have CK8 := HJ8.out.cell); (have RK8 : w8.rangeAt rg ((nd - 1) * 32) (s.map by8) := fun q x hx => by (rw [World.cell?_of_block (a := ⟨rg, (nd - 1) * 32 + q, none⟩) (ho8.block rg (by simpa using hrl) hrgr)]; exact hr0 q x hx)); have HO8 := hid ho8; clear hR8 ho8))
            by_cases h1 : st = 1
            · subst h1
              have PC := hid (rpause_t HJ8.out z zl zc zs (HZS.out w8 (HO7.out.drew.trans HO8.out)))
              go_wp2_with (go_at_call 65; refine PC.out.mono ?_; rintro _ w9 ⟨rfl, hJ9, ho9⟩)
              go_ret
              refine .inr (.inr ⟨HZ.out, HSP.out, rfl, ⟨_, hJ9, fun k hk => ?_⟩, (HO7.out.drew.trans HO8.out).trans ho9⟩)
              rw [left_one, (HOL.out false zs k hk).out]
              simp
            · have PC := hid (rpause_f HJ8.out z zl zc)
              have e3 : (st == 1) = false := by simpa using h1
              go_wp2_with (go_at_call 65; refine PC.out.mono ?_; rintro _ w9 ⟨rfl, hJ9, ho9⟩)
              go_ret
              refine .inr (.inr ⟨HZ.out, HSP.out, rfl, ⟨_, hJ9, fun k hk => ?_⟩, (HO7.out.drew.trans HO8.out).trans ho9⟩)
              rw [left_none h0 h1, (HOL.out true [] k hk).out]
              simp
end Go.Proofs.Ytfmkgflhgapeoab
namespace Go.Proofs.Ytfmkgflhgapeoab
open Go.RowKit Go.ChangeShapes Go.WideShapes Go.ChangeAt Go.Maps
set_option linter.unusedVariables false
set_option linter.unusedSimpArgs false
/-- What the document's reset answers. -/
def RRstPost (j r N : Nat) (L : List Sec) (B : List (Int × Sec)) (g : Jo.Gr) (st : Int) (zs : List Int) (w : World) (e : Ending) (w' : World) : Prop :=
  (Jo.needF g = 0 ∧ e = .returned (.int .i64 2) ∧ Below w.heap.size w w') ∨
  (Jo.needF g ≠ 0 ∧ (asz N < Jo.needF g ∨ (best (vwR L B) 2).2 = 4294967295) ∧ e = .returned (.int .i64 4) ∧ Below w.heap.size w w') ∨
  (Jo.needF g ≠ 0 ∧ Jo.needF g ≤ asz N ∧ (best (vwR L B) 2).2 ≠ 4294967295 ∧ e = .returned (.int .i64 0) ∧
    (∃ L', IsRJ w' j r N L' [] ∧ ∀ k : Nat, k < N → L'.getD k zsec = leftF st zs (onL L) (updO (vwR L B) (otSt (vwR L B) N) (Jo.laid g ((best (vwR L B) 2).2 + 1) 1)) (setTo (vwR L B) N g) (k : Int)) ∧ Out (fun k => k = r) w w')
set_option maxRecDepth 100000 in
set_option maxHeartbeats 4000000 in
theorem rreset_c {w : World} {j r N : Nat} {L : List Sec} {B : List (Int × Sec)} (h : IsRJ w j r N L B) (a : Option Addr) (len cap : Nat) (g : Jo.Gr) (hG : IsG0 w a len g) (st : Int) (hst : -9223372036854775808 ≤ st ∧ st < 9223372036854775808) (z : Option Addr) (zl zc : Nat) (zs : List Int) (hz : ∀ W, Out (fun k => k = r) w W → IsZ W z zl zs) :
    Calls Try.prog 47 #[pB j, .slice a len cap, .int .i64 st, .slice z zl zc] w (RRstPost j r N L B g st zs w) := by
  have hN := h.two
  have hv := fun i => h.2.1.sec i
  have hbb := best_bd hv 2 (Nat.le_refl _)
  have haz : 2 * asz N + 2 ≤ N := by unfold asz; omega
  have hot : otSt (vwR L B) N + asz N ≤ N := by
    have : (1 - (best (vwR L B) 2).1) * asz N ≤ 1 * asz N := Nat.mul_le_mul_right _ (by omega)
    unfold otSt; omega
  have hnl := need_le g
  have NC : Hid (∀ W, Below w.heap.size w W → Calls Try.prog 63 #[.slice a len cap] W fun e w' => e = .returned (.int .i64 (Jo.needF g : Nat)) ∧ w' = W) := fun W hW => rneed_c a len cap g W ((hG.later hW).isG)
  have CC := hid (rcounts_c h)
  have AC : Hid (∀ W, Below w.heap.size w W → Calls Try.prog 45 #[pB j] W fun e w' => e = .returned (.int .i64 (asz N : Nat)) ∧ w' = W) := fun W hW => rarea_c (h.later hW)
  by_cases hz0 : Jo.needF g = 0
  · rw [hz0] at NC
    have HZ := hid hz0
    clear h hG hv hz0 hot
    unfold RRstPost
    generalize (best (vwR L B) 2).2 = t at *
    generalize (best (vwR L B) 2).1 = kk at *
    go_enter Try.func47, Try.ntmps47
    go_wp2_with (first
      | (go_at_call 43; refine CC.out.mono ?_; rintro _ w1 ⟨rfl, hb1⟩; have HB1 := hid hb1; clear hb1)
      | (go_at_call 63; refine (NC.out _ HB1.out).mono ?_; rintro _ w2 ⟨rfl, hw2⟩; rw [hw2]; clear hw2))
    go_ret
    exact .inl ⟨HZ.out, rfl, HB1.out⟩
  · have HZ := hid hz0
    by_cases hsp : asz N < Jo.needF g ∨ (best (vwR L B) 2).2 = 4294967295
    · have HSP := hid hsp
      unfold RRstPost
      obtain ⟨nd, hnd⟩ : ∃ nd, nd = Jo.needF g := ⟨_, rfl⟩
      obtain ⟨y, hy⟩ : ∃ y, y = asz N := ⟨_, rfl⟩
      rw [← hnd] at NC hz0 hsp hnl HZ HSP ⊢
      rw [← hy] at AC hsp HSP ⊢
      generalize (best (vwR L B) 2).2 = t at *
      generalize (best (vwR L B) 2).1 = kk at *
      have e1 : ((nd : Int) == 0) = false := by simp; omega
      clear h hG hv hnd hot
      have hyN : y ≤ 2048 := by omega
      by_cases hlt : y < nd
      · have e2 : (y : Int) < nd := by omega
        clear hy hsp
        go_enter Try.func47, Try.ntmps47
        go_wp2_with (first
          | (go_at_call 43; refine CC.out.mono ?_; rintro _ w1 ⟨rfl, hb1⟩; have HB1 := hid hb1; clear hb1)
          | (go_at_call 63; refine (NC.out _ HB1.out).mono ?_; rintro _ w2 ⟨rfl, hw2⟩; rw [hw2]; clear hw2)
          | (go_at_call 45; refine (AC.out _ HB1.out).mono ?_; rintro _ w3 ⟨rfl, hw3⟩; rw [hw3]; clear hw3))
        go_ret
        exact .inr (.inl ⟨HZ.out, HSP.out, rfl, HB1.out⟩)
      · have e2 : ¬ (y : Int) < nd := by omega
        have ht : t = 4294967295 := by omega
        have HT := hid ht
        clear hy hsp
        rw [ht] at CC
        clear ht
        go_enter Try.func47, Try.ntmps47
        go_wp2_with (first
          | (go_at_call 43; refine CC.out.mono ?_; rintro _ w1 ⟨rfl, hb1⟩; have HB1 := hid hb1; clear hb1)
          | (go_at_call 63; refine (NC.out _ HB1.out).mono ?_; rintro _ w2 ⟨rfl, hw2⟩; rw [hw2]; clear hw2)
          | (go_at_call 45; refine (AC.out _ HB1.out).mono ?_; rintro _ w3 ⟨rfl, hw3⟩; rw [hw3]; clear hw3))
        go_ret
        exact .inr (.inl ⟨HZ.out, HSP.out, rfl, HB1.out⟩)
    · have hfit : Jo.needF g ≤ asz N := by omega
      have htm : (best (vwR L B) 2).2 ≠ 4294967295 := fun e => hsp (.inr e)
      have HFIT := hid hfit
      have HTM := hid htm
      have hok := (Jo.need_pos hz0).1
      have hlaid : (Jo.laid g ((best (vwR L B) 2).2 + 1) 1).length = Jo.needF g := by rw [Jo.laid_len, Jo.need_ok hok]
      have hlsct := laid_sct_of hG hok ((best (vwR L B) 2).2 + 1) 1
      have hn3 : 3 ≤ Jo.needF g := by
        have hp := Jo.need_pos hz0
        have hl4 := (Jo.ok_load hp.1).1
        rw [hp.2]; unfold Jo.secsOf Jo.many; omega
      have LC : Hid (∀ W, Below w.heap.size w W → Calls Try.prog 64 #[.slice a len cap, .int .u32 ((best (vwR L B) 2).2 + 1), .int .u32 1] W fun e w' => ∃ v, e = .returned v ∧ w'.ownsRow W.heap.size 36 32 v (Jo.laid g ((best (vwR L B) 2).2 + 1) 1).length (scells (Jo.laid g ((best (vwR L B) 2).2 + 1) 1)) ∧ Below W.heap.size W w') := fun W hW => rlay_c a len cap g _ _ W (hG.later hW) hok (by omega) (by omega)
      have HA : Hid (setTo (vwR L B) N g = updO (updO (vwR L B) (otSt (vwR L B) N) (Jo.laid g ((best (vwR L B) 2).2 + 1) 1)) (1 - (best (vwR L B) 2).1) [Jo.headS ((best (vwR L B) 2).2 + 1)]) := rfl
      have hOT : otSt (vwR L B) N = 2 + (1 - (best (vwR L B) 2).1) * asz N := rfl
      have HRJ := hid h
      have HZS := hid hz
      have hjr := h.2.1.pair
      unfold RRstPost
      rw [HA.out]
      have hk1 := hbb.1
      have htb := hbb.2
      clear h hG hv hbb hz hok HA hsp
      obtain ⟨ss, hss⟩ : ∃ ss, ss = Jo.laid g ((best (vwR L B) 2).2 + 1) 1 := ⟨_, rfl⟩
      rw [← hss] at hlaid hlsct LC ⊢
      clear hss
      generalize hvv : vwR L B = v at *
      have HVV := hid hvv.symm
      obtain ⟨ot, hote⟩ : ∃ ot, ot = otSt v N := ⟨_, rfl⟩
      rw [← hote] at hot hOT ⊢
      generalize (best v 2).2 = t at *
      generalize (best v 2).1 = kk at *
      obtain ⟨nd, hnd⟩ : ∃ nd, nd = Jo.needF g := ⟨_, rfl⟩
      rw [← hnd] at NC hz0 hfit hnl hlaid hn3 HZ HFIT ⊢
      obtain ⟨ok, hoke⟩ : ∃ ok, ok = 1 - kk := ⟨_, rfl⟩
      rw [← hoke] at hOT ⊢
      obtain ⟨X, hXe⟩ : ∃ X, X = ok * asz N := ⟨_, rfl⟩
      rw [← hXe] at hOT
      obtain ⟨y, hy⟩ : ∃ y, y = asz N := ⟨_, rfl⟩
      rw [← hy] at AC hfit hot haz HFIT hXe ⊢
      have HYE0 := hid hy.symm
      have e1 : ((nd : Int) == 0) = false := by simp; omega
      have e2 : ¬ (y : Int) < nd := by omega
      have e3 : (t == 4294967295) = false := by simpa using htm
      have hyN : y ≤ 2048 := by omega
      have hXb : X ≤ 2048 := by
        have : ok * y ≤ 1 * y := Nat.mul_le_mul_right _ (by omega)
        omega
      have hok1 : IntKind.i64.wrap (1 - (kk : Int)) = (ok : Int) := by rw [IntWalk.i64_in _ (by omega)]; omega
      have hok2 : IntKind.i64.wrap ((ok : Int) * (y : Int)) = (X : Int) := by
        have : (ok : Int) * (y : Int) = X := by rw [hXe]; push_cast; rfl
        rw [this, IntWalk.i64_in _ (by omega)]
      have hok3 : IntKind.i64.wrap (2 + (X : Int)) = (ot : Int) := by rw [IntWalk.i64_in _ (by omega)]; omega
      have hokb : ok ≤ 1 := by omega
      have hut : IntKind.u32.wrap (t + 1) = t + 1 := IntWalk.u32_in _ (by omega)
      clear hvv hnd hoke hXe hy hote hOT
      go_enter Try.func47, Try.ntmps47
      go_wp2_with (first
        | (go_at_call 43; refine CC.out.mono ?_; rintro _ w1 ⟨rfl, hb1⟩; have HB1 := hid hb1; clear hb1)
        | (go_at_call 63; refine (NC.out _ HB1.out).mono ?_; rintro _ w2 ⟨rfl, hw2⟩; rw [hw2]; clear hw2)
        | (go_at_call 45; refine (AC.out _ HB1.out).mono ?_; rintro _ w3 ⟨rfl, hw3⟩; rw [hw3]; clear hw3)
        | (go_at_call 64; refine (LC.out _ HB1.out).mono ?_; rintro _ w5 ⟨rv, rfl, hrow5, hb5⟩; obtain ⟨rg, rc, rfl, hS5, hrc, hgb⟩ := own_isSSR hrow5 hlsct (by omega) (by omega); (have HB5 := hid (HB1.out.trans (hb5.mono HB1.out.size))); (have hrgr : rg ≠ r := by have := HB1.out.size; have := hjr.2.2.2; omega); have HS5 := hid hS5; clear hb5 hrow5 hS5))
      rw [hlaid] at HS5 hrc
      have hcapI : (nd : Int) ≤ rc := by omega
      have HO5 : Hid (Out (fun k => k = r) w w5) := Out.of HB5.out
      have HRJ5 := hid (HRJ.out.later HB5.out)
      clear NC CC AC LC HB1
      go_loopw [12] (fun i wr => ∃ (p : Nat) (Bp : List (Int × Sec)), p ≤ nd ∧ i = .int .i64 p ∧ Hid (IsRJ wr j r N L Bp) ∧ Hid (bufAt Bp = updL (bufAt B) ot (ss.take p)) ∧ Hid (Out (fun k => k = r) w wr) ∧ Hid (IsSS wr (some ⟨rg, 0, none⟩) nd ss)) (fun i _ => (nd - intOf i).toNat)
      case atStart => exact ⟨0, B, by omega, rfl, HRJ5, by show _ = _; rw [List.take_zero, updL_nil], HO5, HS5⟩
      case round =>
        obtain ⟨p, Bp, hp, rfl, HJ, HBF, HO, HS⟩ := hrel
        by_cases hlt : p < nd
        · have hltI : (p : Int) < (nd : Int) := by omega
          obtain ⟨hrng, hsct⟩ := HS.out.at p (by omega)
          have hs32 := hsct.1
          have HTK := hid (updL_take (c := bufAt B) (st := ot) (ss := ss) (k := p) (by omega))
          generalize ss.getD p [] = s at *
          have hr0 : wr.drew.rangeAt rg (p * 32) (s.map by8) := by
            have : wr.rangeAt rg (0 + p * 32) (s.map by8) := hrng
            rw [Nat.zero_add] at this; exact this
          have c0 : wr.drew.cell? ⟨j, 0, none⟩ = some (pD r) := HJ.out.cell
          have HJD : Hid (IsRJ wr.drew j r N L Bp) := HJ.out
          have AR := hid (rarea_c HJD.out)
          have WC := hid (rwrite_c HJD.out.2.1 ((ot : Int) + p) s (sct_sec hsct) (by omega) (by omega))
          have HPR := hid (HJ.out.2.1.pair).1
          have HWP := hid (IntWalk.i64_in ((ot : Int) + p) (by omega))
          have hsz : (Try.prog.info? 36).map (·.size) = some (s.map by8).length := by rw [List.length_map, hs32]; exact sizeR
          have hun := Try.underlying36
          have hrl : rg < wr.heap.size := lt_rng hrng (by omega)
          have HYE : Hid (asz N = y) := HYE0.out
          rw [HYE.out] at AR
          clear hrng hsct
          unfold secV at WC
          go_wp2_with fail
          go_region_held3 (fun w' => w'.cell? ⟨j, 0, none⟩ = some (pD r) ∧ w'.rangeAt rg (p * 32) (s.map by8)) (first | (with_reducible exact ⟨CK6, RK6⟩) | (with_reducible exact ⟨c0, hr0⟩) | go_keep)
            (first
              | (go_at_call 45; refine AR.out.mono ?_; rintro _ w3 ⟨rfl, hw3⟩; rw [hw3]; clear hw3)
              | (go_at_call 7; (try rw [HWP.out]); refine WC.out.mono ?_; rintro _ w6 ⟨rfl, hR6, ho6⟩; (have HJ6 := hid (HJD.out.next hR6 ho6)); (have CK6 := HJ6.out.cell); (have RK6 : w6.rangeAt rg (p * 32) (s.map by8) := fun q x hx => by (rw [World.cell?_of_block (a := ⟨rg, p * 32 + q, none⟩) (ho6.block rg (by simpa using hrl) hrgr)]; exact hr0 q x hx)); have HO6 := hid ho6; clear hR6 ho6))
          go_wp2
          go_roundw
          case rel => exact ⟨p + 1, ins ((ot : Int) + p) s Bp, by omega, by go_num, HJ6, by show _ = _; rw [buf_ins HPR.out, HBF.out, ← HTK.out]; push_cast; rfl, HO.out.drew.trans HO6.out, HS.out.blk (HO6.out.block rg (by simpa using hrl) hrgr)⟩
          case measure => simp [intOf]; omega
        · have ep : p = nd := by omega
          have hge : ¬ (p : Int) < (nd : Int) := by omega
          have hpr := HJ.out.2.1.pair
          rw [ep, List.take_of_length_le (by omega)] at HBF
          have HOU := fun all ks k hk => hid (out_upd (L := L) (B := B) (N := N) all ks hpr.1 hpr.2.1 hpr.2.2.1 HBF.out k hk)
          have HOU := hid HOU
          clear hpr
          by_cases h0 : st = 0
          · subst h0
            have PC := hid (rpause_t HJ.out z zl zc zs (HZS.out wr HO.out))
            go_wp2_with (go_at_call 65; refine PC.out.mono ?_; rintro _ w7 ⟨rfl, hJ7, ho7⟩)
            go_ret
            refine .inr (.inr ⟨HZ.out, HFIT.out, HTM.out, rfl, ⟨_, hJ7, fun k hk => ?_⟩, HO.out.trans ho7⟩)
            rw [left_zero, (HOU.out false zs k hk).out, HVV.out]
            simp
          · have PC := hid (rpause_f HJ.out z zl zc)
            have e0 : (st == 0) = false := by simpa using h0
            go_wp2_with fail
            refine PC.out.mono ?_
            rintro _ w7 ⟨rfl, hJ7, ho7⟩
            have HL1 : Hid (∀ k : Nat, k < N → (outL true [] Bp L).getD k zsec = updO v ot ss (k : Int)) := fun k hk => by
              rw [(HOU.out true [] k hk).out, HVV.out]; simp
            have hll := hJ7.2.1.pair.2.2.1
            generalize outL true [] Bp L = L1 at *
            have HO7 := hid (HO.out.trans ho7)
            have HJ7 := hid hJ7
            clear hJ7 ho7 PC HS HJ HO HOU HBF
            have HOL := fun all ks k hk => hid (out_one (f := updO v ot ss) (N := N) (q := ok) (s := Jo.headS (t + 1)) all ks hll HL1.out k hk)
            have HOL := hid HOL
            have c0 : w7.drew.cell? ⟨j, 0, none⟩ = some (pD r) := HJ7.out.cell
            have HJD : Hid (IsRJ w7.drew j r N L1 []) := HJ7.out
            have HC := hid (rhead_c (t + 1) w7.drew (by omega))
            have hhs := sct_sec (Jo.head_sct (t + 1))
            have HHS := hid hhs
            clear hhs
            go_wp2_with fail
            go_region_held3 (fun w' => w'.cell? ⟨j, 0, none⟩ = some (pD r)) (first | (with_reducible exact CK9) | (with_reducible exact CK8) | (with_reducible exact c0) | go_keep)
              (first
                | (go_at_call 61; refine HC.out.mono ?_; rintro _ w8 ⟨rfl, hb8⟩; (have HJ8 := hid (HJD.out.later hb8)); (have CK8 := HJ8.out.cell); (have WC := hid (rwrite_c HJ8.out.2.1 (ok : Int) (Jo.headS (t + 1)) HHS.out (by omega) (by omega))); have HO8 := hid (Out.of (S := fun k => k = r) hb8); clear hb8)
                | (go_at_call 7; refine WC.out.mono ?_; rintro _ w9 ⟨rfl, hR9, ho9⟩; (have HJ9 := hid (HJ8.out.next hR9 ho9)); (have CK9 := HJ9.out.cell); have HO9 := hid (HO8.out.trans ho9); clear hR9 ho9))
            by_cases h1 : st = 1
            · subst h1
              have PC := hid (rpause_t HJ9.out z zl zc zs (HZS.out w9 (HO7.out.drew.trans HO9.out)))
              go_wp2_with (go_at_call 65; refine PC.out.mono ?_; rintro _ w10 ⟨rfl, hJ10, ho10⟩)
              go_ret
              refine .inr (.inr ⟨HZ.out, HFIT.out, HTM.out, rfl, ⟨_, hJ10, fun k hk => ?_⟩, (HO7.out.drew.trans HO9.out).trans ho10⟩)
              rw [left_one, (HOL.out false zs k hk).out]
              simp
            · have PC := hid (rpause_f HJ9.out z zl zc)
              have e5 : (st == 1) = false := by simpa using h1
              go_wp2_with (go_at_call 65; refine PC.out.mono ?_; rintro _ w10 ⟨rfl, hJ10, ho10⟩)
              go_ret
              refine .inr (.inr ⟨HZ.out, HFIT.out, HTM.out, rfl, ⟨_, hJ10, fun k hk => ?_⟩, (HO7.out.drew.trans HO9.out).trans ho10⟩)
              rw [left_none h0 h1, (HOL.out true [] k hk).out]
              simp
end Go.Proofs.Ytfmkgflhgapeoab
namespace Go.Proofs.Ytfmkgflhgapeoab
open Go.RowKit Go.ChangeShapes Go.WideShapes Go.ChangeAt Go.Maps
set_option linter.unusedVariables false
set_option linter.unusedSimpArgs false
set_option maxHeartbeats 400000 in
theorem rAppend_c {w : World} {j r N : Nat} {L : List Sec} {B : List (Int × Sec)} (h : IsRJ w j r N L B) (a : Option Addr) (len cap : Nat) (g : Jo.Gr) (hG : IsG0 w a len g) :
    Calls Try.prog 31 #[pB j, .slice a len cap] w (RAppPost j r N L B g (-1) [] w) := by
  have AC := hid (rappend_c h a len cap g hG (-1) (by omega) none 0 0 [] (fun W _ => isZ_none W))
  clear h hG
  go_enter Try.func31, Try.ntmps31
  go_wp2_with fail
  refine AC.out.mono ?_
  intro e w1 hP
  have hv : ∃ n, e = .returned (.int .i64 n) := by rcases hP with ⟨_, he, _⟩ | ⟨_, _, he, _⟩ | ⟨_, _, he, _⟩ <;> exact ⟨_, he⟩
  obtain ⟨n, rfl⟩ := hv
  go_wp2
  go_ret
  exact hP
set_option maxHeartbeats 400000 in
theorem rReset_c {w : World} {j r N : Nat} {L : List Sec} {B : List (Int × Sec)} (h : IsRJ w j r N L B) (a : Option Addr) (len cap : Nat) (g : Jo.Gr) (hG : IsG0 w a len g) :
    Calls Try.prog 32 #[pB j, .slice a len cap] w (RRstPost j r N L B g (-1) [] w) := by
  have AC := hid (rreset_c h a len cap g hG (-1) (by omega) none 0 0 [] (fun W _ => isZ_none W))
  clear h hG
  go_enter Try.func32, Try.ntmps32
  go_wp2_with fail
  refine AC.out.mono ?_
  intro e w1 hP
  have hv : ∃ n, e = .returned (.int .i64 n) := by rcases hP with ⟨_, he, _⟩ | ⟨_, _, he, _⟩ | ⟨_, _, _, he, _⟩ <;> exact ⟨_, he⟩
  obtain ⟨n, rfl⟩ := hv
  go_wp2
  go_ret
  exact hP
set_option maxHeartbeats 400000 in
theorem rTorn_step (j : Nat) (rs : Bool) (st : Int) (a z : Option Addr) (len cap zl zc : Nat) (w : World) (h0 : st ≠ 0) (h1 : st ≠ 1) : Calls Try.prog 34 #[pB j, .slice a len cap, .bool rs, .int .i64 st, .slice z zl zc] w fun e w' => e = .returned (.int .i64 2) ∧ w' = w := by
  have e0 : (st != 0) = true := by simpa using h0
  have e1 : (st != 1) = true := by simpa using h1
  have e2 : (st == 0) = false := by simpa using h0
  have e3 : (st == 1) = false := by simpa using h1
  go_enter Try.func34, Try.ntmps34
  go_wp2
  go_ret
  exact ⟨rfl, rfl⟩
set_option maxHeartbeats 1000000 in
theorem rTorn_a {w : World} {j r N : Nat} {L : List Sec} {B : List (Int × Sec)} (h : IsRJ w j r N L B) (a : Option Addr) (len cap : Nat) (g : Jo.Gr) (hG : IsG0 w a len g) (st : Int) (hst : st = 0 ∨ st = 1) (z : Option Addr) (zl zc : Nat) (zs : List Int) (hz : ∀ W, Out (fun k => k = r) w W → IsZ W z zl zs) :
    Calls Try.prog 34 #[pB j, .slice a len cap, .bool false, .int .i64 st, .slice z zl zc] w (RAppPost j r N L B g st zs w) := by
  have AC := hid (rappend_c h a len cap g hG st (by omega) z zl zc zs hz)
  clear h hG hz
  have key : ∀ e w1, RAppPost j r N L B g st zs w e w1 → ∃ n, e = .returned (.int .i64 n) := fun e w1 hP => by rcases hP with ⟨_, he, _⟩ | ⟨_, _, he, _⟩ | ⟨_, _, he, _⟩ <;> exact ⟨_, he⟩
  have HK := hid key
  clear key
  rcases hst with rfl | rfl
  · go_enter Try.func34, Try.ntmps34
    go_wp2_with fail
    refine AC.out.mono ?_
    intro e w1 hP
    obtain ⟨n, rfl⟩ := HK.out e w1 hP
    go_wp2
    go_ret
    exact hP
  · go_enter Try.func34, Try.ntmps34
    go_wp2_with fail
    refine AC.out.mono ?_
    intro e w1 hP
    obtain ⟨n, rfl⟩ := HK.out e w1 hP
    go_wp2
    go_ret
    exact hP
set_option maxHeartbeats 1000000 in
theorem rTorn_r {w : World} {j r N : Nat} {L : List Sec} {B : List (Int × Sec)} (h : IsRJ w j r N L B) (a : Option Addr) (len cap : Nat) (g : Jo.Gr) (hG : IsG0 w a len g) (st : Int) (hst : st = 0 ∨ st = 1) (z : Option Addr) (zl zc : Nat) (zs : List Int) (hz : ∀ W, Out (fun k => k = r) w W → IsZ W z zl zs) :
    Calls Try.prog 34 #[pB j, .slice a len cap, .bool true, .int .i64 st, .slice z zl zc] w (RRstPost j r N L B g st zs w) := by
  have AC := hid (rreset_c h a len cap g hG st (by omega) z zl zc zs hz)
  clear h hG hz
  have key : ∀ e w1, RRstPost j r N L B g st zs w e w1 → ∃ n, e = .returned (.int .i64 n) := fun e w1 hP => by rcases hP with ⟨_, he, _⟩ | ⟨_, _, he, _⟩ | ⟨_, _, _, he, _⟩ <;> exact ⟨_, he⟩
  have HK := hid key
  clear key
  rcases hst with rfl | rfl
  · go_enter Try.func34, Try.ntmps34
    go_wp2_with fail
    refine AC.out.mono ?_
    intro e w1 hP
    obtain ⟨n, rfl⟩ := HK.out e w1 hP
    go_wp2
    go_ret
    exact hP
  · go_enter Try.func34, Try.ntmps34
    go_wp2_with fail
    refine AC.out.mono ?_
    intro e w1 hP
    obtain ⟨n, rfl⟩ := HK.out e w1 hP
    go_wp2
    go_ret
    exact hP
end Go.Proofs.Ytfmkgflhgapeoab
