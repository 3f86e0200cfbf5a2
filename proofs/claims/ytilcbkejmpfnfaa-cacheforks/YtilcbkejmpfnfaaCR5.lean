/-
  The document's Drop, Mark, Hoard of caches; append of rows of items.
-/
import Derived.Test.YtilcbkejmpfnfaaCR4
import Derived.Laws.AppendOwnNone
namespace Go.Proofs.Ytilcbkejmpfnfaa
open Go.RowKit Go.ChangeShapes Go.WideShapes Go.ChangeAt Go.Maps Go.Shelf
set_option linter.unusedVariables false
set_option linter.unusedSimpArgs false
set_option maxRecDepth 100000
set_option maxHeartbeats 1000000 in
theorem rctouch_no {w : World} {g : Nat} {vl vh : Value} {r : Rc} (h : IsRc w g vl vh r) (hm : r.L.length ≤ 900) {f : Int} (ea : r.at f = -1) :
    Calls Try.prog 47 #[pA g, .int .u32 f] w fun e w' => e = .returned (.bool false) ∧ w' = w := by
  have AC := hid (rcat_c h (by omega) f)
  rw [ea] at AC
  clear h ea
  go_enter Try.func47, Try.ntmps47
  go_wp2_with (go_at_call 52; refine AC.out.mono ?_; rintro _ w1 ⟨rfl, h1⟩; rw [h1]; clear h1)
  go_ret
  exact ⟨rfl, rfl⟩
set_option maxHeartbeats 1000000 in
theorem rcdrop_no {w : World} {g : Nat} {vl vh : Value} {r : Rc} (h : IsRc w g vl vh r) (hm : r.L.length ≤ 900) {f : Int} (ea : r.at f = -1) :
    Calls Try.prog 48 #[pA g, .int .u32 f] w fun e w' => e = .returned (.int .i64 5) ∧ w' = w := by
  have AC := hid (rcat_c h (by omega) f)
  rw [ea] at AC
  clear h ea
  go_enter Try.func48, Try.ntmps48
  go_wp2_with (go_at_call 52; refine AC.out.mono ?_; rintro _ w1 ⟨rfl, h1⟩; rw [h1]; clear h1)
  go_ret
  exact ⟨rfl, rfl⟩
set_option maxHeartbeats 1000000 in
theorem rcdrop_busy {w : World} {g : Nat} {vl vh : Value} {r : Rc} (h : IsRc w g vl vh r) (hm : r.L.length ≤ 900) {f : Int} {i : Nat} (ea : r.at f = (i : Int)) (hi : i < r.L.length) (hd : r.dty i = true) :
    Calls Try.prog 48 #[pA g, .int .u32 f] w fun e w' => e = .returned (.int .i64 13) ∧ w' = w := by
  have AC := hid (rcat_c h (by omega) f)
  rw [ea] at AC
  obtain ⟨c0, c1, c2, cf, cl⟩ := h.cells
  obtain ⟨gl, o, cap, rfl, hc⟩ := h.rowL (by omega)
  obtain ⟨k0, k1⟩ := hc i hi
  rw [hd] at k1
  have hiI : (i : Int) < (r.L.length : Int) := by omega
  have hi0 : ¬ (i : Int) < 0 := by omega
  have hid0 : decide ((i : Int) < 0) = false := decide_eq_false hi0
  clear h ea hc cf
  generalize r.L.length = n at *
  go_enter Try.func48, Try.ntmps48
  go_wp2_with (go_at_call 52; refine AC.out.mono ?_; rintro _ w1 ⟨rfl, h1⟩; rw [h1]; clear h1)
  go_ret
  exact ⟨rfl, rfl⟩
set_option maxHeartbeats 2000000 in
theorem rcdrop_ok {w : World} {g : Nat} {vl vh : Value} {r : Rc} (h : IsRc w g vl vh r) (hm : r.L.length ≤ 900) {f : Int} {i : Nat} (ea : r.at f = (i : Int)) (hi : i < r.L.length) (hd : r.dty i = false) :
    Calls Try.prog 48 #[pA g, .int .u32 f] w fun e w' => e = .returned (.int .i64 0) ∧ TurnR w w' g vl vh ⟨r.most, r.L.eraseIdx i, r.H⟩ := by
  have AC := hid (rcat_c h (by omega) f)
  have WC := hid (rcwithout_c h (by omega) hi)
  have H := hid h
  rw [ea] at AC
  obtain ⟨c0, c1, c2, cf, cl⟩ := h.cells
  obtain ⟨gl, o, cap, rfl, hc⟩ := h.rowL (by omega)
  obtain ⟨k0, k1⟩ := hc i hi
  rw [hd] at k1
  have hiI : (i : Int) < (r.L.length : Int) := by omega
  have hi0 : ¬ (i : Int) < 0 := by omega
  have hid0 : decide ((i : Int) < 0) = false := decide_eq_false hi0
  clear h ea hc cf
  generalize r.L.length = n at *
  go_enter Try.func48, Try.ntmps48
  go_wp2_with (first
    | (go_at_call 62; refine WC.out.mono ?_; rintro _ w2 ⟨v2, rfl, ho2, hb2⟩; (have O2 := hid ho2); (have B2 := hid hb2); (obtain ⟨e0, e1, e2, ef, el⟩ := (H.out.later hb2).cells); (have f2 := ef 1); (obtain ⟨a2, n2, p2, rfl⟩ := own_anyC ho2); clear ho2 hb2 ef)
    | (go_at_call 52; refine AC.out.mono ?_; rintro _ w1 ⟨rfl, h1⟩; rw [h1]; clear h1)
    | fail)
  go_ret
  exact ⟨rfl, TurnR.rowL H.out B2.out O2.out⟩
theorem mark_flat : ∀ (L : List (Int × Bool)) (i : Nat) (hi : i < L.length) (d : Bool), (L.flatMap itC).set (i * 2 + 1) (.bool d) = (L.set i (L[i].1, d)).flatMap itC
  | [], i, hi, d => by simp at hi
  | p :: L, 0, hi, d => rfl
  | p :: L, i + 1, hi, d => by
    have h := mark_flat L i (by simpa using hi) d
    have e : (i + 1) * 2 + 1 = (i * 2 + 1) + 1 + 1 := by omega
    rw [List.flatMap_cons, e]
    show (Value.int .u32 p.1 :: .bool p.2 :: (L.flatMap itC)).set (i * 2 + 1 + 1 + 1) (.bool d) = _
    rw [List.set_cons_succ, List.set_cons_succ, h]
    rfl
theorem take_set_lt (l : List Value) (k n : Nat) (v : Value) : (l.set k v).take n = (l.take n).set k v := by
  rw [List.take_set]
theorem OwI.mark {w : World} {base gl o n cap : Nat} {L : List (Int × Bool)} (h : OwI w base (.slice (some ⟨gl, o, none⟩) n cap) L) {i : Nat} (hi : i < L.length) (d : Bool) : OwI (w.setCell ⟨gl, o + i * 2 + 1, none⟩ (.bool d)) base (.slice (some ⟨gl, o, none⟩) n cap) (L.set i (L[i].1, d)) := by
  rcases h.2 with ⟨e, _⟩ | ⟨g, cap', cur, e, hb, hg, hn, hc, hs, ht⟩
  · cases e
  · cases e
    refine ⟨by rw [twoC_len (fun _ => rfl)], .inr ⟨gl, cap, cur.setIfInBounds (0 + i * 2 + 1) (.bool d), by simp, hb, row_set _ _ hg, by simpa using hn, hc, by simpa using hs, ?_⟩⟩
    rw [List.length_set, Array.toList_setIfInBounds, take_set_lt, ht, Nat.zero_add]
    exact mark_flat L i hi d
set_option maxHeartbeats 1000000 in
theorem rcmark_no {w : World} {g : Nat} {vl vh : Value} {r : Rc} (h : IsRc w g vl vh r) (hm : r.L.length ≤ 900) {f : Int} (ea : r.at f = -1) (d : Bool) :
    Calls Try.prog 49 #[pA g, .int .u32 f, .bool d] w fun e w' => e = .returned (.int .i64 5) ∧ w' = w := by
  have AC := hid (rcat_c h (by omega) f)
  rw [ea] at AC
  clear h ea
  go_enter Try.func49, Try.ntmps49
  go_wp2_with (go_at_call 52; refine AC.out.mono ?_; rintro _ w1 ⟨rfl, h1⟩; rw [h1]; clear h1)
  go_ret
  exact ⟨rfl, rfl⟩
set_option maxHeartbeats 2000000 in
theorem rcmark_ok {w : World} {g : Nat} {vl vh : Value} {r : Rc} (h : IsRc w g vl vh r) (hm : r.L.length ≤ 900) {f : Int} {i : Nat} (ea : r.at f = (i : Int)) (hi : i < r.L.length) (d : Bool) :
    Calls Try.prog 49 #[pA g, .int .u32 f, .bool d] w fun e w' => e = .returned (.int .i64 0) ∧ TurnR w w' g vl vh ⟨r.most, r.L.set i (r.fid i, d), r.H⟩ := by
  have AC := hid (rcat_c h (by omega) f)
  rw [ea] at AC
  obtain ⟨c0, c1, c2, cf, cl⟩ := h.cells
  obtain ⟨gl, o, cap, rfl, hc⟩ := h.rowL (by omega)
  obtain ⟨k0, k1⟩ := hc i hi
  have FZ : w.frozen? ⟨gl, o + i * 2 + 1, none⟩ = false := by
    rcases h.2.1.2 with ⟨e, _⟩ | ⟨g', cap', cur, e, _, hg, _⟩
    · cases e
    · cases e; simp [World.frozen?, hg]
  have FIN : Hid (TurnR w (w.setCell ⟨gl, o + i * 2 + 1, none⟩ (.bool d)) g (.slice (some ⟨gl, o, none⟩) r.L.length cap) vh ⟨r.most, r.L.set i (r.fid i, d), r.H⟩) := hid (by
    have ho : Ou (fun k => k = gl) w (w.setCell ⟨gl, o + i * 2 + 1, none⟩ (.bool d)) := (Ou.refl _ _).set rfl
    refine ⟨_, vh, ⟨?_, ?_, ?_⟩, ho.mono (fun k e => .inr (.inl (by rw [e]; rfl))), fun k hk => .inl hk⟩
    · rw [ho.block g cl (fun e => h.notg.1 gl rfl e.symm)]; exact h.1
    · rw [Rc.fid_eq hi]; exact OwI.mark h.2.1 hi d
    · exact own_outC h.2.2 ho (fun k hk e => own_types h.2.2 h.2.1 (by decide) hk (by rw [e]; rfl)))
  have hiI : (i : Int) < (r.L.length : Int) := by omega
  have hi0 : ¬ (i : Int) < 0 := by omega
  have hid0 : decide ((i : Int) < 0) = false := decide_eq_false hi0
  clear h ea hc cf
  generalize r.L.length = n at *
  generalize r.dty i = dm at *
  go_enter Try.func49, Try.ntmps49
  go_wp2_with (go_at_call 52; refine AC.out.mono ?_; rintro _ w1 ⟨rfl, h1⟩; rw [h1]; clear h1)
  go_ret
  exact ⟨rfl, FIN.out⟩
def Rc.hoardE (r : Rc) (i n : Int) : Int := if i = 0 ∨ n < 0 ∨ 100 < n then 2 else if n ≠ 0 ∧ r.dear i = 0 ∧ 8 ≤ r.H.length then 4 else 0
set_option maxHeartbeats 1000000 in
theorem rchoard_r0 {w : World} {g : Nat} {vl vh : Value} {r : Rc} (h : IsRc w g vl vh r) {f n : Int} (q : f = 0) :
    Calls Try.prog 51 #[pA g, .int .u32 f, .int .i64 n] w fun e w' => e = .returned (.int .i64 2) ∧ w' = w := by
  have q1 : (f == 0) = true := by simp [q]
  clear h
  go_enter Try.func51, Try.ntmps51
  go_wp2
  go_ret
  exact ⟨rfl, rfl⟩
set_option maxHeartbeats 1000000 in
theorem rchoard_r1 {w : World} {g : Nat} {vl vh : Value} {r : Rc} (h : IsRc w g vl vh r) {f n : Int} (q0 : f ≠ 0) (q : n < 0) :
    Calls Try.prog 51 #[pA g, .int .u32 f, .int .i64 n] w fun e w' => e = .returned (.int .i64 2) ∧ w' = w := by
  have q1 : (f == 0) = false := by simp [q0]
  have q2 : decide (n < 0) = true := decide_eq_true q
  clear h
  go_enter Try.func51, Try.ntmps51
  go_wp2
  go_ret
  exact ⟨rfl, rfl⟩
set_option maxHeartbeats 1000000 in
theorem rchoard_r2 {w : World} {g : Nat} {vl vh : Value} {r : Rc} (h : IsRc w g vl vh r) {f n : Int} (q0 : f ≠ 0) (q : 100 < n) :
    Calls Try.prog 51 #[pA g, .int .u32 f, .int .i64 n] w fun e w' => e = .returned (.int .i64 2) ∧ w' = w := by
  have q1 : (f == 0) = false := by simp [q0]
  have q2 : decide (n < 0) = false := decide_eq_false (by omega)
  have q4 : ¬ n < 0 := by omega
  have q3 : decide (100 < n) = true := decide_eq_true q
  clear h
  go_enter Try.func51, Try.ntmps51
  go_wp2
  go_ret
  exact ⟨rfl, rfl⟩
set_option maxHeartbeats 1000000 in
theorem rchoard_full {w : World} {g : Nat} {vl vh : Value} {r : Rc} (h : IsRc w g vl vh r) (hm : r.H.length ≤ 900) {f n : Int} (q0 : f ≠ 0) (n0 : 1 ≤ n) (n1 : n ≤ 100) (hd : r.dear f = 0) (hf : 8 ≤ r.H.length) :
    Calls Try.prog 51 #[pA g, .int .u32 f, .int .i64 n] w fun e w' => e = .returned (.int .i64 4) ∧ w' = w := by
  have DC := hid (rcdear_c h (by omega) f)
  rw [hd] at DC
  have q1 : (f == 0) = false := by simp [q0]
  have q2 : decide (n < 0) = false := decide_eq_false (by omega)
  have q4 : ¬ n < 0 := by omega
  have q3 : decide (100 < n) = false := decide_eq_false (by omega)
  have q5 : ¬ 100 < n := by omega
  have q6 : (n != 0) = true := by simp; omega
  have q7 : n ≠ 0 := by omega
  obtain ⟨c0, c1, c2, cf, cl⟩ := h.cells
  obtain ⟨a, cap, rfl, hcap⟩ := own_shapeC h.2.2
  have hg8 : (8 : Int) ≤ (r.H.length : Int) := by omega
  have hg9 : decide ((r.H.length : Int) ≥ 8) = true := decide_eq_true hg8
  clear h cf hd
  generalize r.H.length = m at *
  go_enter Try.func51, Try.ntmps51
  go_wp2_with (go_at_call 29; refine DC.out.mono ?_; rintro _ w1 ⟨rfl, h1⟩; rw [h1]; clear h1)
  go_ret
  exact ⟨rfl, rfl⟩
theorem filH_step (x : Int) (H : List (Int × Int)) {m : Nat} (h : m < H.length) : filH x (H.take (m + 1)) = if H[m].1 = x then filH x (H.take m) else filH x (H.take m) ++ [H[m]] := by
  rw [take_snocC H h]
  unfold filH
  rw [List.filter_append]
  by_cases q : H[m].1 = x
  · rw [if_pos q]; simp [q]
  · rw [if_neg q]; simp [q]
theorem filH_le {x : Int} {L : List (Int × Int)} : (filH x L).length ≤ L.length := List.length_filter_le _ _
set_option maxHeartbeats 4000000 in
theorem rchoard_zero {w : World} {g : Nat} {vl vh : Value} {r : Rc} (h : IsRc w g vl vh r) (hm : r.H.length ≤ 900) {f n : Int} (q0 : f ≠ 0) (qn : n = 0) :
    Calls Try.prog 51 #[pA g, .int .u32 f, .int .i64 n] w fun e w' => e = .returned (.int .i64 0) ∧ TurnR w w' g vl vh (r.hoardS f n) := by
  have q1 : (f == 0) = false := by simp [q0]
  have q2 : decide (n < 0) = false := decide_eq_false (by omega)
  have q4 : ¬ n < 0 := by omega
  have q3 : decide (100 < n) = false := decide_eq_false (by omega)
  have q5 : ¬ 100 < n := by omega
  have q6 : (n != 0) = false := by simp [qn]
  have EH : Hid (r.hoardS f n = ⟨r.most, r.L, filH f r.H⟩) := hid (by unfold Rc.hoardS; rw [if_pos qn, List.append_nil])
  have EH0 : Hid (r.hoardS f 0 = ⟨r.most, r.L, filH f r.H⟩) := hid (by unfold Rc.hoardS; rw [if_pos rfl, List.append_nil])
  have H := hid h
  have L2 : Hid (∀ W, Below w.heap.size w W → IsRc W g vl vh r) := hid (fun W hb => h.later hb)
  obtain ⟨c0, c1, c2, cf, cl⟩ := h.cells
  obtain ⟨a, cap, e, hcap⟩ := own_shapeC h.2.2
  subst e
  have STP : Hid (∀ m, m < r.H.length → filH f (r.H.take (m + 1)) = if r.hf m = f then filH f (r.H.take m) else filH f (r.H.take m) ++ [(r.hf m, r.hn m)]) := hid (fun m hm => by rw [filH_step f r.H hm, (Rc.hf_eq hm).1, (Rc.hf_eq hm).2])
  have FIN : Hid (filH f (r.H.take r.H.length) = filH f r.H) := hid (by rw [List.take_length])
  have LE : Hid (∀ m, (filH f (r.H.take m)).length ≤ 900) := hid (fun m => by
    have h1 := filH_le (x := f) (L := r.H.take m)
    have h2 := List.length_take_le' m r.H
    omega)
  obtain ⟨i0, hi0, hz0, hz1, hz2⟩ := info_dear
  obtain ⟨N, hN⟩ : ∃ N, N = r.H.length := ⟨_, rfl⟩
  have C2 : ∀ W, Below w.heap.size w W → W.cell? ⟨g, 2, none⟩ = some (.slice a N cap) := fun W hb => by have := (L2.out W hb).cells.2.2.1; rw [hN]; exact this
  have HN := hid hN
  rw [← hN] at hm hcap STP FIN c2
  clear h cf hN
  go_enter Try.func51, Try.ntmps51
  go_wp2
  go_loopg [7, 8] N (fun gk v j wr => ∃ m : Nat, m + gk = N ∧ j = .int .i64 m ∧ Hid (OwD wr w.heap.size v (filH f (r.H.take m))) ∧ Hid (Below w.heap.size w wr))
  case atStart => exact ⟨0, by omega, rfl, hid (World.ownsRow_nil _ _ _ _), hid (Below.refl _ _)⟩
  case round =>
    obtain ⟨m, hm2, rfl, HO, HB⟩ := hrel
    obtain ⟨va, vn, vc, rfl⟩ := own_anyC HO.out
    have k9 := C2 wr HB.out
    by_cases hlt : m < N
    · have hltI : (m : Int) < N := by omega
      obtain ⟨gl, o, cap', e, hc⟩ := (L2.out wr HB.out).rowH (by rw [← HN.out]; omega)
      rw [← HN.out] at e
      cases e
      obtain ⟨k0, k1⟩ := hc m (by rw [← HN.out]; exact hlt)
      by_cases q : r.hf m = f
      · have q9 : (r.hf m != f) = false := by simp [q]
        have HO2 : Hid (OwD wr w.heap.size (.slice va vn vc) (filH f (r.H.take (m + 1)))) := hid (by rw [STP.out m hlt, if_pos q]; exact HO.out)
        clear hc HO
        generalize r.hf m = fm at *
        generalize r.hn m = nm at *
        go_wp2
        go_roundg (gk - 1)
        case measure => omega
        case rel => exact ⟨m + 1, by omega, by go_num, HO2, HB⟩
      · have q9 : (r.hf m != f) = true := by simp [q]
        have HS : Hid (filH f (r.H.take (m + 1)) = filH f (r.H.take m) ++ [(r.hf m, r.hn m)]) := hid (by rw [STP.out m hlt, if_neg q])
        have hlen := LE.out m
        clear hc
        generalize r.hf m = fm at *
        generalize r.hn m = nm at *
        have b1 : Below wr.heap.size wr (wr.alloc (.cells #[.int .u32 fm, .int .i64 nm] 80)) := (Below.refl _ _).alloc (Nat.le_refl _) _
        have O1 := hid (own_latC HO.out b1)
        have B1 := hid (HB.out.trans (b1.mono HB.out.size))
        have N1 := hid (heap_alloc_new wr (.cells #[.int .u32 fm, .int .i64 nm] 80))
        clear b1
        go_wp2_with (at_builtin; refine wpList_append_own _ rfl _ _ 73 rfl w.heap.size 80 i0 (.agg #[.int .u32 0, .int .i64 0]) 2 16 Try.underlying73 hi0 hz0 hz1 hz2 (by rfl) (by decide) _ _ _ rfl O1.out ⟨wr.heap.size, 0, none⟩ 1 1 (dnC (fm, nm)) rfl rfl (two_news N1.out) (dnC_one (fm, nm)) (by unfold maxLen; omega) (by omega) B1.out.size ?_; intro v9 w9 hown9 hgrow9 hnil9)
        have HB9 := hid (below_grownC B1.out O1.out (Nat.le_refl _) B1.out.size hgrow9)
        have HO9 : Hid (OwD w9 w.heap.size v9 (filH f (r.H.take (m + 1)))) := hid (by
          unfold OwD
          rw [HS.out, List.flatMap_append, List.length_append]
          simpa using hown9)
        obtain ⟨a9, n9, c9, rfl⟩ := own_anyC hown9
        clear hown9 hgrow9 hnil9
        go_roundg (gk - 1)
        case measure => omega
        case rel => exact ⟨m + 1, by omega, by go_num, HO9, HB9⟩
    · have em : m = N := by omega
      subst em
      have hge : ¬ (m : Int) < m := by omega
      rw [FIN.out] at HO
      have hlen : (filH f r.H).length ≤ 900 := by have := LE.out m; rwa [FIN.out] at this
      obtain ⟨e0, e1, e2, ef, el⟩ := (L2.out wr HB.out).cells
      have f2 := ef 2
      clear ef
      go_wp2
      go_ret
      exact ⟨rfl, by have := TurnR.rowH H.out HB.out HO.out; first | (rw [EH.out]; exact this) | (rw [EH0.out]; exact this)⟩
set_option maxHeartbeats 4000000 in
theorem rchoard_more {w : World} {g : Nat} {vl vh : Value} {r : Rc} (h : IsRc w g vl vh r) (hm : r.H.length ≤ 900) {f n : Int} (q0 : f ≠ 0) (n0 : 1 ≤ n) (n1 : n ≤ 100) (hd : r.dear f ≠ 0) :
    Calls Try.prog 51 #[pA g, .int .u32 f, .int .i64 n] w fun e w' => e = .returned (.int .i64 0) ∧ TurnR w w' g vl vh (r.hoardS f n) := by
  have q1 : (f == 0) = false := by simp [q0]
  have q2 : decide (n < 0) = false := decide_eq_false (by omega)
  have q4 : ¬ n < 0 := by omega
  have q3 : decide (100 < n) = false := decide_eq_false (by omega)
  have q5 : ¬ 100 < n := by omega
  have q6 : (n != 0) = true := by simp; omega
  have q7 : n ≠ 0 := by omega
  have EH : Hid (r.hoardS f n = ⟨r.most, r.L, filH f r.H ++ [(f, n)]⟩) := hid (by unfold Rc.hoardS; rw [if_neg (by omega)])
  have DC := hid (rcdear_c h (by omega) f)
  have q8 : (r.dear f == 0) = false := by simp [hd]
  generalize r.dear f = df at *
  have H := hid h
  have L2 : Hid (∀ W, Below w.heap.size w W → IsRc W g vl vh r) := hid (fun W hb => h.later hb)
  obtain ⟨c0, c1, c2, cf, cl⟩ := h.cells
  obtain ⟨a, cap, e, hcap⟩ := own_shapeC h.2.2
  subst e
  have STP : Hid (∀ m, m < r.H.length → filH f (r.H.take (m + 1)) = if r.hf m = f then filH f (r.H.take m) else filH f (r.H.take m) ++ [(r.hf m, r.hn m)]) := hid (fun m hm => by rw [filH_step f r.H hm, (Rc.hf_eq hm).1, (Rc.hf_eq hm).2])
  have FIN : Hid (filH f (r.H.take r.H.length) = filH f r.H) := hid (by rw [List.take_length])
  have LE : Hid (∀ m, (filH f (r.H.take m)).length ≤ 900) := hid (fun m => by
    have h1 := filH_le (x := f) (L := r.H.take m)
    have h2 := List.length_take_le' m r.H
    omega)
  obtain ⟨i0, hi0, hz0, hz1, hz2⟩ := info_dear
  obtain ⟨N, hN⟩ : ∃ N, N = r.H.length := ⟨_, rfl⟩
  have C2 : ∀ W, Below w.heap.size w W → W.cell? ⟨g, 2, none⟩ = some (.slice a N cap) := fun W hb => by have := (L2.out W hb).cells.2.2.1; rw [hN]; exact this
  have HN := hid hN
  rw [← hN] at hm hcap STP FIN c2
  clear h cf hN
  go_enter Try.func51, Try.ntmps51
  go_wp2_with (go_at_call 29; refine DC.out.mono ?_; rintro _ w1 ⟨rfl, h1⟩; rw [h1]; clear h1)
  go_loopg [7, 8] N (fun gk v j wr => ∃ m : Nat, m + gk = N ∧ j = .int .i64 m ∧ Hid (OwD wr w.heap.size v (filH f (r.H.take m))) ∧ Hid (Below w.heap.size w wr))
  case atStart => exact ⟨0, by omega, rfl, hid (World.ownsRow_nil _ _ _ _), hid (Below.refl _ _)⟩
  case round =>
    obtain ⟨m, hm2, rfl, HO, HB⟩ := hrel
    obtain ⟨va, vn, vc, rfl⟩ := own_anyC HO.out
    have k9 := C2 wr HB.out
    by_cases hlt : m < N
    · have hltI : (m : Int) < N := by omega
      obtain ⟨gl, o, cap', e, hc⟩ := (L2.out wr HB.out).rowH (by rw [← HN.out]; omega)
      rw [← HN.out] at e
      cases e
      obtain ⟨k0, k1⟩ := hc m (by rw [← HN.out]; exact hlt)
      by_cases q : r.hf m = f
      · have q9 : (r.hf m != f) = false := by simp [q]
        have HO2 : Hid (OwD wr w.heap.size (.slice va vn vc) (filH f (r.H.take (m + 1)))) := hid (by rw [STP.out m hlt, if_pos q]; exact HO.out)
        clear hc HO
        generalize r.hf m = fm at *
        generalize r.hn m = nm at *
        go_wp2
        go_roundg (gk - 1)
        case measure => omega
        case rel => exact ⟨m + 1, by omega, by go_num, HO2, HB⟩
      · have q9 : (r.hf m != f) = true := by simp [q]
        have HS : Hid (filH f (r.H.take (m + 1)) = filH f (r.H.take m) ++ [(r.hf m, r.hn m)]) := hid (by rw [STP.out m hlt, if_neg q])
        have hlen := LE.out m
        clear hc
        generalize r.hf m = fm at *
        generalize r.hn m = nm at *
        have b1 : Below wr.heap.size wr (wr.alloc (.cells #[.int .u32 fm, .int .i64 nm] 80)) := (Below.refl _ _).alloc (Nat.le_refl _) _
        have O1 := hid (own_latC HO.out b1)
        have B1 := hid (HB.out.trans (b1.mono HB.out.size))
        have N1 := hid (heap_alloc_new wr (.cells #[.int .u32 fm, .int .i64 nm] 80))
        clear b1
        go_wp2_with (at_builtin; refine wpList_append_own _ rfl _ _ 73 rfl w.heap.size 80 i0 (.agg #[.int .u32 0, .int .i64 0]) 2 16 Try.underlying73 hi0 hz0 hz1 hz2 (by rfl) (by decide) _ _ _ rfl O1.out ⟨wr.heap.size, 0, none⟩ 1 1 (dnC (fm, nm)) rfl rfl (two_news N1.out) (dnC_one (fm, nm)) (by unfold maxLen; omega) (by omega) B1.out.size ?_; intro v9 w9 hown9 hgrow9 hnil9)
        have HB9 := hid (below_grownC B1.out O1.out (Nat.le_refl _) B1.out.size hgrow9)
        have HO9 : Hid (OwD w9 w.heap.size v9 (filH f (r.H.take (m + 1)))) := hid (by
          unfold OwD
          rw [HS.out, List.flatMap_append, List.length_append]
          simpa using hown9)
        obtain ⟨a9, n9, c9, rfl⟩ := own_anyC hown9
        clear hown9 hgrow9 hnil9
        go_roundg (gk - 1)
        case measure => omega
        case rel => exact ⟨m + 1, by omega, by go_num, HO9, HB9⟩
    · have em : m = N := by omega
      subst em
      have hge : ¬ (m : Int) < m := by omega
      rw [FIN.out] at HO
      have hlen : (filH f r.H).length ≤ 900 := by have := LE.out m; rwa [FIN.out] at this
      obtain ⟨e0, e1, e2, ef, el⟩ := (L2.out wr HB.out).cells
      have f2 := ef 2
      clear ef
      have b1 : Below wr.heap.size wr (wr.alloc (.cells #[.int .u32 f, .int .i64 n] 80)) := (Below.refl _ _).alloc (Nat.le_refl _) _
      have O1 := hid (own_latC HO.out b1)
      have B1 := hid (HB.out.trans (b1.mono HB.out.size))
      have N1 := hid (heap_alloc_new wr (.cells #[.int .u32 f, .int .i64 n] 80))
      clear b1
      go_wp2_with (at_builtin; refine wpList_append_own _ rfl _ _ 73 rfl w.heap.size 80 i0 (.agg #[.int .u32 0, .int .i64 0]) 2 16 Try.underlying73 hi0 hz0 hz1 hz2 (by rfl) (by decide) _ _ _ rfl O1.out ⟨wr.heap.size, 0, none⟩ 1 1 (dnC (f, n)) rfl rfl (two_news N1.out) (dnC_one (f, n)) (by unfold maxLen; omega) (by omega) B1.out.size ?_; intro v9 w9 hown9 hgrow9 hnil9; (have B9 := hid (below_grownC B1.out O1.out (Nat.le_refl _) B1.out.size hgrow9)); (have O9 : Hid (OwD w9 w.heap.size v9 (filH f r.H ++ [(f, n)])) := hid (by unfold OwD; rw [List.flatMap_append, List.length_append]; simpa using hown9)); (obtain ⟨a9, n9, c9, rfl⟩ := own_anyC hown9); (obtain ⟨d0, d1, d2, df, dl⟩ := (L2.out w9 B9.out).cells); (have g2 := df 2); clear hown9 hgrow9 hnil9 df)
      go_ret
      exact ⟨rfl, by have := TurnR.rowH H.out B9.out O9.out; rw [EH.out]; exact this⟩
set_option maxHeartbeats 4000000 in
theorem rchoard_new {w : World} {g : Nat} {vl vh : Value} {r : Rc} (h : IsRc w g vl vh r) (hm : r.H.length ≤ 900) {f n : Int} (q0 : f ≠ 0) (n0 : 1 ≤ n) (n1 : n ≤ 100) (hd : r.dear f = 0) (hf : r.H.length < 8) :
    Calls Try.prog 51 #[pA g, .int .u32 f, .int .i64 n] w fun e w' => e = .returned (.int .i64 0) ∧ TurnR w w' g vl vh (r.hoardS f n) := by
  have q1 : (f == 0) = false := by simp [q0]
  have q2 : decide (n < 0) = false := decide_eq_false (by omega)
  have q4 : ¬ n < 0 := by omega
  have q3 : decide (100 < n) = false := decide_eq_false (by omega)
  have q5 : ¬ 100 < n := by omega
  have q6 : (n != 0) = true := by simp; omega
  have q7 : n ≠ 0 := by omega
  have EH : Hid (r.hoardS f n = ⟨r.most, r.L, filH f r.H ++ [(f, n)]⟩) := hid (by unfold Rc.hoardS; rw [if_neg (by omega)])
  have DC := hid (rcdear_c h (by omega) f)
  rw [hd] at DC
  have hg8 : (r.H.length : Int) < 8 := by omega
  have hg7 : ¬ (8 : Int) ≤ (r.H.length : Int) := by omega
  have hg9 : decide ((r.H.length : Int) ≥ 8) = false := decide_eq_false (by omega)
  clear hd
  have H := hid h
  have L2 : Hid (∀ W, Below w.heap.size w W → IsRc W g vl vh r) := hid (fun W hb => h.later hb)
  obtain ⟨c0, c1, c2, cf, cl⟩ := h.cells
  obtain ⟨a, cap, e, hcap⟩ := own_shapeC h.2.2
  subst e
  have STP : Hid (∀ m, m < r.H.length → filH f (r.H.take (m + 1)) = if r.hf m = f then filH f (r.H.take m) else filH f (r.H.take m) ++ [(r.hf m, r.hn m)]) := hid (fun m hm => by rw [filH_step f r.H hm, (Rc.hf_eq hm).1, (Rc.hf_eq hm).2])
  have FIN : Hid (filH f (r.H.take r.H.length) = filH f r.H) := hid (by rw [List.take_length])
  have LE : Hid (∀ m, (filH f (r.H.take m)).length ≤ 900) := hid (fun m => by
    have h1 := filH_le (x := f) (L := r.H.take m)
    have h2 := List.length_take_le' m r.H
    omega)
  obtain ⟨i0, hi0, hz0, hz1, hz2⟩ := info_dear
  obtain ⟨N, hN⟩ : ∃ N, N = r.H.length := ⟨_, rfl⟩
  have C2 : ∀ W, Below w.heap.size w W → W.cell? ⟨g, 2, none⟩ = some (.slice a N cap) := fun W hb => by have := (L2.out W hb).cells.2.2.1; rw [hN]; exact this
  have HN := hid hN
  rw [← hN] at hm hcap STP FIN c2
  clear h cf hN
  go_enter Try.func51, Try.ntmps51
  rw [← HN.out] at hg8 hg7 hg9
  go_wp2_with (go_at_call 29; refine DC.out.mono ?_; rintro _ w1 ⟨rfl, h1⟩; rw [h1]; clear h1)
  go_loopg [7, 8] N (fun gk v j wr => ∃ m : Nat, m + gk = N ∧ j = .int .i64 m ∧ Hid (OwD wr w.heap.size v (filH f (r.H.take m))) ∧ Hid (Below w.heap.size w wr))
  case atStart => exact ⟨0, by omega, rfl, hid (World.ownsRow_nil _ _ _ _), hid (Below.refl _ _)⟩
  case round =>
    obtain ⟨m, hm2, rfl, HO, HB⟩ := hrel
    obtain ⟨va, vn, vc, rfl⟩ := own_anyC HO.out
    have k9 := C2 wr HB.out
    by_cases hlt : m < N
    · have hltI : (m : Int) < N := by omega
      obtain ⟨gl, o, cap', e, hc⟩ := (L2.out wr HB.out).rowH (by rw [← HN.out]; omega)
      rw [← HN.out] at e
      cases e
      obtain ⟨k0, k1⟩ := hc m (by rw [← HN.out]; exact hlt)
      by_cases q : r.hf m = f
      · have q9 : (r.hf m != f) = false := by simp [q]
        have HO2 : Hid (OwD wr w.heap.size (.slice va vn vc) (filH f (r.H.take (m + 1)))) := hid (by rw [STP.out m hlt, if_pos q]; exact HO.out)
        clear hc HO
        generalize r.hf m = fm at *
        generalize r.hn m = nm at *
        go_wp2
        go_roundg (gk - 1)
        case measure => omega
        case rel => exact ⟨m + 1, by omega, by go_num, HO2, HB⟩
      · have q9 : (r.hf m != f) = true := by simp [q]
        have HS : Hid (filH f (r.H.take (m + 1)) = filH f (r.H.take m) ++ [(r.hf m, r.hn m)]) := hid (by rw [STP.out m hlt, if_neg q])
        have hlen := LE.out m
        clear hc
        generalize r.hf m = fm at *
        generalize r.hn m = nm at *
        have b1 : Below wr.heap.size wr (wr.alloc (.cells #[.int .u32 fm, .int .i64 nm] 80)) := (Below.refl _ _).alloc (Nat.le_refl _) _
        have O1 := hid (own_latC HO.out b1)
        have B1 := hid (HB.out.trans (b1.mono HB.out.size))
        have N1 := hid (heap_alloc_new wr (.cells #[.int .u32 fm, .int .i64 nm] 80))
        clear b1
        go_wp2_with (at_builtin; refine wpList_append_own _ rfl _ _ 73 rfl w.heap.size 80 i0 (.agg #[.int .u32 0, .int .i64 0]) 2 16 Try.underlying73 hi0 hz0 hz1 hz2 (by rfl) (by decide) _ _ _ rfl O1.out ⟨wr.heap.size, 0, none⟩ 1 1 (dnC (fm, nm)) rfl rfl (two_news N1.out) (dnC_one (fm, nm)) (by unfold maxLen; omega) (by omega) B1.out.size ?_; intro v9 w9 hown9 hgrow9 hnil9)
        have HB9 := hid (below_grownC B1.out O1.out (Nat.le_refl _) B1.out.size hgrow9)
        have HO9 : Hid (OwD w9 w.heap.size v9 (filH f (r.H.take (m + 1)))) := hid (by
          unfold OwD
          rw [HS.out, List.flatMap_append, List.length_append]
          simpa using hown9)
        obtain ⟨a9, n9, c9, rfl⟩ := own_anyC hown9
        clear hown9 hgrow9 hnil9
        go_roundg (gk - 1)
        case measure => omega
        case rel => exact ⟨m + 1, by omega, by go_num, HO9, HB9⟩
    · have em : m = N := by omega
      subst em
      have hge : ¬ (m : Int) < m := by omega
      rw [FIN.out] at HO
      have hlen : (filH f r.H).length ≤ 900 := by have := LE.out m; rwa [FIN.out] at this
      obtain ⟨e0, e1, e2, ef, el⟩ := (L2.out wr HB.out).cells
      have f2 := ef 2
      clear ef
      have b1 : Below wr.heap.size wr (wr.alloc (.cells #[.int .u32 f, .int .i64 n] 80)) := (Below.refl _ _).alloc (Nat.le_refl _) _
      have O1 := hid (own_latC HO.out b1)
      have B1 := hid (HB.out.trans (b1.mono HB.out.size))
      have N1 := hid (heap_alloc_new wr (.cells #[.int .u32 f, .int .i64 n] 80))
      clear b1
      go_wp2_with (at_builtin; refine wpList_append_own _ rfl _ _ 73 rfl w.heap.size 80 i0 (.agg #[.int .u32 0, .int .i64 0]) 2 16 Try.underlying73 hi0 hz0 hz1 hz2 (by rfl) (by decide) _ _ _ rfl O1.out ⟨wr.heap.size, 0, none⟩ 1 1 (dnC (f, n)) rfl rfl (two_news N1.out) (dnC_one (f, n)) (by unfold maxLen; omega) (by omega) B1.out.size ?_; intro v9 w9 hown9 hgrow9 hnil9; (have B9 := hid (below_grownC B1.out O1.out (Nat.le_refl _) B1.out.size hgrow9)); (have O9 : Hid (OwD w9 w.heap.size v9 (filH f r.H ++ [(f, n)])) := hid (by unfold OwD; rw [List.flatMap_append, List.length_append]; simpa using hown9)); (obtain ⟨a9, n9, c9, rfl⟩ := own_anyC hown9); (obtain ⟨d0, d1, d2, df, dl⟩ := (L2.out w9 B9.out).cells); (have g2 := df 2); clear hown9 hgrow9 hnil9 df)
      go_ret
      exact ⟨rfl, by have := TurnR.rowH H.out B9.out O9.out; rw [EH.out]; exact this⟩
end Go.Proofs.Ytilcbkejmpfnfaa
