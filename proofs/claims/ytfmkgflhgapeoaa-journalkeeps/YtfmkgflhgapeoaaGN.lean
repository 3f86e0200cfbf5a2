/-
  Same of backwaterref05, of any groups: it answers.
  What the statements on journals ask of groups that were read: their first ones, the last one, one by itself.
  What the statement on torn journals asks: what a Torn leaves, groups that are gathered anew, Same of any groups.
-/
import Derived.Test.YtfmkgflhgapeoaaGI
import Derived.Test.YtfmkgflhgapeoaaGM
import Derived.Test.YtfmkgflhgapeoaaGF
namespace Go.Proofs.Ytfmkgflhgapeoaa
open Go.RowKit Go.ChangeShapes Go.WideShapes Go.ChangeAt Go.Maps
set_option linter.unusedVariables false
set_option linter.unusedSimpArgs false
theorem qneqT {o : Oper} {a : Act} {C : World → Prop} {w : World} (x y : Operand) (t : TypeId) (s u : ByteArray) (hop : o.op = .binOp .neq 9 x y t) (hx : a.eval x = .string s) (hy : a.eval y = .string u) (b : Bool) (hb : (!(s.toList == u.toList)) = b) (hC : C w) : o.quietAt Try.prog a C w (.bool b) := by
  unfold Oper.quietAt
  simp only [execOp, hop, hx, hy]
  rw [← hb]
  simp [go_sem, Result.andThen, hC, eqGuard]
set_option maxRecDepth 20000 in
set_option maxHeartbeats 2000000 in
theorem rsame_any (a b : Option Addr) (n m0 ca cb : Nat) (L M : List Jo.Gr) (w : World) (hA : IsGs w a n L) (hB : IsGs w b m0 M) :
    Calls Try.prog 17 #[.slice a n ca, .slice b m0 cb] w fun e w' => (∃ x, e = .returned (.bool x)) ∧ Below w.heap.size w w' := by
  have hm := hA.2.1
  have hm2 := hB.2.1
  unfold maxLen at hm hm2
  by_cases hnm : n = m0
  · subst hnm
    have HA := hid hA
    have HB := hid hB
    clear hA hB
    go_enter Try.func17, Try.ntmps17
    go_wp2
    go_loopw [5] (fun i wr => ∃ k : Nat, k ≤ n ∧ i = .int .i64 k ∧ Below w.heap.size w wr) (fun i _ => (n - intOf i).toNat)
    case atStart => exact ⟨0, Nat.zero_le _, rfl, Below.refl _ _⟩
    case round =>
      obtain ⟨k, hk, rfl, hb⟩ := hrel
      by_cases hlt : k < n
      · obtain ⟨b1, o1, rfl, h1⟩ := HA.out.2.2 (by omega)
        obtain ⟨b2, o2, rfl, h2⟩ := HB.out.2.2 (by omega)
        obtain ⟨g1, c1, d1, G1⟩ := h1 k hlt
        obtain ⟨g2, c2, d2, G2⟩ := h2 k hlt
        have HG1 := hid G1
        have HG2 := hid G2
        clear h1 h2 G1 G2
        generalize L.getD k [] = p at *
        generalize M.getD k [] = pp at *
        obtain ⟨m, hmm⟩ : ∃ m, m = p.length := ⟨_, rfl⟩
        obtain ⟨mm, hmm2⟩ : ∃ mm, mm = pp.length := ⟨_, rfl⟩
        rw [← hmm] at d1 HG1
        rw [← hmm2] at d2 HG2
        have hm1 := HG1.out.2.1
        have hm3 := HG2.out.2.1
        unfold maxLen at hm1 hm3
        have KS : Hid (∀ W, Below w.heap.size w W → W.cell? ⟨b1, o1 + k, none⟩ = some (.slice g1 m c1) ∧ W.cell? ⟨b2, o2 + k, none⟩ = some (.slice g2 mm c2)) := fun W hW => ⟨cell_later hW d1, cell_later hW d2⟩
        have K0 := KS.out _ hb.drew
        have HBW := hid hb
        clear d1 d2 hb hmm hmm2
        by_cases hmq : m = mm
        · subst hmq
          go_wp2_with fail
          go_region_held3 (fun w' => w'.cell? ⟨b1, o1 + k, none⟩ = some (.slice g1 m c1) ∧ w'.cell? ⟨b2, o2 + k, none⟩ = some (.slice g2 m c2)) (first | (with_reducible exact K0) | go_keep) (fail)
          clear K0
          go_wp2_with fail
          have hbo : Below w.heap.size w wr.drew := HBW.out.drew
          have HBO := hid hbo
          clear HBW hbo
          revert HBO
          generalize wr.drew = wo
          intro HBO
          go_loopw [6] (fun i wr => ∃ j : Nat, j ≤ m ∧ i = .int .i64 j ∧ Below w.heap.size w wr) (fun i _ => (m - intOf i).toNat)
          case atStart => exact ⟨0, Nat.zero_le _, rfl, HBO.out⟩
          case round =>
            obtain ⟨j, hj, rfl, hb⟩ := hrel
            obtain ⟨e1, e2⟩ := KS.out _ hb
            by_cases hjm : j < m
            · obtain ⟨p1, q1, rfl, h1⟩ := HG1.out.2.2 (by omega)
              obtain ⟨p2, q2, rfl, h2⟩ := HG2.out.2.2 (by omega)
              obtain ⟨a1, x1, f1, B1, _, _⟩ := h1 j hjm
              obtain ⟨a2, x2, f2, B2, _, _⟩ := h2 j hjm
              generalize p.getD j [] = z at *
              generalize pp.getD j [] = y at *
              have FX : Hid (∀ W, Below w.heap.size w W → W.cell? ⟨b1, o1 + k, none⟩ = some (.slice (some ⟨p1, q1, none⟩) m c1) ∧ W.cell? ⟨b2, o2 + k, none⟩ = some (.slice (some ⟨p2, q2, none⟩) m c2) ∧ W.cell? ⟨p1, q1 + j, none⟩ = some (.slice a1 z.length x1) ∧ W.cell? ⟨p2, q2 + j, none⟩ = some (.slice a2 y.length x2) ∧ (convert 54 9 (.slice a1 z.length x1)).run Try.prog W = .ok (.string (Fr.tx z)) W ∧ (convert 54 9 (.slice a2 y.length x2)).run Try.prog W = .ok (.string (Fr.tx y)) W) := fun W hW => ⟨(KS.out W hW).1, (KS.out W hW).2, cell_later hW f1, cell_later hW f2, conv_any (B1.later hW), conv_any (B2.later hW)⟩
              have HBI := hid hb
              clear h1 h2 f1 f2 B1 B2 hb
              generalize z.length = zl at *
              generalize Fr.tx z = tz at *
              generalize y.length = yl at *
              generalize Fr.tx y = ty at *
              cases hty : (!(tz.toList == ty.toList)) with
              | true =>
                have HT := hid hty
                clear hty
                go_wp2_with fail
                refine wp_region_class (by kernel_rfl) (by kernel_rfl) ?_
                repeat (first
                  | go_big_quiet_skip
                  | (go_big_quiet_want
                     apply quiet_by
                     · intro w4 hw4
                       exact qneqT _ _ _ tz ty rfl rfl rfl _ HT.out hw4
                     · go_simp; rfl
                     go_big_quiet_on)
                  | (go_big_quiet_want
                     apply quiet_by
                     · intro w4 hw4
                       obtain ⟨k1, k2, k3, k4, k5, k6⟩ := FX.out w4 (HBI.out.trans (hw4.mono HBI.out.size))
                       go_simp
                       first
                         | rfl
                         | (simp [k1, k2, k3, k4, k5, k6]; rfl)
                     · go_simp; rfl
                     go_big_quiet_on))
                refine wpQuiet_nil ?_
                intro w12 hw12
                go_wp2
                go_ret
                exact ⟨⟨_, rfl⟩, HBI.out.trans (hw12.mono HBI.out.size)⟩
              | false =>
                have HT := hid hty
                clear hty
                go_wp2_with fail
                refine wp_region_class (by kernel_rfl) (by kernel_rfl) ?_
                repeat (first
                  | go_big_quiet_skip
                  | (go_big_quiet_want
                     apply quiet_by
                     · intro w4 hw4
                       exact qneqT _ _ _ tz ty rfl rfl rfl _ HT.out hw4
                     · go_simp; rfl
                     go_big_quiet_on)
                  | (go_big_quiet_want
                     apply quiet_by
                     · intro w4 hw4
                       obtain ⟨k1, k2, k3, k4, k5, k6⟩ := FX.out w4 (HBI.out.trans (hw4.mono HBI.out.size))
                       go_simp
                       first
                         | rfl
                         | (simp [k1, k2, k3, k4, k5, k6]; rfl)
                     · go_simp; rfl
                     go_big_quiet_on))
                refine wpQuiet_nil ?_
                intro w12 hw12
                go_wp2
                go_roundw
                case rel => exact ⟨j + 1, by omega, by go_num, HBI.out.trans (hw12.mono HBI.out.size)⟩
                case measure => simp [intOf]; omega
            · have hjm' : j = m := by omega
              subst hjm'
              have HBI := hid hb
              clear hb
              go_wp2
              go_roundw
              case rel => exact ⟨k + 1, by omega, by go_num, HBI.out⟩
              case measure => simp [intOf]; omega
        · have hne : ((m : Int) != (mm : Int)) = true := by simp; omega
          have hne2 : ((m : Int) == (mm : Int)) = false := by simp; omega
          go_wp2_with fail
          go_region_held3 (fun w' => w'.cell? ⟨b1, o1 + k, none⟩ = some (.slice g1 m c1) ∧ w'.cell? ⟨b2, o2 + k, none⟩ = some (.slice g2 mm c2)) (first | (with_reducible exact K0) | go_keep) (fail)
          clear K0
          go_wp2
          go_ret
          exact ⟨⟨_, rfl⟩, HBW.out.drew⟩
      · have hkn : k = n := by omega
        subst hkn
        have HB9 := hid hb
        clear hb
        go_wp2
        go_ret
        exact ⟨⟨_, rfl⟩, HB9.out⟩
  · have hne : ((n : Int) != (m0 : Int)) = true := by simp; omega
    have hne2 : ((n : Int) == (m0 : Int)) = false := by simp; omega
    clear hA hB
    go_enter Try.func17, Try.ntmps17
    go_wp2
    go_ret
    exact ⟨⟨_, rfl⟩, Below.refl _ _⟩
end Go.Proofs.Ytfmkgflhgapeoaa
namespace Go.Proofs.Ytfmkgflhgapeoaa
open Go.RowKit Go.ChangeShapes Go.WideShapes Go.ChangeAt Go.Maps
set_option linter.unusedVariables false
set_option linter.unusedSimpArgs false
theorem IsGs.front {w : World} {a : Option Addr} {n : Nat} {L : List Jo.Gr} (h : IsGs w a n L) (m : Nat) (hm : m ≤ n) : IsGs w a m (L.take m) := by
  obtain ⟨h1, h2, h3⟩ := h
  refine ⟨by rw [List.length_take]; omega, by omega, fun hp => ?_⟩
  obtain ⟨b, off, e, hc⟩ := h3 (by omega)
  refine ⟨b, off, e, fun i hi => ?_⟩
  have : (L.take m).getD i [] = L.getD i [] := by simp [List.getD, List.getElem?_take, hi]
  rw [this]
  exact hc i (by omega)
theorem IsGs.tail {w : World} {b off n : Nat} {L : List Jo.Gr} (h : IsGs w (some ⟨b, off, none⟩) n L) (m : Nat) (hm : m ≤ n) : IsGs w (some ⟨b, off + m, none⟩) (n - m) (L.drop m) := by
  obtain ⟨h1, h2, h3⟩ := h
  refine ⟨by rw [List.length_drop]; omega, by omega, fun hp => ⟨b, off + m, rfl, fun i hi => ?_⟩⟩
  obtain ⟨b', off', e, hc⟩ := h3 (by omega)
  cases e
  have : (L.drop m).getD i [] = L.getD (m + i) [] := by simp [List.getD, List.getElem?_drop]
  rw [this, Nat.add_assoc]
  exact hc (m + i) (by omega)
theorem IsGs.kc {w w' : World} {a : Option Addr} {n : Nat} {L : List Jo.Gr} (h : IsGs w a n L) (hk : KC w w') : IsGs w' a n L := by
  obtain ⟨h1, h2, h3⟩ := h
  refine ⟨h1, h2, fun hp => ?_⟩
  obtain ⟨b, off, e, hc⟩ := h3 hp
  refine ⟨b, off, e, fun i hi => ?_⟩
  obtain ⟨ga, gc, c1, c2⟩ := hc i hi
  exact ⟨ga, gc, cell_kc c1 hk, c2.kc hk⟩
/-- One group in a slice by itself. -/
theorem isGs_one {w : World} {a : Option Addr} {cap : Nat} {g : Jo.Gr} (h : IsG0 w a g.length g) : IsGs (w.alloc (.cells #[.slice a g.length cap] 30)) (some ⟨w.heap.size, 0, none⟩) 1 [g] := by
  refine ⟨rfl, by unfold maxLen; omega, fun _ => ⟨w.heap.size, 0, rfl, fun i hi => ?_⟩⟩
  obtain rfl : i = 0 := by omega
  refine ⟨a, cap, ?_, h.later ((Below.refl _ _).alloc (Nat.le_refl _) _)⟩
  rw [cell_of_row _ _ _ _ _ _ (heap_alloc_new w _)]
  rfl
theorem Held.oks {v : Int → Sec} {N k : Nat} {t : Int} {L : List Jo.Gr} (h : Held v N k t L) : ∀ g ∈ L, g.length ≤ 100000 := fun g hg => by have := (Jo.ok_iff.1 (h.ok g hg)).2.1; omega
end Go.Proofs.Ytfmkgflhgapeoaa
namespace Go.Proofs.Ytfmkgflhgapeoaa
open Go.RowKit Go.ChangeShapes Go.WideShapes Go.ChangeAt Go.Maps
set_option linter.unusedVariables false
set_option linter.unusedSimpArgs false
theorem rsame_both (a b : Option Addr) (n m ca cb : Nat) (L M : List Jo.Gr) (w : World) (hA : IsGs w a n L) (hB : IsGs w b m M) :
    Calls Try.prog 17 #[.slice a n ca, .slice b m cb] w fun e w' => (∃ x, e = .returned (.bool x) ∧ (L = M → x = true)) ∧ Below w.heap.size w w' := by
  by_cases he : L = M
  · subst he
    obtain rfl : n = m := hA.1.symm.trans hB.1
    exact (rsame_eq a b n ca cb L w hA hB).mono fun e w' h => ⟨⟨true, h.1, fun _ => rfl⟩, h.2⟩
  · exact (rsame_any a b n m ca cb L M w hA hB).mono fun e w' h => ⟨by obtain ⟨x, hx⟩ := h.1; exact ⟨x, hx, fun e => absurd e he⟩, h.2⟩
/-- 'append(s, x...)' of groups that were made here. -/
theorem wpList_appendG (w : World) {ops : Array Oper} {rest : List Oper} {o : Oper} {a : Act} {Q : Exit → Act → World → Prop} (hgd : o.guard = none) (s x : Operand)
    (ho : o.op = .call { callee := .builtin .append, args := #[s, x], argTypes := #[32, 32] }) (base : Nat) (v : Value) (n : Nat) (xs : List Value) (hs : a.eval s = v) (hown : w.ownsRow base 30 1 v n xs)
    (B : Nat) (u : Value) (m : Nat) (ys : List Value) (hx : a.eval x = u) (hu : w.ownsRow B 30 1 u m ys) (hone : ∀ y ∈ ys, y.oneCell' = true) (h63 : n + m ≤ 1000000) (hbase : base ≤ w.heap.size)
    (h : ∀ v' w', w'.ownsRow base 30 1 v' (n + m) (xs ++ ys) → w.grownBy w' v.ownBlock → wpList Try.prog ops Q rest (a.put o.dst v') w') : wpList Try.prog ops Q (o :: rest) a w := by
  obtain ⟨i0, hi, hz0, hz1, hz2⟩ := info30
  have hyl := hu.1
  rcases hu.2 with ⟨rfl, hn⟩ | ⟨g, cap, cur, rfl, hg, hbk, hnc, hcm, hcs, ht⟩
  · subst hn
    have hy : ys = [] := List.eq_nil_of_length_eq_zero (by simpa using hyl)
    subst hy
    refine wpList_append_own_none hgd s x 32 ho base 30 i0 1 Try.underlying32 hi v n xs hs hown hx ?_
    exact h v w (by simpa using hown) (grown_refl _ _)
  · refine wpList_append_own w hgd s x 32 ho base 30 i0 (.slice none 0 0) 1 24 Try.underlying32 hi hz0 hz1 hz2 rfl (by decide) v n xs hs hown ⟨g, 0, none⟩ m cap ys hx hyl (fun j y hj => ?_) hone (by unfold maxLen; omega) (by omega) hbase ?_
    · rw [addr_add, cell_of_row w g _ cur 30 (0, 0) hbk]
      have hjl : j < ys.length := (List.getElem?_eq_some_iff.1 hj).1
      have e1 : (cur.toList.take (m * 1))[j]? = ys[j]? := by rw [ht]
      rw [List.getElem?_take, if_pos (by omega), hj] at e1
      rw [Nat.zero_add, ← Array.getElem?_toList]; exact e1
    · intro v' w' h1 h2 h3
      exact h v' w' h1 h2
/-- Groups in a row that was made here, wherever their parts lie. -/
theorem own_isGs {w : World} {B : Nat} {v : Value} {vals : List Value} {L : List Jo.Gr} (h : w.ownsRow B 30 1 v L.length vals) (hm : L.length ≤ 100000) (h2 : ∀ i, i < L.length → ∃ ga gc, vals[i]? = some (.slice ga (L.getD i []).length gc) ∧ IsG0 w ga (L.getD i []).length (L.getD i [])) : ∃ a cap, v = .slice a L.length cap ∧ IsGs w a L.length L := by
  rcases h.2 with ⟨rfl, hn⟩ | ⟨g, cap, cur, rfl, hg, hbk, hnc, hcm, hcs, ht⟩
  · exact ⟨none, 0, by rw [hn], ⟨rfl, by unfold maxLen; omega, fun hp => by omega⟩⟩
  · refine ⟨some ⟨g, 0, none⟩, cap, rfl, ⟨rfl, by unfold maxLen; omega, fun hp => ⟨g, 0, rfl, fun i hi => ?_⟩⟩⟩
    obtain ⟨ga, gc, e1, e2⟩ := h2 i hi
    refine ⟨ga, gc, ?_, e2⟩
    rw [cell_of_row w g _ cur 30 (0, 0) hbk]
    have e4 : (cur.toList.take (L.length * 1))[i]? = vals[i]? := by rw [ht]
    rw [List.getElem?_take, if_pos (by omega)] at e4
    rw [Nat.zero_add, ← Array.getElem?_toList, e4, e1]
theorem each_snoc {w : World} {L : List Jo.Gr} {g : Jo.Gr} {vals : List Value} {fa : Option Addr} {fc : Nat} (hvl : vals.length = L.length) (h : ∀ i, i < L.length → ∃ ga gc, vals[i]? = some (.slice ga (L.getD i []).length gc) ∧ IsG0 w ga (L.getD i []).length (L.getD i [])) (hg : IsG0 w fa g.length g) :
    ∀ i, i < (L ++ [g]).length → ∃ ga gc, (vals ++ [.slice fa g.length fc])[i]? = some (.slice ga ((L ++ [g]).getD i []).length gc) ∧ IsG0 w ga ((L ++ [g]).getD i []).length ((L ++ [g]).getD i []) := fun i hi => by
  by_cases hlt : i < L.length
  · obtain ⟨ga, gc, e1, e2⟩ := h i hlt
    have e : (L ++ [g]).getD i [] = L.getD i [] := by simp [List.getD, List.getElem?_append_left hlt]
    rw [e]
    exact ⟨ga, gc, by rw [List.getElem?_append_left (by omega)]; exact e1, e2⟩
  · obtain rfl : i = L.length := by simp at hi; omega
    have e : (L ++ [g]).getD L.length [] = g := by simp [List.getD]
    rw [e]
    exact ⟨fa, fc, by rw [← hvl]; simp, hg⟩
theorem PGs.vals {B : Nat} {w : World} {v : Value} {L : List Jo.Gr} (h : PGs B w v L) (hs : ∀ g ∈ L, g.length ≤ 100000) : ∃ vals : List Value, w.ownsRow B 30 1 v L.length vals ∧ (∀ y ∈ vals, y.oneCell' = true) ∧ ∀ i, i < L.length → ∃ ga gc, vals[i]? = some (.slice ga (L.getD i []).length gc) ∧ IsG0 w ga (L.getD i []).length (L.getD i []) := by
  obtain ⟨vals, h1, h2⟩ := h
  have key : ∀ i, i < L.length → ∃ ga gc, vals[i]? = some (.slice ga (L.getD i []).length gc) ∧ IsG0 w ga (L.getD i []).length (L.getD i []) := fun i hi => by
    obtain ⟨u, e1, e2⟩ := h2 i hi
    have hmem : L.getD i [] ∈ L := by rw [List.getD, List.getElem?_eq_getElem hi]; exact List.getElem_mem hi
    obtain ⟨ga, gc, rfl, k1⟩ := e2.isG0 (hs _ hmem)
    exact ⟨ga, gc, e1, k1⟩
  refine ⟨vals, h1, fun y hy => ?_, key⟩
  obtain ⟨i, hi, rfl⟩ := List.getElem_of_mem hy
  have hvl : vals.length = L.length := by simpa using h1.1
  obtain ⟨ga, gc, e1, _⟩ := key i (by omega)
  rw [List.getElem?_eq_getElem hi] at e1
  rw [Option.some.inj e1]; rfl
/-- What a Torn answers, and what it leaves. -/
def TornAny (j d b1 b2 N : Nat) (L : List Jo.Gr) (g : Jo.Gr) (rs : Bool) (w : World) (e : Ending) (w' : World) : Prop :=
  ∃ nn, e = .returned (.int .i64 nn) ∧ (∃ on' L' k' t', IsJ w' j d b1 b2 N on' (fun _ => none) ∧ Held on' N k' t' L' ∧ ((nn ≠ 0 ∧ L' = L) ∨ (nn = 0 ∧ (L' = L ∨ L' = if rs then [g] else L ++ [g])))) ∧ Out (fun k => k = b1 ∨ k = b2) w w'
theorem jtorn_c {w : World} {j d b1 b2 N k : Nat} {t : Int} {on : Int → Sec} {L : List Jo.Gr} (h : IsJ w j d b1 b2 N on (fun _ => none)) (hH : Held on N k t L) (q : Option Addr) (m p : Nat) (g : Jo.Gr) (hG : IsG0 w q m g) (rs : Bool) (st : Int) (a : Option Addr) (len cap : Nat) (zs : List Int) (hZ : IsZ w a len zs) :
    Calls Try.prog 19 #[pB j, .slice q m p, .bool rs, .int .i64 st, .slice a len cap] w (TornAny j d b1 b2 N L g rs w) := by
  have hs : ∀ i, Jo.Sct (on i) := fun i => h.2.1.sec i
  have fin : ∀ (n : Int) (F : Int → Sec) (e : Ending) (w' : World), PS j d b1 b2 N on (fun _ => none) n F w e w' → (n = 0 → ∃ k' t' L', Held F N k' t' L' ∧ (L' = L ∨ L' = if rs then [g] else L ++ [g])) → TornAny j d b1 b2 N L g rs w e w' := fun n F e w' hp hF => by
    obtain ⟨he, ⟨on', c', hJ, hcase⟩, ho⟩ := hp
    refine ⟨n, he, ?_, ho⟩
    rcases hcase with ⟨h0, rfl, rfl⟩ | ⟨h0, rfl, rfl⟩
    · exact ⟨_, L, k, t, hJ, hH, .inl ⟨h0, rfl⟩⟩
    · obtain ⟨k', t', L', h1, h2⟩ := hF h0
      exact ⟨_, L', k', t', hJ, h1, .inr ⟨h0, h2⟩⟩
  by_cases hst : st = 0 ∨ st = 1
  · cases rs with
    | false =>
      have key : outA (vw on fun _ => none) N g = 0 → ∃ k' t' L', Held (tornAF (vw on fun _ => none) on N g st zs) N k' t' L' ∧ (L' = L ∨ L' = if false then [g] else L ++ [g]) := fun h0 => by
        obtain ⟨ho, hr⟩ := outA_zero h0
        rcases hH.tornA h.2.2 hs ho (hH.room hs hr) st zs with x | x
        · exact ⟨_, _, _, x, .inl rfl⟩
        · exact ⟨_, _, _, x, .inr rfl⟩
      rcases hst with rfl | rfl
      · exact (torn_a0 h q m p _ hG a len cap zs hZ).mono fun e w' hp => fin _ _ e w' (ps_torn h hp) key
      · exact (torn_a1 h q m p _ hG a len cap zs hZ).mono fun e w' hp => fin _ _ e w' (ps_torn h hp) key
    | true =>
      have key : outR (vw on fun _ => none) N g = 0 → ∃ k' t' L', Held (tornRF (vw on fun _ => none) on N g st zs) N k' t' L' ∧ (L' = L ∨ L' = if true then [g] else L ++ [g]) := fun h0 => by
        obtain ⟨ho, hr, ht⟩ := outR_zero h0
        have hb : best (vw on fun _ => none) 2 = (k, t) := hH.bst
        rw [hb] at ht
        rcases hH.tornR h.2.2 hs ht ho hr st zs with x | x
        · exact ⟨_, _, _, x, .inl rfl⟩
        · exact ⟨_, _, _, x, .inr rfl⟩
      rcases hst with rfl | rfl
      · exact (torn_r0 h q m p _ hG a len cap zs hZ).mono fun e w' hp => fin _ _ e w' (ps_tornR h hp) key
      · exact (torn_r1 h q m p _ hG a len cap zs hZ).mono fun e w' hp => fin _ _ e w' (ps_tornR h hp) key
  · exact (torn_step j rs st q a m p len cap w (fun e => hst (.inl e)) (fun e => hst (.inr e))).mono fun e w' hp => ⟨2, hp.1, ⟨on, L, k, t, by rw [hp.2]; exact h, hH, .inl ⟨by decide, rfl⟩⟩, by rw [hp.2]; exact Out.refl _ _⟩
end Go.Proofs.Ytfmkgflhgapeoaa
