/-
  One log behind another; operations compared.
-/
import Derived.Test.YtegkmkbbmdplkaaCNames
import Derived.Laws.AppendOwnNone
namespace Go.Proofs.Ytegkmkbbmdplkaa
open Go.RowKit Go.ChangeShapes Go.WideShapes Go.ChangeAt Go.Maps Go.Shelf
set_option linter.unusedVariables false
set_option linter.unusedSimpArgs false
set_option maxRecDepth 100000
theorem wpList_wantedR {P : Program} {ops : Array Oper} {rest : List Oper} {o : Oper} {a : Act} {w : World} {Q : Exit → Act → World → Prop} (hw : Region.wanted o (yielded ops a.tmps) = true)
    (h : ∀ K : Act → World → Prop, (∀ a w, wpList P ops Q rest a w → K a w) → o.wp P a w K Q) : wpList P ops Q (o :: rest) a w :=
  wpList_step fun K hK => by rw [if_pos hw]; exact h K hK
theorem grown_reflR (w : World) (row : Option Nat) : w.grownBy w row := ⟨rfl, rfl, rfl, Nat.le_refl _, fun _ _ _ => rfl⟩
theorem isL_newsO {w : World} {ad : Addr} {l : List Rec} (h : IsL w (some ad) l) : ∀ j u, (rcells l)[j]? = some u → w.cell? (ad.add j) = some u := fun j u hu => by
  have hj : j < l.length * 9 := by rw [← rcells_len]; exact (List.getElem?_eq_some_iff.1 hu).1
  obtain ⟨b, off, e, _⟩ := h.2.2 (by omega)
  cases e
  exact isL_news h j u hu
/-- 'append(v, u...)' of logs, u nil or not, behind a test or not. -/
theorem wpList_appendL (w : World) {ops : Array Oper} {rest : List Oper} {o : Oper} {a : Act} {Q : Exit → Act → World → Prop} (hw : Region.wanted o (yielded ops a.tmps) = true) (s x : Operand)
    (ho : o.op = .call { callee := .builtin .append, args := #[s, x], argTypes := #[22, 22] }) (base : Nat) (v : Value) (n : Nat) (l : List Rec) (hs : a.eval s = v) (hown : w.ownsRow base 37 9 v n (rcells l))
    (ua : Option Addr) (m uc : Nat) (k : List Rec) (hx : a.eval x = .slice ua m uc) (hm : m = k.length) (hu : IsL w ua k) (hun : ua = none → uc = 0) (h63 : n + m ≤ 100000) (hbase : base ≤ w.heap.size)
    (h : ∀ v' w', w'.ownsRow base 37 9 v' (n + m) (rcells (l ++ k)) → w.grownBy w' v.ownBlock → wpList Try.prog ops Q rest (a.put o.dst v') w') : wpList Try.prog ops Q (o :: rest) a w := by
  obtain ⟨i0, hi, hz0, hz1, hz2⟩ := info_rec
  have hrc : rcells (l ++ k) = rcells l ++ rcells k := by unfold rcells; rw [List.flatMap_append]
  refine wpList_wantedR hw fun K hK => ?_
  cases ua with
  | none =>
    obtain rfl := hun rfl
    have hk0 : k = [] := by
      cases k with
      | nil => rfl
      | cons y ys => obtain ⟨b, off, e, _⟩ := hu.2.2 (by simp); cases e
    subst hk0
    simp only [List.length_nil] at hm
    subst hm
    have hrun := run_append_owned_none (P := Try.prog) (w := w) base 22 o.type 37 i0 9 Try.underlying22 hi v n (rcells l) hown
    unfold Oper.wp
    simp [execOp, ho, resolve, invoke, builtin, hs, hx, hrun, Result.andThen]
    exact hK _ _ (h v w (by simpa using hown) (grown_reflR _ _))
  | some ad =>
    refine wp_append_own w s x 22 ho base 37 i0 Rec.no.val 9 88 Try.underlying22 hi hz0 hz1 hz2 (by rfl) (by decide) v n (rcells l) hs hown ad m uc (rcells k) hx (by rw [rcells_len, hm]) (isL_newsO hu) (rcells_one _) (by unfold maxLen; omega) (by omega) hbase ?_
    intro v' w' h2 h3 _
    exact hK _ _ (h v' w' (by rw [hrc]; exact h2) h3)
theorem op_wide : (match Try.prog.underlying 34 with | some (.array _ _) | some (.struct _) => true | _ => false) = true := by kernel_rfl
theorem op_guard : Try.prog.eqGuardType Try.prog.depth 34 = false := by kernel_rfl
theorem op_key {x : Rec} (h : x.Wf) : ∃ kl, keyOf Try.prog 34 x.opV = some kl := by
  obtain ⟨h1, h2, h3, h4, h5, h6, h7, h8, h9⟩ := h
  have w1 : (Lit.int .u8 x.k).wf = true := by simp [Lit.wf, IntKind.min, IntKind.max, IntKind.signed, IntKind.bits]; omega
  have w2 : (Lit.int .u32 x.fid).wf = true := by simp [Lit.wf, IntKind.min, IntKind.max, IntKind.signed, IntKind.bits]; omega
  have w3 : (Lit.int .u32 x.dir).wf = true := by simp [Lit.wf, IntKind.min, IntKind.max, IntKind.signed, IntKind.bits]; omega
  have w4 : (Lit.int .u32 x.to).wf = true := by simp [Lit.wf, IntKind.min, IntKind.max, IntKind.signed, IntKind.bits]; omega
  have w5 : (Lit.int .u16 x.md).wf = true := by simp [Lit.wf, IntKind.min, IntKind.max, IntKind.signed, IntKind.bits]; omega
  have : (keyOf Try.prog 34 x.opV).isSome = true := by
    have hkt : Try.prog.keyType 34 = true := by kernel_rfl
    have hc0 : Try.prog.cellsOf 34 = 8 := by kernel_rfl
    have hc1 : Try.prog.cellsOf 31 = 1 := by kernel_rfl
    have hc2 : Try.prog.cellsOf 28 = 1 := by kernel_rfl
    have hc3 : Try.prog.cellsOf 32 = 1 := by kernel_rfl
    have hc4 : Try.prog.cellsOf 9 = 1 := by kernel_rfl
    have hs : decide (1 ≤ Try.prog.types.size) = true := by kernel_rfl
    obtain ⟨d, hd⟩ : ∃ d, Try.prog.types.size = d + 1 := ⟨Try.prog.types.size - 1, by have := of_decide_eq_true hs; omega⟩
    unfold Rec.opV keyOf
    rw [Try.underlying34, hd]
    simp [hkt, Value.formed, Try.underlying34, Try.underlying32, Try.underlying9, hc0, hc3, hc4, Value.cells, Program.keyLits, Try.underlying31, Try.underlying28, hc1, hc2, w1, w2, w3, w4, w5, h7, h8, h9]
    try rw [if_pos (by decide)]
    try rfl
  exact Option.isSome_iff_exists.1 this
theorem op_equal (w : World) {x : Rec} (hx : x.Wf) : (Op.equalIn 10000 34 x.opV x.opV).run Try.prog w = .ok true w := by
  obtain ⟨lx, ex⟩ := op_key hx
  obtain ⟨r, hr, hiff⟩ := run_equal_deep (P := Try.prog) w (m := 3) (by omega) (k := 34) (by kernel_rfl) op_wide ex ex
  have : r = true := hiff.2 rfl
  rw [this] at hr
  exact hr
theorem cut_drop (n : Int) (l : List Rec) : cutF n l ++ dropF n l = l := by
  have h1 : cutF n l = cutF (n.toNat : Int) l := by
    unfold cutF
    congr 1
    funext i
    by_cases q : n ≤ (i : Int)
    · rw [decide_eq_true q, decide_eq_true (by omega)]
    · rw [decide_eq_false q, decide_eq_false (by omega)]
  have h2 : dropF n l = dropF (n.toNat : Int) l := by
    unfold dropF
    congr 1
    funext i
    by_cases q : (i : Int) < n
    · rw [decide_eq_true q, decide_eq_true (by omega)]
    · rw [decide_eq_false q, decide_eq_false (by omega)]
  rw [h1, h2, cutF_eq, dropF_eq, List.take_append_drop]
theorem cut_wf {l : List Rec} (h : ∀ x ∈ l, x.Wf) (n : Int) : (∀ x ∈ cutF n l, x.Wf) ∧ ∀ x ∈ dropF n l, x.Wf :=
  ⟨keep_wf h l.length (Nat.le_refl _), keep_wf h l.length (Nat.le_refl _)⟩
theorem ocells_len (l : List Rec) : (ocells l).length = l.length * 8 := by
  unfold ocells
  induction l with
  | nil => rfl
  | cons p ps ih => rw [List.flatMap_cons, List.length_append, ih, List.length_cons]; simp [Rec.ops]; omega
theorem ocells_get (l : List Rec) (i : Nat) (h : i < l.length) (j : Nat) (hj : j < 8) : (ocells l)[i * 8 + j]? = ((l.getD i Rec.no).ops)[j]? := by
  unfold ocells
  induction l generalizing i with
  | nil => simp at h
  | cons p ps ih =>
    rw [List.flatMap_cons]
    rcases i with _ | i
    · rw [Nat.zero_mul, Nat.zero_add, List.getElem?_append_left (by simpa [Rec.ops] using hj)]; rfl
    · rw [List.getElem?_append_right (by simp [Rec.ops]; omega)]
      have : (i + 1) * 8 + j - (p.ops).length = i * 8 + j := by simp [Rec.ops]; omega
      rw [this, ih i (by simpa using h)]; simp [List.getD]
theorem own_opAt {w : World} {B n c : Nat} {a : Option Addr} {l : List Rec} (h : w.ownsRow B 34 8 (.slice a n c) l.length (ocells l)) {k : Nat} (hk : k < l.length) : ∃ g, a = some ⟨g, 0, none⟩ ∧ ∀ j v, (l.getD k Rec.no).ops[j]? = some v → w.cell? ⟨g, k * 8 + j, none⟩ = some v := by
  rcases h.2 with ⟨h1, hn⟩ | ⟨g, cap, cur, h1, hb, hg, hn, hc, hs, ht⟩
  · omega
  · cases h1
    refine ⟨g, rfl, fun j v hv => ?_⟩
    have hj : j < 8 := (List.getElem?_eq_some_iff.1 hv).1
    rw [cell_of_row w g _ cur _ _ hg]
    rw [← ocells_get l k hk j hj, ← ht, List.getElem?_take, if_pos (by omega)] at hv
    rw [← Array.getElem?_toList]; exact hv
theorem qgeqR {o : Oper} {a : Act} {C : World → Prop} {w : World} (x y : Operand) (t : TypeId) (m n : Nat) (hop : o.op = .binOp .geq 3 x y t) (hx : a.eval x = .int .i64 m) (hy : a.eval y = .int .i64 n) (hb : m < n) (hC : C w) : o.quietAt Try.prog a C w (.bool false) := by
  have hb' : ¬ (n : Int) ≤ m := by omega
  unfold Oper.quietAt
  simp only [execOp, hop, hx, hy]
  simp [go_sem, Result.andThen, hC, eqGuard, hb]
end Go.Proofs.Ytegkmkbbmdplkaa
