/-
  The document's Put, text, op: bytes of numbers, of texts, of operations.
-/
import Derived.Test.YtbgninmkglgfeaaRPut
import Derived.Laws.AppendOwnNone
import Derived.Deep.CutRange
namespace Go.Proofs.Ytbgninmkglgfeaa
open Go.RowKit Go.ChangeShapes Go.WideShapes Go.ChangeAt
set_option linter.unusedVariables false
set_option linter.unusedSimpArgs false
set_option maxRecDepth 100000
/-- Bytes that the call owns, from base on. -/
def OwB (w : World) (base : Nat) (v : Value) (zs : List Int) : Prop := w.ownsRow base 5 1 v zs.length (zs.map u8V)
theorem OwB.later {w w' : World} {base : Nat} {v : Value} {zs : List Int} (h : OwB w base v zs) (hb : Below w.heap.size w w') : OwB w' base v zs := own_latR h hb
theorem OwB.base {w : World} {b b' : Nat} {v : Value} {zs : List Int} (h : OwB w b v zs) (hb : b' ≤ b) : OwB w b' v zs := own_baseR h hb
theorem OwB.any {w : World} {base : Nat} {v : Value} {zs : List Int} (h : OwB w base v zs) : ∃ a n cap, v = .slice a n cap := own_slice h
theorem OwB.new (w : World) (z : Int) : OwB (w.alloc (.cells #[.int .u8 z] 5)) w.heap.size (.slice (some ⟨w.heap.size, 0, none⟩) 1 1) [z] :=
  ⟨rfl, .inr ⟨w.heap.size, 1, _, rfl, Nat.le_refl _, heap_alloc_new w _, Nat.le_refl _, by unfold maxLen; omega, rfl, rfl⟩⟩
theorem u8V_one (zs : List Int) : ∀ u ∈ zs.map u8V, u.oneCell' = true := fun u hu => by
  obtain ⟨z, _, rfl⟩ := List.mem_map.1 hu
  rfl
theorem alloc_leR (w : World) (o : Obj) : w.heap.size ≤ (w.alloc o).heap.size := by simp
/-- append of a whole row of bytes. -/
theorem wp_appB (w : World) {o : Oper} {a : Act} {K : Act → World → Prop} {Q : Exit → Act → World → Prop} (s x : Operand)
    (ho : o.op = .call { callee := .builtin .append, args := #[s, x], argTypes := #[22, 22] })
    (base : Nat) (v : Value) (zs : List Int) (hs : a.eval s = v) (hown : OwB w base v zs) (u : Value) (ys : List Int) (hx : a.eval x = u) (hsrc : OwB w 0 u ys) (hl : zs.length ≤ 100000) (hl2 : ys.length ≤ 100000) (hb : base ≤ w.heap.size)
    (h : ∀ v' w', OwB w' base v' (zs ++ ys) → w.grownBy w' v.ownBlock → K (a.put o.dst v') w') : o.wp Try.prog a w K Q := by
  obtain ⟨i0, hi0, hz0, hz1, hz2⟩ := info_parts8
  rcases hsrc.2 with ⟨rfl, h0⟩ | ⟨g, cap, cur, rfl, _, hg, hn, hm, hsz2, htk⟩
  · have hM : ys = [] := List.eq_nil_of_length_eq_zero h0
    subst hM
    have hrun := run_append_owned_none (P := Try.prog) (w := w) base 22 o.type 5 i0 1 Try.underlying22 hi0 v _ _ hown
    unfold Oper.wp
    simp [execOp, ho, resolve, invoke, builtin, hs, hx, hrun, Result.andThen]
    exact h v w (by simpa using hown) (World.grownBy.refl w _)
  · refine wp_append_own w s x 22 ho base 5 i0 (.int .u8 0) 1 1 Try.underlying22 hi0 hz0 hz1 hz2 (by rfl) (by decide) v zs.length _ hs hown ⟨g, 0, none⟩ ys.length cap (ys.map u8V) hx (by simp) (fun j y hj => hsrc.cells (g := g) rfl j y hj) (u8V_one ys) (by unfold maxLen; omega) (by omega) hb ?_
    intro v' w' q1 q2 _
    exact h v' w' (by unfold OwB; rw [List.map_append, List.length_append]; exact q1) q2
theorem step_appB9 (w : World) {ops : Array Oper} {o : Oper} {a : Act} {K : Act → World → Prop} {Q : Exit → Act → World → Prop} {E : Prop} (hgd : o.guard = none) (s x : Operand)
    (ho : o.op = .call { callee := .builtin .append, args := #[s, x], argTypes := #[22, 22] })
    (base : Nat) (v : Value) (zs : List Int) (hs : a.eval s = v) (hown : OwB w base v zs) (u : Value) (ys : List Int) (hx : a.eval x = u) (hsrc : OwB w 0 u ys) (hl : zs.length ≤ 100000) (hl2 : ys.length ≤ 100000) (hb : base ≤ w.heap.size)
    (h : ∀ v' w', OwB w' base v' (zs ++ ys) → w.grownBy w' v.ownBlock → K (a.put o.dst v') w') :
    if Region.wanted o (yielded ops a.tmps) = true then Oper.wp Try.prog o a w K Q else E := by
  rw [if_pos (by simp [Region.wanted, hgd])]
  exact wp_appB w s x ho base v zs hs hown u ys hx hsrc hl hl2 hb h
theorem grown_bel {B : Nat} {a w w' : World} {base : Nat} {v : Value} {zs : List Int} (h : Below B a w) (hown : OwB w base v zs) (hB : B ≤ base) (hBw : B ≤ w.heap.size) (hg : w.grownBy w' v.ownBlock) : Below B a w' := below_grownR h hown hB hBw hg
set_option maxHeartbeats 2000000 in
theorem rput_c (n : Int) (s : Nat) (w : World) (hs : s ≤ 8) (h0 : 0 ≤ n) (h1 : n < 18446744073709551616) :
    Calls Try.prog 41 #[.int .u64 n, .int .i64 s] w fun e w' => ∃ v, e = .returned v ∧ OwB w' w.heap.size v (beF n s) ∧ Below w.heap.size w w' := by
  obtain ⟨i0, hi0, hz0, hz1, hz2⟩ := info_parts8
  have FIN : Hid ((beF n s).take s = beF n s) := hid (List.take_of_length_le (by rw [beF_len]; exact Nat.le_refl _))
  have LE : Hid (∀ m, ((beF n s).take m).length ≤ 8) := hid (fun m => by rw [List.length_take, beF_len]; omega)
  go_enter Try.func41, Try.ntmps41
  go_wp2
  go_loopg [5, 6] s (fun gk v j wr => ∃ m : Nat, m + gk = s ∧ j = .int .i64 ((s : Int) - 1 - (m : Int)) ∧ Hid (OwB wr w.heap.size v ((beF n s).take m)) ∧ Hid (Below w.heap.size w wr))
  case atStart => exact ⟨0, by omega, by simp, hid (World.ownsRow_nil _ _ _ _), hid (Below.refl _ _)⟩
  case round =>
    obtain ⟨m, hm, rfl, HO, HB⟩ := hrel
    obtain ⟨va, vn, vc, rfl⟩ := HO.out.any
    by_cases hlt : m < s
    · obtain ⟨d, hd⟩ : ∃ d, d = s - 1 - m := ⟨_, rfl⟩
      have ed : (s : Int) - 1 - (m : Int) = (d : Int) := by omega
      have en : (d : Int) - 1 = (s : Int) - 1 - ((m + 1 : Nat) : Int) := by omega
      have HEN := hid en
      rw [ed]
      have hgeI : (0 : Int) ≤ (d : Int) := by omega
      have hgeD : decide ((d : Int) ≥ 0) = true := decide_eq_true hgeI
      have ep : (256 : Int) ^ d = 2 ^ (8 * d) := by rw [Int.pow_mul]; rfl
      have HBT := hid (beF_take n s m hlt)
      rw [← hd, ep] at HBT
      have hlen := LE.out m
      have hd8 : d ≤ 8 := by omega
      clear hd ed en ep
      generalize hzb : n / 2 ^ (8 * d) % 256 = zb at *
      have b1 : Below wr.heap.size wr (wr.alloc (.cells #[.int .u8 zb] 5)) := (Below.refl _ _).alloc (Nat.le_refl _) _
      have O1 := hid (HO.out.later b1)
      have B1 := hid (HB.out.trans (b1.mono HB.out.size))
      have N1 := hid (OwB.new wr zb)
      clear b1
      go_wp2_with (at_builtin; refine wpList_plain rfl fun K hK => wp_appB _ _ _ rfl w.heap.size _ _ rfl O1.out _ _ rfl (N1.out.base (Nat.zero_le _)) (by omega) (by simp) B1.out.size (fun v9 w9 ho9 hg9 => hK _ _ ?_); (have O9 := hid ho9); (have B9 := hid (grown_bel B1.out O1.out (Nat.le_refl _) B1.out.size hg9)); (obtain ⟨a9, n9, c9, rfl⟩ := ho9.any); clear ho9 hg9)
      go_roundg (gk - 1)
      case measure => omega
      case rel => exact ⟨m + 1, by omega, by rw [← HEN.out], hid (by rw [HBT.out]; exact O9.out), B9⟩
    · have em : m = s := by omega
      subst em
      have e1 : (m : Int) - 1 - (m : Int) = -1 := by omega
      rw [e1]
      go_wp2
      go_ret
      exact ⟨_, rfl, by have := HO.out; rw [FIN.out] at this; exact this, HB.out⟩
set_option maxHeartbeats 2000000 in
theorem rtext_c (s : ByteArray) (w : World) (hs : s.size ≤ 200) :
    Calls Try.prog 82 #[.string s] w fun e w' => ∃ v, e = .returned v ∧ OwB w' w.heap.size v (txF s) ∧ Below w.heap.size w w' := by
  obtain ⟨i0, hi, hz0, hz1, hz2⟩ := info_parts8
  have hw : IntKind.u8.wrap (s.size : Int) = (s.size : Int) := by rw [IntKind.wrap_u8]; omega
  have N1 := hid (OwB.new w (s.size : Int))
  have B1 := hid ((Below.refl w.heap.size w).alloc (Nat.le_refl _) (.cells #[.int .u8 (s.size : Int)] 5))
  have ET : Hid (txF s = [(s.size : Int)] ++ Fr.bs s) := hid (by unfold txF beF beF; simp; omega)
  go_enter Try.func82, Try.ntmps82
  go_wp2_with (at_builtin; refine Lib.wpList_append_own_string _ rfl _ _ 22 9 rfl w.heap.size 5 i0 Try.underlying22 Try.underlying9 hi hz0 hz1 hz2 _ _ _ rfl N1.out s rfl (by unfold maxLen; simp; omega) (by simp; omega) (alloc_leR _ _) ?_; intro v' w5 hown' hgrow5 hnil5; (have O5 := hid hown'); (have B5 := hid (grown_bel B1.out N1.out (Nat.le_refl _) (alloc_leR _ _) hgrow5)); (obtain ⟨a5, n5, c5, rfl⟩ := own_slice hown'); clear hown' hgrow5 hnil5)
  go_ret
  refine ⟨_, rfl, ?_, B5.out⟩
  have := O5.out
  rw [strCells_bs] at this
  unfold OwB
  rw [ET.out, List.length_append, List.map_append, Fr.bs_length]
  exact this
end Go.Proofs.Ytbgninmkglgfeaa
