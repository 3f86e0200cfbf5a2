/-
  The document's caller.
-/
import Derived.Test.YtmoeljieafninaaROp
import Derived.Deep.Cut
namespace Go.Proofs.Ytmoeljieafninaa
open Go.RowKit Go.ChangeShapes Go.WideShapes Go.ChangeAt
set_option linter.unusedVariables false
set_option linter.unusedSimpArgs false
set_option maxRecDepth 100000
theorem rr_aux (x : Bool) (s : Int) (n : Nat) (h1 : ¬ s = 0) (h2 : n ≤ 16384) : x = (x && s != 0 && decide (n ≤ 16384)) := by
  have e1 : (s != 0) = true := by simpa using h1
  simp [e1, h2]
theorem rr_aux2 {f t s : Int} {n : Nat} (h : ((3 < f ∨ 3 < t) ∨ (s == 0) = true) ∨ (16384 : Int) < n) (h1 : f ≤ 3) (h2 : t ≤ 3) (h3 : ¬ s = 0) : 16384 < n := by
  rcases h with ((h | h) | h) | h
  · omega
  · omega
  · exact absurd (beq_iff_eq.1 h) h3
  · omega
theorem step_append_text {P : Program} (w : World) {ops : Array Oper} {o : Oper} {a : Act} {K : Act → World → Prop} {Q : Exit → Act → World → Prop} {E : Prop} (hgd : o.guard = none) (sl x : Operand) (t u : TypeId)
    (ho : o.op = .call { callee := .builtin .append, args := #[sl, x], argTypes := #[t, u] })
    (base : Nat) (e : TypeId) (i : TypeInfo) (ht : P.underlying t = some (.slice e)) (hu : P.underlying u = some .string) (hi : P.info? e = some i) (hz : i.zero = some (.int .u8 0))
    (hsize : i.size = 1) (hby : i.bytes = 1)
    (v : Value) (n : Nat) (xs : List Value) (hs : a.eval sl = v) (hown : w.ownsRow base e 1 v n xs) (s : ByteArray) (hx : a.eval x = .string s)
    (h63 : n + s.size ≤ maxLen) (hbytes : n + s.size ≤ 140737488355328) (hbase : base ≤ w.heap.size)
    (h : ∀ v' w', w'.ownsRow base e 1 v' (n + s.size) (xs ++ Lib.strCells s) → w.grownBy w' v.ownBlock → K (a.put o.dst v') w') :
    if Region.wanted o (yielded ops a.tmps) = true then Oper.wp P o a w K Q else E := by
  rw [if_pos (by simp [Region.wanted, hgd])]
  obtain ⟨v', w', hr, h2, h3, h4⟩ := Lib.run_append_own_string (P := P) w base t u o.type e i ht hu hi hz hsize hby v n xs hown s h63 hbytes hbase
  unfold Oper.wp execOp
  simp only [ho, resolve, invoke, builtin, Sem.run_bind, Sem.run_pure, Result.andThen_ok, List.map_toArray, List.map_cons, List.map_nil, hs, hx, hr]
  exact h v' w' h2 h3
set_option maxHeartbeats 2000000 in
theorem rright_c (p : Fr.Pk) (hp : Fr.Wf p) (hs : p.b.size ≤ maxLen) (w : World) :
    Calls Try.prog 26 #[Fr.val p] w fun e' w' => e' = .returned (.bool (Fr.rightB p)) ∧ Below w.heap.size w w' := by
  obtain ⟨k, f, t, e, s, b⟩ := p
  obtain ⟨hk, hf, ht, he, hs'⟩ := hp
  rw [show Fr.val ⟨k, f, t, e, s, b⟩ = .agg #[.int .u8 k, .int .u8 f, .int .u8 t, .int .u32 e, .int .u32 s, .string b] from rfl]
  unfold maxLen at hs
  simp only at hk hf ht he hs' hs
  go_enter Try.func26, Try.ntmps26
  go_wp2
  all_goals
    go_ret
    exact ⟨ret_bool (by unfold Fr.rightB; simp [*] <;> first | omega | (intro hh; omega) | (intro hh; exact rr_aux2 ‹((3 < f ∨ 3 < t) ∨ (s == 0) = true) ∨ (16384 : Int) < ↑b.size› ‹f ≤ 3› ‹t ≤ 3› ‹¬ s = 0›) | exact rr_aux _ _ _ ‹_› (by omega)), (Below.refl _ _).alloc (Nat.le_refl _) _⟩
end Go.Proofs.Ytmoeljieafninaa
