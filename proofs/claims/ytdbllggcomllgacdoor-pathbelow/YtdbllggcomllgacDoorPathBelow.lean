/-
  For every two texts and names, Below and Same answer what the document's definition answers, and live holds (where the library's tables read as the program's text lays them, which the card ties).
-/
import Derived.Test.YtdbllggcomllgacDoorPRUses
import Derived.Deep.QuietTactic
import Derived.BigQuiet
import Derived.Test.YtdbllggcomllgacDoorCards
import Derived.Test.YtdbllggcomllgacDoorTie
import Derived.ChangeOld
import Derived.Below
import Derived.Deep.DeepHandedRow
import Derived.Lib.LaidTab
import Derived.Shelf.Vars
namespace Go.Proofs.YtdbllggcomllgacDoor
open Go.ChangeShapes Go.WideShapes Go.ChangeAt Go.RowKit
open Go.ChangeMaps (open_string shut_string)
open Go.BigFrame
set_option linter.unusedVariables false
/-- A region that draws its order, walked once in the order of the text. -/
theorem wp_region_class' {P : Program} {id : Nat} {Q : Exit → Act → World → Prop} {a : Act} {w : World} {l : List Oper} (hm : P.follows .mixedOrders = true) (hB : Region.lexB .any l.toArray = true)
    (h : wpQuiet P l.toArray (fun w' => Below w.heap.size w w') (fun a' => ∀ w', Below w.heap.size w w' → Q .normal a' w') l a) : (Code.region id l.toArray true).wp P Q a w :=
  wp_region_quiet (C := fun w' => Below w.heap.size w w') hm hB ⟨rfl, rfl, rfl, Nat.le_refl _, fun _ _ => rfl⟩ (by simpa using h)
theorem quiet_by' {P : Program} {o : Oper} {a a' : Act} {C : World → Prop} {K : Act → Prop} {v : Value} (h1 : ∀ w, C w → o.quietAt P a C w v) (h2 : a.put o.dst v = a') (h3 : K a') : o.quiet P a C K :=
  ⟨v, h1, by rw [h2]; exact h3⟩
theorem class_of' {P : Program} {f : FuncId} {args : Array Value} {W w : World} {v : Value} (hw : Below W.heap.size W w)
    (h : Calls P f args w fun e w' => e = .returned v ∧ Below w.heap.size w w') : Calls P f args w fun e w'' => e = .returned v ∧ Below W.heap.size W w'' :=
  h.mono fun _ _ ⟨he, hb⟩ => ⟨he, hw.trans (hb.mono hw.size)⟩
theorem class_same' {P : Program} {f : FuncId} {args : Array Value} {W w : World} {v : Value} (hw : Below W.heap.size W w)
    (h : Calls P f args w fun e w' => e = .returned v ∧ w' = w) : Calls P f args w fun e w'' => e = .returned v ∧ Below W.heap.size W w'' :=
  h.mono fun _ _ ⟨he, hb⟩ => ⟨he, by rw [hb]; exact hw⟩
/-- What is read of an array of two slices of texts that came in. -/
theorem open_pairS {H : Type} {enc : TypeId × Value → H} {P : Program} {W : World} {r : Reach} {b0 : Nat} {t e g : TypeId} {v : Value} {d : DataW H} {p : List MemPlace}
    (ht : P.underlying t = some (.array 2 e)) (he : P.underlying e = some (.slice g)) (hg : P.underlying g = some .string) (hce : P.cellsOf e = 1) (hct : P.cellsOf t = 2) (hcg : P.cellsOf g = 1)
    (hv : Value.okWide P W r b0 t v) (h : DataW.Trod enc P W 0 (fun _ => true) true t v d p) :
    ∃ x y xs ys, v = .agg #[x, y] ∧ IsS W x xs ∧ IsS W y ys := by
  simp only [Value.okWide, ht] at hv
  obtain ⟨cs, rfl, hsz, _⟩ := hv
  obtain ⟨fuel, hf⟩ := h
  obtain ⟨zs, m, _, _, _, hlen, hel⟩ := DataW.trod_array ht hf
  have h0 := hel 0 (by omega)
  have h1 := hel 1 (by omega)
  rw [hct] at hsz
  obtain ⟨c0, c1, rfl⟩ : ∃ c0 c1, cs = #[c0, c1] := by
    obtain ⟨l⟩ := cs
    match l, hsz with
    | [c0, c1], _ => exact ⟨c0, c1, rfl⟩
  match zs, hlen with
  | [z0, z1], _ =>
    simp [hce, Value.cells] at h0 h1
    have key : ∀ (c : Value) (z : DataW H × List MemPlace), DataW.trod enc P W 0 (fun _ => true) true m e [c] = some z → ∃ ss, IsS W c ss := by
      intro c z hz
      rcases DataW.trod_slice he hz with ⟨hcs, _⟩ | ⟨a, len, cap, elems, rest, n, _, hcs, _⟩
      · simp at hcs; subst hcs
        exact ⟨[], none, 0, rfl, Nat.le_refl _, Nat.zero_le _, fun h => absurd h (by simp), by simp⟩
      · simp at hcs; subst hcs
        obtain ⟨ss, hl, hI⟩ := isS_of (enc := enc) (d := z.1) (p := z.2) he hg hcg ⟨m, hz⟩
        exact ⟨ss, hI⟩
    obtain ⟨xs, hx⟩ := key c0 z0 h0
    obtain ⟨ys, hy⟩ := key c1 z1 h1
    exact ⟨c0, c1, xs, ys, rfl, hx, hy⟩
set_option maxRecDepth 100000 in
set_option maxHeartbeats 2000000 in
theorem pathBelow_at (s t : ByteArray) (hs : s.size ≤ maxLen) (ht : t.size ≤ maxLen) (x y : Value) (xs ys : List (List UInt8)) (w : World) (m : Int) (hmx : w.cell? ⟨0, 0, none⟩ = some (.int .i64 m)) (hx : IsS w x xs) (hy : IsS w y ys)
    (b1 b2 : Bool) (e1 : Pa.belowB s.data.toList t.data.toList = b1) (e2 : decide (xs = ys) = b2) :
    Calls Tryd.prog 4 #[.string s, .string t, .agg #[x, y]] w fun e w' => e = .returned (.bool true) ∧ Below w.heap.size w w' := by
  have HX := hid' hmx
  have Hx := hid' hx
  have Hy := hid' hy
  have E1 := hid' e1
  have E2 := hid' e2
  have hxa : ∃ a n cap, x = .slice a n cap := by obtain ⟨a, cap, e, _⟩ := hx; exact ⟨_, _, _, e⟩
  have hya : ∃ a n cap, y = .slice a n cap := by obtain ⟨a, cap, e, _⟩ := hy; exact ⟨_, _, _, e⟩
  obtain ⟨ax, nx, cx, rfl⟩ := hxa
  obtain ⟨ay, ny, cy, rfl⟩ := hya
  clear hmx hx hy e1 e2
  go_enter Tryd.func4, Tryd.ntmps4
  go_wp2
  have hB : Below w.heap.size w (w.alloc (Obj.cells #[Value.slice ax nx cx, Value.slice ay ny cy] 28)) := (Below.refl _ _).alloc (Nat.le_refl _) _
  have k0 : (w.alloc (Obj.cells #[Value.slice ax nx cx, Value.slice ay ny cy] 28)).cell? ⟨w.heap.size, 0, none⟩ = some (.slice ax nx cx) := by simp [go_sem]
  have k1 : (w.alloc (Obj.cells #[Value.slice ax nx cx, Value.slice ay ny cy] 28)).cell? ⟨w.heap.size, 1, none⟩ = some (.slice ay ny cy) := by simp [go_sem]
  generalize (w.alloc (Obj.cells #[Value.slice ax nx cx, Value.slice ay ny cy] 28)) = W at *
  have l0 : ∀ w', Below W.heap.size W w' → w'.cell? ⟨w.heap.size, 0, none⟩ = some (.slice ax nx cx) := fun w' h => cell_later h k0
  have l1 : ∀ w', Below W.heap.size W w' → w'.cell? ⟨w.heap.size, 1, none⟩ = some (.slice ay ny cy) := fun w' h => cell_later h k1
  have HW : Hid (∀ w', Below W.heap.size W w' → Below w.heap.size w w') := fun w' h => hB.trans (h.mono hB.size)
  have C1 : Hid (∀ w', Below W.heap.size W w' → Calls Tryd.prog 12 #[.string s, .string t] w' fun e w'' => e = .returned (.bool b1) ∧ Below W.heap.size W w'') := fun w' h => class_of' h (by rw [← E1.out]; exact below_c s t w' hs ht)
  have C2 : Hid (∀ w', Below W.heap.size W w' → Calls Tryd.prog 13 #[.string s, .string t] w' fun e w'' => e = .returned (.bool b1) ∧ Below W.heap.size W w'') := fun w' h => class_of' h (by rw [← E1.out]; exact rbelow_c s t w' m (cell_later (HW.out w' h) HX.out) hs ht)
  have C3 : Hid (∀ w', Below W.heap.size W w' → Calls Tryd.prog 14 #[.slice ax nx cx, .slice ay ny cy] w' fun e w'' => e = .returned (.bool b2) ∧ Below W.heap.size W w'') := fun w' h => class_same' h (by rw [← E2.out]; exact same_c _ _ xs ys w' (Hx.out.later (HW.out w' h)) (Hy.out.later (HW.out w' h)))
  have C4 : Hid (∀ w', Below W.heap.size W w' → Calls Tryd.prog 15 #[.slice ax nx cx, .slice ay ny cy] w' fun e w'' => e = .returned (.bool b2) ∧ Below W.heap.size W w'') := fun w' h => class_of' h (by rw [← E2.out]; exact rsame_c _ _ xs ys w' (Hx.out.later (HW.out w' h)) (Hy.out.later (HW.out w' h)))
  refine wp_region_class' (by kernel_rfl) (by kernel_rfl) ?_
  repeat (first
    | go_big_quiet_skip
    | (go_big_quiet_want
       apply quiet_by'
       · intro w1 hw1
         go_simp
         first
           | rfl
           | (go_at_call 11; exact class_of' hw1 (plive_c _))
           | (go_at_call 12; exact C1.out _ hw1)
           | (go_at_call 13; exact C2.out _ hw1)
           | (go_at_call 14; exact C3.out _ hw1)
           | (go_at_call 15; exact C4.out _ hw1)
       · go_simp; rfl
       go_big_quiet_on))
  refine wpQuiet_nil ?_
  intro w2 hw2
  go_wp2
  go_ret
  exact ⟨ret_bool' (by first | rfl | simp), HW.out _ hw2⟩
theorem pathBelow_walk (s : ByteArray) (hs : s.size ≤ maxLen) (t : ByteArray) (ht : t.size ≤ maxLen) (x y : Value) (xs ys : List (List UInt8)) (w : World) (m : Int) (hmx : w.cell? ⟨0, 0, none⟩ = some (.int .i64 m)) (hx : IsS w x xs) (hy : IsS w y ys) :
    Calls Tryd.prog 4 #[.string s, .string t, .agg #[x, y]] w fun e w' => e = .returned (.bool true) ∧ Below w.heap.size w w' := by
  cases e1 : Pa.belowB s.data.toList t.data.toList with
  | true =>
    cases e2 : decide (xs = ys) with
    | true => exact pathBelow_at s t hs ht x y xs ys w m hmx hx hy true true e1 e2
    | false => exact pathBelow_at s t hs ht x y xs ys w m hmx hx hy true false e1 e2
  | false =>
    cases e2 : decide (xs = ys) with
    | true => exact pathBelow_at s t hs ht x y xs ys w m hmx hx hy false true e1 e2
    | false => exact pathBelow_at s t hs ht x y xs ys w m hmx hx hy false false e1 e2
/-! ### The row and the card of PathBelow -/
theorem pathBelow_own : ownKnob Tryd.prog.godebug = none := by kernel_rfl
theorem pathBelow_laidOut : laidOutB Tryd.prog = true := by kernel_rfl
def pathBelow_first : Array Value := (Go.Pinned.utf8FirstZ.map fun (n : Nat) => Value.int .u8 (n : Int)).toArray
def pathBelow_ranges : Array Value := ([128, 191, 160, 191, 128, 159, 144, 191, 128, 143, 0, 0, 0, 0, 0, 0, 0, 0, 0, 0, 0, 0, 0, 0, 0, 0, 0, 0, 0, 0, 0, 0].map fun (n : Nat) => Value.int .u8 (n : Int)).toArray
/-- The library's MaxLen holds some number, whatever it is. -/
theorem pathBelow_max {W : World} (h : W.ShapedOpen Tryd.prog) : ∃ m, W.cell? ⟨0, 0, none⟩ = some (.int .i64 m) :=
  cell_of_shapedOpen_int (t := 3) (zero := #[.int .i64 0]) h (by decide +kernel) (by kernel_rfl) rfl (by kernel_rfl) (by kernel_rfl) Tryd.underlying3
theorem pathBelow_contract (H : Type) (enc : TypeId × Value → H) (W : World) (base : Nat) (args : Array Value) (ds gs : List (DataW H)) (before : List MemPlace)
    (hval : ∀ (j : Nat) t v, Tryd.f4.params[j]? = some t → args[j]? = some v → Value.okWide Tryd.prog W .any base t v)
    (hW : DataW.Whole enc Tryd.prog Tryd.f4.params.toList Rows.pathBelowSpec.vars false W args.toList ds gs before) (hsh : W.ShapedOpen Tryd.prog) :
    Calls Tryd.prog 4 args W fun e W' => ∃ v, e = .returned v ∧ Rows.pathBelowSpec.post enc Tryd.prog Tryd.f4 false true false false W args v W' := by
  obtain ⟨mx, hmx⟩ := pathBelow_max hsh
  have hW' := hW
  obtain ⟨p, q, hA0, hV, rfl, hfz, hnd⟩ := hW
  have hA : DataW.TrodAll enc Tryd.prog W 0 (fun _ => true) true Tryd.f4.params.toList args.toList ds p := hA0
  rw [Tryd.params4] at hA hval
  obtain ⟨v0, vs0, d0, ds0, p0, q0, hargs, rfl, rfl, h0, r0⟩ := trodAll_cons hA
  obtain ⟨v1, vs1, d1, ds1, p1, q1, rfl, rfl, rfl, h1, r1⟩ := trodAll_cons r0
  obtain ⟨v2, vs2, d2, ds2, p2, q2, rfl, rfl, rfl, h2, r2⟩ := trodAll_cons r1
  obtain ⟨rfl, rfl, rfl⟩ := trodAll_nil r2
  obtain rfl : args = #[v0, v1, v2] := by cases args; simp_all
  obtain ⟨rfl, rfl⟩ := trodVars_none hV
  obtain ⟨a0, rfl, rfl, rfl, w0⟩ := open_string Tryd.underlying9 (hval 0 9 v0 rfl rfl) h0
  obtain ⟨a1, rfl, rfl, rfl, w1⟩ := open_string Tryd.underlying9 (hval 1 9 v1 rfl rfl) h1
  have k2 := h2
  have lt2 : ∀ x ∈ p2, x.block < W.heap.size := by obtain ⟨m, hm⟩ := k2; exact DataW.trod_lt m _ _ _ hm
  obtain ⟨x2, y2, xs2, ys2, rfl, wx2, wy2⟩ := open_pairS Tryd.underlying28 Tryd.underlying27 Tryd.underlying9 (by kernel_rfl) (by kernel_rfl) (by kernel_rfl) (hval 2 28 v2 rfl rfl) h2
  clear hA0
  refine (pathBelow_walk a0 w0 a1 w1 x2 y2 xs2 ys2 W mx hmx wx2 wy2).mono fun e W' ⟨he, bel⟩ => ?_
  subst he
  exact ⟨_, rfl, _, _, _, [], _, [], hW', trodAll_mk1 (shut_bool Tryd.underlying4 _), (trodAll_cons_mk (shut_string Tryd.underlying9 w0) (trodAll_cons_mk (shut_string Tryd.underlying9 w1) (trodAll_cons_mk (Below.trod pathBelow_laidOut (by kernel_rfl) (of_decide_eq_true (by kernel_rfl)) k2 bel lt2) trodAll_mk0))), rfl, bel.frame _, fun h => by cases h⟩
set_option maxRecDepth 100000 in
theorem pathBelow_wit (os : Os) (H : Type) (enc : TypeId × Value → H) : ∃ (w : World) (tape : Tape) (i : Input), w.os = os ∧ (w.forCall tape i).Shaped Tryd.checked.prog ∧ i.vars = [] ∧ Input.okWide Tryd.checked.prog (w.forCall tape i) .any w.heap.size 4 i ∧
      (OpenSpec.ofChange Rows.pathBelowSpec).preRow enc Tryd.checked.prog Tryd.f4 Rows.pathBelowRow.domain false Rows.pathBelowRow.laid (w.forCall tape i).memory i.args ∧ ({ modest := false } : Assume).holds Tryd.checked.prog (lone (Frame.enter Tryd.checked.prog 4 i.args .normal) [] (w.forCall tape i)) :=
  witness_row_at (enc := enc) (C := Tryd.checked) false ({ World.holding Tryd.prog os ⟨#[], #[], []⟩ with heap := ((World.holding Tryd.prog os ⟨#[], #[], []⟩).heap.modify 1 fun | .cells _ t fz => .cells pathBelow_first t fz | o => o).modify 2 fun | .cells _ t fz => .cells pathBelow_ranges t fz | o => o }) #[.string ByteArray.empty, .string ByteArray.empty, .agg #[.slice none 0 0, .slice none 0 0]] rfl (by kernel_rfl) (by kernel_rfl) (by kernel_rfl)
    (OpenSpec.preRow_of_cond (x := ([.lit (.string []), .lit (.string []), .agg [.nil, .nil]], [], [])) 8 (by kernel_rfl) (by kernel_rfl) (fun k hk => by cases hk) (by kernel_rfl) (laidMet_of_run' 8 (by kernel_rfl) (by kernel_rfl)))
set_option maxRecDepth 100000 in
theorem pathBelow_lifted (os : Os) (started : os.Started) (H : Type) (enc : TypeId × Value → H) (F : Stop.Interp) :
    ReturnsInHanded {} Tryd.checked os 4 .any ((OpenSpec.ofChange Rows.pathBelowSpec).preRow enc Tryd.prog Tryd.f4 Rows.pathBelowRow.domain false Rows.pathBelowRow.laid) (((OpenSpec.ofChange Rows.pathBelowSpec).at F).post enc Tryd.prog Tryd.f4 false true false false) := by
  refine returnsInHanded_of_row (C := Tryd.checked) (s := OpenSpec.ofChange Rows.pathBelowSpec) pathBelow_own started (by kernel_rfl) Tryd.func4 (pathBelow_wit os H enc) ?_
  intro W base args ds gs before hval hW _ _ _ hL hsh _
  exact pathBelow_contract H enc W base args ds gs before hval hW hsh
theorem pathBelow_said : Rows.PathBelowSaid :=
  OpenClaim.holds_of_cond 4 Tryd.f4 rfl rfl rfl rfl rfl rfl rfl ⟨rfl, rfl, rfl, rfl, rfl⟩ rfl rfl rfl rfl rfl (by kernel_rfl) Tryd.func4 (by kernel_rfl)
    (of_decide_eq_true (by kernel_rfl)) (by unfold Func.isWrapper; first | (rw [if_pos (by decide +kernel)]; kernel_rfl) | (rw [if_neg (by decide +kernel)]; exact ⟨rfl, rfl⟩))
    (fun os started H enc _ F => by rw [OpenClaim.pre_eq_preRow]; exact pathBelow_lifted os started H enc F)
theorem pathBelow_plain (g : FuncId) (fn : Func) (hf : Tryd.pinned.checked.prog.funcNamed Rows.pathBelowRow.func = some g) (hfn : Tryd.pinned.checked.prog.funcs[g]? = some fn) :
    false = Tryd.pinned.checked.prog.looks [] ∧ ∀ (j : Nat) t, fn.params[j]? = some t → Tryd.pinned.checked.prog.wantsStandIn t = false := by
  obtain rfl : g = 4 := Option.some.inj ((show Tryd.prog.funcNamed Rows.pathBelowRow.func = some 4 by kernel_rfl).symm.trans hf) |>.symm
  obtain rfl : fn = Tryd.f4 := (Option.some.inj (Tryd.func4.symm.trans hfn)).symm
  refine ⟨by kernel_rfl, fun j t ht => ?_⟩
  rw [Tryd.params4] at ht
  have hm := Array.mem_of_getElem? ht
  simp at hm
  rcases hm with rfl | rfl
  · exact (show Tryd.prog.wantsStandIn 9 = false by kernel_rfl)
  · exact (show Tryd.prog.wantsStandIn 28 = false by kernel_rfl)
/-- The statement: the card. -/
theorem pathBelow_holds : Rows.PathBelowCardSaid :=
  Claim7.holds_tied_plain_at .later [] _ _ _ _ pathBelow_said (fun _ h => by cases h) (by kernel_rfl) (fun _ h => by cases h) pathBelow_row_tie rfl ⟨rfl, rfl⟩ (by kernel_rfl) rfl pathBelow_plain (by kernel_rfl)
#print axioms pathBelow_holds
end Go.Proofs.YtdbllggcomllgacDoor
