/-
  A nil client answers so; numbers and disks that may not be.
-/
import Derived.Test.YtfmghbennahlfaaGreatRows
import Derived.Test.YtfmghbennahlfaaGreatCnCa
namespace Go.Proofs.YtfmghbennahlfaaGreat
open Go.ChangeShapes Go.WideShapes Go.ChangeAt Go.RowKit Go.Maps
open Go.ChangeMaps (open_string shut_string)
set_option linter.unusedVariables false
set_option linter.unusedSimpArgs false
set_option maxRecDepth 100000
theorem sl_trodC {H : Type} {enc : TypeId × Value → H} {W : World} {t e : TypeId} {v : Value} {fuel : Nat} {x : DataW H × List MemPlace} {sp : Nat → Bool} {hd : Bool} {b0 : Nat} (ht : Tryz.prog.underlying t = some (.slice e)) (hf : DataW.trod enc Tryz.prog W b0 sp hd fuel t [v] = some x) : ∃ a l c, v = .slice a l c := by
 rcases DataW.trod_slice ht hf with ⟨hcs, _⟩ | ⟨y, l, c, elems, rest, n, _, hcs, _⟩
 · simp [Value.cells] at hcs
   exact ⟨_, _, _, hcs⟩
 · simp [Value.cells] at hcs
   exact ⟨_, _, _, hcs⟩
theorem open_deed13 {H : Type} {enc : TypeId × Value → H} {W : World} {r : Reach} {b0 : Nat} {v : Value} {dd : DataW H} {pl : List MemPlace}
   (hv : Value.okWide Tryz.prog W r b0 26 v) (h : DataW.Trod enc Tryz.prog W 0 (fun _ => true) true 26 v dd pl) :
   ∃ (k o : Int) (p q : ByteArray) (md : Int) (d : ByteArray) (on : Bool) (nn : Int) (ka : Option Addr) (kn kc : Nat), v = .agg #[.int .i64 k, .int .u8 o, .string p, .string q, .int .u16 md, .string d, .bool on, .int .i64 nn, .slice ka kn kc] := by
 simp only [Value.okWide, Tryz.underlying26] at hv
 obtain ⟨cs, rfl, hsz, _⟩ := hv
 obtain ⟨fuel, hf⟩ := h
 obtain ⟨xs, m, _, _, hlc, hlen, hel⟩ := DataW.trod_struct Tryz.underlying26 hf
 have hct : Tryz.prog.cellsOf 26 = 9 := by kernel_rfl
 have e1 : Tryz.prog.cellsOf 3 = 1 := by kernel_rfl
 have e2 : Tryz.prog.cellsOf 22 = 1 := by kernel_rfl
 have e3 : Tryz.prog.cellsOf 9 = 1 := by kernel_rfl
 have e4 : Tryz.prog.cellsOf 4 = 1 := by kernel_rfl
 have e5 : Tryz.prog.cellsOf 23 = 1 := by kernel_rfl
 have e6 : Tryz.prog.cellsOf 24 = 1 := by kernel_rfl
 rw [hct] at hlc
 obtain ⟨cl⟩ := cs
 simp only [Value.cells] at hf hlc hel
 match cl, hlc with
 | [c0, c1, c2, c3, c4, c5, c6, c7, c8], _ =>
   match xs, hlen with
   | [x0, x1, x2, x3, x4, x5, x6, x7, x8], _ =>
     have h0 := hel 0 _ rfl
     have h1 := hel 1 _ rfl
     have h2 := hel 2 _ rfl
     have h3 := hel 3 _ rfl
     have h4 := hel 4 _ rfl
     have h5 := hel 5 _ rfl
     have h6 := hel 6 _ rfl
     have h7 := hel 7 _ rfl
     have h8 := hel 8 _ rfl
     simp [e1, e2, e3, e4, e5, e6] at h0 h1 h2 h3 h4 h5 h6 h7 h8
     obtain ⟨n0, q0, _, w0⟩ := DataW.trod_int Tryz.underlying3 h0
     obtain ⟨n1, q1, _, w1⟩ := DataW.trod_int Tryz.underlying22 h1
     obtain ⟨s2, q2, _, w2⟩ := DataW.trod_string Tryz.underlying9 h2
     obtain ⟨s3, q3, _, w3⟩ := DataW.trod_string Tryz.underlying9 h3
     obtain ⟨n4, q4, _, w4⟩ := DataW.trod_int Tryz.underlying23 h4
     obtain ⟨s5, q5, _, w5⟩ := DataW.trod_string Tryz.underlying9 h5
     obtain ⟨n6, q6, _⟩ := DataW.trod_bool Tryz.underlying4 h6
     obtain ⟨n7, q7, _, w7⟩ := DataW.trod_int Tryz.underlying3 h7
     obtain ⟨a8, l8, k8, q8⟩ := sl_trodC Tryz.underlying24 h8
     simp at q0 q1 q2 q3 q4 q5 q6 q7
     subst q0 q1 q2 q3 q4 q5 q6 q7 q8
     exact ⟨n0, n1, s2, s3, n4, s5, n6, n7, a8, l8, k8, rfl⟩
set_option maxHeartbeats 400000 in
theorem openJnilC (w : World) : Calls Tryz.prog 52 #[.pointer none] w fun e w' => e = .returned (.pointer none) ∧ Below w.heap.size w w' := by
 go_enter Tryz.func52, Tryz.ntmps52
 go_wp2_with (go_at_call 103; refine (size_nil _).mono ?_; rintro _ w1 ⟨rfl, rfl⟩)
 go_ret
 exact ⟨rfl, Below.refl _ _⟩
def DkP (r : Int) (W : World) (d : Option Addr) : Prop := (r < 1 ∧ d = none) ∨ (1 ≤ r ∧ ∃ dd b1 b2, d = some ⟨dd, 0, none⟩ ∧ IsD W dd b1 b2 r.toNat (fun _ => zsec) (fun _ => none))
theorem dk_new (r : Int) (h : 0 ≤ r ∧ r < 20) : Hid (∀ W, Calls Tryz.prog 24 #[.int .i64 r] W fun e w' => ∃ d, e = .returned (.pointer d) ∧ DkP r w' d ∧ Below W.heap.size W w') := hid fun W => by
 by_cases h0 : r < 1
 · exact (new_none r W (.inl h0)).mono fun e w' ⟨h1, h2⟩ => ⟨none, h1, .inl ⟨h0, rfl⟩, by rw [h2]; exact Below.refl _ _⟩
 · have hN : r = ((r.toNat : Nat) : Int) := by omega
   have := new_c r.toNat W (by omega) (by omega)
   rw [← hN] at this
   exact this.mono fun e w' ⟨h1, h2, h3, _⟩ => ⟨_, h1, .inr ⟨by omega, _, _, _, rfl, h2⟩, h3⟩
theorem clientNone_walk (k o : Int) (p q : ByteArray) (md : Int) (d : ByteArray) (on : Bool) (nn : Int) (ka : Option Addr) (kn kc : Nat) (m : Int) (wm : (Lit.int .u8 m).wf = true) (n : Int) (wn : (Lit.int .u8 n).wf = true) (w : World) :
   Calls Tryz.prog 3 #[.agg #[.int .i64 k, .int .u8 o, .string p, .string q, .int .u16 md, .string d, .bool on, .int .i64 nn, .slice ka kn kc], .int .u8 m, .int .u8 n] w fun e w' => e = .returned (.bool true) ∧ Below w.heap.size w w' := by
 have hn := bd_u8 wn
 obtain ⟨r, hr⟩ : ∃ r, n.tmod 20 = r := ⟨_, rfl⟩
 have hr2 : r = n % 20 := by rw [← hr]; exact Int.tmod_eq_emod_of_nonneg (by omega)
 have hr0 : 0 ≤ r ∧ r < 20 := by omega
 have BD : m < 1 ∨ 3 < m → Hid (∀ W d, DkP r W d → Calls Tryz.prog 23 #[.int .u8 m, .pointer d] W fun e w' => ∃ p : Nat, e = .returned (.pointer (if false = true then some ⟨p, 0, none⟩ else none)) ∧ Below W.heap.size W w') := fun hm => hid fun W d _ => (copen_bad m (.pointer d) hm W).mono fun e w' ⟨h1, h2⟩ => ⟨0, h1, by rw [h2]; exact Below.refl _ _⟩
 by_cases h1 : m < 1
 · exact cn_all k o p q md d on nn ka kn kc m n r hr (by omega) hr0 false (.inl ⟨h1, rfl⟩) _ (dk_new r hr0) (BD (.inl h1)) w
 by_cases h3 : 3 < m
 · exact cn_all k o p q md d on nn ka kn kc m n r hr (by omega) hr0 false (.inr (.inl ⟨h1, h3, rfl⟩)) _ (dk_new r hr0) (BD (.inr h3)) w
 by_cases h8 : r < 8
 · refine cn_all k o p q md d on nn ka kn kc m n r hr (by omega) hr0 false (.inr (.inr (.inl ⟨h1, h3, h8, rfl⟩))) _ (dk_new r hr0) (hid fun W d hd => ?_) w
   rcases hd with ⟨_, rfl⟩ | ⟨_, dd, b1, b2, rfl, hD⟩
   · exact (copen_none ⟨_, rfl⟩ m (by omega) (by omega) (openJnilC W)).mono fun e w' ⟨h1, h2⟩ => ⟨0, h1, h2⟩
   · exact (copen_none ⟨_, rfl⟩ m (by omega) (by omega) ((open_few hD (by omega)).mono fun e w' ⟨h1, h2⟩ => ⟨h1, by rw [h2]; exact Below.refl _ _⟩)).mono fun e w' ⟨h1, h2⟩ => ⟨0, h1, h2⟩
 · refine cn_all k o p q md d on nn ka kn kc m n r hr (by omega) hr0 true (.inr (.inr (.inr ⟨h1, h3, h8, rfl⟩))) _ (dk_new r hr0) (hid fun W d hd => ?_) w
   rcases hd with ⟨h, _⟩ | ⟨_, dd, b1, b2, rfl, hD⟩
   · omega
   · exact (openN_c m (by omega) (by omega) hD (by omega)).mono fun e w' ⟨p, h1, h2⟩ => ⟨p, h1, h2⟩
/-! ### The row of ClientNone -/
theorem clientNone_own : ownKnob Tryz.prog.godebug = none := by kernel_rfl
theorem clientNone_laidOut : laidOutB Tryz.prog = true := by kernel_rfl
set_option maxRecDepth 100000 in
theorem clientNone_lifted (os : Os) (started : os.Started) (H : Type) (enc : TypeId × Value → H) :
   ReturnsInHanded {} Tryz.checked os 3 .any (Rows.clientNoneSpec.pre6 enc Tryz.prog Tryz.f3 Rows.clientNoneRow.domain false) (Rows.clientNoneSpec.post enc Tryz.prog Tryz.f3 false true false false) := by
 refine returnsInHanded_of_change (C := Tryz.checked) clientNone_own started (by kernel_rfl) Tryz.func3
   (ChangeSpec.witness6 (enc := enc) (C := Tryz.checked) false ⟨#[], #[.agg #[.int .i64 0, .int .u8 0, .string ByteArray.empty, .string ByteArray.empty, .int .u16 0, .string ByteArray.empty, .bool false, .int .i64 0, .slice none 0 0], .int .u8 0, .int .u8 0], []⟩ 8 (by kernel_rfl) (by kernel_rfl) (by kernel_rfl) (by kernel_rfl)) ?_
 intro W base args ds gs before hval0 hW hcnd _
 have hval : ∀ (j : Nat) t v, Tryz.f3.params[j]? = some t → args[j]? = some v → Value.okWide Tryz.prog W .any base t v := hval0
 have hW' := hW
 obtain ⟨p, q, hA0, hV, rfl, hfz, hnd⟩ := hW
 have hA : DataW.TrodAll enc Tryz.prog W 0 (fun _ => true) true Tryz.f3.params.toList args.toList ds p := hA0
 rw [Tryz.params3] at hA hval
 obtain ⟨v0, vs0, d0, ds0, p0, q0, hargs, rfl, rfl, h0, r0⟩ := trodAll_cons hA
 obtain ⟨v1, vs1, d1, ds1, p1, q1, rfl, rfl, rfl, h1, r1⟩ := trodAll_cons r0
 obtain ⟨v2, vs2, d2, ds2, p2, q2, rfl, rfl, rfl, h2, r2⟩ := trodAll_cons r1
 obtain ⟨rfl, rfl, rfl⟩ := trodAll_nil r2
 obtain rfl : args = #[v0, v1, v2] := by cases args; simp_all
 obtain ⟨rfl, rfl⟩ := trodVars_none hV
 have k0 := h0
 have lt0 : ∀ x ∈ p0, x.block < W.heap.size := by obtain ⟨m, hm⟩ := k0; exact DataW.trod_lt m _ _ _ hm
 obtain ⟨fk0, fo0, fp0, fq0, fm0, fd0, fb0, fn0, fka0, fkn0, fkc0, rfl⟩ := open_deed13 (hval 0 26 v0 rfl rfl) h0
 obtain ⟨a1, rfl, rfl, rfl, w1⟩ := open_int Tryz.underlying5 (hval 1 5 v1 rfl rfl) h1
 obtain ⟨a2, rfl, rfl, rfl, w2⟩ := open_int Tryz.underlying5 (hval 2 5 v2 rfl rfl) h2
 clear hA0 hval0
 refine (clientNone_walk fk0 fo0 fp0 fq0 fm0 fd0 fb0 fn0 fka0 fkn0 fkc0 a1 w1 a2 w2 W).mono fun e W' ⟨he, bel⟩ => ?_
 subst he
 exact ⟨_, rfl, _, _, _, [], _, [], hW', trodAll_mk1 (shut_bool Tryz.underlying4 _), (trodAll_cons_mk (Below.trod clientNone_laidOut (by kernel_rfl) (of_decide_eq_true (by kernel_rfl)) k0 bel lt0) (trodAll_cons_mk (shut_int Tryz.underlying5 w1) (trodAll_cons_mk (shut_int Tryz.underlying5 w2) trodAll_mk0))), rfl, bel.frame _, fun h => by cases h⟩
theorem clientNone_in : Tryz.prog.inPlace 3 = Rows.clientNoneRow.inPlace := by kernel_rfl
theorem clientNone_un : Tryz.prog.unfollowed 3 = Rows.clientNoneRow.unfollowed := by kernel_rfl
theorem clientNone_re : Tryz.prog.recurses 3 = Rows.clientNoneRow.recurses := by kernel_rfl
theorem clientNone_na : Tryz.prog.varsNamed 3 = Rows.clientNoneRow.named := by kernel_rfl
theorem clientNone_joined : joinedFacts Tryz.prog 3 Tryz.f3 Rows.clientNoneSpec Rows.clientNoneRow = true := by
 unfold joinedFacts
 rw [clientNone_in, clientNone_un, clientNone_re, clientNone_na]
 kernel_rfl
theorem clientNone_over : Rows.clientNoneRow.holds Tryz.pinned (OpenSpec.ofChange Rows.clientNoneSpec) :=
 OpenClaim.holds_of_wide 3 Tryz.f3 rfl rfl rfl rfl rfl rfl rfl ⟨rfl, rfl, rfl, rfl, rfl⟩ rfl rfl rfl rfl rfl (by kernel_rfl) Tryz.func3 clientNone_joined
   (of_decide_eq_true (by kernel_rfl)) (by unfold Func.isWrapper; first | (rw [if_pos (by decide +kernel)]; kernel_rfl) | (rw [if_neg (by decide +kernel)]; exact ⟨rfl, rfl⟩))
   (fun os started H enc _ => clientNone_lifted os started H enc)
theorem clientNone_holds : Rows.ClientNoneSaid := clientNone_over
#print axioms clientNone_holds
end Go.Proofs.YtfmghbennahlfaaGreat
