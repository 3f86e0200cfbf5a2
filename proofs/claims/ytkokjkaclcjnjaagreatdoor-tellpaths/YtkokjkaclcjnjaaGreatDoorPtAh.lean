/-
  Which directory each one stands in: parents of the package tree.
-/
import Derived.Test.YtkokjkaclcjnjaaGreatDoorPtAg
namespace Go.Proofs.YtkokjkaclcjnjaaGreatDoor
open Go.RowKit Go.ChangeShapes Go.WideShapes Go.ChangeAt Go.Maps
set_option linter.unusedVariables false
set_option linter.unusedSimpArgs false
set_option maxRecDepth 100000
def fdR : Value → Option (DataW Int × List MemPlace)
 | .int .u32 x => some (.held x, [])
 | _ => none
def fdE : Enc Int := ⟨fun x => .int .u32 x, fdR, fun _ => rfl, fun {v z} h => by
 unfold fdR at h
 split at h
 · cases h; exact ⟨_, rfl, rfl⟩
 · cases h⟩
section
variable {α : Type}
theorem next_F (E : Enc α) (w : World) {ops : Array Oper} {rest : List Oper} {o : Oper} {a : Act} {Q : Exit → Act → World → Prop} (hg : o.guard = none) (it : Operand) (hop : o.op = Op.next it false)
   (tb r n : Nat) (D : DataW α) (left : Lit → Bool) (cnt : Nat) (hit : a.eval it = .pointer (some ⟨r, 0, none⟩)) (h : w.ranges Tryz.prog 31 E.rd tb r n D left cnt)
   (hDone : cnt = 0 → (∀ i, left (kyF i) = false) → wpList Tryz.prog ops Q rest (a.put o.dst (.tuple #[.bool false])) w)
   (hMore : ∀ (x : Int) (c : α) (w' : World) (cnt' : Nat), 0 ≤ x → x < 4294967296 → left (kyF x) = true → lookF D x = some c → w'.ranges Tryz.prog 31 E.rd tb r n D (fun z => left z && !z.sameKey (kyF x)) cnt' → cnt' < cnt →
     w.grownBy w' (some r) → w'.heap.size = w.heap.size → (Instr.entry (.pointer (some ⟨r, 0, none⟩))).run Tryz.prog w' = .ok (.tuple #[.int .u32 x, E.enc c]) w' → wpList Tryz.prog ops Q rest (a.put o.dst (.tuple #[.bool true, .int .u32 x, E.enc c])) w') :
   wpList Tryz.prog ops Q (o :: rest) a w := by
 have inv2 : ∀ v y, E.rd v = some y → ∃ c, v = E.enc c := fun v y hv => by obtain ⟨c, h1, _⟩ := E.inv hv; exact ⟨c, h1⟩
 refine wpList_next_ranges w hg it hop 31 lawF E.rd (Value.int .u32) E.enc (fun key kl hkey => by obtain ⟨x, rfl, _⟩ := Maps.keyOf_int_inv Tryz.underlying31 hkey; exact ⟨x, rfl⟩) inv2 tb r n D left cnt hit h (fun h0 hl => hDone h0 (fun i => hl _)) ?_
 intro x c kl y w' cnt' hkey hlk hv hat hrg hlt hgr hsz hen
 obtain ⟨x', ex, rfl, hwx⟩ := Maps.keyOf_int_inv Tryz.underlying31 hkey
 cases ex
 have hw2 := bd_u32 hwx
 rw [E.wr] at hv
 cases hv
 refine hMore x c w' cnt' hw2.1 hw2.2 hlk ?_ hrg hlt hgr hsz hen
 have hs : Maps.has D (kyF x) = true := by
   cases hh : Maps.has D (kyF x) with
   | true => rfl
   | false =>
     have e1 := Maps.atKey_of_not_has (z := DataW.nil) hh
     have e2 := hat DataW.nil
     rw [show (Lit.int IntKind.u32 x) = kyF x from rfl, e1] at e2
     cases e2
 have hat2 : D.atKey (kyF x) DataW.nil = DataW.held c := hat DataW.nil
 unfold lookF
 rw [if_pos hs, hat2]
end
def isDirT (N : Tab) (g : Int) : Bool := match N g with
 | some (_, y) => y.k == 2
 | none => false
def Edge (N : Tab) (f g : Int) : Prop := ∃ p x i, N f = some (p, x) ∧ i < x.ks.length ∧ (x.ks.getD i Kd.no).fid = g ∧ isDirT N g = true
def OneUp (N : Tab) : Prop := ∀ f f' g, Edge N f g → Edge N f' g → f = f'
def Whole6 (N : Tab) : Prop := ∀ f p x, N f = some (p, x) → x.ks.length ≤ 12 ∧ ∀ i, i < x.ks.length → (N (x.ks.getD i Kd.no).fid).isSome = true
def IsPar (N : Tab) (G : Int → Option Int) : Prop := ∀ f g, G g = some f ↔ Edge N f g
theorem grown_ou {w w' : World} {r : Nat} (h : w.grownBy w' (some r)) : Ou (fun k => k = r) w w' := ⟨h.os, h.tape, h.output, h.size, fun i hi hn => h.block i hi (fun e => hn (by cases e; rfl))⟩
theorem grown_below {w w' : World} (h : w.grownBy w' none) : Below w.heap.size w w' := ⟨h.os, h.tape, h.output, h.size, fun i hi => h.block i hi (fun e => by cases e)⟩
theorem ht_par : Tryz.prog.underlying 97 = some (.map 31 31) := Tryz.underlying97
def ParAt (N : Tab) (G : Int → Option Int) (left : Lit → Bool) : Prop := (∀ f g, G g = some f → Edge N f g) ∧ ∀ f g, Edge N f g → left (kyF f) = false → (G g).isSome = true
theorem ptr_look {N : Tab} {D : DataW (Option Addr)} (h : ∀ i, N.ptr i = lookF D i) {x : Int} {c : Option Addr} (hl : lookF D x = some c) : ∃ p y, N x = some (p, y) ∧ c = some p := by
 rw [← h x] at hl
 unfold Tab.ptr at hl
 cases q : N x with
 | none => rw [q] at hl; cases hl
 | some z => rw [q] at hl; cases hl; exact ⟨z.1, z.2, rfl, rfl⟩
set_option maxHeartbeats 4000000 in
theorem parents_c (tb m0 : Nat) (N : Tab) (w : World) (hT : IsTab w tb m0 N) (hm0 : m0 ≤ 60) (hW : Whole6 N) (hU : OneUp N) :
   Calls Tryz.prog 51 #[.map (some tb)] w fun e w' => e = .returned (.map (some w.heap.size)) ∧ (∃ c G, IsFm fdE w' w.heap.size c G ∧ c ≤ 720 ∧ IsPar N G) ∧ Below w.heap.size w w' := by
 have htl := hT.1.lt
 have HT := hid hT
 have HW := hid hW
 have HU := hid hU
 have ht := ht_tab
 have B0 := hid (below_1 w (.map #[] 0))
 have F0 := hid (IsFm.made fdE w)
 have S0 : Hid ((w.alloc (.map #[] 0)).heap.size = w.heap.size + 1) := hid (by simp)
 obtain ⟨D, ho, hsz, hlk⟩ := (hT.later (below_1 w (.map #[] 0))).1
 have HO := hid ho
 have HSZ := hid hsz
 have HLK := hid hlk
 clear hT hW hU ho hsz hlk
 have hmm := @run_makeMap Tryz.prog
 go_enter Tryz.func51, Tryz.ntmps51
 go_wp2_with (at_range; refine wpList_range_own _ rfl _ 69 rfl 31 71 lawF ht ptE.rd tb m0 D rfl HO.out ?_; intro w0 hrg0 hg0 hs0)
 go_frame
 have R0 := hid hrg0
 have BG := hid (B0.out.trans ((grown_below hg0).mono B0.out.size))
 have FG := hid (F0.out.out (Ou.of (S := fun _ => False) (grown_below hg0)) (fun e => e))
 rw [S0.out] at R0 hs0
 have r_ne : w.heap.size + 1 ≠ tb := by omega
 clear hrg0 hg0 B0 F0
 rw [S0.out]
 go_loopg [4] (Maps.size D) (fun gk v wr => Hid (Below w.heap.size w wr) ∧ Hid (w.heap.size + 2 ≤ wr.heap.size) ∧ Hid (∃ left, wr.ranges Tryz.prog 31 ptE.rd tb (w.heap.size + 1) m0 D left gk ∧ ∃ c G, IsFm fdE wr w.heap.size c G ∧ c + 12 * gk ≤ 12 * m0 ∧ ParAt N G left))
 case atStart =>
   refine ⟨BG, hid (by omega), hid ⟨_, R0.out, 0, _, FG.out, by rw [HSZ.out]; omega, ?_⟩⟩
   refine ⟨(fun f g e => by cases e), fun f g he hl => ?_⟩
   obtain ⟨p, x, i, h1, _⟩ := he
   have e1 := (look_atF ptE HO.out f none).2.1
   rw [e1, ← HLK.out f] at hl
   unfold Tab.ptr at hl
   rw [h1] at hl
   cases hl
 case round =>
   clear BG FG R0
   obtain ⟨HB, HS, HI⟩ := hrel
   obtain ⟨left, hrg, c, G, hF, hcn, hP⟩ := HI.out
   have HRG := hid hrg
   have HF := hid hF
   have HP := hid hP
   clear HI hrg hF hP
   go_wp2_with (at_next; refine next_F ptE _ rfl _ rfl tb (w.heap.size + 1) m0 D left gk rfl HRG.out ?_ ?_)
   · intro hc0 hl0
     have FIN : Hid (IsPar N G) := hid (fun f g => ⟨HP.out.1 f g, fun he => by
       have := HP.out.2 f g he (hl0 f)
       cases q : G g with
       | none => rw [q] at this; cases this
       | some f' => rw [HU.out f f' g he (HP.out.1 f' g q)]⟩)
     go_wp2
     go_ret
     exact ⟨rfl, ⟨c, G, HF.out, by omega, FIN.out⟩, HB.out⟩
   · intro f pc w1 cnt1 hf0 hf1 hlf hlD hrg1 hlt hg1 hs1 hen
     obtain ⟨p, x, hN, rfl⟩ := ptr_look HLK.out hlD
     rw [show ptE.enc (some p) = .pointer (some p) from rfl] at hen ⊢
     have hB1 : Below w.heap.size w w1 := HB.out.trans ((grown_ou hg1).below HB.out.size (fun k e => by omega))
     have HB1 := hid hB1
     have HS1 : Hid (w.heap.size + 2 ≤ w1.heap.size) := hid (by rw [hs1]; exact HS.out)
     have HF1 := hid (HF.out.out (grown_ou hg1) (by omega))
     have HRG1 := hid hrg1
     obtain ⟨hps, hnc, hok, hfd⟩ := (HT.out.later hB1).2 f p x hN
     obtain ⟨pb, po, ps⟩ := p
     simp only at hps
     subst hps
     obtain ⟨_, _, _, _, _, y5⟩ := hnc.all
     have HOK := hid (HT.out.2 f _ x hN).2.2.1
     have HNF := hid hN
     obtain ⟨h12, hall⟩ := HW.out f _ x hN
     have HALL := hid hall
     have EDG : Hid (∀ i, i < x.ks.length → isDirT N (x.ks.getD i Kd.no).fid = true → Edge N f (x.ks.getD i Kd.no).fid) := hid (fun i hi hd => ⟨_, x, i, hN, hi, rfl, hd⟩)
     have EDR : Hid (∀ g, Edge N f g → ∃ i, i < x.ks.length ∧ (x.ks.getD i Kd.no).fid = g ∧ isDirT N g = true) := hid (fun g he => by
       obtain ⟨p', x', i, h1, h2, h3, h4⟩ := he
       rw [hN] at h1
       cases h1
       exact ⟨i, h2, h3, h4⟩)
     clear hrg1 hg1 hs1 hlD hlf hnc hok hfd hN hall hB1 HB HS HF HRG
     obtain ⟨fid, k, md, ln, da, dc, zs, ka, kc, ks⟩ := x
     simp only at *
     obtain ⟨nk, hnk⟩ : ∃ nk, nk = ks.length := ⟨_, rfl⟩
     rw [← hnk] at y5 h12
     have HNK := hid hnk
     clear hnk
     go_wp2
     obtain ⟨go, hgo⟩ : ∃ go, go = gk := ⟨_, rfl⟩
     subst hgo
     go_loopg [21] nk (fun gj j wr => ∃ i : Nat, i + gj = nk ∧ j = .int .i64 i ∧ Hid (Below w.heap.size w wr) ∧ Hid (w.heap.size + 2 ≤ wr.heap.size) ∧ Hid (wr.ranges Tryz.prog 31 ptE.rd tb (w.heap.size + 1) m0 D (fun z => left z && !z.sameKey (kyF f)) cnt1) ∧ Hid (∃ c G, IsFm fdE wr w.heap.size c G ∧ c + 12 * cnt1 + 12 ≤ 12 * m0 + i ∧ (∀ f g, G g = some f → Edge N f g) ∧ (∀ f' g, Edge N f' g → left (kyF f') = false → (G g).isSome = true) ∧ ∀ j, j < i → isDirT N (ks.getD j Kd.no).fid = true → (G (ks.getD j Kd.no).fid).isSome = true))
     case atStart => exact ⟨0, by omega, rfl, HB1, HS1, HRG1, hid ⟨c, G, HF1.out, by omega, HP.out.1, HP.out.2, fun j hj => by omega⟩⟩
     case round =>
       clear HB1 HS1 HRG1 HF1 HP
       obtain ⟨i, hi2, rfl, HB2, HS2, HRG2, HI2⟩ := hrel
       by_cases hlt2 : i < nk
       · have hltI2 : (i : Int) < nk := by omega
         have hik : i < ks.length := by rw [← HNK.out]; exact hlt2
         have HALi := hid (HALL.out i hik)
         have EDi := hid (EDG.out i hik)
         have hKs := HOK.out.2.2.2.2.2.later HB2.out
         obtain ⟨b1, off1, rfl, _⟩ := hKs.2.2 (by simp only; omega)
         obtain ⟨k0, k1⟩ := hKs.at (i := i) hik
         have hwf := hKs.wf (i := i) hik
         clear hKs hik
         simp only at k0 k1 hwf
         obtain ⟨c2, G2, hF2, hc2, hp1, hp2, hp3⟩ := HI2.out
         have HF2 := hid hF2
         have HP1 := hid hp1
         have HP2 := hid hp2
         have HP3 := hid hp3
         clear HI2 hF2 hp1 hp2 hp3
         have GI : Hid (ks.getD i Kd.no = ks.getD i Kd.no) := hid rfl
         obtain ⟨y, hy⟩ : ∃ y, y = ks.getD i Kd.no := ⟨_, rfl⟩
         rw [← hy] at k0 k1 hwf HALi EDi
         have HY := hid hy
         clear hy GI
         have bA := below_1 wr (.cells #[.string y.nm, .int .u32 y.fid] 65)
         have hA := heap_alloc_new wr (.cells #[.string y.nm, .int .u32 y.fid] 65)
         have c1 : (wr.alloc (.cells #[.string y.nm, .int .u32 y.fid] 65)).cell? ⟨wr.heap.size, 1, none⟩ = some (.int .u32 y.fid) := cell_of_row2 hA 1 rfl
         have HB3 := hid (HB2.out.trans (bA.mono HB2.out.size))
         have HS3 := hid (Nat.le_trans HS2.out bA.size)
         have HRG3 := hid (HRG2.out.alloc (.cells #[.string y.nm, .int .u32 y.fid] 65))
         have HF3 := hid (HF2.out.out (Ou.of (S := fun _ => False) bA) (fun e => e))
         have TL := HT.out.later HB3.out
         have LK := TL.1.look ht zeroPt hwf.2.1 hwf.2.2
         unfold Tab.ptr at LK
         cases qN : N y.fid with
         | none => rw [qN] at HALi; exact absurd HALi.out (by simp)
         | some z =>
           obtain ⟨q, yy⟩ := z
           rw [qN] at LK
           rw [show ptE.enc ((Option.map (fun p : Addr × Nd => some p.1) (some (q, yy))).getD none) = .pointer (some q) from rfl] at LK
           obtain ⟨hqs, hqc, _, _⟩ := TL.2 y.fid q yy qN
           obtain ⟨qb, qo, qs⟩ := q
           simp only at hqs
           subst hqs
           obtain ⟨_, z1, _⟩ := hqc.all
           have hdr : isDirT N y.fid = (yy.k == 2) := by unfold isDirT; rw [qN]
           rw [hdr] at EDi
           have hyf := hwf.2
           clear hA bA hqc TL hwf HB2 HS2 HRG2 HF2
           by_cases qk : yy.k = 2
           · have qkB : (yy.k == 2) = true := by rw [qk]; rfl
             obtain ⟨w3, SR, IM, MT⟩ := HF3.out.store (by omega) ht_par hyf.1 hyf.2 f
             rw [show fdE.enc f = .int .u32 f from rfl] at SR
             have hO3 := Ou.turned (S := fun k => k = w.heap.size) MT rfl
             have HB4 := hid (HB3.out.trans (hO3.below HB3.out.size (fun k e => by omega)))
             have HS4 := hid (Nat.le_trans HS3.out hO3.size)
             have HRG4 := hid (HRG3.out.kept MT.grown (by intro e; have := Option.some.inj e; omega) (by intro e; have := Option.some.inj e; omega))
             have hE := EDi.out qkB
             have HI4 : Hid (∃ c G, IsFm fdE w3 w.heap.size c G ∧ c + 12 * cnt1 + 12 ≤ 12 * m0 + (i + 1) ∧ (∀ f g, G g = some f → Edge N f g) ∧ (∀ f' g, Edge N f' g → left (kyF f') = false → (G g).isSome = true) ∧ ∀ j, j < i + 1 → isDirT N (ks.getD j Kd.no).fid = true → (G (ks.getD j Kd.no).fid).isSome = true) := hid (by
               refine ⟨_, _, IM, ?_, ?_, ?_, ?_⟩
               · unfold addN; split <;> omega
               · intro f' g hg
                 unfold updF at hg
                 split at hg
                 · rename_i e
                   cases hg
                   rw [e]; exact hE
                 · exact HP1.out f' g hg
               · intro f' g he hl
                 unfold updF
                 split
                 · rfl
                 · exact HP2.out f' g he hl
               · intro j hj hd
                 unfold updF
                 split
                 · rfl
                 · rename_i e
                   by_cases e2 : j = i
                   · subst e2
                     rw [← HY.out] at e
                     exact absurd rfl e
                   · exact HP3.out j (by omega) hd)
             clear HF3 HP1 HP2 HP3 hdr IM MT hO3 hE HB3 HS3 HRG3
             go_wp2
             go_roundg (gk - 1)
             case measure => omega
             case rel => exact ⟨i + 1, by omega, by go_num, HB4, HS4, HRG4, HI4⟩
           · have qkB : (yy.k == 2) = false := beq_eq_false_iff_ne.2 qk
             have HI3 : Hid (∃ c G, IsFm fdE (wr.alloc (.cells #[.string y.nm, .int .u32 y.fid] 65)) w.heap.size c G ∧ c + 12 * cnt1 + 12 ≤ 12 * m0 + (i + 1) ∧ (∀ f g, G g = some f → Edge N f g) ∧ (∀ f' g, Edge N f' g → left (kyF f') = false → (G g).isSome = true) ∧ ∀ j, j < i + 1 → isDirT N (ks.getD j Kd.no).fid = true → (G (ks.getD j Kd.no).fid).isSome = true) := hid ⟨c2, G2, HF3.out, by omega, HP1.out, HP2.out, fun j hj hd => by
               by_cases e : j = i
               · subst e
                 rw [← HY.out, hdr, qkB] at hd
                 cases hd
               · exact HP3.out j (by omega) hd⟩
             clear HF3 HP1 HP2 HP3 hdr
             go_wp2
             go_roundg (gk - 1)
             case measure => omega
             case rel => exact ⟨i + 1, by omega, by go_num, HB3, HS3, HRG3, HI3⟩
       · have hge : ¬ (i : Int) < nk := by omega
         obtain ⟨c2, G2, hF2, hc2, hp1, hp2, hp3⟩ := HI2.out
         have REL : Hid (∃ left, wr.ranges Tryz.prog 31 ptE.rd tb (w.heap.size + 1) m0 D left cnt1 ∧ ∃ c G, IsFm fdE wr w.heap.size c G ∧ c + 12 * cnt1 ≤ 12 * m0 ∧ ParAt N G left) := hid (by
           refine ⟨_, HRG2.out, c2, G2, hF2, by omega, hp1, fun f' g he hl => ?_⟩
           by_cases e : f' = f
           · subst e
             obtain ⟨i', q1, q2, q3⟩ := EDR.out g he
             rw [← q2] at q3 ⊢
             exact hp3 i' (by rw [← HNK.out] at q1; omega) q3
           · refine hp2 f' g he ?_
             simp only [same_kyF, decide_eq_false e, Bool.not_false, Bool.and_true] at hl
             exact hl)
         clear HI2 hF2 hp1 hp2 hp3 hc2
         go_wp2
         go_roundg cnt1
         case measure => exact hlt
         case rel => exact ⟨HB2, HS2, REL⟩
end Go.Proofs.YtkokjkaclcjnjaaGreatDoor
