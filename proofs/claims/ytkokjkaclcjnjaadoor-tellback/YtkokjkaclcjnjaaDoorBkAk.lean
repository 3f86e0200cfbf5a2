/-
  Tables of nodes by their fids: tableOf, haveKidsOf, rightLinks of the package tree.
-/
import Derived.Test.YtkokjkaclcjnjaaDoorBkAj
namespace Go.Proofs.YtkokjkaclcjnjaaDoor
open Go.RowKit Go.ChangeShapes Go.WideShapes Go.ChangeAt Go.Maps
set_option linter.unusedVariables false
set_option linter.unusedSimpArgs false
set_option maxRecDepth 100000
def ptR : Value → Option (DataW (Option Addr) × List MemPlace)
 | .pointer x => some (.held x, [])
 | _ => none
def ptE : Enc (Option Addr) := ⟨fun x => .pointer x, ptR, fun _ => rfl, fun {v z} h => by
 unfold ptR at h
 split at h
 · cases h; exact ⟨_, rfl, rfl⟩
 · cases h⟩
theorem zeroPt (w : World) : (zeroValue 96).run Tryd.prog w = .ok (ptE.enc none) w := by
 have h : (Tryd.prog.info? 96).map (fun i => i.zero) = some (some (.pointer none)) := by kernel_rfl
 cases hi : Tryd.prog.info? 96 with
 | none => rw [hi] at h; cases h
 | some i => rw [hi] at h; simp at h; simp [zeroValue, typeInfo, hi, h]; rfl
def plTo (l : List Nd) : Nat → Int → Option Nat
 | 0, _ => none
 | m + 1, f => updF (plTo l m) (l.getD m Nd.no).fid (some m) f
def plN (l : List Nd) : Nat → Nat
 | 0 => 0
 | m + 1 => addN (plTo l m) (l.getD m Nd.no).fid (plN l m)
theorem plTo_lt (l : List Nd) : ∀ (m : Nat) {f : Int} {i : Nat}, plTo l m f = some i → i < m ∧ (l.getD i Nd.no).fid = f
 | 0, f, i, h => by cases h
 | m + 1, f, i, h => by
   unfold plTo updF at h
   split at h
   · rename_i e
     cases h
     exact ⟨by omega, e.symm⟩
   · obtain ⟨h1, h2⟩ := plTo_lt l m h
     exact ⟨by omega, h2⟩
theorem plN_le (l : List Nd) : ∀ m, plN l m ≤ m
 | 0 => Nat.le_refl _
 | m + 1 => by
   have := plN_le l m
   unfold plN addN
   split <;> omega
abbrev Tab := Int → Option (Addr × Nd)
def Tab.ptr (N : Tab) : Int → Option (Option Addr) := fun f => (N f).map fun p => some p.1
def IsTab (w : World) (tb m : Nat) (N : Tab) : Prop := IsFm ptE w tb m N.ptr ∧ ∀ f p x, N f = some (p, x) → p.spot = none ∧ NdC w p.block p.off x ∧ x.Ok w ∧ x.fid = f
theorem IsTab.later {w w' : World} {tb m : Nat} {N : Tab} (h : IsTab w tb m N) (hb : Below w.heap.size w w') : IsTab w' tb m N :=
 ⟨h.1.out (Ou.of (S := fun _ => False) hb) (fun e => e), fun f p x e => by obtain ⟨h1, h2, h3, h4⟩ := h.2 f p x e; exact ⟨h1, h2.later hb, h3.later hb, h4⟩⟩
def ndF (a : Option Addr) (l : List Nd) (m : Nat) : Tab := fun f => (plTo l m f).map fun i => (⟨(a.getD ⟨0, 0, none⟩).block, (a.getD ⟨0, 0, none⟩).off + i * 6, none⟩, l.getD i Nd.no)
theorem ndF_ptr (b off : Nat) (l : List Nd) (m : Nat) : (ndF (some ⟨b, off, none⟩) l (m + 1)).ptr = updF (ndF (some ⟨b, off, none⟩) l m).ptr (l.getD m Nd.no).fid (some (some ⟨b, off + m * 6, none⟩)) := by
 funext f
 have e : plTo l (m + 1) f = updF (plTo l m) (l.getD m Nd.no).fid (some m) f := rfl
 unfold Tab.ptr ndF
 rw [e]
 unfold updF
 split <;> simp
theorem addN_ptr (a : Option Addr) (l : List Nd) (m : Nat) (f : Int) (n : Nat) : addN (ndF a l m).ptr f n = addN (plTo l m) f n := by
 unfold addN Tab.ptr ndF
 cases plTo l m f <;> rfl
theorem ht_tab : Tryd.prog.underlying 94 = some (.map 29 96) := Tryd.underlying94
theorem ns_tab {w : World} {a : Option Addr} {l : List Nd} {tb : Nat} (h : IsNs w a l) (hf : IsFm ptE w tb (plN l l.length) (ndF a l l.length).ptr) : IsTab w tb (plN l l.length) (ndF a l l.length) := by
 refine ⟨hf, fun f p x e => ?_⟩
 unfold ndF at e
 cases hp : plTo l l.length f with
 | none => rw [hp] at e; cases e
 | some i =>
   rw [hp] at e
   simp only [Option.map_some, Option.some.injEq, Prod.mk.injEq] at e
   obtain ⟨rfl, rfl⟩ := e
   obtain ⟨h1, h2⟩ := plTo_lt l _ hp
   obtain ⟨b, off, rfl, hc⟩ := h.2.2 (by omega)
   exact ⟨rfl, hc i h1, h.ok h1, h2⟩
theorem Ou.drewW {S : Nat → Prop} (w : World) : Ou S w w.drew := Ou.of (Below.drew (Below.refl _ _))
set_option maxHeartbeats 2000000 in
theorem tableOf_c (a : Option Addr) (cap : Nat) (l : List Nd) (w : World) (h : IsNs w a l) (hm : l.length ≤ 500) :
   Calls Tryd.prog 61 #[.slice a l.length cap] w fun e w' => e = .returned (.map (some w.heap.size)) ∧ IsTab w' w.heap.size (plN l l.length) (ndF a l l.length) ∧ Below w.heap.size w w' := by
 have H := hid h
 clear h
 have b0 := below_1 w (.map #[] 0)
 have B0 := hid b0
 have F0 := hid (IsFm.made ptE w)
 have ht := ht_tab
 obtain ⟨n, hn⟩ : ∃ n, n = l.length := ⟨_, rfl⟩
 have HN := hid hn
 have FIN : Hid (∀ W, Below w.heap.size w W → IsFm ptE W w.heap.size (plN l n) (ndF a l n).ptr → IsTab W w.heap.size (plN l l.length) (ndF a l l.length)) := hid (fun W hb hf => by rw [hn] at hf; exact ns_tab (H.out.later hb) hf)
 rw [← hn] at hm ⊢
 clear hn b0
 have hmm := @run_makeMap Tryd.prog
 go_enter Tryd.func61, Tryd.ntmps61
 go_wp2
 go_loopg [8] n (fun gk i wr => ∃ m : Nat, m + gk = n ∧ i = .int .i64 m ∧ Hid (Below w.heap.size w wr) ∧ Hid (IsFm ptE wr w.heap.size (plN l m) (ndF a l m).ptr))
 case atStart => exact ⟨0, by omega, rfl, B0, F0⟩
 case round =>
   obtain ⟨m, hm2, rfl, HB, HF⟩ := hrel
   by_cases hlt : m < n
   · have hltI : (m : Int) < n := by omega
     have hln : m < l.length := by rw [← HN.out]; exact hlt
     obtain ⟨b, off, rfl, _⟩ := H.out.2.2 (by omega)
     have hI := H.out.later HB.out
     have hbd := (hI.ok (i := m) hln).1
     obtain ⟨c0, _⟩ := (hI.at (i := m) hln).all
     have hfd := HF.out.out (S := fun _ => False) (Ou.drewW wr) (fun e => e)
     have hpl := plN_le l m
     obtain ⟨w3, SR, IM, MT⟩ := hfd.store (by omega) ht hbd.1 hbd.2 (some ⟨b, off + m * 6, none⟩)
     rw [addN_ptr, ← ndF_ptr] at IM
     rw [show ptE.enc (some ⟨b, off + m * 6, none⟩) = .pointer (some ⟨b, off + m * 6, none⟩) from rfl] at SR
     have HF3 : Hid (IsFm ptE w3 w.heap.size (plN l (m + 1)) (ndF (some ⟨b, off, none⟩) l (m + 1)).ptr) := hid IM
     have HB3 : Hid (Below w.heap.size w w3) := hid (HB.out.trans ((((Ou.drewW (S := fun k => k = w.heap.size) wr).trans (Ou.turned MT rfl)).below HB.out.size (fun k e => by omega))))
     have c0d : wr.drew.cell? ⟨b, off + m * 6, none⟩ = some (.int .u32 (l.getD m Nd.no).fid) := c0
     clear hI hfd hbd IM MT hln hpl
     generalize l.getD m Nd.no = x at *
     go_upto_region 5 with fail
     go_region
     go_wp2
     go_roundg (gk - 1)
     case measure => omega
     case rel => exact ⟨m + 1, by omega, by go_num, HB3, HF3⟩
   · have em : m = n := by omega
     have hge : ¬ (m : Int) < n := by omega
     have F := hid (FIN.out wr HB.out (by rw [← em]; exact HF.out))
     go_wp2
     go_ret
     exact ⟨rfl, by rw [← HN.out] at F; exact F.out, HB.out⟩
def haveTo (N : Tab) (l : List Kd) : Nat → Bool
 | 0 => true
 | m + 1 => haveTo N l m && ((l.getD m Kd.no).fid != 1 && (N (l.getD m Kd.no).fid).isSome)
def haveB (N : Tab) (l : List Kd) : Bool := haveTo N l l.length
theorem have_no (N : Tab) (l : List Kd) (m : Nat) (h : ((l.getD m Kd.no).fid != 1 && (N (l.getD m Kd.no).fid).isSome) = false) : ∀ d, haveTo N l (m + 1 + d) = false
 | 0 => by simp only [Nat.add_zero, haveTo, h, Bool.and_false]
 | d + 1 => by rw [← Nat.add_assoc]; simp only [haveTo, have_no N l m h d, Bool.false_and]
theorem haveB_no {N : Tab} {l : List Kd} {m : Nat} (hm : m < l.length) (h : ((l.getD m Kd.no).fid != 1 && (N (l.getD m Kd.no).fid).isSome) = false) : haveB N l = false := by
 unfold haveB
 obtain ⟨d, hd⟩ : ∃ d, l.length = m + 1 + d := ⟨l.length - (m + 1), by omega⟩
 rw [hd]; exact have_no N l m h d
theorem haveTo_all {N : Tab} {l : List Kd} : ∀ {m : Nat}, haveTo N l m = true → ∀ i, i < m → (l.getD i Kd.no).fid ≠ 1 ∧ (N (l.getD i Kd.no).fid).isSome = true
 | 0, _, i, hi => by omega
 | m + 1, h, i, hi => by
   unfold haveTo at h
   rw [Bool.and_eq_true] at h
   by_cases e : i = m
   · subst e
     have := h.2
     rw [Bool.and_eq_true] at this
     exact ⟨by simpa using this.1, this.2⟩
   · exact haveTo_all h.1 i (by omega)
set_option maxHeartbeats 2000000 in
theorem haveKidsOf_c (tb m0 : Nat) (N : Tab) (b o : Nat) (x : Nd) (w : World) (hT : IsTab w tb m0 N) (hc : NdC w b o x) (h : x.Ok w) (hm : x.ks.length ≤ 100000) :
   Calls Tryd.prog 63 #[.map (some tb), .pointer (some ⟨b, o, none⟩)] w fun e w' => e = .returned (.bool (haveB N x.ks)) ∧ Below w.heap.size w w' := by
 obtain ⟨_, _, _, _, _, y5⟩ := hc.all
 have HK := hid h.2.2.2.2.2
 have HT := hid hT
 have ht := ht_tab
 clear hc h hT
 obtain ⟨fid, k, md, ln, da, dc, zs, ka, kc, l⟩ := x
 simp only at *
 obtain ⟨n, hn⟩ : ∃ n, n = l.length := ⟨_, rfl⟩
 rw [← hn] at hm y5
 have HN := hid hn
 clear hn
 go_enter Tryd.func63, Tryd.ntmps63
 go_wp2
 go_loopg [12] n (fun gk i wr => ∃ m : Nat, m + gk = n ∧ i = .int .i64 m ∧ Hid (Below w.heap.size w wr) ∧ Hid (haveTo N l m = true))
 case atStart => exact ⟨0, by omega, rfl, hid (Below.refl _ _), hid rfl⟩
 case round =>
   obtain ⟨m, hm2, rfl, HB, HH⟩ := hrel
   by_cases hlt : m < n
   · have hltI : (m : Int) < n := by omega
     have hln : m < l.length := by rw [← HN.out]; exact hlt
     obtain ⟨b1, off, rfl, _⟩ := HK.out.2.2 (by omega)
     have hK := HK.out.later HB.out
     obtain ⟨k0, k1⟩ := hK.at (i := m) hln
     have hwf := hK.wf (i := m) hln
     have NO := hid (haveB_no (N := N) (l := l) (m := m) hln)
     have NX : Hid (((l.getD m Kd.no).fid != 1 && (N (l.getD m Kd.no).fid).isSome) = true → haveTo N l (m + 1) = true) := hid (fun h => by simp only [haveTo, HH.out, h, Bool.and_self])
     clear hK hln
     generalize l.getD m Kd.no = y at *
     have bA := below_1 wr (.cells #[.string y.nm, .int .u32 y.fid] 71)
     have hA := heap_alloc_new wr (.cells #[.string y.nm, .int .u32 y.fid] 71)
     have c1 : (wr.alloc (.cells #[.string y.nm, .int .u32 y.fid] 71)).cell? ⟨wr.heap.size, 1, none⟩ = some (.int .u32 y.fid) := cell_of_row2 hA 1 rfl
     have HB2 := hid (HB.out.trans (bA.mono HB.out.size))
     have LK := (HT.out.later HB2.out).1.look ht zeroPt hwf.2.1 hwf.2.2
     clear hA bA
     by_cases q1 : y.fid = 1
     · have q1B : (y.fid == 1) = true := by rw [q1]; rfl
       have EF := hid (NO.out (by rw [q1]; rfl))
       clear NO NX LK q1
       go_wp2
       go_ret
       exact ⟨ret_bool' EF.out.symm, HB2.out⟩
     · have q1B : (y.fid == 1) = false := beq_eq_false_iff_ne.2 q1
       unfold Tab.ptr at LK
       cases q2 : N y.fid with
       | none =>
         have EF := hid (NO.out (by rw [q2]; simp))
         rw [q2] at LK
         rw [show ptE.enc ((Option.map (fun p : Addr × Nd => some p.1) none).getD none) = .pointer none from rfl] at LK
         clear NO NX
         go_wp2
         go_ret
         exact ⟨ret_bool' EF.out.symm, HB2.out⟩
       | some p =>
         have ET := hid (NX.out (by rw [q2]; simpa using q1))
         rw [q2] at LK
         rw [show ptE.enc ((Option.map (fun p : Addr × Nd => some p.1) (some p)).getD none) = .pointer (some p.1) from rfl] at LK
         clear NO NX
         go_wp2
         go_roundg (gk - 1)
         case measure => omega
         case rel => exact ⟨m + 1, by omega, by go_num, HB2, ET⟩
   · have em : m = n := by omega
     have hge : ¬ (m : Int) < n := by omega
     have EF : Hid (haveB N l = true) := hid (by unfold haveB; rw [← HN.out, ← em]; exact HH.out)
     go_wp2
     go_ret
     exact ⟨ret_bool' EF.out.symm, HB.out⟩
end Go.Proofs.YtkokjkaclcjnjaaDoor
