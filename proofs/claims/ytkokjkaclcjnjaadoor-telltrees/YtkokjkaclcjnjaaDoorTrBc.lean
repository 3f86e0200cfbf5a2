/-
  The package tree: copyAll, placeOf, entryOf, New.
-/
import Derived.Test.YtkokjkaclcjnjaaDoorTrBb
import Derived.Deep.RegionHeld3
namespace Go.Proofs.YtkokjkaclcjnjaaDoor
open Go.RowKit Go.ChangeShapes Go.WideShapes Go.ChangeAt Go.Maps Go.Shelf
set_option linter.unusedVariables false
set_option linter.unusedSimpArgs false
set_option maxRecDepth 100000
theorem NdW.grown {w w' : World} {base b : Nat} {x : Nd} {v : Value} {L : List Nd} (h : NdW w base x) (hown : OwN w b v L) (hg : w.grownBy w' v.ownBlock) : NdW w' base x :=
 ⟨h.1, h.2.1, h.2.2.1.grown hown (by decide) hg, own_other h.2.2.2 hown (by decide) hg⟩
def plI (l : List Nd) (f : Int) : Int := match l.findIdx? (fun x => x.fid == f) with
 | some i => i
 | none => -1
theorem findIdx_at {α : Type} {p : α → Bool} {d : α} : ∀ {l : List α} {m : Nat}, m < l.length → (∀ i, i < m → p (l.getD i d) = false) → p (l.getD m d) = true → l.findIdx? p = some m
 | [], m, hm, _, _ => by cases hm
 | x :: t, 0, _, _, h1 => by
   have : p x = true := h1
   simp [List.findIdx?_cons, this]
 | x :: t, m + 1, hm, h0, h1 => by
   have hx : p x = false := h0 0 (by omega)
   rw [List.findIdx?_cons, hx]
   have := findIdx_at (l := t) (m := m) (p := p) (d := d) (by simpa using hm) (fun i hi => h0 (i + 1) (by omega)) h1
   simp [this]
theorem findIdx_no {α : Type} {p : α → Bool} {d : α} {l : List α} (h : ∀ i, i < l.length → p (l.getD i d) = false) : l.findIdx? p = none := by
 rw [List.findIdx?_eq_none_iff]
 intro x hx
 obtain ⟨i, hi, rfl⟩ := List.getElem_of_mem hx
 have := h i hi
 rwa [List.getD, List.getElem?_eq_getElem hi] at this
set_option maxHeartbeats 2000000 in
theorem plIx_c (g : Nat) (a : Option Addr) (cap : Nat) (l : List Nd) (f : Int) (w : World) (h : IsNs w a l) (hg : w.heap[g]? = some (.cells #[.int .u32 f] 29)) (hm : l.length ≤ 100000) :
   Calls Tryd.prog 111 #[.slice a l.length cap, .func (.func 112) #[] #[.pointer (some ⟨g, 0, none⟩)]] w fun e w' => e = .returned (.int .i64 (plI l f)) ∧ Below w.heap.size w w' := by
 have H := hid h
 have HG := hid hg
 obtain ⟨R, hR⟩ : ∃ R, R = plI l f := ⟨_, rfl⟩
 rw [← hR]
 have HR := hid hR
 obtain ⟨n, hn⟩ : ∃ n, n = l.length := ⟨_, rfl⟩
 have HN := hid hn
 rw [← hn] at hm ⊢
 clear h hg hR hn
 go_enter Tryd.func111, Tryd.ntmps111
 go_wp2
 go_loopg [8] n (fun gk i wr => ∃ m : Nat, m + gk = n ∧ i = .int .i64 m ∧ Hid (Below w.heap.size w wr) ∧ Hid (∀ i, i < m → ((l.getD i Nd.no).fid == f) = false))
 case atStart => exact ⟨0, by omega, rfl, hid (Below.refl _ _), hid (fun i hi => by omega)⟩
 case round =>
   obtain ⟨m, hm2, rfl, HB, HF⟩ := hrel
   by_cases hlt : m < n
   · have hltI : (m : Int) < n := by omega
     have hln : m < l.length := by rw [← HN.out]; exact hlt
     obtain ⟨b, off, rfl, _⟩ := H.out.2.2 (by omega)
     obtain ⟨y0, y1, y2, y3, y4, y5⟩ := ((H.out.later HB.out).at (i := m) hln).all
     have YES : Hid (((l.getD m Nd.no).fid == f) = true → R = m) := hid (fun e => by rw [HR.out]; unfold plI; rw [findIdx_at (d := Nd.no) hln HF.out e])
     have NX : Hid (((l.getD m Nd.no).fid == f) = false → ∀ i, i < m + 1 → ((l.getD i Nd.no).fid == f) = false) := hid (fun e i hi => by
       by_cases q : i = m
       · rw [q]; exact e
       · exact HF.out i (by omega))
     have c0 : wr.cell? ⟨g, 0, none⟩ = some (.int .u32 f) := cell_of_row2 ((HB.out.block _ (lt_blkR HG.out)).trans HG.out) 0 rfl
     have hgl : g < wr.heap.size := lt_blkR ((HB.out.block _ (lt_blkR HG.out)).trans HG.out)
     clear hln
     generalize l.getD m Nd.no = x at *
     have BX := hid (HB.out.trans ((below_1 wr (.cells #[.int .u32 x.fid, .int .u8 x.k, .int .u16 x.md, .int .u16 x.ln, .slice x.da x.zs.length x.dc, .slice x.ka x.ks.length x.kc] 35)).mono HB.out.size))
     cases q : ((x).fid == f) with
     | true =>
       have ET := hid (YES.out q)
       clear YES NX HF
       skip
       go_wp2
       go_ret
       exact ⟨by rw [ET.out]; rfl, BX.out⟩
     | false =>
       have EX := hid (NX.out q)
       clear YES NX HF
       skip
       go_wp2
       go_roundg (gk - 1)
       case measure => omega
       case rel => exact ⟨m + 1, by omega, by go_num, BX, EX⟩
   · have hge : ¬ (m : Int) < n := by omega
     have EF : Hid (R = -1) := hid (by rw [HR.out]; unfold plI; rw [findIdx_no (d := Nd.no) (fun i hi => HF.out i (by have := HN.out; omega))])
     go_wp2
     go_ret
     exact ⟨by rw [EF.out]; rfl, HB.out⟩
set_option maxHeartbeats 1000000 in
theorem placeOf_c (a : Option Addr) (cap : Nat) (l : List Nd) (f : Int) (w : World) (h : IsNs w a l) (hm : l.length ≤ 100000) :
   Calls Tryd.prog 94 #[.slice a l.length cap, .int .u32 f] w fun e w' => e = .returned (.int .i64 (plI l f)) ∧ Below w.heap.size w w' := by
 have b0 := below_1 w (.cells #[.int .u32 f] 29)
 have IC := hid (plIx_c w.heap.size a cap l f _ (h.later b0) (heap_alloc_new w _) hm)
 have B0 := hid b0
 clear h b0
 go_enter Tryd.func94, Tryd.ntmps94
 go_wp2_with (go_at_call 111; refine IC.out.mono ?_; rintro _ w1 ⟨rfl, hb1⟩)
 go_ret
 exact ⟨rfl, B0.out.trans (hb1.mono B0.out.size)⟩
end Go.Proofs.YtkokjkaclcjnjaaDoor
