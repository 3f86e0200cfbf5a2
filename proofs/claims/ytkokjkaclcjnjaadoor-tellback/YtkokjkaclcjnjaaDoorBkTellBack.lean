/-
  For every nodes (the first 42 are looked at) and every text (its first 9000 bytes): Read of Tree is the tree, Tree of Read is the text, Unquote of Quote is the text.
-/
import Derived.Test.YtkokjkaclcjnjaaDoorBkBy
import Derived.Test.YtkokjkaclcjnjaaDoorBkAy
import Derived.Test.YtkokjkaclcjnjaaDoorBkBn
import Derived.Test.YtkokjkaclcjnjaaDoorCards
import Derived.Test.YtkokjkaclcjnjaaDoorTie
import Derived.ChangeOld
import Derived.Below
import Derived.Deep.DeepHandedRow
import Derived.Lib.LaidTab
import Derived.Shelf.Vars
namespace Go.Proofs.YtkokjkaclcjnjaaDoor
open Go.RowKit Go.ChangeShapes Go.WideShapes Go.ChangeAt Go.Maps Go.Shelf
open Go.ChangeMaps (open_string shut_string)
set_option linter.unusedVariables false
set_option linter.unusedSimpArgs false
set_option maxRecDepth 20000
theorem treeL_er (L : List Nd) : treeL (L.map Nd.er) = treeL L := by
 unfold treeL
 rw [List.flatMap_map]
 rfl
theorem lineL_len {x : Nd} : 1 ≤ (lineL x ++ [10]).length := by simp
theorem treeL_count : ∀ (L : List Nd), L.length ≤ (treeL L).length
 | [] => by simp [treeL]
 | x :: t => by
   have h := treeL_count t
   unfold treeL at h ⊢
   rw [List.flatMap_cons, List.length_append, List.length_cons]
   have := lineL_len (x := x)
   omega
theorem treeP_of {L : List Nd} {w : World} (R : Rt L) (h : ∀ x ∈ L, x.Ok w) (hr : rightD L = true) : treeP (treeL L) = some (L.map Nd.er) := by
 unfold treeP
 have e : readN (treeL L).length 40 (treeL L) = some (L.map Nd.er) := readN_of L _ 40 (fun x hx => ⟨(R.ok x hx).1, ok_in (h x hx)⟩) R.few (treeL_count L)
 rw [e]
 show (if rightD (L.map Nd.er) = true then some (L.map Nd.er) else none) = _
 rw [rightD_er, if_pos hr]
theorem treeP_back {s : List UInt8} {l : List Nd} (h : treeP s = some l) : rightD l = true ∧ treeL l = s ∧ l.length ≤ 40 := by
 unfold treeP at h
 cases hr : readN s.length 40 s with
 | none => rw [hr] at h; cases h
 | some m =>
   rw [hr] at h
   replace h : (if rightD m = true then some m else none) = some l := h
   split at h
   · rename_i q
     cases h
     obtain ⟨h1, h2, _⟩ := readN_back _ _ _ _ hr
     exact ⟨q, h1, h2⟩
   · cases h
set_option maxHeartbeats 16000000 in
theorem tellBack_walk (a : Option Addr) (len cap : Nat) (L : List Nd) (lz : L.length = len) (lc : len ≤ cap) (s : ByteArray) (hs : s.size ≤ maxLen) (w : World) (mx : Int) (hmx : w.cell? ⟨Tryd.lays145_ren.g 1, 0, none⟩ = some (.int .i64 mx)) (ht : TabW w) (hL : IsNs w a L ∧ ∀ x ∈ L, x.Nil) :
   Calls Tryd.prog 7 #[.slice a len cap, .string s] w fun e w' => e = .returned (.bool true) ∧ Below w.heap.size w w' := by
 have hm : MxW w := ⟨mx, hmx⟩
 clear hmx
 have h9 := few15_size s
 have FC := hid (few15_c s w)
 have SC := hid (small15_c a len cap L w lz lc)
 have hM := ns_take15 hL.1 42
 have hMl : (L.take 42).length ≤ 42 := by rw [List.length_take]; omega
 generalize L.take 42 = M at *
 generalize few15 s = t9 at *
 have PT := hid (fun W (h : Below w.heap.size w W) => ptree_c cap (hM.later h) (by omega) (ht.later h))
 unfold TrP at PT
 have QC := hid (fun W => quote_c t9 W (by omega))
 have hql := (quote_len t9.data.toList).2
 have h9l : t9.data.toList.length = t9.size := rfl
 have UC := hid (fun W => unquote_c ⟨(quoteL t9.data.toList).toArray⟩ W (by rw [ba_size]; omega))
 have euq : unqL (⟨(quoteL t9.data.toList).toArray⟩ : ByteArray).data.toList = some t9.data.toList := unq_quote t9.data.toList
 rw [euq] at UC
 unfold UqP at UC
 simp only at UC
 have et9 : (⟨t9.data.toList.toArray⟩ : ByteArray) = t9 := by apply ByteArray.ext; simp
 rw [et9] at UC
 have LC := hid (fun W => tlive_c W)
 have RS := hid (fun W (h : Below w.heap.size w W) => tread_c t9 W (by omega) (hm.later h))
 have bt : (t9.toList == t9.toList) = true := beq_self_eq_true _
 have TU : Hid (∀ (l : List Nd), treeP t9.data.toList = some l → ∀ (W : World) (v : Value) (K : List Nd) (base : Nat), Below w.heap.size w W → OwN W base v K → (∀ x ∈ K, NdB W base x) → K.map Nd.er = l → ∃ a2 c2, v = .slice a2 K.length c2 ∧ Calls Tryd.prog 17 #[.slice a2 K.length c2] W fun e w' => e = .returned (.tuple #[.string t9, .int .i64 0]) ∧ Below W.heap.size W w') := hid (fun l hl W v K base hW hO hN hE => by
   obtain ⟨p1, p2, p3⟩ := treeP_back hl
   have hKl : K.length ≤ 40 := by have := congrArg List.length hE; rw [List.length_map] at this; omega
   obtain ⟨a2, c2, rfl, hI⟩ := NsB.is hO hN (by omega)
   refine ⟨a2, c2, rfl, (ptree_c c2 hI (by omega) (ht.later hW)).mono ?_⟩
   rintro e w' ⟨h1, h2⟩
   rw [← hE, rightD_er] at p1
   rw [← hE, treeL_er] at p2
   rw [p1, if_pos rfl, p2, et9] at h1
   exact ⟨h1, h2⟩)
 have QS : Hid (∃ q : ByteArray, q = ⟨(quoteL t9.data.toList).toArray⟩) := hid ⟨_, rfl⟩
 generalize (⟨(quoteL t9.data.toList).toArray⟩ : ByteArray) = Q at *
 clear hql h9l euq et9 QS
 cases hr : rightD M with
 | false =>
   rw [hr] at PT
   simp only [Bool.false_eq_true, if_false] at PT
   cases hT : treeP t9.data.toList with
   | none =>
     rw [hT] at RS
     unfold ReP at RS
     simp only at RS
     clear TU hT hr hM ht hm hL
     generalize M.length = n at *
     go_enter Tryd.func7, Tryd.ntmps7
     go_wp2_with (first
       | (go_at_call 11; refine (LC.out _).mono ?_; rintro _ w5 ⟨rfl, hb5⟩; have B5 := hid (B4.out.trans (hb5.mono B4.out.size)); clear hb5)
       | (go_at_call 22; refine (RS.out _ B3.out).mono ?_; rintro _ w4 ⟨rfl, hb4⟩; have B4 := hid (B3.out.trans (hb4.mono B3.out.size)); clear hb4)
       | (go_at_call 9; refine (UC.out _).mono ?_; rintro _ w3 ⟨rfl, hb3⟩; have B3 := hid (B2.out.trans (hb3.mono B2.out.size)); clear hb3)
       | (go_at_call 12; refine (QC.out _).mono ?_; rintro _ w2 ⟨rfl, hb2⟩; have B2 := hid (B1.out.trans (hb2.mono B1.out.size)); clear hb2)
       | (go_at_call 17; refine (PT.out _ (Below.refl _ _)).mono ?_; rintro _ w1 ⟨rfl, hb1⟩; have B1 := hid hb1; clear hb1)
       | (go_at_call 8; refine FC.out.mono ?_; rintro _ w0 ⟨rfl, h0⟩; rw [h0]; clear h0)
       | (go_at_call 16; refine SC.out.mono ?_; rintro _ w0 ⟨rfl, h0⟩; rw [h0]; clear h0))
     go_ret
     exact ⟨by first | rfl | simp, B5.out⟩
   | some l =>
     rw [hT] at RS
     unfold ReP at RS
     simp only at RS
     have TU2 := hid (TU.out l hT)
     clear TU hT hr hM ht hm hL
     generalize M.length = n at *
     go_enter Tryd.func7, Tryd.ntmps7
     go_wp2_with (first
       | (go_at_call 11; refine (LC.out _).mono ?_; rintro _ w6 ⟨rfl, hb6⟩; have B6 := hid (B5.out.trans (hb6.mono B5.out.size)); clear hb6)
       | (have _q := T5.out; clear _q T5; go_at_call 17; refine T6.out.mono ?_; rintro _ w5 ⟨rfl, hb5⟩; have B5 := hid (B4.out.trans (hb5.mono B4.out.size)); clear hb5)
       | (go_at_call 22; refine (RS.out _ B3.out).mono ?_; rintro _ w4 ⟨⟨v4, K, rfl, hO4, hN4, hE4⟩, hb4⟩; have B4 := hid (B3.out.trans (hb4.mono B3.out.size)); obtain ⟨a4, c4, rfl, ht4⟩ := TU2.out w4 v4 K _ B4.out hO4 hN4 hE4; have T6 := hid ht4; have T5 := hid True.intro; clear hb4 hO4 hN4 hE4 ht4)
       | (go_at_call 9; refine (UC.out _).mono ?_; rintro _ w3 ⟨rfl, hb3⟩; have B3 := hid (B2.out.trans (hb3.mono B2.out.size)); clear hb3)
       | (go_at_call 12; refine (QC.out _).mono ?_; rintro _ w2 ⟨rfl, hb2⟩; have B2 := hid (B1.out.trans (hb2.mono B1.out.size)); clear hb2)
       | (go_at_call 17; refine (PT.out _ (Below.refl _ _)).mono ?_; rintro _ w1 ⟨rfl, hb1⟩; have B1 := hid hb1; clear hb1)
       | (go_at_call 8; refine FC.out.mono ?_; rintro _ w0 ⟨rfl, h0⟩; rw [h0]; clear h0)
       | (go_at_call 16; refine SC.out.mono ?_; rintro _ w0 ⟨rfl, h0⟩; rw [h0]; clear h0))
     go_ret
     exact ⟨by first | rfl | simp, B6.out⟩
 | true =>
   have R := rightD_rt.1 hr
   rw [hr] at PT
   simp only [if_true] at PT
   have hfl : (treeL M).length ≤ 5000000 := by
     have := flat_size R hM M.length
     rw [List.take_length] at this
     exact this
   have RX := hid (fun W (h : Below w.heap.size w W) => tread_c ⟨(treeL M).toArray⟩ W (by rw [ba_size]; omega) (hm.later h))
   have eX : treeP (⟨(treeL M).toArray⟩ : ByteArray).data.toList = some (M.map Nd.er) := treeP_of R hM.2.1 hr
   rw [eX] at RX
   unfold ReP at RX
   simp only at RX
   generalize (⟨(treeL M).toArray⟩ : ByteArray) = X at *
   have SM : Hid (∀ (W : World) (v : Value) (K : List Nd) (base : Nat), Below w.heap.size w W → OwN W base v K → (∀ x ∈ K, NdB W base x) → K.map Nd.er = M.map Nd.er → ∃ a2 c2, v = .slice a2 K.length c2 ∧ Calls Tryd.prog 24 #[.slice a2 K.length c2, .slice a M.length cap] W fun e w' => e = .returned (.bool true) ∧ Below W.heap.size W w') := hid (fun W v K base hW hO hN hE => by
     have hKl : K.length ≤ 42 := by have := congrArg List.length hE; rw [List.length_map, List.length_map] at this; omega
     obtain ⟨a2, c2, rfl, hI⟩ := NsB.is hO hN (by omega)
     exact ⟨a2, c2, rfl, same6_c a2 a c2 cap K M W hI (hM.later hW) hE (by omega) (fun x hx => by
       have hrK : rightD K = true := by rw [← rightD_er K, hE, rightD_er]; exact hr
       have := (node_small ((rightD_rt.1 hrK).ok x hx).1).2.1
       omega)⟩)
   cases hT : treeP t9.data.toList with
   | none =>
     rw [hT] at RS
     unfold ReP at RS
     simp only at RS
     clear TU hT hr hM ht hm hL hfl eX R
     generalize M.length = n at *
     go_enter Tryd.func7, Tryd.ntmps7
     go_wp2_with (first
       | (go_at_call 11; refine (LC.out _).mono ?_; rintro _ w7 ⟨rfl, hb7⟩; have B7 := hid (B6.out.trans (hb7.mono B6.out.size)); clear hb7)
       | (have _q := T2.out; clear _q T2; go_at_call 22; refine (RS.out _ B5.out).mono ?_; rintro _ w6 ⟨rfl, hb6⟩; have B6 := hid (B5.out.trans (hb6.mono B5.out.size)); clear hb6)
       | (go_at_call 9; refine (UC.out _).mono ?_; rintro _ w5 ⟨rfl, hb5⟩; have B5 := hid (B4.out.trans (hb5.mono B4.out.size)); clear hb5)
       | (go_at_call 12; refine (QC.out _).mono ?_; rintro _ w4 ⟨rfl, hb4⟩; have B4 := hid (B3.out.trans (hb4.mono B3.out.size)); clear hb4)
       | (go_at_call 24; refine S2.out.mono ?_; rintro _ w3 ⟨rfl, hb3⟩; have B3 := hid (B2.out.trans (hb3.mono B2.out.size)); clear hb3)
       | (go_at_call 22; refine (RX.out _ B1.out).mono ?_; rintro _ w2 ⟨⟨v2, K2, rfl, hO2, hN2, hE2⟩, hb2⟩; have B2 := hid (B1.out.trans (hb2.mono B1.out.size)); obtain ⟨a2, c2, rfl, hs2⟩ := SM.out w2 v2 K2 _ B2.out hO2 hN2 hE2; have S2 := hid hs2; have T2 := hid True.intro; clear hb2 hO2 hN2 hE2 hs2)
       | (go_at_call 17; refine (PT.out _ (Below.refl _ _)).mono ?_; rintro _ w1 ⟨rfl, hb1⟩; have B1 := hid hb1; clear hb1)
       | (go_at_call 8; refine FC.out.mono ?_; rintro _ w0 ⟨rfl, h0⟩; rw [h0]; clear h0)
       | (go_at_call 16; refine SC.out.mono ?_; rintro _ w0 ⟨rfl, h0⟩; rw [h0]; clear h0))
     go_ret
     exact ⟨by first | rfl | simp, B7.out⟩
   | some l =>
     rw [hT] at RS
     unfold ReP at RS
     simp only at RS
     have TU2 := hid (TU.out l hT)
     clear TU hT hr hM ht hm hL hfl eX R
     generalize M.length = n at *
     go_enter Tryd.func7, Tryd.ntmps7
     go_wp2_with (first
       | (go_at_call 11; refine (LC.out _).mono ?_; rintro _ w8 ⟨rfl, hb8⟩; have B8 := hid (B7.out.trans (hb8.mono B7.out.size)); clear hb8)
       | (have _q := T5.out; clear _q T5; go_at_call 17; refine T6.out.mono ?_; rintro _ w7 ⟨rfl, hb7⟩; have B7 := hid (B6.out.trans (hb7.mono B6.out.size)); clear hb7)
       | (have _q := T2.out; clear _q T2; go_at_call 22; refine (RS.out _ B5.out).mono ?_; rintro _ w6 ⟨⟨v6, K, rfl, hO6, hN6, hE6⟩, hb6⟩; have B6 := hid (B5.out.trans (hb6.mono B5.out.size)); obtain ⟨a6, c6, rfl, ht6⟩ := TU2.out w6 v6 K _ B6.out hO6 hN6 hE6; have T6 := hid ht6; have T5 := hid True.intro; clear hb6 hO6 hN6 hE6 ht6)
       | (go_at_call 9; refine (UC.out _).mono ?_; rintro _ w5 ⟨rfl, hb5⟩; have B5 := hid (B4.out.trans (hb5.mono B4.out.size)); clear hb5)
       | (go_at_call 12; refine (QC.out _).mono ?_; rintro _ w4 ⟨rfl, hb4⟩; have B4 := hid (B3.out.trans (hb4.mono B3.out.size)); clear hb4)
       | (go_at_call 24; refine S2.out.mono ?_; rintro _ w3 ⟨rfl, hb3⟩; have B3 := hid (B2.out.trans (hb3.mono B2.out.size)); clear hb3)
       | (go_at_call 22; refine (RX.out _ B1.out).mono ?_; rintro _ w2 ⟨⟨v2, K2, rfl, hO2, hN2, hE2⟩, hb2⟩; have B2 := hid (B1.out.trans (hb2.mono B1.out.size)); obtain ⟨a2, c2, rfl, hs2⟩ := SM.out w2 v2 K2 _ B2.out hO2 hN2 hE2; have S2 := hid hs2; have T2 := hid True.intro; clear hb2 hO2 hN2 hE2 hs2)
       | (go_at_call 17; refine (PT.out _ (Below.refl _ _)).mono ?_; rintro _ w1 ⟨rfl, hb1⟩; have B1 := hid hb1; clear hb1)
       | (go_at_call 8; refine FC.out.mono ?_; rintro _ w0 ⟨rfl, h0⟩; rw [h0]; clear h0)
       | (go_at_call 16; refine SC.out.mono ?_; rintro _ w0 ⟨rfl, h0⟩; rw [h0]; clear h0))
     go_ret
     exact ⟨by first | rfl | simp, B8.out⟩
/-! ### The row and the card of TellBack -/
theorem tellBack_own : ownKnob Tryd.prog.godebug = none := by kernel_rfl
theorem tellBack_laidOut : laidOutB Tryd.prog = true := by kernel_rfl
def tellBack_tab0 : Array Value := ([0, 1, 28, 2, 29, 14, 24, 3, 30, 22, 20, 15, 25, 17, 4, 8, 31, 27, 13, 23, 21, 19, 16, 7, 26, 12, 18, 6, 11, 5, 10, 9].map fun (n : Nat) => Value.int .u8 (n : Int)).toArray
def tellBack_tab1 : Array Value := ([0, 1, 56, 2, 57, 49, 28, 3, 61, 58, 42, 50, 38, 29, 17, 4, 62, 47, 59, 36, 45, 43, 51, 22, 53, 39, 33, 30, 24, 18, 12, 5, 63, 55, 48, 27, 60, 41, 37, 16, 46, 35, 44, 21, 52, 32, 23, 11, 54, 26, 40, 15, 34, 20, 31, 10, 25, 14, 19, 9, 13, 8, 7, 6].map fun (n : Nat) => Value.int .u8 (n : Int)).toArray
def tellBack_tab2 : Array Value := ([1, 10, 100, 1000, 10000, 100000, 1000000, 10000000, 100000000, 1000000000, 10000000000, 100000000000, 1000000000000, 10000000000000, 100000000000000, 1000000000000000, 10000000000000000, 100000000000000000, 1000000000000000000, 10000000000000000000].map fun (n : Nat) => Value.int .u64 (n : Int)).toArray
def tellBack_tab3 : Array Value := ([128, 191, 160, 191, 128, 159, 144, 191, 128, 143, 0, 0, 0, 0, 0, 0, 0, 0, 0, 0, 0, 0, 0, 0, 0, 0, 0, 0, 0, 0, 0, 0].map fun (n : Nat) => Value.int .u8 (n : Int)).toArray
def tellBack_tab4 : Array Value := (Go.Pinned.utf8FirstZ.map fun (n : Nat) => Value.int .u8 (n : Int)).toArray
theorem tellBack_max {W : World} (h : W.ShapedOpen Tryd.prog) : ∃ m, W.cell? ⟨1, 0, none⟩ = some (.int .i64 m) :=
 cell_of_shapedOpen_int (t := 3) (zero := #[.int .i64 0]) h (by decide +kernel) (by kernel_rfl) rfl (by kernel_rfl) (by kernel_rfl) Tryd.underlying3
theorem tellBack_tab {W : World} (h : laidMet Tryd.prog Rows.tellBackRow.laid W) : TabW W := by
 obtain ⟨_, h0, _⟩ := h
 obtain ⟨_, _, _, _, _, _, _, _, _, _, h1, _⟩ := h0
 obtain ⟨_, _, _, _, _, _, _, _, _, _, h2, _⟩ := h1
 obtain ⟨g, t, cs, fuel, p, q, hg, ht, hvar, hd, _, _⟩ := h2
 obtain rfl : 0 = g := Option.some.inj ((show Tryd.prog.globalNamed "internal/strconv.uint64pow10" = some 0 by kernel_rfl).symm.trans hg)
 obtain rfl : 142 = t := Option.some.inj ((show (Tryd.prog.globals[0]?).map (·.type) = some 142 by kernel_rfl).symm.trans ht)
 unfold TabW Lib.TabIs
 rw [hvar, ← Lib.cells_of_tab (k := .u64) (zs := Lib.pow10Tab) Tryd.underlying142 Tryd.underlying68 (by kernel_rfl) (by kernel_rfl) hd]
theorem tellBack_contract (H : Type) (enc : TypeId × Value → H) (W : World) (base : Nat) (args : Array Value) (ds gs : List (DataW H)) (before : List MemPlace)
   (hval : ∀ (j : Nat) t v, Tryd.f7.params[j]? = some t → args[j]? = some v → Value.okWide Tryd.prog W .any base t v)
   (hW : DataW.Whole enc Tryd.prog Tryd.f7.params.toList Rows.tellBackSpec.vars false W args.toList ds gs before) (hsh : W.ShapedOpen Tryd.prog) (hT : TabW W) :
   Calls Tryd.prog 7 args W fun e W' => ∃ v, e = .returned v ∧ Rows.tellBackSpec.post enc Tryd.prog Tryd.f7 false true false false W args v W' := by
 obtain ⟨mx, hmx⟩ := tellBack_max hsh
 have hW' := hW
 obtain ⟨p, q, hA0, hV, rfl, hfz, hnd⟩ := hW
 have hA : DataW.TrodAll enc Tryd.prog W 0 (fun _ => true) true Tryd.f7.params.toList args.toList ds p := hA0
 rw [Tryd.params7] at hA hval
 obtain ⟨v0, vs0, d0, ds0, p0, q0, hargs, rfl, rfl, h0, r0⟩ := trodAll_cons hA
 obtain ⟨v1, vs1, d1, ds1, p1, q1, rfl, rfl, rfl, h1, r1⟩ := trodAll_cons r0
 obtain ⟨rfl, rfl, rfl⟩ := trodAll_nil r1
 obtain rfl : args = #[v0, v1] := by cases args; simp_all
 obtain ⟨rfl, rfl⟩ := trodVars_none hV
 have k0 := h0
 have lt0 : ∀ x ∈ p0, x.block < W.heap.size := by obtain ⟨m, hm⟩ := k0; exact DataW.trod_lt m _ _ _ hm
 obtain ⟨a0, len0, cap0, rfl⟩ := okWide_slice Tryd.underlying38 (hval 0 38 v0 rfl rfl)
 obtain ⟨z0, lz0, w0, lc0⟩ := isNs_of Tryd.underlying38 h0
 obtain ⟨a1, rfl, rfl, rfl, w1⟩ := open_string Tryd.underlying9 (hval 1 9 v1 rfl rfl) h1
 clear hA0
 refine (tellBack_walk a0 len0 cap0 z0 lz0 lc0 a1 w1 W mx hmx hT w0).mono fun e W' ⟨he, bel⟩ => ?_
 subst he
 exact ⟨_, rfl, _, _, _, [], _, [], hW', trodAll_mk1 (shut_bool Tryd.underlying4 _), (trodAll_cons_mk (Below.trod tellBack_laidOut (by kernel_rfl) (of_decide_eq_true (by kernel_rfl)) k0 bel lt0) (trodAll_cons_mk (shut_string Tryd.underlying9 w1) trodAll_mk0)), rfl, bel.frame _, fun h => by cases h⟩
set_option maxRecDepth 100000 in
theorem tellBack_wit (os : Os) (H : Type) (enc : TypeId × Value → H) : ∃ (w : World) (tape : Tape) (i : Input), w.os = os ∧ (w.forCall tape i).Shaped Tryd.checked.prog ∧ i.vars = [] ∧ Input.okWide Tryd.checked.prog (w.forCall tape i) .any w.heap.size 7 i ∧
     (OpenSpec.ofChange Rows.tellBackSpec).preRow enc Tryd.checked.prog Tryd.f7 Rows.tellBackRow.domain false Rows.tellBackRow.laid (w.forCall tape i).memory i.args ∧ ({ modest := false } : Assume).holds Tryd.checked.prog (lone (Frame.enter Tryd.checked.prog 7 i.args .normal) [] (w.forCall tape i)) :=
 witness_row_at (enc := enc) (C := Tryd.checked) false ({ World.holding Tryd.prog os ⟨#[], #[], []⟩ with heap := ((((((World.holding Tryd.prog os ⟨#[], #[], []⟩).heap.modify 2 fun | .cells _ t fz => .cells tellBack_tab0 t fz | o => o).modify 3 fun | .cells _ t fz => .cells tellBack_tab1 t fz | o => o).modify 0 fun | .cells _ t fz => .cells tellBack_tab2 t fz | o => o).modify 5 fun | .cells _ t fz => .cells tellBack_tab3 t fz | o => o).modify 4 fun | .cells _ t fz => .cells tellBack_tab4 t fz | o => o) }) #[.slice none 0 0, .string ByteArray.empty] rfl (by kernel_rfl) (by kernel_rfl) (by kernel_rfl)
   (OpenSpec.preRow_of_cond (x := ([.nil, .lit (.string [])], [], [])) 8 (by kernel_rfl) (by kernel_rfl) (fun k hk => by cases hk) (by kernel_rfl) (laidMet_of_run' 8 (by kernel_rfl) (by kernel_rfl)))
set_option maxRecDepth 100000 in
theorem tellBack_lifted (os : Os) (started : os.Started) (H : Type) (enc : TypeId × Value → H) (F : Stop.Interp) :
   ReturnsInHanded {} Tryd.checked os 7 .any ((OpenSpec.ofChange Rows.tellBackSpec).preRow enc Tryd.prog Tryd.f7 Rows.tellBackRow.domain false Rows.tellBackRow.laid) (((OpenSpec.ofChange Rows.tellBackSpec).at F).post enc Tryd.prog Tryd.f7 false true false false) := by
 refine returnsInHanded_of_row (C := Tryd.checked) (s := OpenSpec.ofChange Rows.tellBackSpec) tellBack_own started (by kernel_rfl) Tryd.func7 (tellBack_wit os H enc) ?_
 intro W base args ds gs before hval hW _ _ _ hL hsh _
 exact tellBack_contract H enc W base args ds gs before hval hW hsh (tellBack_tab hL)
theorem tellBack_said : Rows.TellBackSaid :=
 OpenClaim.holds_of_cond 7 Tryd.f7 rfl rfl rfl rfl rfl rfl rfl ⟨rfl, rfl, rfl, rfl, rfl⟩ rfl rfl rfl rfl rfl (by kernel_rfl) Tryd.func7 (by kernel_rfl)
   (of_decide_eq_true (by kernel_rfl)) (by unfold Func.isWrapper; first | (rw [if_pos (by decide +kernel)]; kernel_rfl) | (rw [if_neg (by decide +kernel)]; exact ⟨rfl, rfl⟩))
   (fun os started H enc _ F => by rw [OpenClaim.pre_eq_preRow]; exact tellBack_lifted os started H enc F)
theorem tellBack_plain (g : FuncId) (fn : Func) (hf : Tryd.pinned.checked.prog.funcNamed Rows.tellBackRow.func = some g) (hfn : Tryd.pinned.checked.prog.funcs[g]? = some fn) :
   false = Tryd.pinned.checked.prog.looks [] ∧ ∀ (j : Nat) t, fn.params[j]? = some t → Tryd.pinned.checked.prog.wantsStandIn t = false := by
 obtain rfl : g = 7 := Option.some.inj ((show Tryd.prog.funcNamed Rows.tellBackRow.func = some 7 by kernel_rfl).symm.trans hf) |>.symm
 obtain rfl : fn = Tryd.f7 := (Option.some.inj (Tryd.func7.symm.trans hfn)).symm
 refine ⟨by kernel_rfl, fun j t ht => ?_⟩
 rw [Tryd.params7] at ht
 have hm := Array.mem_of_getElem? ht
 simp at hm
 rcases hm with rfl | rfl
 · exact (show Tryd.prog.wantsStandIn 38 = false by kernel_rfl)
 · exact (show Tryd.prog.wantsStandIn 9 = false by kernel_rfl)
theorem tellBack_holds : Rows.TellBackCardSaid :=
 Claim7.holds_tied_plain_at .later [] _ _ _ _ tellBack_said (fun _ h => by cases h) (by kernel_rfl) (fun _ h => by cases h) tellBack_row_tie rfl ⟨rfl, rfl⟩ (by kernel_rfl) rfl tellBack_plain (by kernel_rfl)
#print axioms tellBack_holds
end Go.Proofs.YtkokjkaclcjnjaaDoor
