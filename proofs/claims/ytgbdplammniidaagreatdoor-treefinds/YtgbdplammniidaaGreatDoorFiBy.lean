/-
  Operations of an input, in memory.
  Contracts of the library, laid at this program: strings_Split.
  Dir and Base of the document's path, at a seat of trees.
-/
import Derived.Test.YtgbdplammniidaaGreatDoorFiAp
import Derived.Shelf.Strings.Search1
import Derived.Shelf.Strings.Search2
import Derived.Shelf.Strings.Search3
import Derived.Shelf.Strings.Count
import Derived.Shelf.LaysM
import Derived.Shelf.Strings.Shaped
import Derived.Shelf.Strings.Split
import Derived.Shelf.Unicode.Decode
import Derived.Shelf.Strings.RuneCount
import Derived.Shelf.Strings.Explode
import Derived.Shelf.Unicode.DecodeSlow
import Derived.Shelf.Unicode.DecodeAny
import Derived.Test.YtgbdplammniidaaGreatDoorProg
import Derived.Test.YtgbdplammniidaaGreatDoorFiBv
import Derived.Test.YtgbdplammniidaaGreatDoorFiAl
import Derived.Lib.IndexLaws
import Derived.Lib.SplitLaws
namespace Go.Proofs.YtgbdplammniidaaGreatDoor
open Go.RowKit Go.ChangeShapes Go.WideShapes Go.ChangeAt Go.Maps Go.Shelf
set_option linter.unusedVariables false
set_option linter.unusedSimpArgs false
theorem isOs_of {H : Type} {enc : TypeId × Value → H} {W : World} {t : TypeId} {a : Option Addr} {len cap : Nat} {d : DataW H} {p : List MemPlace} (ht : Tryz.prog.underlying t = some (.slice 58))
   (h : DataW.Trod enc Tryz.prog W 0 (fun _ => true) true t (.slice a len cap) d p) : ∃ l : List Rec, l.length = len ∧ IsOs W a l ∧ len ≤ cap := by
 obtain ⟨fuel, hf⟩ := h
 have hct : Tryz.prog.cellsOf 58 = 8 := by kernel_rfl
 rcases DataW.trod_slice ht hf with ⟨hcs, _⟩ | ⟨x, l, c, elems, rest, n, _, hcs, _, hb, hl, hm, hlen, hel, _⟩
 · simp [Value.cells] at hcs
   obtain ⟨rfl, rfl, rfl⟩ := hcs
   exact ⟨[], rfl, ⟨Nat.zero_le _, (fun x hx => by cases hx), (fun h => absurd h (by simp))⟩, by omega⟩
 · simp [Value.cells] at hcs
   obtain ⟨rfl, rfl, rfl⟩ := hcs
   rw [hct] at hel
   have each : ∀ i, i < len → ∃ q : Rec, (∀ j, j < 8 → W.cell? ((x.add (i * 8)).add j) = (q.ops)[j]?) ∧ q.Wf := by
     intro i hi
     have h1 := hel i hi
     have h2 : elems[i]? = some elems[i] := List.getElem?_eq_getElem (by omega)
     rw [h2, Option.bind_eq_some_iff] at h1
     obtain ⟨cs, hc, hy⟩ := h1
     obtain ⟨q, hq, hw, _⟩ := trod_op hy
     obtain ⟨_, hl6, hg⟩ := World.cells?_some hc
     refine ⟨q, fun j hj => ?_, hw⟩
     rw [hg j hj, hq]
   obtain ⟨f, hf'⟩ : ∃ f : Nat → Rec, ∀ i, i < len → (∀ j, j < 8 → W.cell? ((x.add (i * 8)).add j) = ((f i).ops)[j]?) ∧ (f i).Wf := by
     classical
     refine ⟨fun i => if h : i < len then (each i h).choose else Rec.no, fun i hi => ?_⟩
     simp only [hi, dif_pos]
     exact (each i hi).choose_spec
   refine ⟨(List.range len).map f, by simp, ⟨by simp; omega, fun q hq => ?_, fun hp => ?_⟩, by omega⟩
   · obtain ⟨i, hi, rfl⟩ := List.mem_map.1 hq
     exact (hf' i (List.mem_range.1 hi)).2
   · rw [List.length_map, List.length_range] at hp
     obtain ⟨b, off, spot⟩ := x
     have hc0 := (hf' 0 hp).1 0 (by omega)
     have hspot : spot = none := by
       have e0 : ((f 0).ops)[0]? = some (.int .u8 (f 0).k) := rfl
       rw [e0] at hc0
       simpa [Addr.add] using World.cell?_spot hc0
     subst hspot
     refine ⟨b, off, rfl, fun i hi j v hv => ?_⟩
     rw [List.length_map, List.length_range] at hi
     have hadd : ∀ j, ((⟨b, off, none⟩ : Addr).add (i * 8)).add j = ⟨b, off + i * 8 + j, none⟩ := fun j => by unfold Addr.add; split <;> split <;> simp_all <;> omega
     have key := (hf' i hi).1
     have g : ((List.range len).map f).getD i Rec.no = f i := by simp [List.getD, hi]
     rw [g] at hv
     have hj : j < 8 := (List.getElem?_eq_some_iff.1 hv).1
     have := key j hj
     rw [hadd] at this
     rw [this]; exact hv
end Go.Proofs.YtgbdplammniidaaGreatDoor
namespace Go.Proofs
open Go.Shelf
def Tryz.lays146_ren : Go.Shelf.Ren := ⟨fun | 146 => 37 | 221 => 57 | 268 => 69 | 138 => 70 | 143 => 71 | 195 => 90 | 197 => 91 | 218 => 92 | 219 => 93 | 260 => 109 | 217 => 110 | 225 => 111 | 224 => 112 | 267 => 113 | 266 => 131 | 314 => 132 | n => n, fun | 9 => 9 | 31 => 47 | 3 => 3 | 4 => 4 | 0 => 0 | 105 => 115 | 21 => 21 | 5 => 5 | 46 => 135 | 119 => 153 | 139 => 156 | 138 => 155 | 146 => 157 | 51 => 25 | n => n, fun | 1 => 0 | 3 => 1 | 4 => 2 | n => n⟩
theorem Tryz.lays146 : Go.Proofs.Lays.n146 Tryz.prog Tryz.lays146_ren := {
 mixed := by kernel_rfl
 f138 := Tryz.func70.trans (congrArg some (by kernel_rfl))
 f143 := Tryz.func71.trans (congrArg some (by kernel_rfl))
 f146 := Tryz.func37.trans (congrArg some (by kernel_rfl))
 f195 := Tryz.func90.trans (congrArg some (by kernel_rfl))
 f197 := Tryz.func91.trans (congrArg some (by kernel_rfl))
 f217 := Tryz.func110.trans (congrArg some (by kernel_rfl))
 f218 := Tryz.func92.trans (congrArg some (by kernel_rfl))
 f219 := Tryz.func93.trans (congrArg some (by kernel_rfl))
 f221 := Tryz.func57.trans (congrArg some (by kernel_rfl))
 f224 := Tryz.func112.trans (congrArg some (by kernel_rfl))
 f225 := Tryz.func111.trans (congrArg some (by kernel_rfl))
 f260 := Tryz.func109.trans (congrArg some (by kernel_rfl))
 f266 := Tryz.func131.trans (congrArg some (by kernel_rfl))
 f267 := Tryz.func113.trans (congrArg some (by kernel_rfl))
 f268 := Tryz.func69.trans (congrArg some (by kernel_rfl))
 f314 := Tryz.func132.trans (congrArg some (by kernel_rfl))
 t0 := Tryz.underlying0
 a0 := Tryz.isAgg0
 z0 := Tryz.sizeOf0
 v0 := Tryz.zeroValue0
 t3 := Tryz.underlying3
 a3 := Tryz.isAgg3
 z3 := Tryz.sizeOf3
 v3 := Tryz.zeroValue3
 t4 := Tryz.underlying4
 a4 := Tryz.isAgg4
 z4 := Tryz.sizeOf4
 v4 := Tryz.zeroValue4
 t5 := Tryz.underlying5
 a5 := Tryz.isAgg5
 z5 := Tryz.sizeOf5
 v5 := Tryz.zeroValue5
 t9 := Tryz.underlying9
 a9 := Tryz.isAgg9
 z9 := Tryz.sizeOf9
 v9 := Tryz.zeroValue9
 t21 := Tryz.underlying21
 a21 := Tryz.isAgg21
 z21 := Tryz.sizeOf21
 v21 := Tryz.zeroValue21
 t31 := Tryz.underlying47
 a31 := Tryz.isAgg47
 z31 := Tryz.sizeOf47
 v31 := Tryz.zeroValue47
 t46 := Tryz.underlying135
 a46 := Tryz.isAgg135
 z46 := Tryz.sizeOf135
 v46 := Tryz.zeroValue135
 t51 := Tryz.underlying25
 a51 := Tryz.isAgg25
 z51 := Tryz.sizeOf25
 v51 := Tryz.zeroValue25
 t105 := Tryz.underlying115
 a105 := Tryz.isAgg115
 z105 := Tryz.sizeOf115
 v105 := Tryz.zeroValue115
 t119 := Tryz.underlying153
 a119 := Tryz.isAgg153
 z119 := Tryz.sizeOf153
 t138 := Tryz.underlying155
 a138 := Tryz.isAgg155
 z138 := Tryz.sizeOf155
 v138 := Tryz.zeroValue155
 t139 := Tryz.underlying156
 a139 := Tryz.isAgg156
 z139 := Tryz.sizeOf156
 v139 := Tryz.zeroValue156
 t146 := Tryz.underlying157
 a146 := Tryz.isAgg157
 z146 := Tryz.sizeOf157
 v146 := Tryz.zeroValue157
 g1 := by kernel_rfl
 g3 := by kernel_rfl
 g4 := by kernel_rfl }
open Go.RowKit Go.Lib in
theorem Tryz.strings_Split (s sep : ByteArray) (m : Int) (w : World) (hs : s.size < 4294967281) (hm : w.cell? ⟨0, 0, none⟩ = some (.int .i64 m)) (h1 : 1 ≤ sep.size) :
   Calls Tryz.prog 37 #[.string s, .string sep] w fun e w' =>
     e = .returned (.slice (some ⟨w.heap.size, 0, none⟩) (Lib.countB s sep + 1) (Lib.countB s sep + 1)) ∧ w' = w.alloc (.cells ((Lib.splitB sep 0 (Lib.countB s sep) s).map Value.string).toArray 9) := Any.strings_Split Tryz.lays146 (by kernel_rfl) s sep m w hs hm h1
end Go.Proofs
namespace Go.Proofs.YtgbdplammniidaaGreatDoor
open Go.RowKit Go.ChangeShapes Go.WideShapes Go.ChangeAt
set_option linter.unusedVariables false
set_option linter.unusedSimpArgs false
set_option maxRecDepth 100000
def IsS (w : World) (v : Value) (ss : List (List UInt8)) : Prop :=
 ∃ a cap, v = .slice a ss.length cap ∧ ss.length ≤ cap ∧ cap ≤ maxLen ∧ (0 < ss.length → ∃ b off, a = some ⟨b, off, none⟩ ∧ ∀ i (h : i < ss.length), w.cell? ⟨b, off + i, none⟩ = some (strV ss[i])) ∧ ∀ p ∈ ss, p.length ≤ maxLen
theorem isS_of_owns {w : World} {base : Nat} {v : Value} {ss : List (List UInt8)} (h : w.ownsRow base 9 1 v ss.length (ss.map strV)) (hl : ∀ p ∈ ss, p.length ≤ maxLen) : IsS w v ss := by
 rcases h.2 with ⟨rfl, hn⟩ | ⟨g, cap, cur, rfl, _, _, hn, hc, _⟩
 · exact ⟨none, 0, by rw [hn], by omega, Nat.zero_le _, fun hp => absurd hp (by omega), hl⟩
 · refine ⟨some ⟨g, 0, none⟩, cap, rfl, hn, hc, fun hp => ⟨g, 0, rfl, fun i hi => ?_⟩, hl⟩
   have h1 := h.cells rfl i (strV ss[i]) (by rw [List.getElem?_map, List.getElem?_eq_getElem hi]; rfl)
   have h2 : (⟨g, 0, none⟩ : Addr).add i = ⟨g, 0 + i, none⟩ := by rcases i with _ | i <;> simp [Addr.add]
   rw [h2] at h1; exact h1
theorem IsS.front {w : World} {a : Option Addr} {n cap : Nat} {ss : List (List UInt8)} (h : IsS w (.slice a n cap) ss) (m : Nat) (hm : m ≤ ss.length) : IsS w (.slice a m cap) (ss.take m) := by
 obtain ⟨a', cap', h1, h2, h3, h4, h5⟩ := h
 cases h1
 have hlen : (ss.take m).length = m := by rw [List.length_take]; omega
 refine ⟨a, cap, by rw [hlen], by omega, h3, fun hp => ?_, fun p hp => h5 p (List.mem_of_mem_take hp)⟩
 obtain ⟨b, off, e, hc⟩ := h4 (by omega)
 exact ⟨b, off, e, fun i hi => by rw [hc i (by omega)]; simp⟩
def JoinPost (ns : List (List UInt8)) (w : World) (e : Ending) (w' : World) : Prop :=
 ((∃ t, Pa.joinF ns = some t ∧ e = .returned (.tuple #[strV t, .int .i64 0])) ∨ (Pa.joinF ns = none ∧ e = .returned (.tuple #[strV [], .int .i64 3]))) ∧ Below w.heap.size w w'
theorem names_short {l : List UInt8} {ns : List (List UInt8)} (h : Pa.splitF l = some ns) : ∀ p ∈ ns, p.length ≤ maxLen := fun p hp => by
 have := Pa.name_len p (Pa.split_names h p hp)
 unfold maxLen; omega
def TextPost (r : Option (List UInt8)) (w : World) (e : Ending) (w' : World) : Prop :=
 ((∃ t, r = some t ∧ e = .returned (.tuple #[strV t, .int .i64 0])) ∨ (r = none ∧ e = .returned (.tuple #[strV [], .int .i64 3]))) ∧ Below w.heap.size w w'
theorem text_yes {e : Ending} {w w' : World} {r : Option (List UInt8)} {t : List UInt8} (h : r = some t) (hp : TextPost r w e w') : e = .returned (.tuple #[.string ⟨t.toArray⟩, .int .i64 0]) ∧ Below w.heap.size w w' := by
 obtain ⟨hp, hb⟩ := hp
 rcases hp with ⟨t', h', rfl⟩ | ⟨h', rfl⟩
 · rw [h] at h'; cases h'
   exact ⟨rfl, hb⟩
 · rw [h] at h'; cases h'
theorem text_not {e : Ending} {w w' : World} {r : Option (List UInt8)} (h : r = none) (hp : TextPost r w e w') : e = .returned (.tuple #[.string ⟨#[]⟩, .int .i64 3]) ∧ Below w.heap.size w w' := by
 obtain ⟨hp, hb⟩ := hp
 rcases hp with ⟨t', h', rfl⟩ | ⟨h', rfl⟩
 · rw [h] at h'; cases h'
 · exact ⟨rfl, hb⟩
theorem app_data (a b : ByteArray) : (a ++ b).data.toList = a.data.toList ++ b.data.toList := by simp [ByteArray.data_append]
theorem app_size (a b : ByteArray) : (a ++ b).size = a.size + b.size := by
 have h := congrArg List.length (app_data a b)
 have h1 : ∀ y : ByteArray, y.data.toList.length = y.size := fun _ => rfl
 rw [List.length_append, h1, h1, h1] at h
 exact h
set_option maxRecDepth 100000 in
set_option maxHeartbeats 2000000 in
theorem rjoin_c (v : Value) (ns : List (List UInt8)) (w : World) (hv : IsS w v ns) :
   Calls Tryz.prog 17 #[v] w (JoinPost ns w) := by
 obtain ⟨a, cap, rfl, hc1, hc2, hcell, hlen⟩ := hv
 unfold maxLen at hc2
 have HC := hid' hcell
 have HLen := hid' hlen
 clear hcell hlen
 go_enter Tryz.func17, Tryz.ntmps17
 go_wp2
 go_loop [4, 5] (fun t i => ∃ (k : Nat) (cur : ByteArray) (text : List UInt8), k ≤ ns.length ∧ i = .int .i64 k ∧ t = .string cur ∧ cur.size ≤ 120 ∧ Hid ((k = 0 ∧ cur = ⟨#[47]⟩ ∧ text = []) ∨ (0 < k ∧ cur.data.toList = text)) ∧ Hid (Pa.joinG text (ns.drop k) = Pa.joinG [] ns)) (fun _ i => ((ns.length : Int) - intOf i).toNat)
 case atStart => exact ⟨0, ⟨#[47]⟩, [], by omega, rfl, rfl, by decide, .inl ⟨rfl, rfl, rfl⟩, rfl⟩
 case round =>
   obtain ⟨k, cur, text, hk, rfl, rfl, htx, HK, HS⟩ := hrel
   by_cases hlt : k < ns.length
   · have HN : Hid (Pa.joinF ns = Pa.joinG [] ns) := by
       show _ = _
       unfold Pa.joinF; rw [if_neg]
       intro e; rw [e] at hlt; exact absurd hlt (by simp)
     obtain ⟨b, off, rfl, hcl⟩ := HC.out (by omega)
     have hck := hcl k hlt
     obtain ⟨x, hx⟩ : ∃ x : ByteArray, x.data.toList = ns[k] := ⟨⟨ns[k].toArray⟩, rfl⟩
     have HAt : Hid _ := Pa.joinG_at text ns k hlt
     rw [← hx, strV_self] at hck
     have HX := hid' hx
     have hxs : x.size ≤ maxLen := by
       have h1 := HLen.out ns[k] (List.getElem_mem hlt)
       rw [← hx] at h1; exact h1
     clear hx hcl
     cases hD : Pa.nameB x.data.toList with
     | true =>
       have hn := Pa.name_len _ hD
       have hxl : x.data.toList.length = x.size := rfl
       rw [hxl] at hn
       clear hxs hxl
       rcases HK.out with ⟨rfl, rfl, rfl⟩ | ⟨hk0, hcur⟩
       · rw [Nat.add_zero] at hck
         have e1 := app_size ⟨#[47]⟩ x
         have e1' : ((⟨#[47]⟩ : ByteArray) ++ x).size = 1 + x.size := e1
         have HT : Hid (Pa.joinG (((⟨#[47]⟩ : ByteArray) ++ x).data.toList) (ns.drop (0 + 1)) = Pa.joinG [] ns) := by
           have h1 := HAt.out
           rw [if_pos ⟨by rw [← HX.out]; exact hD, by rw [← HX.out]; show 0 + 1 + x.size ≤ 120; omega⟩] at h1
           show _ = _
           rw [app_data, HX.out]
           exact h1.symm.trans HS.out
         have hle : (((⟨#[47]⟩ : ByteArray) ++ x).size : Int) ≤ 120 := by rw [e1']; omega
         clear e1
         go_wp2_with (go_at_call 38; refine (rname_c _ _ (by unfold maxLen; omega)).mono ?_; rintro e w3 ⟨rfl, rfl⟩; rw [hD])
         go_round
         case rel => exact ⟨0 + 1, _, _, by omega, by go_num, rfl, by omega, .inr ⟨by omega, rfl⟩, HT⟩
         case measure => simp [intOf]; omega
       · have e1 := app_size (cur ++ ⟨#[47]⟩) x
         have e2 : (cur ++ (⟨#[47]⟩ : ByteArray)).size = cur.size + 1 := app_size cur ⟨#[47]⟩
         rw [e2] at e1
         have hgk : (0 : Int) < (k : Int) := by omega
         have hcl2 : cur.data.toList.length = cur.size := rfl
         by_cases hsum : cur.size + 1 + x.size ≤ 120
         · have HT : Hid (Pa.joinG ((cur ++ (⟨#[47]⟩ : ByteArray) ++ x).data.toList) (ns.drop (k + 1)) = Pa.joinG [] ns) := by
             have h1 := HAt.out
             rw [if_pos ⟨by rw [← HX.out]; exact hD, by rw [← HX.out, ← hcur]; exact hsum⟩] at h1
             show _ = _
             rw [app_data, app_data, HX.out, hcur, List.append_assoc]
             exact h1.symm.trans HS.out
           have hle : ((cur ++ (⟨#[47]⟩ : ByteArray) ++ x).size : Int) ≤ 120 := by rw [e1]; omega
           have E1 := hid' e1
           have HCu := hid' hcur
           clear e1 e2 hcur hcl2
           go_wp2_with (go_at_call 38; refine (rname_c _ _ (by unfold maxLen; omega)).mono ?_; rintro e w3 ⟨rfl, rfl⟩; rw [hD])
           go_round
           case rel => exact ⟨k + 1, _, _, by omega, by go_num, rfl, by omega, .inr ⟨by omega, rfl⟩, HT⟩
           case measure => simp [intOf]; omega
         · have HE : Hid (Pa.joinF ns = none) := by
             have h1 := HAt.out
             rw [if_neg (by rintro ⟨_, h2⟩; rw [← HX.out, ← hcur] at h2; exact hsum h2)] at h1
             show _ = _
             rw [HN.out, ← HS.out, h1]
           have hle : (120 : Int) < ((cur ++ (⟨#[47]⟩ : ByteArray) ++ x).size : Int) := by rw [e1]; omega
           clear e1 e2 hcur hcl2
           go_wp2_with (go_at_call 38; refine (rname_c _ _ (by unfold maxLen; omega)).mono ?_; rintro e w3 ⟨rfl, rfl⟩; rw [hD])
           go_ret2
           exact ⟨.inr ⟨HE.out, rfl⟩, Below.refl _ _⟩
     | false =>
       have HE : Hid (Pa.joinF ns = none) := by
         have h1 := HAt.out
         rw [if_neg (by rw [← HX.out, hD]; simp)] at h1
         show _ = _
         rw [HN.out, ← HS.out, h1]
       go_wp2_with (go_at_call 38; refine (rname_c _ _ hxs).mono ?_; rintro e w3 ⟨rfl, rfl⟩; rw [hD])
       go_ret2
       exact ⟨.inr ⟨HE.out, rfl⟩, Below.refl _ _⟩
   · have HE : Hid (Pa.joinF ns = some cur.data.toList) := by
       show _ = _
       rcases HK.out with ⟨rfl, rfl, rfl⟩ | ⟨hk0, hcur⟩
       · have : ns = [] := List.eq_nil_of_length_eq_zero (by omega)
         subst this; rfl
       · unfold Pa.joinF
         rw [if_neg (by intro e; rw [e] at hk; simp at hk; omega), ← HS.out, List.drop_of_length_le (by omega), hcur]; rfl
     go_wp2
     go_ret2
     exact ⟨.inl ⟨_, HE.out, by rw [strV_self]; rfl⟩, Below.refl _ _⟩
theorem splitK_pieces : ∀ (n : Nat) (s : List UInt8), s.length ≤ n → Lib.splitK [47] 0 (Lib.count s [47]) s = Pa.piecesF s := by
 intro n
 induction n with
 | zero =>
   intro s hs
   have : s = [] := List.eq_nil_of_length_eq_zero (by omega)
   subst this
   decide +kernel
 | succ n ih =>
   intro s hs
   have hone := Lib.index_one s 47
   by_cases h : Lib.indexByte s 47 = -1
   · have h47 : 47 ∉ s := fun hm => by
       obtain ⟨k, hk, e⟩ := List.getElem_of_mem hm
       exact Lib.indexByte_none h k (by rw [List.getElem?_eq_getElem hk, e])
     rw [Lib.count_miss (by rw [hone]; exact h), Pa.pieces_none s h47]; rfl
   · have hge := Lib.indexByte_ge s 47
     obtain ⟨i, hi⟩ := Int.eq_ofNat_of_zero_le (show 0 ≤ Lib.indexByte s 47 by omega)
     obtain ⟨h1, h2⟩ := Lib.indexByte_some hi
     have hix : Lib.index s [47] = (i : Int) := by rw [hone]; exact hi
     have hil : i < s.length := by
       rcases Nat.lt_or_ge i s.length with h3 | h3
       · exact h3
       · rw [List.getElem?_eq_none h3] at h1; cases h1
     have hsi : s[i] = 47 := by rw [List.getElem?_eq_getElem hil] at h1; exact Option.some.inj h1
     have h47 : 47 ∉ s.take i := fun hm => by
       obtain ⟨k, hk, e⟩ := List.getElem_of_mem hm
       rw [List.length_take] at hk
       rw [List.getElem_take] at e
       exact h2 k (by omega) (by rw [List.getElem?_eq_getElem (by omega), e])
     have es : s = s.take i ++ 47 :: s.drop (i + 1) := by
       have e1 := (List.take_append_drop i s).symm
       rw [List.drop_eq_getElem_cons hil, hsi] at e1
       exact e1
     rw [Lib.count_hit (by simp) hix, Nat.add_comm 1]
     unfold Lib.splitK
     rw [if_neg (by rw [hix]; simp), hix]
     have e2 : Pa.piecesF s = s.take i :: Pa.piecesF (s.drop (i + 1)) := by
       conv => lhs; rw [es]
       exact Pa.pieces_cut _ _ h47
     rw [e2]
     simp only [Int.toNat_natCast, Nat.add_zero, List.length_singleton]
     rw [ih (s.drop (i + 1)) (by rw [List.length_drop]; omega)]
theorem lib_split (s : ByteArray) : (Lib.splitB ⟨#[47]⟩ 0 (Lib.countB s ⟨#[47]⟩) s).map (fun x => x.data.toList) = Pa.piecesF s.data.toList := by
 rw [Lib.splitB_data]
 exact splitK_pieces _ _ (Nat.le_refl _)
set_option maxHeartbeats 400000 in
theorem rsplit_long (s : ByteArray) (w : World) (hs : s.size ≤ maxLen) (h : 120 < s.size) :
   Calls Tryz.prog 16 #[.string s] w (SplitPost s.data.toList w) := by
 unfold maxLen at hs
 have N : Hid (Pa.splitF s.data.toList = none) := by
   have hl : s.data.toList.length = s.size := rfl
   show _ = _
   unfold Pa.splitF; rw [if_neg (by omega)]
 have h' : (120 : Int) < (s.size : Int) := by omega
 go_enter Tryz.func16, Tryz.ntmps16
 go_wp2
 go_ret2
 exact ⟨.inr ⟨N.out, rfl⟩, Below.refl _ _⟩
set_option maxHeartbeats 400000 in
theorem rsplit_empty (s : ByteArray) (w : World) (h : s.size < 1) :
   Calls Tryz.prog 16 #[.string s] w (SplitPost s.data.toList w) := by
 have N : Hid (Pa.splitF s.data.toList = none) := by
   have hl : s.data.toList = [] := List.eq_nil_of_length_eq_zero (show s.size = 0 by omega)
   show _ = _
   rw [hl]; decide +kernel
 go_enter Tryz.func16, Tryz.ntmps16
 go_wp2
 go_ret2
 exact ⟨.inr ⟨N.out, rfl⟩, Below.refl _ _⟩
set_option maxHeartbeats 400000 in
theorem rsplit_noslash (s : ByteArray) (w : World) (h0 : 0 < s.size) (h : s.size ≤ 120) (c : UInt8) (r : List UInt8) (hl : s.data.toList = c :: r) (hc : c ≠ 47) :
   Calls Tryz.prog 16 #[.string s] w (SplitPost s.data.toList w) := by
 have N : Hid (Pa.splitF s.data.toList = none) := by
   show _ = _
   unfold Pa.splitF; rw [if_neg]
   rintro ⟨_, h2⟩
   rw [hl] at h2; simp at h2; exact hc h2
 have e0 : s[0]'h0 = c := by
   have : s.data.toList[0]'h0 = c := by simp [hl]
   exact this
 have hb : (((s[0]'h0).toNat : Int) != 47) = true := by
   rw [bne_iff_ne, e0]
   intro e
   apply hc
   apply UInt8.toNat_inj.1
   have : (47 : UInt8).toNat = 47 := rfl
   omega
 clear hl e0
 go_enter Tryz.func16, Tryz.ntmps16
 go_wp2
 go_ret2
 exact ⟨.inr ⟨N.out, rfl⟩, Below.refl _ _⟩
set_option maxRecDepth 100000 in
set_option maxHeartbeats 2000000 in
theorem rsplit_slash (s : ByteArray) (w : World) (m : Int) (hmx : w.cell? ⟨0, 0, none⟩ = some (.int .i64 m)) (h : s.size ≤ 120) (l : List UInt8) (hl : s.data.toList = 47 :: l) :
   Calls Tryz.prog 16 #[.string s] w (SplitPost s.data.toList w) := by
 obtain ⟨i0, hi, hz0, hz1, hz2⟩ := info_parts info_str
 have hsz : s.data.toList.length = s.size := rfl
 have h0 : 0 < s.size := by rw [hl] at hsz; simp at hsz; omega
 have N : Hid (Pa.splitF s.data.toList = Pa.splitN [] (Pa.piecesF l)) := by
   show _ = _
   unfold Pa.splitF; rw [if_pos ⟨by omega, by rw [hl]; rfl⟩, hl]
   have e : Pa.piecesF (47 :: l) = [] :: Pa.piecesF l := by simp [Pa.piecesF]
   rw [e]; rfl
 have hll : l.length + 1 = s.size := by rw [hl] at hsz; simpa using hsz
 have hPl := Pa.pieces_length l
 have HM : Hid (∀ p ∈ Pa.piecesF l, p.length ≤ 120) := fun p hp => by
   have := Pa.pieces_mem l p hp
   omega
 have e0 : s[0]'h0 = 47 := by
   have : s.data.toList[0]'h0 = 47 := by simp [hl]
   exact this
 have hb : (((s[0]'h0).toNat : Int) != 47) = false := by rw [e0]; rfl
 have hex : (s.extract 1 s.size).data.toList = l := by rw [Lib.extract_to_end, hl]; rfl
 have hxs : (s.extract 1 s.size).size < 4294967281 := by
   have h9 : (s.extract 1 s.size).data.toList.length = (s.extract 1 s.size).size := rfl
   rw [hex] at h9
   omega
 have HSp := hid' (Tryz.strings_Split (s.extract 1 s.size) ⟨#[47]⟩ m w hxs hmx (by decide))
 have hlib := lib_split (s.extract 1 s.size)
 rw [hex] at hlib
 have hall := Lib.splitB_all ⟨#[47]⟩ (by decide) 0 _ (s.extract 1 s.size) rfl
 generalize Lib.splitB ⟨#[47]⟩ 0 (Lib.countB (s.extract 1 s.size) ⟨#[47]⟩) (s.extract 1 s.size) = C at *
 generalize Lib.countB (s.extract 1 s.size) ⟨#[47]⟩ = cn at *
 have hCP : C.length = (Pa.piecesF l).length := by rw [← hlib, List.length_map]
 rw [← hall, hCP] at HSp
 have HC0 : Hid (∀ k (hk : k < (Pa.piecesF l).length), (w.alloc (.cells (C.map Value.string).toArray 9)).cell? ⟨w.heap.size, k, none⟩ = some (strV (Pa.piecesF l)[k])) := fun k hk => by
   rw [World.cell?_alloc_mark]
   have e9 : (Pa.piecesF l)[k] = (C[k]'(by omega)).data.toList := by simp [← hlib]
   rw [e9, strV_self]
   simp
 have HL := hid' hl
 clear hlib hall hCP e0 hex hxs hsz
 generalize Pa.piecesF l = P at *
 go_enter Tryz.func16, Tryz.ntmps16
 go_wp2_with (go_at_call 37; refine HSp.out.mono ?_; rintro e w1 ⟨rfl, hw1⟩; (have HW := hid' hw1); clear hw1)
 have hb0 : Below w.heap.size w w1 := by rw [HW.out]; exact (Below.refl _ _).alloc (Nat.le_refl _) _
 have HC : Hid (∀ k (hk : k < P.length), w1.cell? ⟨w.heap.size, k, none⟩ = some (strV P[k])) := by rw [HW.out]; exact HC0.out
 clear HW HC0 HSp
 go_loopw [4, 6, 7] (fun v i p wr => ∃ (k : Nat) (acc : List (List UInt8)), k ≤ P.length ∧ i = .int .i64 k ∧ acc.length ≤ k ∧ wr.ownsRow w1.heap.size 9 1 v acc.length (acc.map strV) ∧ Below w1.heap.size w1 wr ∧ Hid (Pa.splitN acc (P.drop k) = Pa.splitN [] P)) (fun _ i _ _ => ((P.length : Int) - intOf i).toNat)
 case atStart => exact ⟨0, [], by omega, rfl, by simp, World.ownsRow_nil _ _ _ _, Below.refl _ _, rfl⟩
 case round =>
   obtain ⟨k, acc, hk, rfl, hak, hown, hbw, HS⟩ := hrel
   have hbz := hbw.size
   by_cases hlt : k < P.length
   · have HAt : Hid _ := Pa.splitN_at acc P k hlt
     obtain ⟨x, hx⟩ : ∃ x : ByteArray, x.data.toList = P[k] := ⟨⟨P[k].toArray⟩, rfl⟩
     have hcell : wr.cell? ⟨w.heap.size, k, none⟩ = some (.string x) := by
       exact cell_later hbw (by rw [HC.out k hlt, ← hx]; rfl)
     have hxl : x.toList = P[k] := by rw [Lib.toList_data, hx]
     have HX := hid' hx
     have hx120 : x.size ≤ 120 := by
       have h1 := HM.out P[k] (List.getElem_mem hlt)
       rw [← hx] at h1; exact h1
     clear hx
     cases hA : decide (P[k] = []) with
     | true =>
       have e0 : P[k] = [] := of_decide_eq_true hA
       have b0 : x.toList.isEmpty = true := by rw [hxl, e0]; rfl
       have HT : Hid (Pa.splitN acc (P.drop (k + 1)) = Pa.splitN [] P) := by
         have h1 := HAt.out
         rw [e0, Pa.step_empty] at h1
         exact h1.symm.trans HS.out
       clear hA e0 hxl
       go_wp2
       go_roundw
       case rel => exact ⟨k + 1, acc, by omega, by go_num, by omega, hown, hbw, HT⟩
       case measure => simp [intOf]; omega
     | false =>
       have e0 : P[k] ≠ [] := of_decide_eq_false hA
       have b0 : x.toList.isEmpty = false := by rw [hxl]; cases h : P[k] with | nil => exact absurd h e0 | cons c r => rfl
       cases hB : decide (P[k] = [46]) with
       | true =>
         have e1 : P[k] = [46] := of_decide_eq_true hB
         have b1 : (x.toList == [46]) = true := by rw [hxl, e1]; rfl
         have HT : Hid (Pa.splitN acc (P.drop (k + 1)) = Pa.splitN [] P) := by
           have h1 := HAt.out
           rw [e1, Pa.step_dot] at h1
           exact h1.symm.trans HS.out
         clear hA hB e0 e1 hxl
         go_wp2
         go_roundw
         case rel => exact ⟨k + 1, acc, by omega, by go_num, by omega, hown, hbw, HT⟩
         case measure => simp [intOf]; omega
       | false =>
         have e1 : P[k] ≠ [46] := of_decide_eq_false hB
         have b1 : (x.toList == [46]) = false := by rw [hxl]; exact beq_eq_false_iff_ne.2 e1
         cases hC : decide (P[k] = [46, 46]) with
         | true =>
           have e2 : P[k] = [46, 46] := of_decide_eq_true hC
           have b2 : (x.toList == [46, 46]) = true := by rw [hxl, e2]; rfl
           have HT : Hid (Pa.splitN acc.dropLast (P.drop (k + 1)) = Pa.splitN [] P) := by
             have h1 := HAt.out
             rw [e2, Pa.step_dots] at h1
             exact h1.symm.trans HS.out
           clear hA hB hC e0 e1 e2 hxl
           rcases hown.2 with ⟨rfl, hn0⟩ | ⟨g2, cap2, cur2, rfl, hg2, hh2, hn2, hc2, hs2, ht2⟩
           · have h9 : acc = [] := List.eq_nil_of_length_eq_zero hn0
             subst h9
             clear hn0
             go_wp2
             go_roundw
             case rel => exact ⟨k + 1, [], by omega, by go_num, by simp, hown, hbw, HT⟩
             case measure => simp [intOf]; omega
           · have HO := hid' (ownsRow_front hown (m := acc.length - 1) (by omega))
             unfold maxLen at hc2
             clear hh2 hs2 ht2
             by_cases hz : 0 < acc.length
             · have hz' : (0 : Int) < (acc.length : Int) := by omega
               go_wp2
               go_roundw
               case rel =>
                 refine ⟨k + 1, acc.dropLast, by omega, by go_num, by rw [List.length_dropLast]; omega, ?_, hbw, HT⟩
                 rw [List.length_dropLast]
                 have h9 : (acc.map strV).take (acc.length - 1) = acc.dropLast.map strV := by rw [List.dropLast_eq_take, List.map_take]
                 rw [← h9]
                 exact HO.out
               case measure => simp [intOf]; omega
             · have h9 : acc = [] := List.eq_nil_of_length_eq_zero (by omega)
               subst h9
               go_wp2
               go_roundw
               case rel => exact ⟨k + 1, [], by omega, by go_num, by simp, hown, hbw, HT⟩
               case measure => simp [intOf]; omega
         | false =>
           have e2 : P[k] ≠ [46, 46] := of_decide_eq_false hC
           have b2 : (x.toList == [46, 46]) = false := by rw [hxl]; exact beq_eq_false_iff_ne.2 e2
           cases hD : Pa.nameB x.data.toList with
           | true =>
             have hn := Pa.name_len _ hD
             have hxs : x.data.toList.length = x.size := rfl
             rw [hxs] at hn
             have HT : Hid (Pa.splitN (acc ++ [P[k]]) (P.drop (k + 1)) = Pa.splitN [] P) := by
               have h1 := HAt.out
               rw [Pa.step_name acc P[k] (by rw [← HX.out]; exact hD)] at h1
               exact h1.symm.trans HS.out
             clear hA hB hC e0 e1 e2 hxl hxs
             go_wp2_with (first
               | (go_at_call 38; refine (rname_c _ _ (by unfold maxLen; omega)).mono ?_; rintro e w3 ⟨rfl, rfl⟩; rw [hD])
               | (at_builtin; refine wpList_append_own _ rfl _ _ 47 rfl w1.heap.size 9 i0 (.string ByteArray.empty) 1 16 Tryz.underlying47 hi hz0 hz1 hz2 rfl (by decide) _ _ _ rfl (hown.alloc _) ⟨w3.heap.size, 0, none⟩ 1 1 [.string x] rfl rfl (cell_one_new _ _ _) (fun y hy => by simp at hy; subst hy; rfl) (by unfold maxLen; omega) (by omega) (by simp; omega) ?_; intro v' w5 hown' hgrow5 hnil5))
             have hbw5 : Below w1.heap.size w1 w5 := Below.grown (hbw.alloc (by omega) _) hgrow5 (by simp; omega) (fun k hk => (hown.lt _ hk).1)
             go_roundw
             case rel =>
               refine ⟨k + 1, acc ++ [P[k]], by omega, by go_num, by simp; omega, ?_, hbw5, HT⟩
               have h9 : Value.string x = strV P[k] := by rw [← HX.out]; rfl
               rw [h9] at hown'
               simpa using hown'
             case measure => simp [intOf]; omega
           | false =>
             have HN : Hid (Pa.splitF s.data.toList = none) := by
               have h1 := HAt.out
               rw [Pa.step_bad acc P[k] e0 e1 e2 (by rw [← HX.out]; exact hD)] at h1
               show _ = _
               rw [N.out, ← HS.out, h1]; rfl
             clear hA hB hC e0 e1 e2 hxl
             go_wp2_with (go_at_call 38; refine (rname_c _ _ (by unfold maxLen; omega)).mono ?_; rintro e w3 ⟨rfl, rfl⟩; rw [hD])
             go_ret2
             exact ⟨.inr ⟨HN.out, rfl⟩, hb0.trans (hbw.mono hb0.size)⟩
   · have e3 : k = P.length := by omega
     have HN : Hid (Pa.splitF s.data.toList = some acc) := by
       show _ = _
       rw [N.out, ← HS.out, e3, List.drop_length]; rfl
     clear e3
     go_wp2
     go_ret2
     exact ⟨.inl ⟨acc, _, HN.out, rfl, World.ownsRow_mono hown hb0.size⟩, hb0.trans (hbw.mono hb0.size)⟩
theorem rsplit_c (s : ByteArray) (w : World) (m : Int) (hmx : w.cell? ⟨0, 0, none⟩ = some (.int .i64 m)) (hs : s.size ≤ maxLen) : Calls Tryz.prog 16 #[.string s] w (SplitPost s.data.toList w) := by
 by_cases h : s.size ≤ 120
 · cases hl : s.data.toList with
   | nil =>
     have h9 : s.data.toList.length = 0 := by rw [hl]; rfl
     have := rsplit_empty s w (show s.data.toList.length < 1 by omega)
     rw [hl] at this; exact this
   | cons c r =>
     have h9 : s.data.toList.length = r.length + 1 := by rw [hl]; rfl
     by_cases hc : c = 47
     · subst hc
       have := rsplit_slash s w m hmx h r hl
       rw [hl] at this; exact this
     · have := rsplit_noslash s w (show 0 < s.data.toList.length by omega) h c r hl hc
       rw [hl] at this; exact this
 · exact rsplit_long s w hs (by omega)
theorem someF_of {l : List UInt8} {ns : List (List UInt8)} (h : Pa.splitF l = some ns) (hne : ns ≠ []) : Pa.someF l = some ns := by
 unfold Pa.someF; rw [h]; exact if_neg hne
set_option maxHeartbeats 400000 in
theorem prdir_c (s : ByteArray) (w : World) (m : Int) (hmx : w.cell? ⟨0, 0, none⟩ = some (.int .i64 m)) (hs : s.size ≤ maxLen) :
   Calls Tryz.prog 6 #[.string s] w (TextPost (Pa.dirF s.data.toList) w) := by
 have HX := hid' hmx
 clear hmx
 go_enter Tryz.func6, Tryz.ntmps6
 go_wp2_with fail
 refine (rsplit_c s w m HX.out hs).mono ?_
 rintro e w1 ⟨⟨ns, v, hsp, rfl, hown⟩ | ⟨hsp, rfl⟩, hb1⟩
 · have hI := isS_of_owns hown (names_short hsp)
   clear hown
   have hIc := hI
   obtain ⟨a, cap, rfl, r1, r2, r3, r4⟩ := hIc
   unfold maxLen at r2
   by_cases h0 : ns.length = 0
   · have h9 : ns = [] := List.eq_nil_of_length_eq_zero h0
     subst h9
     have HN := hid' (Pa.no_parts (.inr hsp)).1
     have hb0 : ((([] : List (List UInt8)).length : Int) == 0) = true := rfl
     clear h0 hI r3 r4 hsp
     go_wp2
     go_ret2
     exact ⟨.inr ⟨HN.out, rfl⟩, hb1⟩
   · have hb0 : ((ns.length : Int) == 0) = false := beq_eq_false_iff_ne.2 (by omega)
     have hne : ns ≠ [] := fun e => h0 (by rw [e]; rfl)
     have HS := hid' (someF_of hsp hne)
     obtain ⟨b, off, rfl, -⟩ := r3 (by omega)
     have HI := hid' (hI.front (ns.length - 1) (by omega))
     have hl : 1 ≤ ns.length := by omega
     clear hsp hne hI r3 r4
     go_wp2_with fail
     refine (rjoin_c _ (ns.take (ns.length - 1)) _ HI.out).mono ?_
     rintro e w2 ⟨⟨t, hj, rfl⟩ | ⟨hj, rfl⟩, hb2⟩
     · have HJ := hid' hj
       clear hj
       go_wp2
       go_ret2
       exact ⟨.inl ⟨t, by unfold Pa.dirF; rw [HS.out]; show Pa.joinF ns.dropLast = _; rw [List.dropLast_eq_take]; exact HJ.out, rfl⟩, hb1.trans (hb2.mono hb1.size)⟩
     · have HJ := hid' hj
       clear hj
       go_wp2
       go_ret2
       exact ⟨.inr ⟨by unfold Pa.dirF; rw [HS.out]; show Pa.joinF ns.dropLast = _; rw [List.dropLast_eq_take]; exact HJ.out, rfl⟩, hb1.trans (hb2.mono hb1.size)⟩
 · have HN := hid' (Pa.no_parts (.inl hsp)).1
   clear hsp
   go_wp2
   go_ret2
   exact ⟨.inr ⟨HN.out, rfl⟩, hb1⟩
set_option maxHeartbeats 400000 in
theorem rbase_c (s : ByteArray) (w : World) (m : Int) (hmx : w.cell? ⟨0, 0, none⟩ = some (.int .i64 m)) (hs : s.size ≤ maxLen) :
   Calls Tryz.prog 7 #[.string s] w (TextPost (Pa.baseF s.data.toList) w) := by
 have HX := hid' hmx
 clear hmx
 go_enter Tryz.func7, Tryz.ntmps7
 go_wp2_with fail
 refine (rsplit_c s w m HX.out hs).mono ?_
 rintro e w1 ⟨⟨ns, v, hsp, rfl, hown⟩ | ⟨hsp, rfl⟩, hb1⟩
 · have hI := isS_of_owns hown (names_short hsp)
   clear hown
   obtain ⟨a, cap, rfl, r1, r2, r3, r4⟩ := hI
   unfold maxLen at r2
   by_cases h0 : ns.length = 0
   · have h9 : ns = [] := List.eq_nil_of_length_eq_zero h0
     subst h9
     have HN := hid' (Pa.no_parts (.inr hsp)).2
     have hb0 : ((([] : List (List UInt8)).length : Int) == 0) = true := rfl
     clear h0 r3 r4 hsp
     go_wp2
     go_ret2
     exact ⟨.inr ⟨HN.out, rfl⟩, hb1⟩
   · have hb0 : ((ns.length : Int) == 0) = false := beq_eq_false_iff_ne.2 (by omega)
     have hne : ns ≠ [] := fun e => h0 (by rw [e]; rfl)
     have HS := hid' (someF_of hsp hne)
     obtain ⟨b, off, rfl, hc⟩ := r3 (by omega)
     have hcell := hc (ns.length - 1) (by omega)
     have HG : Hid (Pa.baseF s.data.toList = some (ns[ns.length - 1]'(by omega))) := by
       show _ = _
       unfold Pa.baseF; rw [HS.out]; show ns.getLast? = _
       rw [List.getLast?_eq_getElem?, List.getElem?_eq_getElem]
     generalize hlast : ns[ns.length - 1]'(by omega) = last at *
     have hl : 1 ≤ ns.length := by omega
     unfold strV at hcell
     clear hlast
     clear hsp hne r3 r4 hc
     go_wp2
     go_ret2
     exact ⟨.inl ⟨last, HG.out, rfl⟩, hb1⟩
 · have HN := hid' (Pa.no_parts (.inl hsp)).2
   clear hsp
   go_wp2
   go_ret2
   exact ⟨.inr ⟨HN.out, rfl⟩, hb1⟩
end Go.Proofs.YtgbdplammniidaaGreatDoor
