/-
  The paths of a tree, plainly: as many as entries; each leads to what its entry does.
-/
import Derived.Test.YtkokjkaclcjnjaaGreatDoorPtBk
import Derived.Test.YtkokjkaclcjnjaaGreatDoorPtBf
import Derived.Test.YtkokjkaclcjnjaaGreatDoorPtAp
namespace Go.Proofs.YtkokjkaclcjnjaaGreatDoor
open Go.RowKit Go.ChangeShapes Go.WideShapes Go.ChangeAt
set_option linter.unusedVariables false
set_option linter.unusedSimpArgs false
set_option maxRecDepth 100000
theorem sm_one {l : List Nd} (R : Rt l) (r : Int → Nat) (hr : ∀ f g, Ed l f g → r f < r g) :
   ∀ (K : Nat) (c : List Int) (d : Nd), d ∈ l → d.k = 2 → c.Nodup → (∀ g ∈ c, g ∈ l.map (·.fid)) → (∀ g ∈ c, r d.fid < r g) → l.length ≤ c.length + K → smF l K 0 d.fid = 1
 | 0, c, d, hd, hk, hn, hm, hc, hl => by
   have h1 := nodup_le (l.map (·.fid)) (d.fid :: c) (List.nodup_cons.2 ⟨fun hf => by have := hc _ hf; omega, hn⟩) (fun g hg => by
     rcases List.mem_cons.1 hg with e | e
     · rw [e]; exact List.mem_map.2 ⟨d, hd, rfl⟩
     · exact hm g e)
   rw [List.length_map, List.length_cons] at h1
   omega
 | K + 1, c, d, hd, hk, hn, hm, hc, hl => by
   show (if d.fid = 1 then 1 else 0) + smF l K 1 d.fid = 1
   by_cases h1 : d.fid = 1
   · rw [if_pos h1, h1, sm_none (oc_root R) K 0]
   · rw [if_neg h1, Nat.zero_add]
     obtain ⟨p, hp, hpk, ho, he⟩ := oc_par R hd hk h1
     rw [sm_up ho K 0]
     have hlt := hr _ _ he
     refine sm_one R r hr K (d.fid :: c) p hp hpk (List.nodup_cons.2 ⟨fun hf => by have := hc _ hf; omega, hn⟩) (fun g hg => ?_) (fun g hg => ?_) (by rw [List.length_cons]; omega)
     · rcases List.mem_cons.1 hg with e | e
       · rw [e]; exact List.mem_map.2 ⟨d, hd, rfl⟩
       · exact hm g e
     · rcases List.mem_cons.1 hg with e | e
       · rw [e]; exact hlt
       · have := hc g e; omega
theorem bel_count {l : List Nd} (R : Rt l) (p : ByteArray) : (belF l (l.length + 1) 1 p).length = wsm (fun x => x.ks.length) l := by
 rw [bel_len, cn_root R]
 obtain ⟨r, hr⟩ := R.rank
 refine wsm_congr (fun x hx => ?_)
 by_cases e : x.ks = []
 · rw [e]; simp
 · rw [sm_one R r hr (l.length + 1) [] x hx (ok_dir (R.ok x hx).1 e) List.nodup_nil (fun g hg => by cases hg) (fun g hg => by cases hg) (by simp)]
   omega
def Lead (l : List Nd) : Int → List (List UInt8) → Int → Prop
 | f, [], g => f = g
 | f, n :: ns, g => ∃ x ∈ kidsF l f, x.nm.data.toList = n ∧ Lead l x.fid ns g
theorem own_data (p : ByteArray) (x : Kd) : (ownB p x).data.toList = p.data.toList ++ 47 :: x.nm.data.toList := by
 unfold ownB
 simp [ByteArray.data_append]
theorem bel_lead {l : List Nd} : ∀ (k : Nat) (f : Int) (p s : ByteArray), s ∈ belF l k f p → ∃ ns g, ns ≠ [] ∧ Lead l f ns g ∧ s.data.toList = p.data.toList ++ Pa.flat ns
 | 0, f, p, s, h => by cases h
 | k + 1, f, p, s, h => by
   obtain ⟨x, hx, hs⟩ := List.mem_flatMap.1 (show s ∈ (kidsF l f).flatMap fun x => ownB p x :: belF l k x.fid (ownB p x) from h)
   rcases List.mem_cons.1 hs with e | e
   · exact ⟨[x.nm.data.toList], x.fid, by simp, ⟨x, hx, rfl, rfl⟩, by rw [e, own_data]; simp [Pa.flat]⟩
   · obtain ⟨ns, g, h1, h2, h3⟩ := bel_lead k x.fid (ownB p x) s e
     exact ⟨x.nm.data.toList :: ns, g, by simp, ⟨x, hx, rfl, h2⟩, by rw [h3, own_data]; simp [Pa.flat]⟩
theorem kids_at {l : List Nd} (R : Rt l) {f : Int} {x : Kd} (hx : x ∈ kidsF l f) : ∃ y, getF l f = some y ∧ y.k = 2 ∧ KOk y.ks ∧ x ∈ y.ks ∧ x.fid ≠ 1 ∧ (getF l x.fid).isSome = true := by
 unfold kidsF at hx
 cases h : getF l f with
 | none => rw [h] at hx; simp [Nd.no] at hx
 | some y =>
   rw [h] at hx
   simp only [Option.getD_some] at hx
   have hm := (getF_mem h).1
   have hk := ok_dir (R.ok y hm).1 (fun e => by rw [e] at hx; cases hx)
   have q := R.kid y hm x hx
   exact ⟨y, rfl, hk, R.kok h hk, hx, q.1, q.2⟩
theorem kid_is {l : List Nd} (R : Rt l) {f : Int} {x : Kd} (hx : x ∈ kidsF l f) : lookE (getF l f) x.nm = 0 ∧ lookI (getF l f) x.nm = x.fid := by
 obtain ⟨y, h, hk, hK, hxy, _⟩ := kids_at R hx
 have e : kidI y.ks x.nm = x.fid := by rw [kidI_kq, ksrt_get hK.1 hxy]; rfl
 have h0 := (hK.2 x hxy).2
 rw [h]
 simp [lookE, lookI, hk, e, h0]
theorem lead_step {l : List Nd} (R : Rt l) {f g : Int} {n : List UInt8} {ns : List (List UInt8)} (h : Lead l f (n :: ns) g) : lookE (getF l f) ⟨n.toArray⟩ = 0 ∧ Lead l (lookI (getF l f) ⟨n.toArray⟩) ns g := by
 obtain ⟨x, hx, rfl, hl⟩ := h
 obtain ⟨h1, h2⟩ := kid_is R hx
 have e : (⟨x.nm.data.toList.toArray⟩ : ByteArray) = x.nm := by cases x.nm; rfl
 rw [e, h1, h2]
 exact ⟨rfl, hl⟩
theorem lead_names {l : List Nd} (R : Rt l) : ∀ (ns : List (List UInt8)) (f g : Int), Lead l f ns g → ∀ n ∈ ns, Pa.nameB n = true
 | [], _, _, _, n, hn => by cases hn
 | m :: ns, f, g, h, n, hn => by
   obtain ⟨x, hx, rfl, hl⟩ := h
   rcases List.mem_cons.1 hn with e | e
   · obtain ⟨y, _, _, hK, hxy, _⟩ := kids_at R hx
     rw [e]; exact (hK.2 x hxy).1
   · exact lead_names R ns x.fid g hl n e
theorem lead_end {l : List Nd} (R : Rt l) : ∀ (ns : List (List UInt8)) (f g : Int), ns ≠ [] → Lead l f ns g → g ≠ 1 ∧ (getF l g).isSome = true
 | [], _, _, h, _ => absurd rfl h
 | [m], f, g, _, h => by
   obtain ⟨x, hx, _, e⟩ := h
   have e : x.fid = g := e
   obtain ⟨y, _, _, _, _, h1, h2⟩ := kids_at R hx
   rw [← e]; exact ⟨h1, h2⟩
 | m :: n :: ns, f, g, _, h => by
   obtain ⟨x, hx, _, hl⟩ := h
   exact lead_end R (n :: ns) x.fid g (by simp) hl
theorem bel_split {l : List Nd} (R : Rt l) {k : Nat} {s : ByteArray} (h : s ∈ belF l k 1 ⟨#[]⟩) (hs : s.size ≤ 120) : ∃ ns g, Pa.splitF s.data.toList = some ns ∧ Lead l 1 ns g ∧ g ≠ 1 ∧ (getF l g).isSome = true := by
 obtain ⟨ns, g, h1, h2, h3⟩ := bel_lead k 1 ⟨#[]⟩ s h
 have h4 : s.data.toList = Pa.flat ns := by rw [h3]; rfl
 have h5 : s.data.toList.length = s.size := rfl
 obtain ⟨h6, h7⟩ := lead_end R ns 1 g h1 h2
 exact ⟨ns, g, by rw [h4]; exact Pa.split_flat ns h1 (lead_names R ns 1 g h2) (by rw [← h4]; omega), h2, h6, h7⟩
end Go.Proofs.YtkokjkaclcjnjaaGreatDoor
