/-
  For every deeds, every body and every number: what was answered is answered the same as often as it is asked, and the caller takes it once.
-/
import Derived.Test.YtmgngdlccdnmdaaRPl
namespace Go.Proofs.Ytmgngdlccdnmdaa
open Go.RowKit Go.ChangeShapes Go.WideShapes Go.ChangeAt
open Go.ChangeMaps (open_string shut_string)
set_option linter.unusedVariables false
set_option linter.unusedSimpArgs false
set_option maxRecDepth 100000
abbrev K0a : Nat → Tk := fun _ => ⟨0, 0, 0, ⟨#[]⟩⟩
theorem ag_right (N : Int) (b : ByteArray) (h : 1 ≤ N) (hb : b.size ≤ 16384) : Fr.rightB ⟨1, 2, 0, 3, N, b⟩ = true := by
  have h0 : (N != 0) = true := by rw [bne_iff_ne]; omega
  unfold Fr.rightB
  simp [hb]
  omega
theorem ag_rightA (N : Int) (rb : ByteArray) (h : 1 ≤ N) (hb : rb.size ≤ 16384) : Fr.rightB ⟨2, 0, 2, 3, N, rb⟩ = true := by
  unfold Fr.rightB
  simp [hb]
  omega
theorem ag_asks (N : Int) (b : ByteArray) (h : 1 ≤ N) (hb : b.size ≤ 16384) : asksB ⟨1, 2, 0, 3, N, b⟩ = true := by
  unfold asksB; rw [ag_right N b h hb]; rfl
theorem ag_take1 {w : World} {g : Nat} (hK : IsK w g K0a) (N : Int) (b : ByteArray) (h : 1 ≤ N) (h2 : N < 1000) (hb : b.size ≤ 16384) :
    Calls Try.prog 10 #[pC g, .agg #[.int .u8 1, .int .u8 2, .int .u8 0, .int .u32 3, .int .u32 N, .string b]] w fun e w' => e = .returned (.tuple #[.string b, .bool true, .agg #[.int .u8 0, .int .u8 0, .int .u8 0, .int .u32 0, .int .u32 0, .string ⟨#[]⟩], .bool false]) ∧ IsK w' g (updK K0a 2 ⟨1, 3, N, ⟨#[]⟩⟩) ∧ Ou (fun k => k = g) w w' := by
  have ha := ag_asks N b h hb
  have e1 : ktOk K0a ⟨1, 2, 0, 3, N, b⟩ = true := by show (asksB ⟨1, 2, 0, 3, N, b⟩ && newerB (K0a 2) ⟨1, 2, 0, 3, N, b⟩) = true; rw [ha]; rfl
  have e2 : ktIs K0a ⟨1, 2, 0, 3, N, b⟩ = false := by show (asksB ⟨1, 2, 0, 3, N, b⟩ && !newerB (K0a 2) ⟨1, 2, 0, 3, N, b⟩ && _ && _) = false; rw [ha]; rfl
  refine (ktake_c hK wft0 ⟨1, 2, 0, 3, N, b⟩ ⟨(show (0 : Int) ≤ 1 ∧ (1 : Int) < 256 by decide), (show (0 : Int) ≤ 2 ∧ (2 : Int) < 256 by decide), (show (0 : Int) ≤ 0 ∧ (0 : Int) < 256 by decide), (show (0 : Int) ≤ 3 ∧ (3 : Int) < 4294967296 by decide), by simp only; omega⟩ (by unfold maxLen; simp only; omega)).mono ?_
  rintro x w' ⟨h1, h3, h4⟩
  unfold ktBody ktPk at h1
  unfold ktS at h3
  rw [e1, e2] at h1
  rw [e1] at h3
  exact ⟨h1, h3, h4⟩
theorem wf_F1 (N : Int) (h : 1 ≤ N) (h2 : N < 1000) : ∀ i, ((updK K0a 2 ⟨1, 3, N, ⟨#[]⟩⟩) i).Wf := wf_updK wft0 2 ⟨(show (0 : Int) ≤ 1 ∧ (1 : Int) ≤ 2 by decide), (show (0 : Int) ≤ 3 ∧ (3 : Int) < 4294967296 by decide), by simp only; omega, (show (⟨#[]⟩ : ByteArray).size ≤ 16384 by decide)⟩
theorem wf_F2 (N : Int) (rb : ByteArray) (h : 1 ≤ N) (h2 : N < 1000) (hb : rb.size ≤ 16384) : ∀ i, ((updK (updK K0a 2 ⟨1, 3, N, ⟨#[]⟩⟩) 2 ⟨2, 3, N, rb⟩) i).Wf := wf_updK (wf_F1 N h h2) 2 ⟨(show (0 : Int) ≤ 2 ∧ (2 : Int) ≤ 2 by decide), (show (0 : Int) ≤ 3 ∧ (3 : Int) < 4294967296 by decide), by simp only; omega, hb⟩
theorem ag_reply {w : World} {g : Nat} (N : Int) (rb : ByteArray) (hK : IsK w g (updK K0a 2 ⟨1, 3, N, ⟨#[]⟩⟩)) (hb : rb.size ≤ 16384) :
    Calls Try.prog 17 #[pC g, .int .u8 2, .string rb] w fun e w' => e = .returned (.tuple #[.agg #[.int .u8 2, .int .u8 0, .int .u8 2, .int .u32 3, .int .u32 N, .string rb], .int .i64 0]) ∧ IsK w' g (updK (updK K0a 2 ⟨1, 3, N, ⟨#[]⟩⟩) 2 ⟨2, 3, N, rb⟩) ∧ Ou (fun k => k = g) w w' := by
  have e1 : rpE (updK K0a 2 ⟨1, 3, N, ⟨#[]⟩⟩) 2 rb = 0 := by
    unfold rpE
    rw [if_neg (by omega), if_neg (fun h => h rfl), if_neg (by omega)]
  refine (reply_c hK 2 rb).mono ?_
  rintro x w' ⟨h1, h3, h4⟩
  unfold rpPk at h1
  unfold rpS at h3
  rw [e1, if_pos rfl] at h1
  rw [e1, if_pos rfl] at h3
  exact ⟨h1, h3, h4⟩
theorem ag_take2 {w : World} {g : Nat} (N : Int) (b rb : ByteArray) (hK : IsK w g (updK (updK K0a 2 ⟨1, 3, N, ⟨#[]⟩⟩) 2 ⟨2, 3, N, rb⟩)) (h : 1 ≤ N) (h2 : N < 1000) (hb : b.size ≤ 16384) (hrb : rb.size ≤ 16384) :
    Calls Try.prog 10 #[pC g, .agg #[.int .u8 1, .int .u8 2, .int .u8 0, .int .u32 3, .int .u32 N, .string b]] w fun e w' => e = .returned (.tuple #[.string ⟨#[]⟩, .bool false, .agg #[.int .u8 2, .int .u8 0, .int .u8 2, .int .u32 3, .int .u32 N, .string rb], .bool true]) ∧ IsK w' g (updK (updK K0a 2 ⟨1, 3, N, ⟨#[]⟩⟩) 2 ⟨2, 3, N, rb⟩) ∧ Ou (fun k => k = g) w w' := by
  have ha := ag_asks N b h hb
  have hcm : orF (cmpF 3 3) (cmpF N N) = 0 := by unfold orF cmpF; simp
  have e0 : newerB ⟨2, 3, N, rb⟩ ⟨1, 2, 0, 3, N, b⟩ = false := by unfold newerB; show (decide ((2 : Int) = 0) || decide (orF (cmpF 3 3) (cmpF N N) < 0)) = false; rw [hcm]; rfl
  have e1 : ktOk (updK (updK K0a 2 ⟨1, 3, N, ⟨#[]⟩⟩) 2 ⟨2, 3, N, rb⟩) ⟨1, 2, 0, 3, N, b⟩ = false := by show (asksB ⟨1, 2, 0, 3, N, b⟩ && newerB ⟨2, 3, N, rb⟩ ⟨1, 2, 0, 3, N, b⟩) = false; rw [e0]; simp
  have e2 : ktIs (updK (updK K0a 2 ⟨1, 3, N, ⟨#[]⟩⟩) 2 ⟨2, 3, N, rb⟩) ⟨1, 2, 0, 3, N, b⟩ = true := by show (asksB ⟨1, 2, 0, 3, N, b⟩ && !newerB ⟨2, 3, N, rb⟩ ⟨1, 2, 0, 3, N, b⟩ && decide ((2 : Int) = 2) && decide (orF (cmpF 3 3) (cmpF N N) = 0)) = true; rw [ha, e0, hcm]; rfl
  refine (ktake_c hK (wf_F2 N rb h h2 hrb) ⟨1, 2, 0, 3, N, b⟩ ⟨(show (0 : Int) ≤ 1 ∧ (1 : Int) < 256 by decide), (show (0 : Int) ≤ 2 ∧ (2 : Int) < 256 by decide), (show (0 : Int) ≤ 0 ∧ (0 : Int) < 256 by decide), (show (0 : Int) ≤ 3 ∧ (3 : Int) < 4294967296 by decide), by simp only; omega⟩ (by unfold maxLen; simp only; omega)).mono ?_
  rintro x w' ⟨h1, h3, h4⟩
  unfold ktBody ktPk at h1
  unfold ktS at h3
  rw [e1, e2] at h1
  rw [e1] at h3
  exact ⟨h1, h3, h4⟩
theorem ag_got {w : World} {g : Nat} (N : Int) (b rb : ByteArray) (hC : IsC 91 w g ⟨2, 3, N, true, b, 1, 0⟩) (h : 1 ≤ N) (h2 : N < 1000) (hrb : rb.size ≤ 16384) :
    Calls Try.prog 18 #[pC g, .agg #[.int .u8 2, .int .u8 0, .int .u8 2, .int .u32 3, .int .u32 N, .string rb]] w fun e w' => e = .returned (.tuple #[.string rb, .bool true]) ∧ IsC 91 w' g ⟨2, 3, N, false, ⟨#[]⟩, 0, 0⟩ ∧ Ou (fun k => k = g) w w' := by
  have e1 : takeB ⟨2, 3, N, true, b, 1, 0⟩ ⟨2, 0, 2, 3, N, rb⟩ = true := by
    unfold takeB awB
    rw [ag_rightA N rb h hrb]
    simp
  refine (take_c hC ⟨2, 0, 2, 3, N, rb⟩ ⟨(show (0 : Int) ≤ 2 ∧ (2 : Int) < 256 by decide), (show (0 : Int) ≤ 0 ∧ (0 : Int) < 256 by decide), (show (0 : Int) ≤ 2 ∧ (2 : Int) < 256 by decide), (show (0 : Int) ≤ 3 ∧ (3 : Int) < 4294967296 by decide), by simp only; omega⟩ (by unfold maxLen; simp only; omega)).mono ?_
  rintro x w' ⟨h1, h3, h4⟩
  unfold takeT at h1
  unfold takeS at h3
  rw [e1] at h1 h3
  exact ⟨h1, h3, h4⟩
theorem ag_once {w : World} {g : Nat} (N : Int) (rb : ByteArray) (hC : IsC 91 w g ⟨2, 3, N, false, ⟨#[]⟩, 0, 0⟩) (h : 1 ≤ N) (h2 : N < 1000) (hrb : rb.size ≤ 16384) :
    Calls Try.prog 18 #[pC g, .agg #[.int .u8 2, .int .u8 0, .int .u8 2, .int .u32 3, .int .u32 N, .string rb]] w fun e w' => e = .returned (.tuple #[.string ⟨#[]⟩, .bool false]) ∧ IsC 91 w' g ⟨2, 3, N, false, ⟨#[]⟩, 0, 0⟩ ∧ Ou (fun k => k = g) w w' := by
  have e1 : takeB ⟨2, 3, N, false, ⟨#[]⟩, 0, 0⟩ ⟨2, 0, 2, 3, N, rb⟩ = false := rfl
  refine (take_c hC ⟨2, 0, 2, 3, N, rb⟩ ⟨(show (0 : Int) ≤ 2 ∧ (2 : Int) < 256 by decide), (show (0 : Int) ≤ 0 ∧ (0 : Int) < 256 by decide), (show (0 : Int) ≤ 2 ∧ (2 : Int) < 256 by decide), (show (0 : Int) ≤ 3 ∧ (3 : Int) < 4294967296 by decide), by simp only; omega⟩ (by unfold maxLen; simp only; omega)).mono ?_
  rintro x w' ⟨h1, h3, h4⟩
  unfold takeT at h1
  unfold takeS at h3
  rw [e1] at h1 h3
  exact ⟨h1, h3, h4⟩
theorem ag_call {w : World} {g : Nat} {C : Cl} {n : Nat} (hC : IsC 91 w g (cancelS C)) (hw : CWf C n) (hn : n ≤ 60) (b : ByteArray) (hb : b.size ≤ 16384) :
    Calls Try.prog 14 #[pC g, .string b] w fun e w' => e = .returned (.int .i64 0) ∧ IsC 91 w' g ⟨2, 3, C.num + 1, true, b, 0, 0⟩ ∧ Ou (fun k => k = g) w w' := by
  have hw1 := cwf_cancel hw
  have hu : (cancelS C).uw = false := by
    unfold cancelS
    cases hu : C.uw with
    | true => rfl
    | false => exact hu
  have hnm : (cancelS C).num = C.num := by
    unfold cancelS
    split <;> rfl
  obtain ⟨h1, h2, h3, _⟩ := hw1
  have e1 : callE (cancelS C) b = 0 := by
    unfold callE
    rw [hu, hnm, if_neg (by simp), if_neg (by omega), if_neg (by omega)]
  refine (call_c hC ((cwf_cancel hw).wf (by omega)) b).mono ?_
  rintro x w' ⟨q1, q3, q4⟩
  unfold callS at q3
  rw [e1] at q1
  rw [e1, if_pos rfl, h1, h2, hnm] at q3
  exact ⟨q1, q3, q4⟩
theorem ag_tick {w : World} {g : Nat} (N : Int) (b : ByteArray) (hC : IsC 91 w g ⟨2, 3, N, true, b, 0, 0⟩) (h : 1 ≤ N) (h2 : N < 1000) (hb : b.size ≤ 16384) :
    Calls Try.prog 15 #[pC g, .int .u64 0] w fun e w' => e = .returned (.tuple #[.agg #[.int .u8 1, .int .u8 2, .int .u8 0, .int .u32 3, .int .u32 N, .string b], .bool true]) ∧ IsC 91 w' g ⟨2, 3, N, true, b, 1, 0⟩ ∧ Ou (fun k => k = g) w w' :=
  (tick_c hC (wfc _ _ _ _ _ _ _ (by decide) (by decide) (by omega) (by decide) (by decide) hb) 0 (by decide) (by decide)).mono fun e w' q => q
set_option maxHeartbeats 8000000 in
theorem again_short (a : Option Addr) (len cap : Nat) (f : Nat → Dr) (body : ByteArray) (n : Int) (hn0 : 0 ≤ n) (hn1 : n < 256) (w : World) (h : IsDr w a len f) (hs : body.size ≤ 2000) :
    Calls Try.prog 4 #[.slice a len cap, .string body, .int .u8 n] w fun e w' => e = .returned (.bool true) ∧ Below w.heap.size w w' := by
  have PL := hid (play_c a len cap f w h)
  clear h
  go_enter Try.func4, Try.ntmps4
  go_wp2_with fail
  refine PL.out.mono ?_
  rintro _ w1 ⟨B, c, r, s, t, l, C, R, F, nn, rfl, hnn, hB1, hge, hb1⟩
  clear PL
  go_wp2_with fail
  refine (rlive_c _).mono ?_
  rintro _ w2 ⟨rfl, hb2⟩
  have HB := hid (hB1.later hb2)
  have W2 := hid (hb1.trans (hb2.mono hb1.size))
  clear hB1 hb1 hb2
  obtain ⟨gB, _⟩ := HB.out.at'.cells
  have hN := HB.out.wc.2.2.1
  have CW := hid HB.out.wc
  have hBc := HB.out.ne.1.1
  have hlt := HB.out.lts
  have hs' : (body.size : Int) ≤ 2000 := by omega
  go_wp2_with fail
  generalize body = b at *
  have hb' : b.size ≤ 16384 := by omega
  refine (cancel_c HB.out.hc).mono ?_
  rintro _ w3 ⟨rfl, hC3, ho3⟩
  have A3 := hid (HB.out.at'.out ho3 hBc)
  have CC := hid (ag_call hC3 CW.out hnn b hb')
  have W3 := hid (W2.out.trans (ho3.below W2.out.size (fun k e => by omega)))
  have l3 := ho3.size
  clear hC3 ho3 gB
  obtain ⟨gB, _⟩ := A3.out.cells
  go_wp2_with fail
  refine CC.out.mono ?_
  rintro _ w4 ⟨rfl, hC4, ho4⟩
  have A4 := hid (A3.out.out ho4 hBc)
  generalize hNN : C.num + 1 = N at *
  have hN1 : 1 ≤ N := by omega
  have hN2 : N < 1000 := by omega
  have TC := hid (ag_tick N b hC4 hN1 hN2 hb')
  have W4 := hid (W3.out.trans (ho4.below W3.out.size (fun k e => by omega)))
  have l4 := ho4.size
  clear hC4 ho4 gB CC hNN
  obtain ⟨gB, _⟩ := A4.out.cells
  go_wp2_with fail
  refine TC.out.mono ?_
  rintro _ w5 ⟨rfl, hC5, ho5⟩
  have c5 : Below w5.heap.size w5 (w5.alloc (.cells #[.int .u8 1, .int .u8 2, .int .u8 0, .int .u32 3, .int .u32 N, .string b] 26)) := (Below.refl _ _).alloc (Nat.le_refl _) _
  have P5 : Hid (PkAt (w5.alloc (.cells #[.int .u8 1, .int .u8 2, .int .u8 0, .int .u32 3, .int .u32 N, .string b] 26)) w5.heap.size ⟨1, 2, 0, 3, N, b⟩) := PkAt.new w5 ⟨1, 2, 0, 3, N, b⟩
  have A5 := hid ((A4.out.out ho5 hBc).later c5)
  have C5 := hid (hC5.later c5)
  have b5 := W4.out.trans (ho5.below W4.out.size (fun k e => by omega))
  have W5 := hid (b5.trans (c5.mono b5.size))
  have l5 := ho5.size
  clear hC5 ho5 c5 b5 gB TC
  go_wp2_with fail
  generalize (w5.alloc (.cells #[.int .u8 1, .int .u8 2, .int .u8 0, .int .u32 3, .int .u32 N, .string b] 26)) = V5 at *
  refine (newCallee_c V5).mono ?_
  rintro _ w6 ⟨rfl, hK6, hb6⟩
  have P6 := hid (P5.out.later hb6)
  have A6 := hid (A5.out.later hb6)
  have C6 := hid (C5.out.later hb6)
  have KT := hid (ag_take1 hK6 N b hN1 hN2 hb')
  have W6 := hid (W5.out.trans (hb6.mono W5.out.size))
  obtain ⟨p0, p1, p2, p3, p4, p5, _⟩ := P6.out.cells
  simp only at p0 p1 p2 p3 p4 p5
  have lP : w5.heap.size < V5.heap.size := P5.out.lt
  have lA : B < V5.heap.size := A5.out.lt
  have lC : c < V5.heap.size := C5.out.lt
  have l6 := hb6.size
  have hWV := W5.out.size
  clear hK6 hb6
  go_wp2_with fail
  refine KT.out.mono ?_
  rintro _ w7 ⟨rfl, hK7, ho7⟩
  have c7 : Below w7.heap.size w7 (w7.alloc (.cells #[.int .u8 0, .int .u8 0, .int .u8 0, .int .u32 0, .int .u32 0, .string ⟨#[]⟩] 26)) := (Below.refl _ _).alloc (Nat.le_refl _) _
  have P7 := hid ((P6.out.out ho7 (by omega)).later c7)
  have A7 := hid ((A6.out.out ho7 (by omega)).later c7)
  have C7 := hid ((C6.out.out ho7 (by omega)).later c7)
  obtain ⟨rb, hrb⟩ : ∃ rb : ByteArray, rb = ⟨#[114]⟩ ++ b := ⟨_, rfl⟩
  have hrs : rb.size ≤ 16384 := by rw [hrb, ByteArray.size_append, show (⟨#[114]⟩ : ByteArray).size = 1 from rfl]; omega
  have HR := hid hrb
  clear hrb
  have RP := hid (ag_reply N rb (hK7.later c7) hrs)
  have b7 := W6.out.trans (ho7.below W6.out.size (fun k e => by omega))
  have W7 := hid (b7.trans (c7.mono b7.size))
  have l7 := ho7.size
  clear hK7 ho7 c7 b7 KT p0 p1 p2 p3 p4 p5
  go_wp2_with fail
  generalize (w7.alloc (.cells #[.int .u8 0, .int .u8 0, .int .u8 0, .int .u32 0, .int .u32 0, .string ⟨#[]⟩] 26)) = V7 at *
  rw [← HR.out]
  refine RP.out.mono ?_
  rintro _ w8 ⟨rfl, hK8, ho8⟩
  have c8 : Below w8.heap.size w8 (w8.alloc (.cells #[.int .u8 2, .int .u8 0, .int .u8 2, .int .u32 3, .int .u32 N, .string rb] 26)) := (Below.refl _ _).alloc (Nat.le_refl _) _
  have Q8 : Hid (PkAt (w8.alloc (.cells #[.int .u8 2, .int .u8 0, .int .u8 2, .int .u32 3, .int .u32 N, .string rb] 26)) w8.heap.size ⟨2, 0, 2, 3, N, rb⟩) := PkAt.new w8 ⟨2, 0, 2, 3, N, rb⟩
  have P8 := hid ((P7.out.out ho8 (by omega)).later c8)
  have A8 := hid ((A7.out.out ho8 (by omega)).later c8)
  have C8 := hid ((C7.out.out ho8 (by omega)).later c8)
  have K8 := hid (hK8.later c8)
  have b8 := W7.out.trans (ho8.below W7.out.size (fun k e => by omega))
  have W8 := hid (b8.trans (c8.mono b8.size))
  have l8 := ho8.size
  have lK : V5.heap.size < w8.heap.size := hK8.lt
  have lC8 : c < w8.heap.size := by omega
  clear hK8 ho8 c8 b8 RP
  go_wp2_with fail
  generalize (w8.alloc (.cells #[.int .u8 2, .int .u8 0, .int .u8 2, .int .u32 3, .int .u32 N, .string rb] 26)) = V8 at *
  go_loopw [6, 17] (fun rs i wr => ∃ j : Nat, (j : Int) ≤ n % 6 ∧ rs = .bool false ∧ i = .int .i64 j ∧ PkAt wr w5.heap.size ⟨1, 2, 0, 3, N, b⟩ ∧ PkAt wr w8.heap.size ⟨2, 0, 2, 3, N, rb⟩ ∧ BoAt wr B c r s t l ∧ IsC 91 wr c ⟨2, 3, N, true, b, 1, 0⟩ ∧ IsK wr V5.heap.size (updK (updK K0a 2 ⟨1, 3, N, ⟨#[]⟩⟩) 2 ⟨2, 3, N, rb⟩) ∧ Below w.heap.size w wr) (fun _ i _ => (n % 6 - intOf i).toNat)
  case atStart => exact ⟨0, by omega, rfl, rfl, P8.out, Q8.out, A8.out, C8.out, K8.out, W8.out⟩
  case round =>
    obtain ⟨j, hj, rfl, rfl, hP, hQ, hA, hC, hK, hb⟩ := hrel
    have HP := hid hP
    have HQ := hid hQ
    have HA := hid hA
    have HC := hid hC
    have HK := hid hK
    have HW := hid hb
    clear hP hQ hA hC hK hb
    have lw : w8.heap.size < wr.heap.size := HQ.out.lt
    by_cases hlt' : (j : Int) < n % 6
    · have KT := hid (ag_take2 N b rb HK.out hN1 hN2 hb' hrs)
      obtain ⟨p0, p1, p2, p3, p4, p5, _⟩ := HP.out.cells
      simp only at p0 p1 p2 p3 p4 p5
      go_wp2_with fail
      refine KT.out.mono ?_
      rintro _ w9 ⟨rfl, hK9, ho9⟩
      have l9 := ho9.size
      have c9 : Below w9.heap.size w9 (w9.alloc (.cells #[.int .u8 2, .int .u8 0, .int .u8 2, .int .u32 3, .int .u32 N, .string rb] 26)) := (Below.refl _ _).alloc (Nat.le_refl _) _
      have P9 := hid ((HP.out.out ho9 (by omega)).later c9)
      have Q9 := hid ((HQ.out.out ho9 (by omega)).later c9)
      have A9 := hid ((HA.out.out ho9 (by omega)).later c9)
      have C9 := hid ((HC.out.out ho9 (by omega)).later c9)
      have K9 := hid (hK9.later c9)
      have b9 := HW.out.trans (ho9.below HW.out.size (fun k e => by omega))
      have W9 := hid (b9.trans (c9.mono b9.size))
      obtain ⟨q0, q1, q2, q3, q4, q5, _⟩ := (HQ.out.out ho9 (by omega : w8.heap.size ≠ V5.heap.size)).cells
      simp only at q0 q1 q2 q3 q4 q5
      have lw9 : w8.heap.size < w9.heap.size := by omega
      have nw9 : ¬ w8.heap.size = w9.heap.size := by omega
      clear hK9 ho9 c9 b9 KT p0 p1 p2 p3 p4 p5
      go_wp2
      go_roundw
      case rel => exact ⟨j + 1, by omega, rfl, by go_num, P9.out, Q9.out, A9.out, C9.out, K9.out, W9.out⟩
      case measure => simp [intOf]; omega
    · obtain ⟨q0, q1, q2, q3, q4, q5, _⟩ := HQ.out.cells
      simp only at q0 q1 q2 q3 q4 q5
      obtain ⟨gB, _⟩ := HA.out.cells
      have T1 : Hid (Calls Try.prog 18 #[pC c, .agg #[.int .u8 2, .int .u8 0, .int .u8 2, .int .u32 3, .int .u32 N, .string rb]] wr.drew fun e w' => e = .returned (.tuple #[.string rb, .bool true]) ∧ IsC 91 w' c ⟨2, 3, N, false, ⟨#[]⟩, 0, 0⟩ ∧ Ou (fun k => k = c) wr.drew w') := hid (ag_got (w := wr.drew) N b rb HC.out hN1 hN2 hrs)
      have HAd : Hid (BoAt wr.drew B c r s t l) := HA.out
      have HQd : Hid (PkAt wr.drew w8.heap.size ⟨2, 0, 2, 3, N, rb⟩) := HQ.out
      have nqc : w8.heap.size ≠ c := by omega
      go_wp2_with fail
      go_region_held3 (fun w' => w'.cell? ⟨B, 0, none⟩ = some (pC c) ∧ w'.cell? ⟨w8.heap.size, 0, none⟩ = some (.int .u8 2) ∧ w'.cell? ⟨w8.heap.size, 1, none⟩ = some (.int .u8 0) ∧ w'.cell? ⟨w8.heap.size, 2, none⟩ = some (.int .u8 2) ∧ w'.cell? ⟨w8.heap.size, 3, none⟩ = some (.int .u32 3) ∧ w'.cell? ⟨w8.heap.size, 4, none⟩ = some (.int .u32 N) ∧ w'.cell? ⟨w8.heap.size, 5, none⟩ = some (.string rb)) (first | go_keep | exact ⟨A1.out.cells.1, (Q1.out.cells.1), (Q1.out.cells.2.1), (Q1.out.cells.2.2.1), (Q1.out.cells.2.2.2.1), (Q1.out.cells.2.2.2.2.1), (Q1.out.cells.2.2.2.2.2.1)⟩)
        (first
          | (go_at_call 18; refine T1.out.mono ?_; rintro _ v1 ⟨rfl, hC1, ho1⟩; have C1 := hid hC1; have O1 := hid ho1; have A1 := hid (HAd.out.out ho1 hBc); have Q1 := hid (HQd.out.out ho1 nqc)))
      have T2 : Hid (Calls Try.prog 18 #[pC c, .agg #[.int .u8 2, .int .u8 0, .int .u8 2, .int .u32 3, .int .u32 N, .string rb]] v1.drew fun e w' => e = .returned (.tuple #[.string ⟨#[]⟩, .bool false]) ∧ IsC 91 w' c ⟨2, 3, N, false, ⟨#[]⟩, 0, 0⟩ ∧ Ou (fun k => k = c) v1.drew w') := hid (ag_once (w := v1.drew) N rb C1.out hN1 hN2 hrs)
      have A1d : Hid (BoAt v1.drew B c r s t l) := A1.out
      have Q1d : Hid (PkAt v1.drew w8.heap.size ⟨2, 0, 2, 3, N, rb⟩) := Q1.out
      clear q0 q1 q2 q3 q4 q5 gB T1
      obtain ⟨q0, q1, q2, q3, q4, q5, _⟩ := Q1.out.cells
      simp only at q0 q1 q2 q3 q4 q5
      obtain ⟨gB, _⟩ := A1.out.cells
      go_wp2_with fail
      go_region_held3 (fun w' => w'.cell? ⟨B, 0, none⟩ = some (pC c) ∧ w'.cell? ⟨w8.heap.size, 0, none⟩ = some (.int .u8 2) ∧ w'.cell? ⟨w8.heap.size, 1, none⟩ = some (.int .u8 0) ∧ w'.cell? ⟨w8.heap.size, 2, none⟩ = some (.int .u8 2) ∧ w'.cell? ⟨w8.heap.size, 3, none⟩ = some (.int .u32 3) ∧ w'.cell? ⟨w8.heap.size, 4, none⟩ = some (.int .u32 N) ∧ w'.cell? ⟨w8.heap.size, 5, none⟩ = some (.string rb)) (first | go_keep | exact ⟨A2.out.cells.1, (Q2.out.cells.1), (Q2.out.cells.2.1), (Q2.out.cells.2.2.1), (Q2.out.cells.2.2.2.1), (Q2.out.cells.2.2.2.2.1), (Q2.out.cells.2.2.2.2.2.1)⟩)
        (first
          | (go_at_call 18; refine T2.out.mono ?_; rintro _ v2 ⟨rfl, hC2, ho2⟩; have C2 := hid hC2; have O2 := hid ho2; have A2 := hid (A1d.out.out ho2 hBc); have Q2 := hid (Q1d.out.out ho2 nqc)))
      have BC := hid (busy_c C2.out)
      clear gB
      obtain ⟨gB, _⟩ := A2.out.cells
      have e1 : ((⟨#[114]⟩ : ByteArray) ++ b) = rb := HR.out.symm
      have o12 : Ou (fun k => k = c) wr v2 := (((Ou.refl _ wr).drew).trans O1.out).trans (((Ou.refl _ v1).drew).trans O2.out)
      have W9 := hid (HW.out.trans (o12.below HW.out.size (fun k e => by omega)))
      go_wp2_with (go_at_call 19; refine BC.out.mono ?_; rintro _ v3 ⟨rfl, h3⟩; rw [h3])
      go_ret
      exact ⟨by first | rfl | exact ret_bool (by simp), W9.out⟩
set_option maxHeartbeats 8000000 in
theorem again_long (a : Option Addr) (len cap : Nat) (f : Nat → Dr) (body : ByteArray) (n : Int) (hn0 : 0 ≤ n) (hn1 : n < 256) (w : World) (h : IsDr w a len f) (hs : 2000 < body.size) :
    Calls Try.prog 4 #[.slice a len cap, .string body, .int .u8 n] w fun e w' => e = .returned (.bool true) ∧ Below w.heap.size w w' := by
  have PL := hid (play_c a len cap f w h)
  clear h
  go_enter Try.func4, Try.ntmps4
  go_wp2_with fail
  refine PL.out.mono ?_
  rintro _ w1 ⟨B, c, r, s, t, l, C, R, F, nn, rfl, hnn, hB1, hge, hb1⟩
  clear PL
  go_wp2_with fail
  refine (rlive_c _).mono ?_
  rintro _ w2 ⟨rfl, hb2⟩
  have HB := hid (hB1.later hb2)
  have W2 := hid (hb1.trans (hb2.mono hb1.size))
  clear hB1 hb1 hb2
  obtain ⟨gB, _⟩ := HB.out.at'.cells
  have hN := HB.out.wc.2.2.1
  have CW := hid HB.out.wc
  have hBc := HB.out.ne.1.1
  have hlt := HB.out.lts
  have hs' : (2000 : Int) < body.size := by omega
  go_wp2_with fail
  obtain ⟨b, hbb⟩ : ∃ b, b = body.extract 0 2000 := ⟨_, rfl⟩
  have hs2 : b.size ≤ 2000 := by rw [hbb]; simp; omega
  rw [← hbb]
  clear hbb
  have hb' : b.size ≤ 16384 := by omega
  refine (cancel_c HB.out.hc).mono ?_
  rintro _ w3 ⟨rfl, hC3, ho3⟩
  have A3 := hid (HB.out.at'.out ho3 hBc)
  have CC := hid (ag_call hC3 CW.out hnn b hb')
  have W3 := hid (W2.out.trans (ho3.below W2.out.size (fun k e => by omega)))
  have l3 := ho3.size
  clear hC3 ho3 gB
  obtain ⟨gB, _⟩ := A3.out.cells
  go_wp2_with fail
  refine CC.out.mono ?_
  rintro _ w4 ⟨rfl, hC4, ho4⟩
  have A4 := hid (A3.out.out ho4 hBc)
  generalize hNN : C.num + 1 = N at *
  have hN1 : 1 ≤ N := by omega
  have hN2 : N < 1000 := by omega
  have TC := hid (ag_tick N b hC4 hN1 hN2 hb')
  have W4 := hid (W3.out.trans (ho4.below W3.out.size (fun k e => by omega)))
  have l4 := ho4.size
  clear hC4 ho4 gB CC hNN
  obtain ⟨gB, _⟩ := A4.out.cells
  go_wp2_with fail
  refine TC.out.mono ?_
  rintro _ w5 ⟨rfl, hC5, ho5⟩
  have c5 : Below w5.heap.size w5 (w5.alloc (.cells #[.int .u8 1, .int .u8 2, .int .u8 0, .int .u32 3, .int .u32 N, .string b] 26)) := (Below.refl _ _).alloc (Nat.le_refl _) _
  have P5 : Hid (PkAt (w5.alloc (.cells #[.int .u8 1, .int .u8 2, .int .u8 0, .int .u32 3, .int .u32 N, .string b] 26)) w5.heap.size ⟨1, 2, 0, 3, N, b⟩) := PkAt.new w5 ⟨1, 2, 0, 3, N, b⟩
  have A5 := hid ((A4.out.out ho5 hBc).later c5)
  have C5 := hid (hC5.later c5)
  have b5 := W4.out.trans (ho5.below W4.out.size (fun k e => by omega))
  have W5 := hid (b5.trans (c5.mono b5.size))
  have l5 := ho5.size
  clear hC5 ho5 c5 b5 gB TC
  go_wp2_with fail
  generalize (w5.alloc (.cells #[.int .u8 1, .int .u8 2, .int .u8 0, .int .u32 3, .int .u32 N, .string b] 26)) = V5 at *
  refine (newCallee_c V5).mono ?_
  rintro _ w6 ⟨rfl, hK6, hb6⟩
  have P6 := hid (P5.out.later hb6)
  have A6 := hid (A5.out.later hb6)
  have C6 := hid (C5.out.later hb6)
  have KT := hid (ag_take1 hK6 N b hN1 hN2 hb')
  have W6 := hid (W5.out.trans (hb6.mono W5.out.size))
  obtain ⟨p0, p1, p2, p3, p4, p5, _⟩ := P6.out.cells
  simp only at p0 p1 p2 p3 p4 p5
  have lP : w5.heap.size < V5.heap.size := P5.out.lt
  have lA : B < V5.heap.size := A5.out.lt
  have lC : c < V5.heap.size := C5.out.lt
  have l6 := hb6.size
  have hWV := W5.out.size
  clear hK6 hb6
  go_wp2_with fail
  refine KT.out.mono ?_
  rintro _ w7 ⟨rfl, hK7, ho7⟩
  have c7 : Below w7.heap.size w7 (w7.alloc (.cells #[.int .u8 0, .int .u8 0, .int .u8 0, .int .u32 0, .int .u32 0, .string ⟨#[]⟩] 26)) := (Below.refl _ _).alloc (Nat.le_refl _) _
  have P7 := hid ((P6.out.out ho7 (by omega)).later c7)
  have A7 := hid ((A6.out.out ho7 (by omega)).later c7)
  have C7 := hid ((C6.out.out ho7 (by omega)).later c7)
  obtain ⟨rb, hrb⟩ : ∃ rb : ByteArray, rb = ⟨#[114]⟩ ++ b := ⟨_, rfl⟩
  have hrs : rb.size ≤ 16384 := by rw [hrb, ByteArray.size_append, show (⟨#[114]⟩ : ByteArray).size = 1 from rfl]; omega
  have HR := hid hrb
  clear hrb
  have RP := hid (ag_reply N rb (hK7.later c7) hrs)
  have b7 := W6.out.trans (ho7.below W6.out.size (fun k e => by omega))
  have W7 := hid (b7.trans (c7.mono b7.size))
  have l7 := ho7.size
  clear hK7 ho7 c7 b7 KT p0 p1 p2 p3 p4 p5
  go_wp2_with fail
  generalize (w7.alloc (.cells #[.int .u8 0, .int .u8 0, .int .u8 0, .int .u32 0, .int .u32 0, .string ⟨#[]⟩] 26)) = V7 at *
  rw [← HR.out]
  refine RP.out.mono ?_
  rintro _ w8 ⟨rfl, hK8, ho8⟩
  have c8 : Below w8.heap.size w8 (w8.alloc (.cells #[.int .u8 2, .int .u8 0, .int .u8 2, .int .u32 3, .int .u32 N, .string rb] 26)) := (Below.refl _ _).alloc (Nat.le_refl _) _
  have Q8 : Hid (PkAt (w8.alloc (.cells #[.int .u8 2, .int .u8 0, .int .u8 2, .int .u32 3, .int .u32 N, .string rb] 26)) w8.heap.size ⟨2, 0, 2, 3, N, rb⟩) := PkAt.new w8 ⟨2, 0, 2, 3, N, rb⟩
  have P8 := hid ((P7.out.out ho8 (by omega)).later c8)
  have A8 := hid ((A7.out.out ho8 (by omega)).later c8)
  have C8 := hid ((C7.out.out ho8 (by omega)).later c8)
  have K8 := hid (hK8.later c8)
  have b8 := W7.out.trans (ho8.below W7.out.size (fun k e => by omega))
  have W8 := hid (b8.trans (c8.mono b8.size))
  have l8 := ho8.size
  have lK : V5.heap.size < w8.heap.size := hK8.lt
  have lC8 : c < w8.heap.size := by omega
  clear hK8 ho8 c8 b8 RP
  go_wp2_with fail
  generalize (w8.alloc (.cells #[.int .u8 2, .int .u8 0, .int .u8 2, .int .u32 3, .int .u32 N, .string rb] 26)) = V8 at *
  go_loopw [6, 17] (fun rs i wr => ∃ j : Nat, (j : Int) ≤ n % 6 ∧ rs = .bool false ∧ i = .int .i64 j ∧ PkAt wr w5.heap.size ⟨1, 2, 0, 3, N, b⟩ ∧ PkAt wr w8.heap.size ⟨2, 0, 2, 3, N, rb⟩ ∧ BoAt wr B c r s t l ∧ IsC 91 wr c ⟨2, 3, N, true, b, 1, 0⟩ ∧ IsK wr V5.heap.size (updK (updK K0a 2 ⟨1, 3, N, ⟨#[]⟩⟩) 2 ⟨2, 3, N, rb⟩) ∧ Below w.heap.size w wr) (fun _ i _ => (n % 6 - intOf i).toNat)
  case atStart => exact ⟨0, by omega, rfl, rfl, P8.out, Q8.out, A8.out, C8.out, K8.out, W8.out⟩
  case round =>
    obtain ⟨j, hj, rfl, rfl, hP, hQ, hA, hC, hK, hb⟩ := hrel
    have HP := hid hP
    have HQ := hid hQ
    have HA := hid hA
    have HC := hid hC
    have HK := hid hK
    have HW := hid hb
    clear hP hQ hA hC hK hb
    have lw : w8.heap.size < wr.heap.size := HQ.out.lt
    by_cases hlt' : (j : Int) < n % 6
    · have KT := hid (ag_take2 N b rb HK.out hN1 hN2 hb' hrs)
      obtain ⟨p0, p1, p2, p3, p4, p5, _⟩ := HP.out.cells
      simp only at p0 p1 p2 p3 p4 p5
      go_wp2_with fail
      refine KT.out.mono ?_
      rintro _ w9 ⟨rfl, hK9, ho9⟩
      have l9 := ho9.size
      have c9 : Below w9.heap.size w9 (w9.alloc (.cells #[.int .u8 2, .int .u8 0, .int .u8 2, .int .u32 3, .int .u32 N, .string rb] 26)) := (Below.refl _ _).alloc (Nat.le_refl _) _
      have P9 := hid ((HP.out.out ho9 (by omega)).later c9)
      have Q9 := hid ((HQ.out.out ho9 (by omega)).later c9)
      have A9 := hid ((HA.out.out ho9 (by omega)).later c9)
      have C9 := hid ((HC.out.out ho9 (by omega)).later c9)
      have K9 := hid (hK9.later c9)
      have b9 := HW.out.trans (ho9.below HW.out.size (fun k e => by omega))
      have W9 := hid (b9.trans (c9.mono b9.size))
      obtain ⟨q0, q1, q2, q3, q4, q5, _⟩ := (HQ.out.out ho9 (by omega : w8.heap.size ≠ V5.heap.size)).cells
      simp only at q0 q1 q2 q3 q4 q5
      have lw9 : w8.heap.size < w9.heap.size := by omega
      have nw9 : ¬ w8.heap.size = w9.heap.size := by omega
      clear hK9 ho9 c9 b9 KT p0 p1 p2 p3 p4 p5
      go_wp2
      go_roundw
      case rel => exact ⟨j + 1, by omega, rfl, by go_num, P9.out, Q9.out, A9.out, C9.out, K9.out, W9.out⟩
      case measure => simp [intOf]; omega
    · obtain ⟨q0, q1, q2, q3, q4, q5, _⟩ := HQ.out.cells
      simp only at q0 q1 q2 q3 q4 q5
      obtain ⟨gB, _⟩ := HA.out.cells
      have T1 : Hid (Calls Try.prog 18 #[pC c, .agg #[.int .u8 2, .int .u8 0, .int .u8 2, .int .u32 3, .int .u32 N, .string rb]] wr.drew fun e w' => e = .returned (.tuple #[.string rb, .bool true]) ∧ IsC 91 w' c ⟨2, 3, N, false, ⟨#[]⟩, 0, 0⟩ ∧ Ou (fun k => k = c) wr.drew w') := hid (ag_got (w := wr.drew) N b rb HC.out hN1 hN2 hrs)
      have HAd : Hid (BoAt wr.drew B c r s t l) := HA.out
      have HQd : Hid (PkAt wr.drew w8.heap.size ⟨2, 0, 2, 3, N, rb⟩) := HQ.out
      have nqc : w8.heap.size ≠ c := by omega
      go_wp2_with fail
      go_region_held3 (fun w' => w'.cell? ⟨B, 0, none⟩ = some (pC c) ∧ w'.cell? ⟨w8.heap.size, 0, none⟩ = some (.int .u8 2) ∧ w'.cell? ⟨w8.heap.size, 1, none⟩ = some (.int .u8 0) ∧ w'.cell? ⟨w8.heap.size, 2, none⟩ = some (.int .u8 2) ∧ w'.cell? ⟨w8.heap.size, 3, none⟩ = some (.int .u32 3) ∧ w'.cell? ⟨w8.heap.size, 4, none⟩ = some (.int .u32 N) ∧ w'.cell? ⟨w8.heap.size, 5, none⟩ = some (.string rb)) (first | go_keep | exact ⟨A1.out.cells.1, (Q1.out.cells.1), (Q1.out.cells.2.1), (Q1.out.cells.2.2.1), (Q1.out.cells.2.2.2.1), (Q1.out.cells.2.2.2.2.1), (Q1.out.cells.2.2.2.2.2.1)⟩)
        (first
          | (go_at_call 18; refine T1.out.mono ?_; rintro _ v1 ⟨rfl, hC1, ho1⟩; have C1 := hid hC1; have O1 := hid ho1; have A1 := hid (HAd.out.out ho1 hBc); have Q1 := hid (HQd.out.out ho1 nqc)))
      have T2 : Hid (Calls Try.prog 18 #[pC c, .agg #[.int .u8 2, .int .u8 0, .int .u8 2, .int .u32 3, .int .u32 N, .string rb]] v1.drew fun e w' => e = .returned (.tuple #[.string ⟨#[]⟩, .bool false]) ∧ IsC 91 w' c ⟨2, 3, N, false, ⟨#[]⟩, 0, 0⟩ ∧ Ou (fun k => k = c) v1.drew w') := hid (ag_once (w := v1.drew) N rb C1.out hN1 hN2 hrs)
      have A1d : Hid (BoAt v1.drew B c r s t l) := A1.out
      have Q1d : Hid (PkAt v1.drew w8.heap.size ⟨2, 0, 2, 3, N, rb⟩) := Q1.out
      clear q0 q1 q2 q3 q4 q5 gB T1
      obtain ⟨q0, q1, q2, q3, q4, q5, _⟩ := Q1.out.cells
      simp only at q0 q1 q2 q3 q4 q5
      obtain ⟨gB, _⟩ := A1.out.cells
      go_wp2_with fail
      go_region_held3 (fun w' => w'.cell? ⟨B, 0, none⟩ = some (pC c) ∧ w'.cell? ⟨w8.heap.size, 0, none⟩ = some (.int .u8 2) ∧ w'.cell? ⟨w8.heap.size, 1, none⟩ = some (.int .u8 0) ∧ w'.cell? ⟨w8.heap.size, 2, none⟩ = some (.int .u8 2) ∧ w'.cell? ⟨w8.heap.size, 3, none⟩ = some (.int .u32 3) ∧ w'.cell? ⟨w8.heap.size, 4, none⟩ = some (.int .u32 N) ∧ w'.cell? ⟨w8.heap.size, 5, none⟩ = some (.string rb)) (first | go_keep | exact ⟨A2.out.cells.1, (Q2.out.cells.1), (Q2.out.cells.2.1), (Q2.out.cells.2.2.1), (Q2.out.cells.2.2.2.1), (Q2.out.cells.2.2.2.2.1), (Q2.out.cells.2.2.2.2.2.1)⟩)
        (first
          | (go_at_call 18; refine T2.out.mono ?_; rintro _ v2 ⟨rfl, hC2, ho2⟩; have C2 := hid hC2; have O2 := hid ho2; have A2 := hid (A1d.out.out ho2 hBc); have Q2 := hid (Q1d.out.out ho2 nqc)))
      have BC := hid (busy_c C2.out)
      clear gB
      obtain ⟨gB, _⟩ := A2.out.cells
      have e1 : ((⟨#[114]⟩ : ByteArray) ++ b) = rb := HR.out.symm
      have o12 : Ou (fun k => k = c) wr v2 := (((Ou.refl _ wr).drew).trans O1.out).trans (((Ou.refl _ v1).drew).trans O2.out)
      have W9 := hid (HW.out.trans (o12.below HW.out.size (fun k e => by omega)))
      go_wp2_with (go_at_call 19; refine BC.out.mono ?_; rintro _ v3 ⟨rfl, h3⟩; rw [h3])
      go_ret
      exact ⟨by first | rfl | exact ret_bool (by simp), W9.out⟩
theorem rpcAgain_walk (a : Option Addr) (len cap : Nat) (f : Nat → Dr) (body : ByteArray) (wb : body.size ≤ maxLen) (n : Int) (wn : (Lit.int .u8 n).wf = true) (w : World) (h : IsDr w a len f) :
    Calls Try.prog 4 #[.slice a len cap, .string body, .int .u8 n] w fun e w' => e = .returned (.bool true) ∧ Below w.heap.size w w' := by
  have hb := bd_u8 wn
  by_cases hs : body.size ≤ 2000
  · exact again_short a len cap f body n hb.1 hb.2 w h hs
  · exact again_long a len cap f body n hb.1 hb.2 w h (by omega)
/-! ### The row of RpcAgain -/
theorem rpcAgain_own : ownKnob Try.prog.godebug = none := by kernel_rfl
theorem rpcAgain_laidOut : laidOutB Try.prog = true := by kernel_rfl
set_option maxRecDepth 100000 in
theorem rpcAgain_lifted (os : Os) (started : os.Started) (H : Type) (enc : TypeId × Value → H) :
    ReturnsInHanded {} Try.checked os 4 .any (Rows.rpcAgainSpec.pre6 enc Try.prog Try.f4 Rows.rpcAgainRow.domain false) (Rows.rpcAgainSpec.post enc Try.prog Try.f4 false true false false) := by
  refine returnsInHanded_of_change (C := Try.checked) rpcAgain_own started (by kernel_rfl) Try.func4
    (ChangeSpec.witness6 (enc := enc) (C := Try.checked) false ⟨#[], #[.slice none 0 0, .string ByteArray.empty, .int .u8 0], []⟩ 8 (by kernel_rfl) (by kernel_rfl) (by kernel_rfl) (by kernel_rfl)) ?_
  intro W base args ds gs before hval0 hW hcnd _
  have hval : ∀ (j : Nat) t v, Try.f4.params[j]? = some t → args[j]? = some v → Value.okWide Try.prog W .any base t v := hval0
  have hW' := hW
  obtain ⟨p, q, hA0, hV, rfl, hfz, hnd⟩ := hW
  have hA : DataW.TrodAll enc Try.prog W 0 (fun _ => true) true Try.f4.params.toList args.toList ds p := hA0
  rw [Try.params4] at hA hval
  obtain ⟨v0, vs0, d0, ds0, p0, q0, hargs, rfl, rfl, h0, r0⟩ := trodAll_cons hA
  obtain ⟨v1, vs1, d1, ds1, p1, q1, rfl, rfl, rfl, h1, r1⟩ := trodAll_cons r0
  obtain ⟨v2, vs2, d2, ds2, p2, q2, rfl, rfl, rfl, h2, r2⟩ := trodAll_cons r1
  obtain ⟨rfl, rfl, rfl⟩ := trodAll_nil r2
  obtain rfl : args = #[v0, v1, v2] := by cases args; simp_all
  obtain ⟨rfl, rfl⟩ := trodVars_none hV
  have k0 := h0
  have lt0 : ∀ x ∈ p0, x.block < W.heap.size := by obtain ⟨m, hm⟩ := k0; exact DataW.trod_lt m _ _ _ hm
  obtain ⟨a0, len0, cap0, rfl⟩ := okWide_slice Try.underlying39 (hval 0 39 v0 rfl rfl)
  obtain ⟨z0, w0⟩ := isDr_of Try.underlying39 h0
  obtain ⟨a1, rfl, rfl, rfl, w1⟩ := open_string Try.underlying9 (hval 1 9 v1 rfl rfl) h1
  obtain ⟨a2, rfl, rfl, rfl, w2⟩ := open_int Try.underlying5 (hval 2 5 v2 rfl rfl) h2
  clear hA0 hval0
  refine (rpcAgain_walk a0 len0 cap0 z0 a1 w1 a2 w2 W w0).mono fun e W' ⟨he, bel⟩ => ?_
  subst he
  exact ⟨_, rfl, _, _, _, [], _, [], hW', trodAll_mk1 (shut_bool Try.underlying4 _), (trodAll_cons_mk (Below.trod rpcAgain_laidOut (by kernel_rfl) (of_decide_eq_true (by kernel_rfl)) k0 bel lt0) (trodAll_cons_mk (shut_string Try.underlying9 w1) (trodAll_cons_mk (shut_int Try.underlying5 w2) trodAll_mk0))), rfl, bel.frame _, fun h => by cases h⟩
theorem rpcAgain_over : Rows.rpcAgainRow.holds Try.pinned (OpenSpec.ofChange Rows.rpcAgainSpec) :=
  OpenClaim.holds_of_wide 4 Try.f4 rfl rfl rfl rfl rfl rfl rfl ⟨rfl, rfl, rfl, rfl, rfl⟩ rfl rfl rfl rfl rfl (by kernel_rfl) Try.func4 (by kernel_rfl)
    (of_decide_eq_true (by kernel_rfl)) (by unfold Func.isWrapper; first | (rw [if_pos (by decide +kernel)]; kernel_rfl) | (rw [if_neg (by decide +kernel)]; exact ⟨rfl, rfl⟩))
    (fun os started H enc _ => rpcAgain_lifted os started H enc)
/-- The statement. -/
theorem rpcAgain_holds : Rows.RpcAgainSaid := rpcAgain_over
#print axioms rpcAgain_holds

end Go.Proofs.Ytmgngdlccdnmdaa
