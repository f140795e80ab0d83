/-
  'ImageThere'.
-/
import Derived.Test.YtolmhoenjcinjaaGreatISameIm
namespace Go.Proofs.YtolmhoenjcinjaaGreat
open Go.RowKit
set_option linter.unusedVariables false
set_option maxRecDepth 100000

theorem places_at {w : World} {B pn : Nat} {pa : Option Addr} {pc : Nat} {x : Im} (h : w.ownsRow B 3 1 (.slice pa pn pc) (places x).length ((places x).map iv)) :
    ∃ (g : Nat) (p q : Nat), pa = some ⟨g, 0, none⟩ ∧ pn = 3 ∧ 3 ≤ pc ∧ pc ≤ 9223372036854775807 ∧ 8 + 4 ≤ p ∧ p + 4 ≤ q ∧ q + 8 ≤ (encIm x).length + 12 ∧ w.cell? ⟨g, 0, none⟩ = some (.int .i64 8) ∧ w.cell? ⟨g, 1, none⟩ = some (.int .i64 (p : Nat)) ∧ w.cell? ⟨g, 2, none⟩ = some (.int .i64 (q : Nat)) := by
  rcases owns_cells h with ⟨_, h0⟩ | ⟨g, cap, hv, _, _, hc, hm, hcell, _⟩
  · simp [places] at h0
  · injection hv with q1 q2 q3
    subst q1 q2 q3
    have h1 := encL_len encPn x.parts
    have h2 := encL_len encPo x.ports
    have h3 := encL_len encCh x.chans
    have h4 : (encIm x).length = (encL encPn x.parts).length + ((encL encPo x.ports).length + (encL encCh x.chans).length) := by unfold encIm; rw [List.length_append, List.length_append]
    refine ⟨g, 8 + (encL encPn x.parts).length, 8 + (encL encPn x.parts).length + (encL encPo x.ports).length, rfl, rfl, hc, hm, by omega, by omega, by omega, hcell 0 _ rfl, ?_, ?_⟩
    · have := hcell 1 (.int .i64 (8 + ((encL encPn x.parts).length : Int))) rfl
      rw [this]; congr 2
    · have := hcell 2 (.int .i64 (8 + ((encL encPn x.parts).length : Int) + ((encL encPo x.ports).length : Int))) rfl
      rw [this]; congr 2
/-- Decode of what is an image's -/
theorem decode_yes (G : Nat → Prop) (a : Option Addr) (n c : Nat) (bs : List Nat) (x : Im) (w : World) (h : Bs w G a n c bs) (hx : imgOf bs = some x) : Calls Tryz.prog 11 #[.slice a n c] w fun ex w' => ∃ (a0 : Option Addr) (n0 c0 : Nat) (a1 : Option Addr) (n1 c1 : Nat) (a2 : Option Addr) (n2 c2 : Nat), ex = .returned (.tuple #[.agg #[.slice a0 n0 c0, .slice a1 n1 c1, .slice a2 n2 c2], .int .i64 0]) ∧ Kept No w w' ∧ Img w' (fun g => w.heap.size ≤ g ∧ g < w'.heap.size) a0 n0 c0 a1 n1 c1 a2 n2 c2 x := by
  refine (decode_img G a n c bs w h).mono ?_
  rintro ex w' ⟨hk, ⟨h1, _⟩ | ⟨y, a0, n0, c0, a1, n1, c1, a2, n2, c2, h1, h2, o1, o2, o3⟩⟩
  · rw [hx] at h1; cases h1
  · rw [hx] at h1; injection h1 with h1; subst h1
    exact ⟨a0, n0, c0, a1, n1, c1, a2, n2, c2, h2, hk, img_of o1 o2 o3⟩
theorem sections_yes (G : Nat → Prop) (a : Option Addr) (n c : Nat) (bs : List Nat) (x : Im) (w : World) (h : Bs w G a n c bs) (hx : imgOf bs = some x) : Calls Tryz.prog 14 #[.slice a n c] w fun ex w' => ∃ (pa : Option Addr) (pn pc : Nat), ex = .returned (.tuple #[.slice pa pn pc, .int .i64 0]) ∧ Kept No w w' ∧ w'.ownsRow w.heap.size 3 1 (.slice pa pn pc) (places x).length ((places x).map iv) := by
  refine (sections_any G a n c bs w h).mono ?_
  rintro ex w' ⟨hk, ⟨h1, _⟩ | ⟨y, pa, pn, pc, h1, h2, o1⟩⟩
  · rw [hx] at h1; cases h1
  · rw [hx] at h1; injection h1 with h1; subst h1
    exact ⟨pa, pn, pc, h2, hk, o1⟩

set_option maxHeartbeats 32000000 in
theorem there_walk (a0 : Option Addr) (n0 c0 : Nat) (a1 : Option Addr) (n1 c1 : Nat) (a2 : Option Addr) (n2 c2 : Nat) (x : Im) (W : World) (hI : Img W (Hn W) a0 n0 c0 a1 n1 c1 a2 n2 c2 x) (hS : szIm x) :
    Calls Tryz.prog 5 #[.agg #[.slice a0 n0 c0, .slice a1 n1 c1, .slice a2 n2 c2]] W fun ex w' => ex = .returned (.bool true) ∧ Below W.heap.size W w' := by
  have hok := hI.ok
  have hk0 : Kept No W (W.alloc (.cells #[.slice a0 n0 c0, .slice a1 n1 c1, .slice a2 n2 c2] 26)) := (Kept.refl No W).alloc _
  have HB0 : Hid (Bk (W.alloc (.cells #[.slice a0 n0 c0, .slice a1 n1 c1, .slice a2 n2 c2] 26)) W.heap.size [.slice a0 n0 c0, .slice a1 n1 c1, .slice a2 n2 c2] 26) := heap_alloc_new W _
  have hI0 : Img (W.alloc (.cells #[.slice a0 n0 c0, .slice a1 n1 c1, .slice a2 n2 c2] 26)) (Hn (W.alloc (.cells #[.slice a0 n0 c0, .slice a1 n1 c1, .slice a2 n2 c2] 26))) a0 n0 c0 a1 n1 c1 a2 n2 c2 x := (hI.kept hk0 (fun _ _ h => h)).mono (fun k hk => Nat.lt_of_lt_of_le hk hk0.size)
  have cC := copy_any a0 n0 c0 a1 n1 c1 a2 n2 c2 x _ hI0 hS
  have HK0 : Hid (Kept No W (W.alloc (.cells #[.slice a0 n0 c0, .slice a1 n1 c1, .slice a2 n2 c2] 26))) := hk0
  have HOK : Hid (okIm x) := hok
  have HI : Hid (Img W (Hn W) a0 n0 c0 a1 n1 c1 a2 n2 c2 x) := hI
  clear hI hS hk0 hI0 hok
  go_enter Tryz.func5, Tryz.ntmps5
  go_upto_region 1 with fail
  generalize W.alloc (.cells #[.slice a0 n0 c0, .slice a1 n1 c1, .slice a2 n2 c2] 26) = w0 at *
  have y0 := HB0.out.cell (j := 0) rfl
  have y1 := HB0.out.cell (j := 1) rfl
  have y2 := HB0.out.cell (j := 2) rfl
  go_upto_region 2 with (first
    | (go_at_call 9; refine cC.mono ?_; rintro ex w1 ⟨b0, m0, d0, b1, m1, d1, b2, m2, d2, rfl, himg, hk1⟩; have ce := encode_img _ b0 m0 d0 b1 m1 d1 b2 m2 d2 x w1 himg (fun k hk => hk.2); have HK1 : Hid (Kept No w0 w1) := hk1; clear hk1 himg)
    | (go_at_call 8; refine ce.mono ?_; rintro ex w2 ⟨ca, cn, cc, rfl, hown, hk2⟩))
  have HKW : Hid (Kept No W w2) := (HK0.out.trans HK1.out (fun _ h => h.elim)).trans hk2 (fun _ h => h.elim)
  have FIN : ∀ w5 : World, Kept No w2 w5 → Below W.heap.size W w5 := fun w5 h => (HKW.out.trans h (fun _ h => h.elim)).below0
  have HFN : Hid (∀ w5 : World, Kept No w2 w5 → Below W.heap.size W w5) := FIN
  have cK := known_any w2
  have HBX : Hid (Bk w2 W.heap.size [.slice a0 n0 c0, .slice a1 n1 c1, .slice a2 n2 c2] 26) := (HB0.out.kept HK1.out (fun h => h)).kept hk2 (fun h => h)
  have HI2 : Hid (Img w2 (Hn W) a0 n0 c0 a1 n1 c1 a2 n2 c2 x) := HI.out.kept HKW.out (fun _ _ h => h)
  clear cC ce y0 y1 y2 hk2 FIN HK0 HK1 HB0 HI
  cases hok : encOk x with
  | false =>
    have e2 : encE x = 1 := by unfold encE; rw [hok]; rfl
    rw [e2]
    have hx0 : encX x = [] := by unfold encX; rw [hok]; rfl
    rw [hx0] at hown
    have hcn : cn = 0 := by
      rcases owns_cells hown with ⟨h1, _⟩ | ⟨g, cap, h1, _⟩
      · injection h1
      · injection h1
    subst hcn
    clear e2 hok hown hx0
    go_wp2_with (go_at_call 10; refine cK.mono ?_; rintro ex w4 ⟨rfl, hk4⟩)
    go_ret
    exact ⟨rfl, HFN.out w4 hk4⟩
  | true =>
    have hle : (encIm x).length + 12 ≤ 1048576 := by unfold encOk at hok; simpa using hok
    have e1 : encX x = sealed 1 (encIm x) := by unfold encX; rw [hok]; rfl
    have e2 : encE x = 0 := by unfold encE; rw [hok]; rfl
    rw [e1] at hown
    rw [e2]
    have hsl := sealed_len1 x
    have hslt : ∀ b ∈ sealed 1 (encIm x), b < 256 := sealed_lt (by decide) (dcIm.lt x HOK.out)
    obtain ⟨S, hS⟩ : ∃ S, S = sealed 1 (encIm x) := ⟨_, rfl⟩
    obtain ⟨n, hn⟩ : ∃ n, n = (encIm x).length + 12 := ⟨_, rfl⟩
    rw [← hn] at hle hsl
    rw [← hS] at hown hsl hslt
    rw [hsl] at hown
    have hn12 : 12 ≤ n := by omega
    obtain ⟨g, cap, hv, hg1, hg2, hcap, hmax, hcell, hfz⟩ : ∃ g cap, Value.slice ca cn cc = .slice (some ⟨g, 0, none⟩) n cap ∧ w1.heap.size ≤ g ∧ g < w2.heap.size ∧ n ≤ cap ∧ cap ≤ maxLen ∧ (∀ i u, (S.map bv)[i]? = some u → w2.cell? ⟨g, i, none⟩ = some u) ∧ ∀ i, w2.frozen? ⟨g, i, none⟩ = false := by
      rcases owns_cells hown with ⟨_, h0⟩ | h
      · omega
      · exact h
    injection hv with q1 q2 q3
    subst q1 q2 q3
    have hmax' : cc ≤ 9223372036854775807 := hmax
    have HSL : Hid (S.length = cn ∧ (∀ b ∈ S, b < 256) ∧ S = sealed 1 (encIm x) ∧ cn = (encIm x).length + 12) := ⟨hsl, hslt, hS, hn⟩
    have hBS : Bs w2 (fun k => k = g) (some ⟨g, 0, none⟩) cn cc S := ⟨hsl, hcap, hmax', fun h => (by cases h), fun i hi => ⟨g, 0, rfl, rfl, by rw [Nat.zero_add]; exact hcell i _ (bv_get (by rw [hsl]; exact hi))⟩, hslt⟩
    have HBS : Hid (Bs w2 (fun k => k = g) (some ⟨g, 0, none⟩) cn cc S) := hBS
    clear e1 e2 hok hown hS hn hsl hslt hcell hfz hmax hg1 hBS
    have himg : imgOf S = some x := by rw [HSL.out.2.2.1]; exact imgOf_sealed x HOK.out (by have := HSL.out.2.2.2; omega)
    have HIM : Hid (imgOf S = some x) := himg
    clear himg cK
    have HB6 : Hid (Bs (w2.alloc (.cells #[] 5)) (fun k => k = g) (some ⟨g, 0, none⟩) cn cc S) := HBS.out.kept ((Kept.refl No w2).alloc _) (fun _ _ h => h)
    go_upto_region 5 with (first
      | (at_builtin; refine wpList_copy rfl _ _ rfl w2.heap.size _ rfl (made0 w2) (by simp) _ cn cc rfl _ S HB6.out (by omega) ?_; intro ya yc w3 own3 k3; have HK3 : Hid (Kept No w2 w3) := ((Kept.refl No w2).alloc _).trans k3.out (fun k hk => .inr (own0 hk)); have cD := decode_yes _ _ _ _ S x w3 (Bs.row own3.out HSL.out.1 HSL.out.2.1) HIM.out; clear k3 own3)
      | (go_at_call 11; refine cD.mono ?_; rintro ex w4 ⟨b0, m0, d0, b1, m1, d1, b2, m2, d2, rfl, hk4, himg⟩; have HK4 : Hid (Kept No w2 w4) := HK3.out.trans hk4 (fun _ h => h.elim); have HJ : Hid (Img w4 (fun g => w3.heap.size ≤ g ∧ g < w4.heap.size) b0 m0 d0 b1 m1 d1 b2 m2 d2 x) := himg; clear hk4 himg))
    clear cD HB6
    have HK5 : Hid (Kept No w2 (w4.alloc (.cells #[.slice b0 m0 d0, .slice b1 m1 d1, .slice b2 m2 d2] 26))) := HK4.out.alloc _
    have HBY : Hid (Bk (w4.alloc (.cells #[.slice b0 m0 d0, .slice b1 m1 d1, .slice b2 m2 d2] 26)) w4.heap.size [.slice b0 m0 d0, .slice b1 m1 d1, .slice b2 m2 d2] 26) := heap_alloc_new w4 _
    have HJ5 : Hid (Img (w4.alloc (.cells #[.slice b0 m0 d0, .slice b1 m1 d1, .slice b2 m2 d2] 26)) (fun g => w3.heap.size ≤ g ∧ g < w4.heap.size) b0 m0 d0 b1 m1 d1 b2 m2 d2 x) := HJ.out.kept ((Kept.refl No w4).alloc _) (fun _ _ h => h)
    generalize w4.alloc (.cells #[.slice b0 m0 d0, .slice b1 m1 d1, .slice b2 m2 d2] 26) = w5 at *
    have cS := sections_yes _ _ _ _ S x w5 (HBS.out.kept HK5.out (fun _ _ h => h)) HIM.out
    go_upto_region 6 with (go_at_call 14; refine cS.mono ?_; rintro ex w6 ⟨pa, pn, pc, rfl, hk6, hown6⟩)
    obtain ⟨gs, p, q, rfl, rfl, hpc, hpm, hp1, hp2, hp3, y0, y1, y2⟩ := places_at hown6
    have hp4 : q + 8 ≤ cn := by have := HSL.out.2.2.2; omega
    have HS6 : Hid (w6.cell? ⟨gs, 0, none⟩ = some (.int .i64 8) ∧ w6.cell? ⟨gs, 1, none⟩ = some (.int .i64 (p : Nat)) ∧ w6.cell? ⟨gs, 2, none⟩ = some (.int .i64 (q : Nat))) := ⟨y0, y1, y2⟩
    have HK6 : Hid (Kept No w2 w6) := HK5.out.trans hk6 (fun _ h => h.elim)
    have HJ6 : Hid (Img w6 (fun g => w3.heap.size ≤ g ∧ g < w4.heap.size) b0 m0 d0 b1 m1 d1 b2 m2 d2 x) := HJ5.out.kept hk6 (fun _ _ h => h)
    have HB6 : Hid (Bk w6 w4.heap.size [.slice b0 m0 d0, .slice b1 m1 d1, .slice b2 m2 d2] 26) := HBY.out.kept hk6 (fun h => h)
    have cK := known_any w6
    clear cS hown6 hk6 y0 y1 y2 hp3 HJ5 HBY HK5 HJ HK4 HK3
    go_upto_region 8 with (first
      | (go_at_call 10; refine cK.mono ?_; rintro ex w7 ⟨rfl, hk7⟩; have HK7 : Hid (Kept No w6 w7) := hk7; have z0 := ((HBX.out.kept HK6.out (fun h => h)).kept hk7 (fun h => h)).cell (j := 0) rfl; have z1 := ((HBX.out.kept HK6.out (fun h => h)).kept hk7 (fun h => h)).cell (j := 1) rfl; have z2 := ((HBX.out.kept HK6.out (fun h => h)).kept hk7 (fun h => h)).cell (j := 2) rfl; have v0 := (HB6.out.kept hk7 (fun h => h)).cell (j := 0) rfl; have v1 := (HB6.out.kept hk7 (fun h => h)).cell (j := 1) rfl; have v2 := (HB6.out.kept hk7 (fun h => h)).cell (j := 2) rfl; have cM := same_one _ _ a0 n0 c0 a1 n1 c1 a2 n2 c2 b0 m0 d0 b1 m1 d1 b2 m2 d2 x w7 ((HI2.out.kept HK6.out (fun _ _ h => h)).kept hk7 (fun _ _ h => h)) (HJ6.out.kept hk7 (fun _ _ h => h)); clear hk7)
      | (go_at_call 12; refine cM.mono ?_; rintro ex w8 ⟨rfl, hk8⟩; have HK8 : Hid (Kept No w6 w8) := HK7.out.trans hk8 (fun _ h => h.elim); clear hk8 z0 z1 z2 v0 v1 v2))
    have y0 := HK8.out.cell HS6.out.1 (fun h => h)
    have y1 := HK8.out.cell HS6.out.2.1 (fun h => h)
    have y2 := HK8.out.cell HS6.out.2.2 (fun h => h)
    have g1 : wrap64 ((p : Int) + 4) = (p : Int) + 4 := by unfold wrap64; omega
    have g2 : wrap64 ((q : Int) + 8) = (q : Int) + 8 := by unfold wrap64; omega
    have g3 : (12 : Int) ≤ (p : Int) := by omega
    have g4 : (p : Int) + 4 ≤ (q : Int) := by omega
    have g5 : (q : Int) + 8 ≤ (cn : Int) := by omega
    clear cK cM
    go_wp2
    go_quiet (fail)
    go_wp2
    go_ret
    exact ⟨rfl, HFN.out _ ((HK6.out.trans HK8.out (fun _ h => h.elim)).drewN _)⟩

end Go.Proofs.YtolmhoenjcinjaaGreat
