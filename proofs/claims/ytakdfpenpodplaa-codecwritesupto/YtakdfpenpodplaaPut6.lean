/-
  'put' of bytes.
-/
import Derived.Test.YtakdfpenpodplaaPut
namespace Go.Proofs.Ytakdfpenpodplaa
open Go.RowKit
set_option linter.unusedVariables false

/-- both have done it, and a row made ahead of it is written full -/
theorem bw_left {F G : Nat → Prop} {p q g : Nat} {bs bs' : List Nat} {e e' : Int} {w w0 w1 w2 w3 : World} (hW0 : Wr w F p bs e) (hO : Ou w G q bs e) (D : ∀ k, F k → ¬ G k) (k0 : Kept No w w0) (hg : w.heap.size ≤ g ∧ g < w0.heap.size) (hW : WrDid F p bs' e' w0 w1) (hI : OuDid G q bs' e' w1 w2) (k3 : Kept (fun k => k = g) w2 w3) : Bw F G p q bs' e' w w3 := by
  obtain ⟨F', hw, kw, fw⟩ := hW
  obtain ⟨G', ho, ko, fo⟩ := hI
  have hG := hO.flt
  have hF := hW0.flt'
  have s0 := k0.size
  have s1 := kw.size
  have s2 := ko.size
  have d1 : ∀ b, F' b → ¬ G b := by
    intro b hb hg
    rcases fw b hb with h | h
    · exact D b h hg
    · have := hG b hg; omega
  refine ⟨F', G', (hw.kept ko d1).kept k3 (fun b hb h => ?_), ho.kept k3 (fun b hb h => ?_), fun k h1 h2 => ?_, (((k0.mono (fun _ h => h.elim)).trans kw (fun k h => .inl (.inl h))).trans ko (fun k h => .inl (.inr h))).trans k3 (fun k h => .inr (by omega)), fun k h => (fw k h).elim .inl (fun h => .inr (by omega)), fun k h => (fo k h).elim .inl (fun h => .inr (by omega))⟩
  · rcases fw b hb with h2 | h2
    · have := hF b h2; omega
    · omega
  · rcases fo b hb with h2 | h2
    · have := hG b h2; omega
    · omega
  · rcases fo k h2 with h | h
    · exact d1 k h1 h
    · have := hw.flt' k h1; omega

set_option maxHeartbeats 4000000 in
set_option maxRecDepth 100000 in
theorem put6o (F G Gb : Nat → Prop) (p q : Nat) (bs : List Nat) (e N Wd : Int) (Fl : Bool) (ba : Option Addr) (bn bc : Nat) (la : Option Addr) (ln lc : Nat) (M : Int) (xs : List Nat) (w : World) (hW : Wr w F p bs e) (hO : Ou w G q bs e) (D : ∀ k, F k → ¬ G k) (hsz : bs.length ≤ 1000000000)
    (hB : Bs w Gb ba bn bc xs) (hbF : ∀ k, Gb k → ¬ F k) (hbG : ∀ k, Gb k → ¬ G k) (hbl : ∀ k, Gb k → k < w.heap.size) (hbn : bn ≤ 1000000000) :
    Calls Try.prog 43 #[.pointer (some ⟨p, 0, none⟩), .pointer (some ⟨q, 0, none⟩), opV 6 N Wd Fl ba bn bc la ln lc M] w fun ex w' => ex = .returned (.bool true) ∧ Bw F G p q (layBs bs e xs) e w w' := by
  have HW : Hid (Wr w F p bs e) := hW
  have HO : Hid (Ou w G q bs e) := hO
  have HD : Hid (∀ k, F k → ¬ G k) := D
  have HB : Hid (Bs w Gb ba bn bc xs) := hB
  have HBF : Hid ((∀ k, Gb k → ¬ F k) ∧ (∀ k, Gb k → ¬ G k) ∧ (∀ k, Gb k → k < w.heap.size)) := ⟨hbF, hbG, hbl⟩
  have HL : Hid (xs.length = bn) := hB.len
  have HXL : Hid (∀ x ∈ xs, x < 256) := hB.lt
  have HF : Hid (∀ k, F k → k < w.heap.size) := hW.flt'
  have HG : Hid (∀ k, G k → k < w.heap.size) := hO.flt
  have ka : Kept No w (w.alloc (opW 6 N Wd Fl ba bn bc la ln lc M)) := (Kept.refl No w).alloc _
  have c13 := marked_any Gb ba bn bc xs _ (hB.kept ka (fun _ _ h => h)) hbn
  have HQ : Hid (OpBlk (w.alloc (opW 6 N Wd Fl ba bn bc la ln lc M)) w.heap.size 6 N Wd Fl ba bn bc la ln lc M) := heap_alloc_new _ _
  have HS : Hid ((w.alloc (opW 6 N Wd Fl ba bn bc la ln lc M)).heap.size = w.heap.size + 1) := size_alloc _ _
  have HKA : Hid (Kept No w (w.alloc (opW 6 N Wd Fl ba bn bc la ln lc M))) := ka
  clear hW hO D hB hbF hbG hbl ka
  unfold opV
  go_enter Try.func43, Try.ntmps43
  go_upto_region 19 with (go_at_call 13; refine c13.mono ?_; rintro ex w1 ⟨g1, cap1, rfl, own1, bel1⟩)
  clear c13
  generalize w.alloc (opW 6 N Wd Fl ba bn bc la ln lc M) = W0 at HQ HS HKA own1 bel1
  have HK1 : Hid (Kept No w w1) := HKA.out.trans (Kept.of_below (F := No) bel1) (fun _ h => h.elim)
  have O1 : Hid (w1.ownsRow W0.heap.size 5 1 (.slice (some ⟨g1, 0, none⟩) (bn + 70) cap1) (bn + 70) ((xs ++ List.replicate 70 165).map bv)) := own1
  have HG1 : Hid (W0.heap.size ≤ g1 ∧ g1 < w1.heap.size) := own1.lt g1 rfl
  have HQ1 : Hid (OpBlk w1 w.heap.size 6 N Wd Fl ba bn bc la ln lc M) := (Kept.of_below (F := No) bel1).at' HQ.out (fun h => h)
  have c46 := bytes_any F _ p bs e _ bn cap1 xs w1 (HW.out.kept HK1.out (fun _ _ h => h)) (marked_bs own1 HL.out HXL.out) (by omega)
  clear own1 bel1 HQ HKA
  go_upto_region 20 with (go_at_call 46; refine c46.mono ?_; rintro ex w2 ⟨rfl, hd2⟩)
  clear c46
  have HD2 : Hid (WrDid F p (layBs bs e xs) e w1 w2) := hd2
  have hk2 : Kept F w1 w2 := by obtain ⟨F', _, kw, _⟩ := hd2; exact kw
  have HK2 : Hid (Kept F w1 w2) := hk2
  have hq2 : OpBlk w2 w.heap.size 6 N Wd Fl ba bn bc la ln lc M := hk2.at' HQ1.out (fun h => by have := HF.out _ h; omega)
  have HQ2 : Hid (OpBlk w2 w.heap.size 6 N Wd Fl ba bn bc la ln lc M) := hq2
  have hB2 := (HB.out.kept HK1.out (fun _ _ h => h)).kept hk2 HBF.out.1
  have HB2 : Hid (Bs w2 Gb ba bn bc xs) := hB2
  have O2 : Hid (w2.ownsRow W0.heap.size 5 1 (.slice (some ⟨g1, 0, none⟩) (bn + 70) cap1) (bn + 70) ((xs ++ List.replicate 70 165).map bv)) := hk2.owns O1.out (fun k h h2 => by have := (O1.out.lt k h).1; have := HF.out k h2; have := HS.out; omega)
  have c85 := putOut_any G Gb q bs e ba bn bc xs w2 ((HO.out.kept HK1.out (fun _ _ h => h)).wr HD.out hd2) hB2 (by omega)
  obtain ⟨o0, o1, o2, o3, o4, o5, o6⟩ := hq2.at'
  clear hd2 hk2 hB2 hq2
  go_upto_region 21 with (go_at_call 85; refine c85.mono ?_; rintro ex w3 ⟨rfl, hd3⟩)
  clear c85 o0 o1 o2 o3 o4 o5 o6
  have hk3 : Kept G w2 w3 := by obtain ⟨F', _, kw, _⟩ := hd3; exact kw
  have HD3 : Hid (OuDid G q (layBs bs e xs) e w2 w3) := hd3
  have hq3 : OpBlk w3 w.heap.size 6 N Wd Fl ba bn bc la ln lc M := hk3.at' HQ2.out (fun h => by have := HG.out _ h; omega)
  have c17 := left_any' Gb W0.heap.size g1 bn cap1 ba bc xs w3 (HB2.out.kept hk3 HBF.out.2.1) (fun h => by have := HBF.out.2.2 g1 h; have := HG1.out.1; have := HS.out; omega) (hk3.owns O2.out (fun k h h2 => by have := (O2.out.lt k h).1; have := HG.out k h2; have := HS.out; omega)) hbn
  obtain ⟨o0, o1, o2, o3, o4, o5, o6⟩ := hq3.at'
  clear hd3 hk3 hq3
  go_wp2_with (go_at_call 17; refine c17.mono ?_; rintro ex w4 ⟨rfl, kp4⟩)
  go_ret
  exact ⟨rfl, bw_left HW.out HO.out HD.out HK1.out ⟨by have := HG1.out.1; have := HS.out; omega, HG1.out.2⟩ HD2.out HD3.out kp4⟩

end Go.Proofs.Ytakdfpenpodplaa
