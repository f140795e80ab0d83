/-
  One text: KLw.
-/
import Derived.Test.YtibmgpinfdcaoaaGreatDoorHFa
import Derived.Test.YtibmgpinfdcaoaaGreatDoorHFb
namespace Go.Proofs.YtibmgpinfdcaoaaGreatDoor
open Go.RowKit Plain
set_option linter.unusedVariables false
set_option linter.unusedSimpArgs false
set_option maxRecDepth 100000

set_option maxHeartbeats 32000000 in
theorem counts_law {F F' : Nat → Prop} {a ea : Option Addr} {c ec n : Nat} {xs : List Srv} {es : List Evt} (fr be p : Int) (w : World) (hg : Gl w) (h : Sv w F a xs.length c xs) (hF : ∀ k, F k → k < w.heap.size) (hn : xs.length * 32 ≤ 140737488351232) (he : Es w F' ea n ec es) (hF' : ∀ k, F' k → k < w.heap.size) (hok : okE7 es) (hnil : ea = none → ec = 0) (hb : n * 72 ≤ 140737488351232) :
    Calls Tryz.prog 3 #[.slice a xs.length c, .int .i64 fr, .int .i64 be, .slice ea n ec, .int .i64 p] w fun e w' => e = .returned (.bool true) ∧ Kept No w w' := by
  have HS := hid (And.intro hg (And.intro h (And.intro hF (And.intro he hF'))))
  have lt : ∀ W, Kept No w W → ∀ {G : Nat → Prop}, (∀ k, G k → k < w.heap.size) → ∀ k, G k → k < W.heap.size := fun W k G hG j e => Nat.lt_of_lt_of_le (hG j e) k.size
  have HLT := hid lt
  have c0 := marked_any w h hn
  have HFW : Hid (∀ W, Kept No w W → Calls Tryz.prog 14 #[.slice a xs.length c] W fun e w' => ∃ (ys : List Srv) (ya : Option Addr) (yc : Nat), e = .returned (.slice ya ys.length yc) ∧ ys.length ≤ xs.length ∧ Sv w' F ya ys.length yc ys ∧ Kept No W w') := fun W k => few_any W (h.keep k)
  have HPD : Hid (∀ W (ya : Option Addr) (yc : Nat) (ys : List Srv), Kept No w W → Sv W F ya ys.length yc ys → ys.length ≤ xs.length → Calls Tryz.prog 15 #[.slice ya ys.length yc, .int .i64 fr, .int .i64 be, .slice ea n ec, .int .i64 p] W fun e w' => e = .returned (.bool true) ∧ Kept No W w') := fun W ya yc ys k hs hl => placedC_any fr be p W (hg.kept k) hs (lt W k hF) (by omega) (he.keep k) (lt W k hF') hok hb
  have HHD : Hid (∀ W (ya : Option Addr) (yc : Nat) (ys : List Srv), Kept No w W → Sv W F ya ys.length yc ys → Calls Tryz.prog 16 #[.slice ya ys.length yc, .int .i64 fr, .int .i64 be, .slice ea n ec, .int .i64 p] W fun e w' => e = .returned (.bool true) ∧ Kept No W w') := fun W ya yc ys k hs => held_any fr be p W (hg.kept k) hs (lt W k hF) (he.keep k) (lt W k hF')
  have HEL : Hid (∀ W, Kept No w W → Calls Tryz.prog 17 #[.slice ea n ec, .int .i64 p] W fun e w' => e = .returned (.bool true) ∧ Kept No W w') := fun W k => eventsLeft_any p W (he.keep k) (lt W k hF') hnil hb
  have S1 : Hid (∀ W, Kept No w W → Calls Tryz.prog 6 #[.slice a xs.length c, .int .i64 fr, .int .i64 be] W fun e w' => ∃ ra rc, e = .returned (.tuple #[.slice ra (uN xs fr be) rc, .int .i64 (uE xs fr be)]) ∧ Nm w' (fun k => W.heap.size ≤ k ∧ k < w'.heap.size) ra (uN xs fr be) rc (uF xs fr be) ∧ Kept No W w') := fun W k => refUsed_any fr be W (h.keep k) (lt W k hF)
  have S2 : Hid (∀ W, Kept No w W → Calls Tryz.prog 8 #[.slice a xs.length c] W fun e w' => ∃ ra rc, e = .returned (.tuple #[.slice ra (sN xs) rc, .int .i64 (sE xs)]) ∧ Nm w' (fun k => W.heap.size ≤ k ∧ k < w'.heap.size) ra (sN xs) rc (sF xs) ∧ Kept No W w') := fun W k => refShares_any W (h.keep k) (lt W k hF)
  have S3 : Hid (∀ W, Kept No w W → Calls Tryz.prog 10 #[.slice ea n ec, .int .i64 p] W fun e w' => ∃ ra rc, e = .returned (.slice ra 12 rc) ∧ Nm w' (fun k => W.heap.size ≤ k ∧ k < w'.heap.size) ra 12 rc (ctE es p n) ∧ Kept No W w') := fun W k => refCounts_any p W (he.keep k)
  have C3 : Hid (∀ W, Kept No w W → Calls Tryz.prog 9 #[.slice ea n ec, .int .i64 p] W fun e w' => ∃ ra, e = .returned (.slice ra 12 12) ∧ Rw9 w' W.heap.size ra 12 (ctE es p n) ∧ Kept No W w') := fun W k => counts_all p W (he.keep k) (lt W k hF')
  have q1 := uN_32 xs fr be
  have q3 := sN_32 xs
  clear hg h hF he hF' lt hok hnil hb hn
  go_enter Tryz.func3, Tryz.ntmps3
  go_upto_region 2 with (go_at_call 4; refine c0.mono ?_; clear c0; rintro e w1 ⟨g, cm, rfl, g1, g2, mk, k1⟩; have H1 := hid (And.intro mk (And.intro k1 (And.intro g1 g2))); clear mk k1 g1 g2)
  have HU : Hid (∀ W, Kept No w1 W → Calls Tryz.prog 5 #[.slice (some ⟨g, 0, none⟩) xs.length cm, .int .i64 fr, .int .i64 be] W fun e w' => ∃ ra, e = .returned (.tuple #[.slice ra (uN xs fr be) (uN xs fr be), .int .i64 (uE xs fr be)]) ∧ Rw9 w' W.heap.size ra (uN xs fr be) (uF xs fr be) ∧ Kept No W w') := fun W k => used_all fr be W (HS.out.1.kept (H1.out.2.1.trans k (fun _ h => h.elim))) (H1.out.1.sv.keep k) (fun j e => by have e' : j = g := e; have := H1.out.2.2.2; have := k.size; omega)
  have HH : Hid (∀ W, Kept No w1 W → Calls Tryz.prog 7 #[.slice (some ⟨g, 0, none⟩) xs.length cm] W fun e w' => ∃ ra, e = .returned (.tuple #[.slice ra (sN xs) (sN xs), .int .i64 (sE xs)]) ∧ Rw9 w' W.heap.size ra (sN xs) (sF xs) ∧ Kept No W w') := fun W k => shares_all W (HS.out.1.kept (H1.out.2.1.trans k (fun _ h => h.elim))) (H1.out.1.sv.keep k) (fun j e => by have e' : j = g := e; have := H1.out.2.2.2; have := k.size; omega)
  have HLF : Hid (∀ W, Kept No w1 W → Calls Tryz.prog 12 #[.slice (some ⟨g, 0, none⟩) xs.length cm, .slice a xs.length c] W fun e w' => e = .returned (.bool true) ∧ Kept No W w') := fun W k => left_any W ((HS.out.2.1.keep H1.out.2.1).keep k) (H1.out.1.kept k (fun h => h))
  have d1 := HU.out w1 (Kept.refl _ _)
  go_upto_region 3 with (go_at_call 5; refine d1.mono ?_; clear d1; rintro e w2 ⟨a1, rfl, r1, k2⟩; have P2 := hid (And.intro k2 r1); clear k2 r1)
  have d2 := S1.out w2 (H1.out.2.1.trans P2.out.1 (fun _ h => h.elim))
  go_upto_region 4 with (go_at_call 6; refine d2.mono ?_; clear d2; rintro e w3 ⟨b1, c1, rfl, r1, k3⟩; have P3 := hid (And.intro k3 r1); have Q3 := hid (P2.out.1.trans k3 (fun _ h => h.elim)); clear k3 r1)
  have d3 := HH.out w3 Q3.out
  go_upto_region 5 with (go_at_call 7; refine d3.mono ?_; clear d3; rintro e w4 ⟨a2, rfl, r1, k4⟩; have P4 := hid (And.intro k4 r1); have Q4 := hid (Q3.out.trans k4 (fun _ h => h.elim)); clear k4 r1)
  have d4 := S2.out w4 (H1.out.2.1.trans Q4.out (fun _ h => h.elim))
  go_upto_region 6 with (go_at_call 8; refine d4.mono ?_; clear d4; rintro e w5 ⟨b2, c2, rfl, r1, k5⟩; have P5 := hid (And.intro k5 r1); have Q5 := hid (Q4.out.trans k5 (fun _ h => h.elim)); clear k5 r1)
  have d5 := C3.out w5 (H1.out.2.1.trans Q5.out (fun _ h => h.elim))
  go_upto_region 7 with (go_at_call 9; refine d5.mono ?_; clear d5; rintro e w6 ⟨a3, rfl, r1, k6⟩; have P6 := hid (And.intro k6 r1); have Q6 := hid (Q5.out.trans k6 (fun _ h => h.elim)); clear k6 r1)
  have d6 := S3.out w6 (H1.out.2.1.trans Q6.out (fun _ h => h.elim))
  go_upto_region 8 with (go_at_call 10; refine d6.mono ?_; clear d6; rintro e w7 ⟨b3, c3, rfl, r1, k7⟩; have P7 := hid (And.intro k7 r1); have Q7 := hid (Q6.out.trans k7 (fun _ h => h.elim)); clear k7 r1)
  have HZ : Hid (w1.heap.size ≤ w2.heap.size ∧ w2.heap.size ≤ w3.heap.size ∧ w3.heap.size ≤ w4.heap.size ∧ w4.heap.size ≤ w5.heap.size ∧ w5.heap.size ≤ w6.heap.size ∧ w6.heap.size ≤ w7.heap.size ∧ w.heap.size ≤ w1.heap.size) := ⟨P2.out.1.size, P3.out.1.size, P4.out.1.size, P5.out.1.size, P6.out.1.size, P7.out.1.size, H1.out.2.1.size⟩
  have HB : Hid ((∀ b, Bk9 a1 b → w1.heap.size ≤ b ∧ b < w2.heap.size) ∧ (∀ b, Bk9 a2 b → w3.heap.size ≤ b ∧ b < w4.heap.size) ∧ (∀ b, Bk9 a3 b → w5.heap.size ≤ b ∧ b < w6.heap.size)) := ⟨fun b hb => P2.out.2.bk hb, fun b hb => P4.out.2.bk hb, fun b hb => P6.out.2.bk hb⟩
  have k57 : Hid (Kept No w5 w7) := P6.out.1.trans P7.out.1 (fun _ h => h.elim)
  have k47 : Hid (Kept No w4 w7) := P5.out.1.trans k57.out (fun _ h => h.elim)
  have k37 : Hid (Kept No w3 w7) := P4.out.1.trans k47.out (fun _ h => h.elim)
  have k27 : Hid (Kept No w2 w7) := P3.out.1.trans k37.out (fun _ h => h.elim)
  have HR : Hid (Rw9 w7 w1.heap.size a1 (uN xs fr be) (uF xs fr be) ∧ Rw9 w7 w3.heap.size a2 (sN xs) (sF xs) ∧ Rw9 w7 w5.heap.size a3 12 (ctE es p n) ∧ Nm w7 (fun k => w2.heap.size ≤ k ∧ k < w3.heap.size) b1 (uN xs fr be) c1 (uF xs fr be) ∧ Nm w7 (fun k => w4.heap.size ≤ k ∧ k < w5.heap.size) b2 (sN xs) c2 (sF xs) ∧ Nm w7 (fun k => w6.heap.size ≤ k ∧ k < w7.heap.size) b3 12 c3 (ctE es p n)) := ⟨P2.out.2.keep k27.out, P4.out.2.keep k47.out, P6.out.2.keep P7.out.1, P3.out.2.keep k37.out, P5.out.2.keep k57.out, P7.out.2⟩
  clear P2 P3 P4 P5 P6 P7 Q3 Q4 Q5 Q6 k27 k37 k47 k57
  have t1 := sameI_yes w7 HR.out.1.nm HR.out.2.2.2.1
  have T2 : Hid (∀ W, Kept No w7 W → Calls Tryz.prog 11 #[.slice a2 (sN xs) (sN xs), .slice b2 (sN xs) c2] W fun e w' => e = .returned (.bool true) ∧ Kept No W w') := fun W k => sameI_yes W (HR.out.2.1.keep k).nm (HR.out.2.2.2.2.1.keep k)
  have T3 : Hid (∀ W, Kept No w7 W → Calls Tryz.prog 11 #[.slice a3 12 12, .slice b3 12 c3] W fun e w' => e = .returned (.bool true) ∧ Kept No W w') := fun W k => sameI_yes W (HR.out.2.2.1.keep k).nm (HR.out.2.2.2.2.2.keep k)
  go_upto_region 10 with (first
    | (go_at_call 11; refine t1.mono ?_; clear t1; rintro e w8 ⟨rfl, k8⟩; have K8 := hid k8; have t2 := T2.out w8 k8; clear k8)
    | (go_at_call 11; refine t2.mono ?_; clear t2; rintro e w9 ⟨rfl, k9⟩; have K9 := hid (K8.out.trans k9 (fun _ h => h.elim)); have t3 := T3.out w9 K9.out; clear k9)
    | (go_at_call 11; refine t3.mono ?_; clear t3; rintro e w10 ⟨rfl, k10⟩; have K10 := hid (K9.out.trans k10 (fun _ h => h.elim)); have t4 := HLF.out w10 (Q7.out.trans K10.out (fun _ h => h.elim)); clear k10)
    | (go_at_call 12; refine t4.mono ?_; clear t4; rintro e w11 ⟨rfl, k11⟩; have K11 := hid (K10.out.trans k11 (fun _ h => h.elim)); clear k11))
  clear K8 K9 K10 T2 T3 HLF
  have l1 := let_any w11 (HR.out.1.keep K11.out) (by omega)
  go_upto_region 11 with (go_at_call 13; refine l1.mono ?_; clear l1; rintro e w12 ⟨⟨v12, rfl⟩, k12⟩; have K12 := hid k12; clear k12)
  have l2 := let_any w12 ((HR.out.2.1.keep K11.out).kept K12.out (fun b e1 e2 => by have := HB.out.1 b e2; have := HB.out.2.1 b e1; have := HZ.out; omega)) (by omega)
  go_upto_region 12 with (go_at_call 13; refine l2.mono ?_; clear l2; rintro e w13 ⟨⟨v13, rfl⟩, k13⟩; have K13 := hid k13; clear k13)
  have l3 := let_any w13 (((HR.out.2.2.1.keep K11.out).kept K12.out (fun b e1 e2 => by have := HB.out.1 b e2; have := HB.out.2.2 b e1; have := HZ.out; omega)).kept K13.out (fun b e1 e2 => by have := HB.out.2.1 b e2; have := HB.out.2.2 b e1; have := HZ.out; omega)) (by omega)
  go_upto_region 13 with (go_at_call 13; refine l3.mono ?_; clear l3; rintro e w14 ⟨⟨v14, rfl⟩, k14⟩; have K14 := hid k14; clear k14)
  have HX : Hid (Kept No w w14 ∧ Mk w14 g xs.length cm xs ∧ Nm w14 (fun _ => True) b1 (uN xs fr be) c1 (uF xs fr be) ∧ Nm w14 (fun _ => True) b2 (sN xs) c2 (sF xs) ∧ Nm w14 (fun _ => True) b3 12 c3 (ctE es p n)) := by
    have z := HZ.out
    have kG : Kept (fun j => Bk9 a1 j ∨ Bk9 a2 j ∨ Bk9 a3 j) w11 w14 := ((K12.out.mono (fun j e => .inl e)).trans K13.out (fun j e => .inl (.inr (.inl e)))).trans K14.out (fun j e => .inl (.inr (.inr e)))
    have kw : Kept No w w11 := (H1.out.2.1.trans Q7.out (fun _ h => h.elim)).trans K11.out (fun _ h => h.elim)
    have hd : ∀ j, (Bk9 a1 j ∨ Bk9 a2 j ∨ Bk9 a3 j) → (w1.heap.size ≤ j ∧ j < w2.heap.size) ∨ (w3.heap.size ≤ j ∧ j < w4.heap.size) ∨ (w5.heap.size ≤ j ∧ j < w6.heap.size) := fun j e => by
      rcases e with e | e | e
      · exact .inl (HB.out.1 j e)
      · exact .inr (.inl (HB.out.2.1 j e))
      · exact .inr (.inr (HB.out.2.2 j e))
    refine ⟨kw.trans kG (fun j e => .inr (by have := hd j e; omega)), (H1.out.1.kept (Q7.out.trans K11.out (fun _ h => h.elim)) (fun h => h)).kept kG (fun e => by have := hd g e; have := H1.out.2.2.2; omega), ?_, ?_, ?_⟩
    · exact ((HR.out.2.2.2.1.keep K11.out).kept kG (fun b e1 e2 => by have e1' : w2.heap.size ≤ b ∧ b < w3.heap.size := e1; have := hd b e2; omega)).mono (fun _ _ => trivial)
    · exact ((HR.out.2.2.2.2.1.keep K11.out).kept kG (fun b e1 e2 => by have e1' : w4.heap.size ≤ b ∧ b < w5.heap.size := e1; have := hd b e2; omega)).mono (fun _ _ => trivial)
    · exact ((HR.out.2.2.2.2.2.keep K11.out).kept kG (fun b e1 e2 => by have e1' : w6.heap.size ≤ b ∧ b < w7.heap.size := e1; have := hd b e2; omega)).mono (fun _ _ => trivial)
  have hgg : Hid (g < w14.heap.size) := by have := H1.out.2.2.2; have := Q7.out.size; have := K11.out.size; have := K12.out.size; have := K13.out.size; have := K14.out.size; show g < w14.heap.size; omega
  clear K11 K12 K13 K14 HR HB HZ Q7 HU HH H1 S1 S2 S3
  have HU : Hid (∀ W, Kept No w14 W → Calls Tryz.prog 5 #[.slice (some ⟨g, 0, none⟩) xs.length cm, .int .i64 fr, .int .i64 be] W fun e w' => ∃ ra, e = .returned (.tuple #[.slice ra (uN xs fr be) (uN xs fr be), .int .i64 (uE xs fr be)]) ∧ Rw9 w' W.heap.size ra (uN xs fr be) (uF xs fr be) ∧ Kept No W w') := fun W k => used_all fr be W (HS.out.1.kept (HX.out.1.trans k (fun _ h => h.elim))) (HX.out.2.1.sv.keep k) (fun j e => by have e' : j = g := e; have := hgg.out; have := k.size; omega)
  have HH : Hid (∀ W, Kept No w14 W → Calls Tryz.prog 7 #[.slice (some ⟨g, 0, none⟩) xs.length cm] W fun e w' => ∃ ra, e = .returned (.tuple #[.slice ra (sN xs) (sN xs), .int .i64 (sE xs)]) ∧ Rw9 w' W.heap.size ra (sN xs) (sF xs) ∧ Kept No W w') := fun W k => shares_all W (HS.out.1.kept (HX.out.1.trans k (fun _ h => h.elim))) (HX.out.2.1.sv.keep k) (fun j e => by have e' : j = g := e; have := hgg.out; have := k.size; omega)
  have HLF : Hid (∀ W, Kept No w14 W → Calls Tryz.prog 12 #[.slice (some ⟨g, 0, none⟩) xs.length cm, .slice a xs.length c] W fun e w' => e = .returned (.bool true) ∧ Kept No W w') := fun W k => left_any W ((HS.out.2.1.keep HX.out.1).keep k) (HX.out.2.1.kept k (fun h => h))
  have f1 := HFW.out w14 HX.out.1
  clear HS hgg HFW
  generalize uN xs fr be = N1 at *
  generalize uE xs fr be = E1 at *
  generalize uF xs fr be = g1 at *
  generalize sN xs = N3 at *
  generalize sE xs = E3 at *
  generalize sF xs = g3 at *
  generalize ctE es p n = g5 at *
  go_upto_region 14 with (go_at_call 14; refine f1.mono ?_; clear f1; rintro e w15 ⟨ys, ya, yc, rfl, hyl, hys, k15⟩; have K15 := hid (And.intro k15 (And.intro hys hyl)); clear k15 hys hyl)
  have HFIN : Hid (∀ W, Kept No w15 W → Calls Tryz.prog 9 #[.slice ea n ec, .int .i64 p] W (fun e w' => ∃ ra, e = .returned (.slice ra 12 12) ∧ Rw9 w' W.heap.size ra 12 g5 ∧ Kept No W w')) := fun W k => C3.out W ((HX.out.1.trans K15.out.1 (fun _ h => h.elim)).trans k (fun _ h => h.elim))
  by_cases hq : ys.length = xs.length
  · have hqz : ((ys.length : Int) == (xs.length : Int)) = true := by rw [hq]; simp
    have u1 := HU.out w15 K15.out.1
    clear hq
    go_upto_region 16 with (go_at_call 5; refine u1.mono ?_; clear u1; rintro e w16 ⟨x1, rfl, r1, k16⟩; have K16 := hid (And.intro k16 (r1.nm.mono (H := fun _ => True) (fun _ _ => trivial))); clear k16 r1)
    have u2 := HH.out w16 (K15.out.1.trans K16.out.1 (fun _ h => h.elim))
    go_upto_region 17 with (go_at_call 7; refine u2.mono ?_; clear u2; rintro e w17 ⟨x2, rfl, r1, k17⟩; have K17 := hid (And.intro (K16.out.1.trans k17 (fun _ h => h.elim)) (And.intro (K16.out.2.keep k17) (r1.nm.mono (H := fun _ => True) (fun _ _ => trivial)))); clear k17 r1)
    have t3 := sameI_yes w17 K17.out.2.1 (HX.out.2.2.1.keep (K15.out.1.trans K17.out.1 (fun _ h => h.elim)))
    have T4 : Hid (∀ W, Kept No w17 W → Calls Tryz.prog 11 #[.slice x2 N3 N3, .slice b2 N3 c2] W fun e w' => e = .returned (.bool true) ∧ Kept No W w') := fun W k => sameI_yes W (K17.out.2.2.keep k) ((HX.out.2.2.2.1.keep (K15.out.1.trans K17.out.1 (fun _ h => h.elim))).keep k)
    go_upto_region 19 with (first
      | (go_at_call 11; refine t3.mono ?_; clear t3; rintro e w18 ⟨rfl, k18⟩; have K18 := hid k18; have t4 := T4.out w18 k18; clear k18)
      | (go_at_call 11; refine t4.mono ?_; clear t4; rintro e w19 ⟨rfl, k19⟩; have K19 := hid ((K17.out.1.trans K18.out (fun _ h => h.elim)).trans k19 (fun _ h => h.elim)); clear k19))
    clear K16 K17 K18 T4
    have e1 := HFIN.out w19 K19.out
    go_upto_region 21 with (first
      | (go_at_call 9; refine e1.mono ?_; clear e1; rintro e w20 ⟨x3, rfl, r1, k20⟩; have K20 := hid ((K19.out).trans k20 (fun _ h => h.elim)); have t5 := sameI_yes w20 r1.nm (HX.out.2.2.2.2.keep (K15.out.1.trans K20.out (fun _ h => h.elim))); clear k20 r1)
      | (go_at_call 11; refine t5.mono ?_; clear t5; rintro e w21 ⟨rfl, k21⟩; have K21 := hid (K20.out.trans k21 (fun _ h => h.elim)); have t6 := HLF.out w21 (K15.out.1.trans K21.out (fun _ h => h.elim)); clear k21)
      | (go_at_call 12; refine t6.mono ?_; clear t6; rintro e w22 ⟨rfl, k22⟩; have K22 := hid (K21.out.trans k22 (fun _ h => h.elim)); clear k22))
    have p1 := HPD.out w22 ya yc ys ((HX.out.1.trans K15.out.1 (fun _ h => h.elim)).trans K22.out (fun _ h => h.elim)) (K15.out.2.1.keep K22.out) K15.out.2.2
    clear K20 K21
    go_wp2_with (first
      | (go_at_call 15; refine p1.mono ?_; clear p1; rintro e w23 ⟨rfl, k23⟩; have K23 := hid (K22.out.trans k23 (fun _ h => h.elim)); have p2 := HHD.out w23 ya yc ys ((HX.out.1.trans K15.out.1 (fun _ h => h.elim)).trans K23.out (fun _ h => h.elim)) (K15.out.2.1.keep K23.out); clear k23)
      | (go_at_call 16; refine p2.mono ?_; clear p2; rintro e w24 ⟨rfl, k24⟩; have K24 := hid (K23.out.trans k24 (fun _ h => h.elim)); have p3 := HEL.out w24 ((HX.out.1.trans K15.out.1 (fun _ h => h.elim)).trans K24.out (fun _ h => h.elim)); clear k24)
      | (go_at_call 17; refine p3.mono ?_; clear p3; rintro e w25 ⟨rfl, k25⟩; have K25 := hid (K24.out.trans k25 (fun _ h => h.elim)); clear k25))
    go_ret
    exact ⟨rfl, (HX.out.1.trans K15.out.1 (fun _ h => h.elim)).trans K25.out (fun _ h => h.elim)⟩
  · have hqz : ((ys.length : Int) == (xs.length : Int)) = false := by simpa using (show ¬ (ys.length : Int) = (xs.length : Int) by omega)
    clear hq
    go_upto_region 19 with fail
    have e1 := HFIN.out w15 (Kept.refl No w15)
    go_upto_region 21 with (first
      | (go_at_call 9; refine e1.mono ?_; clear e1; rintro e w20 ⟨x3, rfl, r1, k20⟩; have K20 := hid ((Kept.refl No w15).trans k20 (fun _ h => h.elim)); have t5 := sameI_yes w20 r1.nm (HX.out.2.2.2.2.keep (K15.out.1.trans K20.out (fun _ h => h.elim))); clear k20 r1)
      | (go_at_call 11; refine t5.mono ?_; clear t5; rintro e w21 ⟨rfl, k21⟩; have K21 := hid (K20.out.trans k21 (fun _ h => h.elim)); have t6 := HLF.out w21 (K15.out.1.trans K21.out (fun _ h => h.elim)); clear k21)
      | (go_at_call 12; refine t6.mono ?_; clear t6; rintro e w22 ⟨rfl, k22⟩; have K22 := hid (K21.out.trans k22 (fun _ h => h.elim)); clear k22))
    have p1 := HPD.out w22 ya yc ys ((HX.out.1.trans K15.out.1 (fun _ h => h.elim)).trans K22.out (fun _ h => h.elim)) (K15.out.2.1.keep K22.out) K15.out.2.2
    clear K20 K21
    go_wp2_with (first
      | (go_at_call 15; refine p1.mono ?_; clear p1; rintro e w23 ⟨rfl, k23⟩; have K23 := hid (K22.out.trans k23 (fun _ h => h.elim)); have p2 := HHD.out w23 ya yc ys ((HX.out.1.trans K15.out.1 (fun _ h => h.elim)).trans K23.out (fun _ h => h.elim)) (K15.out.2.1.keep K23.out); clear k23)
      | (go_at_call 16; refine p2.mono ?_; clear p2; rintro e w24 ⟨rfl, k24⟩; have K24 := hid (K23.out.trans k24 (fun _ h => h.elim)); have p3 := HEL.out w24 ((HX.out.1.trans K15.out.1 (fun _ h => h.elim)).trans K24.out (fun _ h => h.elim)); clear k24)
      | (go_at_call 17; refine p3.mono ?_; clear p3; rintro e w25 ⟨rfl, k25⟩; have K25 := hid (K24.out.trans k25 (fun _ h => h.elim)); clear k25))
    go_ret
    exact ⟨rfl, (HX.out.1.trans K15.out.1 (fun _ h => h.elim)).trans K25.out (fun _ h => h.elim)⟩
end Go.Proofs.YtibmgpinfdcaoaaGreatDoor
