/-
  The closure that reads a channel.
-/
import Derived.Test.YtolmhoenjcinjaaGreatIGetI
import Derived.Test.YtolmhoenjcinjaaGreatIWide
import Derived.Test.YtolmhoenjcinjaaGreatIAsks
namespace Go.Proofs.YtolmhoenjcinjaaGreat
open Go.RowKit
set_option linter.unusedVariables false
set_option maxRecDepth 100000

theorem own_slice {w : World} {B : Nat} {t : TypeId} {sz : Nat} {v : Value} {n : Nat} {xs : List Value} (h : w.ownsRow B t sz v n xs) : ∃ a m c, v = .slice a m c := by
  obtain ⟨_, ⟨rfl, _⟩ | ⟨g, cap, cur, rfl, _⟩⟩ := h
  · exact ⟨_, _, _, rfl⟩
  · exact ⟨_, _, _, rfl⟩
theorem clI_flat (l : List Int) : (l.map clI).flatten = l.map iv := by
  induction l with
  | nil => rfl
  | cons x l ih => rw [List.map_cons, List.flatten_cons, ih]; rfl
theorem nar_of {w : World} {B : Nat} {a : Option Addr} {n c : Nat} {l : List Int} (h : OwI w B (.slice a n c) l) :
    (Calls Tryz.prog 120 #[.slice a n c] w fun ex w' => ∃ v, ex = .returned v ∧ w'.ownsRow w.heap.size 3 1 v l.length (l.map iv) ∧ Kept No w w') ∧ Hid (l.length = n) := by
  have h1 := h.1
  rw [clI_flat] at h1
  obtain ⟨a', c', e, hL⟩ := Ls.of_owns h1 h.2.1
  injection e with e1 e2 e3
  subst e1 e2 e3
  exact ⟨narrowed_any _ a _ c l w hL (fun k hk => (h1.lt k hk).2) (by have := h.2.2; omega), rfl⟩
/-- a channel that is the caller's own: its list lies in a block of its own, made since -/
structure ChO (w : World) (B : Nat) (cs : List Value) (x : Ch) : Prop where
  sl : ∃ a n c, cs = [.int .i64 x.kd, .int .i64 x.fr, .slice a n c, .int .i64 x.ph, .int .i64 x.pe] ∧ w.ownsRow B 3 1 (.slice a n c) x.dst.length (x.dst.map iv)
  ok : okCh x

set_option maxHeartbeats 8000000 in
theorem askCh (F : Nat → Prop) (p : Nat) (xs : List Nat) (e : Int) (w : World) (h : Rd w F p xs e) (hsz : xs.length ≤ 1048576) :
    Calls Tryz.prog 119 #[.pointer (some ⟨p, 0, none⟩)] w fun ex w' => ∃ (x : Ch) (s' : St) (cs : List Value), ex = .returned (.agg cs.toArray) ∧ ChO w' w.heap.size cs x ∧ Got decCh (xs, e) x s' ∧ RdDid F p s'.1 s'.2 w w' := by
  have F0 : Hid (Fil w F p [.int .i64 0, .int .i64 0, .slice none 0 0, .int .i64 0, .int .i64 0] [.int .i64 0, .int .i64 0, .slice none 0 0, .int .i64 0, .int .i64 0] 68 (xs, e) ((w.alloc (.cells #[.int .i64 0, .int .i64 0, .slice none 0 0, .int .i64 0, .int .i64 0] 68)).alloc (.cells #[.int .i64 0, .int .i64 0, .slice none 0 0, .int .i64 0, .int .i64 0] 68))) := Fil.new (s := (xs, e)) h [.int .i64 0, .int .i64 0, .slice none 0 0, .int .i64 0, .int .i64 0] 68
  have HL0 : Hid (xs.length ≤ 1048576) := hsz
  clear h hsz
  go_enter Tryz.func119, Tryz.ntmps119
  go_upto_region 2 with fail
  generalize (w.alloc (.cells #[.int .i64 0, .int .i64 0, .slice none 0 0, .int .i64 0, .int .i64 0] 68)).alloc (.cells #[.int .i64 0, .int .i64 0, .slice none 0 0, .int .i64 0, .int .i64 0] 68) = w0 at *
  have cp := getNumber_any F p xs e w0 F0.out.rd
  go_upto_region 3 with (go_at_call 107; refine cp.mono ?_; rintro ex v0 ⟨x0, s1, rfl, hx0, hg0, hd0⟩; have G0 : Hid (Fil w F p [.int .i64 0, .int .i64 0, .slice none 0 0, .int .i64 0, .int .i64 0] [.int .i64 0, .int .i64 0, .slice none 0 0, .int .i64 0, .int .i64 0] 68 s1 v0) := F0.out.did hd0; have D0 : Hid (Kept (fun k => k < w.heap.size + 2) w0 v0) := hd0.2.mono (fun k e => by have := G0.out.fl p G0.out.fp; omega); have HGX0 : Hid (Got decI (xs, e) x0 s1) := hg0; have q0_0 := G0.out.b3.cell (j := 0) rfl; have z0_0 := G0.out.b3.fz 0; clear hd0 hg0)
  have F1 : Hid (Fil w F p [.int .i64 0, .int .i64 0, .slice none 0 0, .int .i64 0, .int .i64 0] [.int .i64 x0, .int .i64 0, .slice none 0 0, .int .i64 0, .int .i64 0] 68 s1 (v0.setCell ⟨w.heap.size + 1, 0, none⟩ (.int .i64 x0))) := (G0.out.set 0 _)
  have K0 : Hid (Kept (fun k => k < w.heap.size + 2) v0 (v0.setCell ⟨w.heap.size + 1, 0, none⟩ (.int .i64 x0))) := ((Kept.refl (fun k => k < w.heap.size + 2) v0).setCell (p := ⟨w.heap.size + 1, 0, none⟩) (.inl (by show w.heap.size + 1 < w.heap.size + 2; omega)) _)
  have HL1 : Hid (s1.1.length ≤ 1048576) := Nat.le_trans HGX0.out.len HL0.out
  generalize (v0.setCell ⟨w.heap.size + 1, 0, none⟩ (.int .i64 x0)) = w1 at *
  clear cp q0_0 z0_0 G0
  have cp := getNumber_any F p s1.1 s1.2 w1 F1.out.rd
  go_upto_region 4 with (go_at_call 107; refine cp.mono ?_; rintro ex v1 ⟨x1, s2, rfl, hx1, hg1, hd1⟩; have G1 : Hid (Fil w F p [.int .i64 0, .int .i64 0, .slice none 0 0, .int .i64 0, .int .i64 0] [.int .i64 x0, .int .i64 0, .slice none 0 0, .int .i64 0, .int .i64 0] 68 s2 v1) := F1.out.did hd1; have D1 : Hid (Kept (fun k => k < w.heap.size + 2) w1 v1) := hd1.2.mono (fun k e => by have := G1.out.fl p G1.out.fp; omega); have HGX1 : Hid (Got decI (s1.1, s1.2) x1 s2) := hg1; have q1_1 := G1.out.b3.cell (j := 1) rfl; have z1_1 := G1.out.b3.fz 1; clear hd1 hg1)
  have F2 : Hid (Fil w F p [.int .i64 0, .int .i64 0, .slice none 0 0, .int .i64 0, .int .i64 0] [.int .i64 x0, .int .i64 x1, .slice none 0 0, .int .i64 0, .int .i64 0] 68 s2 (v1.setCell ⟨w.heap.size + 1, 1, none⟩ (.int .i64 x1))) := (G1.out.set 1 _)
  have K1 : Hid (Kept (fun k => k < w.heap.size + 2) v1 (v1.setCell ⟨w.heap.size + 1, 1, none⟩ (.int .i64 x1))) := ((Kept.refl (fun k => k < w.heap.size + 2) v1).setCell (p := ⟨w.heap.size + 1, 1, none⟩) (.inl (by show w.heap.size + 1 < w.heap.size + 2; omega)) _)
  have HL2 : Hid (s2.1.length ≤ 1048576) := Nat.le_trans HGX1.out.len HL1.out
  generalize (v1.setCell ⟨w.heap.size + 1, 1, none⟩ (.int .i64 x1)) = w2 at *
  clear cp q1_1 z1_1 G1
  have HB2 : Hid (w.heap.size + 2 ≤ w2.heap.size) := F2.out.b3.lt
  have cp := get_I F p s2.1 s2.2 w2 F2.out.rd HL2.out
  go_upto_region 5 with (first
    | (go_at_call 108; refine cp.mono ?_; rintro ex va ⟨ua, x2, s3, rfl, hoa, hg2, hda⟩; obtain ⟨aa, na, ca, hua⟩ := own_slice hoa.1; subst hua; obtain ⟨cq, HXL⟩ := nar_of hoa; have DA : Hid (RdDid F p s3.1 s3.2 w2 va) := hda; have HOX : Hid (okL I6 x2) := hoa.2.1; have HGX2 : Hid (Got (decL decI) (s2.1, s2.2) x2 s3) := hg2; clear hoa hda hg2)
    | (go_at_call 120; refine cq.mono ?_; rintro ex v2 ⟨un, rfl, hon, hkn⟩; obtain ⟨a2, n2, c2, hun⟩ := own_slice hon; subst hun; have HO2 : Hid (v2.ownsRow va.heap.size 3 1 (.slice a2 n2 c2) x2.length (x2.map iv) ∧ w2.heap.size ≤ va.heap.size) := ⟨hon, DA.out.2.size⟩; have G2 : Hid (Fil w F p [.int .i64 0, .int .i64 0, .slice none 0 0, .int .i64 0, .int .i64 0] [.int .i64 x0, .int .i64 x1, .slice none 0 0, .int .i64 0, .int .i64 0] 68 s3 v2) := F2.out.did ⟨DA.out.1.kept hkn (fun _ _ h => h), DA.out.2.trans hkn (fun _ h => h.elim)⟩; have D2 : Hid (Kept (fun k => k < w.heap.size + 2) w2 v2) := (DA.out.2.trans hkn (fun _ h => h.elim)).mono (fun k e => by have := G2.out.fl p G2.out.fp; omega); have q2_2 := G2.out.b3.cell (j := 2) rfl; have z2_2 := G2.out.b3.fz 2; clear hon hkn))
  have F3 : Hid (Fil w F p [.int .i64 0, .int .i64 0, .slice none 0 0, .int .i64 0, .int .i64 0] [.int .i64 x0, .int .i64 x1, .slice a2 n2 c2, .int .i64 0, .int .i64 0] 68 s3 (v2.setCell ⟨w.heap.size + 1, 2, none⟩ (.slice a2 n2 c2))) := (G2.out.set 2 _)
  have K2 : Hid (Kept (fun k => k < w.heap.size + 2) v2 (v2.setCell ⟨w.heap.size + 1, 2, none⟩ (.slice a2 n2 c2))) := ((Kept.refl (fun k => k < w.heap.size + 2) v2).setCell (p := ⟨w.heap.size + 1, 2, none⟩) (.inl (by show w.heap.size + 1 < w.heap.size + 2; omega)) _)
  have HL3 : Hid (s3.1.length ≤ 1048576) := Nat.le_trans HGX2.out.len HL2.out
  generalize (v2.setCell ⟨w.heap.size + 1, 2, none⟩ (.slice a2 n2 c2)) = w3 at *
  clear cp q2_2 z2_2 G2 cq
  have cp := getNumber_any F p s3.1 s3.2 w3 F3.out.rd
  go_upto_region 6 with (go_at_call 107; refine cp.mono ?_; rintro ex v3 ⟨x3, s4, rfl, hx3, hg3, hd3⟩; have G3 : Hid (Fil w F p [.int .i64 0, .int .i64 0, .slice none 0 0, .int .i64 0, .int .i64 0] [.int .i64 x0, .int .i64 x1, .slice a2 n2 c2, .int .i64 0, .int .i64 0] 68 s4 v3) := F3.out.did hd3; have D3 : Hid (Kept (fun k => k < w.heap.size + 2) w3 v3) := hd3.2.mono (fun k e => by have := G3.out.fl p G3.out.fp; omega); have HGX3 : Hid (Got decI (s3.1, s3.2) x3 s4) := hg3; have q3_3 := G3.out.b3.cell (j := 3) rfl; have z3_3 := G3.out.b3.fz 3; clear hd3 hg3)
  have F4 : Hid (Fil w F p [.int .i64 0, .int .i64 0, .slice none 0 0, .int .i64 0, .int .i64 0] [.int .i64 x0, .int .i64 x1, .slice a2 n2 c2, .int .i64 x3, .int .i64 0] 68 s4 (v3.setCell ⟨w.heap.size + 1, 3, none⟩ (.int .i64 x3))) := (G3.out.set 3 _)
  have K3 : Hid (Kept (fun k => k < w.heap.size + 2) v3 (v3.setCell ⟨w.heap.size + 1, 3, none⟩ (.int .i64 x3))) := ((Kept.refl (fun k => k < w.heap.size + 2) v3).setCell (p := ⟨w.heap.size + 1, 3, none⟩) (.inl (by show w.heap.size + 1 < w.heap.size + 2; omega)) _)
  have HL4 : Hid (s4.1.length ≤ 1048576) := Nat.le_trans HGX3.out.len HL3.out
  generalize (v3.setCell ⟨w.heap.size + 1, 3, none⟩ (.int .i64 x3)) = w4 at *
  clear cp q3_3 z3_3 G3
  have cp := getNumber_any F p s4.1 s4.2 w4 F4.out.rd
  go_upto_region 7 with (go_at_call 107; refine cp.mono ?_; rintro ex v4 ⟨x4, s5, rfl, hx4, hg4, hd4⟩; have G4 : Hid (Fil w F p [.int .i64 0, .int .i64 0, .slice none 0 0, .int .i64 0, .int .i64 0] [.int .i64 x0, .int .i64 x1, .slice a2 n2 c2, .int .i64 x3, .int .i64 0] 68 s5 v4) := F4.out.did hd4; have D4 : Hid (Kept (fun k => k < w.heap.size + 2) w4 v4) := hd4.2.mono (fun k e => by have := G4.out.fl p G4.out.fp; omega); have HGX4 : Hid (Got decI (s4.1, s4.2) x4 s5) := hg4; have q4_4 := G4.out.b3.cell (j := 4) rfl; have z4_4 := G4.out.b3.fz 4; clear hd4 hg4)
  have F5 : Hid (Fil w F p [.int .i64 0, .int .i64 0, .slice none 0 0, .int .i64 0, .int .i64 0] [.int .i64 x0, .int .i64 x1, .slice a2 n2 c2, .int .i64 x3, .int .i64 x4] 68 s5 (v4.setCell ⟨w.heap.size + 1, 4, none⟩ (.int .i64 x4))) := (G4.out.set 4 _)
  have K4 : Hid (Kept (fun k => k < w.heap.size + 2) v4 (v4.setCell ⟨w.heap.size + 1, 4, none⟩ (.int .i64 x4))) := ((Kept.refl (fun k => k < w.heap.size + 2) v4).setCell (p := ⟨w.heap.size + 1, 4, none⟩) (.inl (by show w.heap.size + 1 < w.heap.size + 2; omega)) _)
  have HL5 : Hid (s5.1.length ≤ 1048576) := Nat.le_trans HGX4.out.len HL4.out
  generalize (v4.setCell ⟨w.heap.size + 1, 4, none⟩ (.int .i64 x4)) = w5 at *
  clear cp q4_4 z4_4 G4
  have q0 := F5.out.b3.cell (j := 0) rfl
  have y0 := F5.out.b2.cell (j := 0) rfl
  have f0 := F5.out.b2.fz 0
  have q1 := F5.out.b3.cell (j := 1) rfl
  have y1 := F5.out.b2.cell (j := 1) rfl
  have f1 := F5.out.b2.fz 1
  have q2 := F5.out.b3.cell (j := 2) rfl
  have y2 := F5.out.b2.cell (j := 2) rfl
  have f2 := F5.out.b2.fz 2
  have q3 := F5.out.b3.cell (j := 3) rfl
  have y3 := F5.out.b2.cell (j := 3) rfl
  have f3 := F5.out.b2.fz 3
  have q4 := F5.out.b3.cell (j := 4) rfl
  have y4 := F5.out.b2.cell (j := 4) rfl
  have f4 := F5.out.b2.fz 4
  have HEND : Hid (Fil w F p [.int .i64 0, .int .i64 0, .slice none 0 0, .int .i64 0, .int .i64 0] [.int .i64 x0, .int .i64 x1, .slice a2 n2 c2, .int .i64 x3, .int .i64 x4] 68 s5 w5) := F5.out
  go_wp2
  refine bodyPost_ret (results_cell_row rfl _ _ w.heap.size 68 #[.int .i64 x0, .int .i64 x1, .slice a2 n2 c2, .int .i64 x3, .int .i64 x4] (0, 0) _ rfl (set5 HEND.out.b2) Tryz.underlying68 rfl (by kernel_rfl)) rfl ?_
  have ks := setK5 w5 w.heap.size (.int .i64 x0) (.int .i64 x1) (.slice a2 n2 c2) (.int .i64 x3) (.int .i64 x4)
  have ks2 := ks.mono (G := fun k => k < w.heap.size + 2) (fun k e => by omega)
  refine ⟨⟨x0, x1, x2, x3, x4⟩, s5, [.int .i64 x0, .int .i64 x1, .slice a2 n2 c2, .int .i64 x3, .int .i64 x4], rfl, ⟨⟨a2, n2, c2, rfl, ?_⟩, hx0, hx1, HOX.out, hx3, hx4⟩, (HGX0.out.bind (HGX1.out.bind (HGX2.out.bind (HGX3.out.bind (HGX4.out.bind (Got.pure _ _)))))), HEND.out.rd.kept ks (fun b hb e => by have := HEND.out.fl b hb; omega), HEND.out.kp.trans ks (fun k e => .inr (by omega))⟩
  exact owns_base ((((((K2.out.trans D3.out (fun _ h => .inl h)).trans K3.out (fun _ h => .inl h)).trans D4.out (fun _ h => .inl h)).trans K4.out (fun _ h => .inl h)).trans ks2 (fun _ h => .inl h)).owns HO2.out.1 (fun g hg e => by have h1 := (HO2.out.1.lt g hg).1; have h2 := HO2.out.2; have h3 := HB2.out; omega)) (by have h2 := HO2.out.2; have h3 := HB2.out; omega)

end Go.Proofs.YtolmhoenjcinjaaGreat
