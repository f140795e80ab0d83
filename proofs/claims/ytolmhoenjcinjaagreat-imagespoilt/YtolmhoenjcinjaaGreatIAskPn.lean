/-
  The closure that reads a partition.
-/
import Derived.Test.YtolmhoenjcinjaaGreatIGetI
import Derived.Test.YtolmhoenjcinjaaGreatIGetB
import Derived.Test.YtolmhoenjcinjaaGreatIGetIns
import Derived.Test.YtolmhoenjcinjaaGreatIGets
import Derived.Test.YtolmhoenjcinjaaGreatIAskCh
import Derived.Test.YtolmhoenjcinjaaGreatIPutPn
namespace Go.Proofs.YtolmhoenjcinjaaGreat
open Go.RowKit
set_option linter.unusedVariables false
set_option maxRecDepth 100000

/-- a partition that is the caller's own: its lists lie in blocks of their own, made since -/
structure PnO (w : World) (B : Nat) (cs : List Value) (x : Pn) : Prop where
  sl : ∃ a0 n0 c0 a1 n1 c1 a2 n2 c2 a3 n3 c3 a4 n4 c4 a5 n5 c5, cs = [.int .i64 x.pe, .int .i64 x.bu, .int .i64 x.off, .int .i64 x.pr, .int .i64 x.wo, .int .i64 x.fi, .slice a0 n0 c0, .slice a1 n1 c1, .slice a2 n2 c2, .int .i64 x.ha, .int .i64 x.h0, .int .i64 x.h1, .int .i64 x.h2, .int .i64 x.h3, .int .i64 x.h4, .int .i64 x.h5, .int .i64 x.h6, .int .i64 x.h7, .slice a3 n3 c3, .slice a4 n4 c4, .slice a5 n5 c5] ∧
    OwI w B (.slice a0 n0 c0) x.init ∧ OwIns w B (.slice a1 n1 c1) x.code ∧ OwPrc w B (.slice a2 n2 c2) x.procs ∧ OwSm w B (.slice a3 n3 c3) x.sems ∧ OwB w B (.slice a4 n4 c4) x.evs ∧ OwBf w B (.slice a5 n5 c5) x.bufs
  ok : okPn x
theorem decPn_eq : decPn = dBind decSrv (fun sv => dBind decI (fun wo => dBind decI (fun fi => dBind (decL decI) (fun init => dBind (decL decIns) (fun code => dBind (decL decPrc) (fun procs => dBind decI (fun ha => dBind (decNn decI 8) (fun hs => dBind (decL decSm) (fun sems => dBind (decL decB) (fun evs => dBind (decL decBf) (fun bufs => dPure ⟨sv.pe, sv.bu, sv.off, sv.pr, wo, fi, init, code, procs, ha, hs.getD 0 0, hs.getD 1 0, hs.getD 2 0, hs.getD 3 0, hs.getD 4 0, hs.getD 5 0, hs.getD 6 0, hs.getD 7 0, sems, evs, bufs⟩))))))))))) := by
  unfold decPn decSrv
  simp only [decNn, dBind_assoc, dPure_bind]
  rfl
theorem hs8 {hs : List Int} (h : hs.length = 8) : ∃ a b c d e f g i, hs = [a, b, c, d, e, f, g, i] := by
  match hs, h with
  | [a, b, c, d, e, f, g, i], _ => exact ⟨a, b, c, d, e, f, g, i, rfl⟩
/-- the cells while the table is read -/
def hcs (A : List Value) (hs : List Int) (Z : List Value) : List Value := A ++ (hs.map iv ++ (List.replicate (8 - hs.length) (iv 0) ++ Z))
theorem hcs_at {A Z : List Value} {hs : List Int} {k : Nat} (hA : A.length = 10) (hk : hs.length = k) (h8 : k < 8) : (hcs A hs Z)[10 + k]? = some (iv 0) := by
  unfold hcs
  rw [List.getElem?_append_right (by omega), hA, show 10 + k - 10 = k by omega, List.getElem?_append_right (by rw [List.length_map]; omega), List.length_map, hk, Nat.sub_self, show 8 - k = (7 - k) + 1 by omega, List.replicate_succ]
  rfl
theorem hcs_set {A Z : List Value} {hs : List Int} {k : Nat} (x : Int) (hA : A.length = 10) (hk : hs.length = k) (h8 : k < 8) : (hcs A hs Z).set (10 + k) (iv x) = hcs A (hs ++ [x]) Z := by
  unfold hcs
  rw [List.set_append_right _ _ (by omega), hA, show 10 + k - 10 = k by omega, List.set_append_right _ _ (by rw [List.length_map]; omega), List.length_map, hk, Nat.sub_self, show 8 - k = (8 - (hs ++ [x]).length) + 1 by rw [List.length_append, hk, List.length_singleton]; omega, List.replicate_succ]
  simp
/-- all the cells of a row, set one by one -/
def setL : List Value → Nat → List Value → List Value
  | l, _, [] => l
  | l, o, v :: r => setL (l.set o v) (o + 1) r
theorem Bk.setCells {b : Nat} {t : TypeId} : ∀ (vs : List Value) (w : World) (l : List Value) (o : Nat), Bk w b l t → Bk (w.setCells b o vs) b (setL l o vs) t
  | [], w, l, o, h => h
  | v :: vs, w, l, o, h => Bk.setCells vs _ _ _ (h.set o v)
theorem setL_all : ∀ (vs pre post : List Value), post.length = vs.length → setL (pre ++ post) pre.length vs = pre ++ vs
  | [], pre, post, h => by
    have : post = [] := List.eq_nil_of_length_eq_zero h
    subst this; rfl
  | v :: vs, pre, [], h => by simp at h
  | v :: vs, pre, q :: post, h => by
    show setL ((pre ++ q :: post).set pre.length v) (pre.length + 1) vs = _
    rw [List.set_append_right _ _ (Nat.le_refl _), Nat.sub_self, List.set_cons_zero]
    have := setL_all vs (pre ++ [v]) post (by simpa using h)
    simpa using this
theorem setCells_keptB (b : Nat) : ∀ (vs : List Value) (o : Nat) (w : World), Kept (fun k => k = b) w (w.setCells b o vs)
  | [], o, w => Kept.refl _ _
  | v :: vs, o, w => ((Kept.refl (fun k => k = b) w).setCell (p := ⟨b, o, none⟩) (.inl rfl) v).trans (setCells_keptB b vs (o + 1) _) (fun _ h => .inl h)

theorem OwI.kept {w w' : World} {B B' : Nat} {v : Value} {l : List Int} {G : Nat → Prop} (h : OwI w B v l) (k : Kept G w w') (hd : ∀ g, B ≤ g → ¬ G g) (hB : B' ≤ B) : OwI w' B' v l := ⟨owns_base (k.owns h.1 (fun g hg => hd g (h.1.lt g hg).1)) hB, h.2⟩
theorem OwIns.kept {w w' : World} {B B' : Nat} {v : Value} {l : List Ins} {G : Nat → Prop} (h : OwIns w B v l) (k : Kept G w w') (hd : ∀ g, B ≤ g → ¬ G g) (hB : B' ≤ B) : OwIns w' B' v l := ⟨owns_base (k.owns h.1 (fun g hg => hd g (h.1.lt g hg).1)) hB, h.2⟩
theorem OwPrc.kept {w w' : World} {B B' : Nat} {v : Value} {l : List Prc} {G : Nat → Prop} (h : OwPrc w B v l) (k : Kept G w w') (hd : ∀ g, B ≤ g → ¬ G g) (hB : B' ≤ B) : OwPrc w' B' v l := ⟨owns_base (k.owns h.1 (fun g hg => hd g (h.1.lt g hg).1)) hB, h.2⟩
theorem OwSm.kept {w w' : World} {B B' : Nat} {v : Value} {l : List Sm} {G : Nat → Prop} (h : OwSm w B v l) (k : Kept G w w') (hd : ∀ g, B ≤ g → ¬ G g) (hB : B' ≤ B) : OwSm w' B' v l := ⟨owns_base (k.owns h.1 (fun g hg => hd g (h.1.lt g hg).1)) hB, h.2⟩
theorem OwB.kept {w w' : World} {B B' : Nat} {v : Value} {l : List Bool} {G : Nat → Prop} (h : OwB w B v l) (k : Kept G w w') (hd : ∀ g, B ≤ g → ¬ G g) (hB : B' ≤ B) : OwB w' B' v l := ⟨owns_base (k.owns h.1 (fun g hg => hd g (h.1.lt g hg).1)) hB, h.2⟩
theorem OwBf.kept {w w' : World} {B B' : Nat} {v : Value} {l : List Bf} {G : Nat → Prop} (h : OwBf w B v l) (k : Kept G w w') (hd : ∀ g, B ≤ g → ¬ G g) (hB : B' ≤ B) : OwBf w' B' v l := ⟨owns_base (k.owns h.1 (fun g hg => hd g (h.1.lt g hg).1)) hB, h.2⟩

set_option maxHeartbeats 16000000 in
theorem askPn (F : Nat → Prop) (p : Nat) (xs : List Nat) (e : Int) (w : World) (h : Rd w F p xs e) (hsz : xs.length ≤ 1048576) :
    Calls Tryz.prog 105 #[.pointer (some ⟨p, 0, none⟩)] w fun ex w' => ∃ (x : Pn) (s' : St) (cs : List Value), ex = .returned (.agg cs.toArray) ∧ PnO w' w.heap.size cs x ∧ Got decPn (xs, e) x s' ∧ RdDid F p s'.1 s'.2 w w' := by
  have F0 : Hid (Fil w F p [.int .i64 0, .int .i64 0, .int .i64 0, .int .i64 0, .int .i64 0, .int .i64 0, .slice none 0 0, .slice none 0 0, .slice none 0 0, .int .i64 0, .int .i64 0, .int .i64 0, .int .i64 0, .int .i64 0, .int .i64 0, .int .i64 0, .int .i64 0, .int .i64 0, .slice none 0 0, .slice none 0 0, .slice none 0 0] [.int .i64 0, .int .i64 0, .int .i64 0, .int .i64 0, .int .i64 0, .int .i64 0, .slice none 0 0, .slice none 0 0, .slice none 0 0, .int .i64 0, .int .i64 0, .int .i64 0, .int .i64 0, .int .i64 0, .int .i64 0, .int .i64 0, .int .i64 0, .int .i64 0, .slice none 0 0, .slice none 0 0, .slice none 0 0] 66 (xs, e) ((w.alloc (.cells #[.int .i64 0, .int .i64 0, .int .i64 0, .int .i64 0, .int .i64 0, .int .i64 0, .slice none 0 0, .slice none 0 0, .slice none 0 0, .int .i64 0, .int .i64 0, .int .i64 0, .int .i64 0, .int .i64 0, .int .i64 0, .int .i64 0, .int .i64 0, .int .i64 0, .slice none 0 0, .slice none 0 0, .slice none 0 0] 66)).alloc (.cells #[.int .i64 0, .int .i64 0, .int .i64 0, .int .i64 0, .int .i64 0, .int .i64 0, .slice none 0 0, .slice none 0 0, .slice none 0 0, .int .i64 0, .int .i64 0, .int .i64 0, .int .i64 0, .int .i64 0, .int .i64 0, .int .i64 0, .int .i64 0, .int .i64 0, .slice none 0 0, .slice none 0 0, .slice none 0 0] 66))) := Fil.new (s := (xs, e)) h [.int .i64 0, .int .i64 0, .int .i64 0, .int .i64 0, .int .i64 0, .int .i64 0, .slice none 0 0, .slice none 0 0, .slice none 0 0, .int .i64 0, .int .i64 0, .int .i64 0, .int .i64 0, .int .i64 0, .int .i64 0, .int .i64 0, .int .i64 0, .int .i64 0, .slice none 0 0, .slice none 0 0, .slice none 0 0] 66
  have HL0 : Hid (xs.length ≤ 1048576) := hsz
  clear h hsz
  go_enter Tryz.func105, Tryz.ntmps105
  go_upto_region 2 with fail
  generalize (w.alloc (.cells #[.int .i64 0, .int .i64 0, .int .i64 0, .int .i64 0, .int .i64 0, .int .i64 0, .slice none 0 0, .slice none 0 0, .slice none 0 0, .int .i64 0, .int .i64 0, .int .i64 0, .int .i64 0, .int .i64 0, .int .i64 0, .int .i64 0, .int .i64 0, .int .i64 0, .slice none 0 0, .slice none 0 0, .slice none 0 0] 66)).alloc (.cells #[.int .i64 0, .int .i64 0, .int .i64 0, .int .i64 0, .int .i64 0, .int .i64 0, .slice none 0 0, .slice none 0 0, .slice none 0 0, .int .i64 0, .int .i64 0, .int .i64 0, .int .i64 0, .int .i64 0, .int .i64 0, .int .i64 0, .int .i64 0, .int .i64 0, .slice none 0 0, .slice none 0 0, .slice none 0 0] 66) = w0 at *
  have cp := askSrv F p xs e w0 F0.out.rd
  go_upto_region 3 with (go_at_call 106; refine cp.mono ?_; rintro ex v0 ⟨x0, s1, rfl, hx0, hg0, hd0⟩; have G0 : Hid (Fil w F p [.int .i64 0, .int .i64 0, .int .i64 0, .int .i64 0, .int .i64 0, .int .i64 0, .slice none 0 0, .slice none 0 0, .slice none 0 0, .int .i64 0, .int .i64 0, .int .i64 0, .int .i64 0, .int .i64 0, .int .i64 0, .int .i64 0, .int .i64 0, .int .i64 0, .slice none 0 0, .slice none 0 0, .slice none 0 0] [.int .i64 0, .int .i64 0, .int .i64 0, .int .i64 0, .int .i64 0, .int .i64 0, .slice none 0 0, .slice none 0 0, .slice none 0 0, .int .i64 0, .int .i64 0, .int .i64 0, .int .i64 0, .int .i64 0, .int .i64 0, .int .i64 0, .int .i64 0, .int .i64 0, .slice none 0 0, .slice none 0 0, .slice none 0 0] 66 s1 v0) := F0.out.did hd0; have D0 : Hid (Kept (fun k => k < w.heap.size + 2) w0 v0) := hd0.2.mono (fun k e => by have := G0.out.fl p G0.out.fp; omega); have HGX0 : Hid (Got decSrv (xs, e) x0 s1) := hg0; have q0_0 := G0.out.b3.cell (j := 0) rfl; have z0_0 := G0.out.b3.fz 0; have q0_1 := G0.out.b3.cell (j := 1) rfl; have z0_1 := G0.out.b3.fz 1; have q0_2 := G0.out.b3.cell (j := 2) rfl; have z0_2 := G0.out.b3.fz 2; have q0_3 := G0.out.b3.cell (j := 3) rfl; have z0_3 := G0.out.b3.fz 3; clear hd0 hg0)
  have F1 : Hid (Fil w F p [.int .i64 0, .int .i64 0, .int .i64 0, .int .i64 0, .int .i64 0, .int .i64 0, .slice none 0 0, .slice none 0 0, .slice none 0 0, .int .i64 0, .int .i64 0, .int .i64 0, .int .i64 0, .int .i64 0, .int .i64 0, .int .i64 0, .int .i64 0, .int .i64 0, .slice none 0 0, .slice none 0 0, .slice none 0 0] [.int .i64 x0.pe, .int .i64 x0.bu, .int .i64 x0.off, .int .i64 x0.pr, .int .i64 0, .int .i64 0, .slice none 0 0, .slice none 0 0, .slice none 0 0, .int .i64 0, .int .i64 0, .int .i64 0, .int .i64 0, .int .i64 0, .int .i64 0, .int .i64 0, .int .i64 0, .int .i64 0, .slice none 0 0, .slice none 0 0, .slice none 0 0] 66 s1 ((((v0.setCell ⟨w.heap.size + 1, 0, none⟩ (.int .i64 x0.pe)).setCell ⟨w.heap.size + 1, 1, none⟩ (.int .i64 x0.bu)).setCell ⟨w.heap.size + 1, 2, none⟩ (.int .i64 x0.off)).setCell ⟨w.heap.size + 1, 3, none⟩ (.int .i64 x0.pr))) := ((((G0.out.set 0 _).set 1 _).set 2 _).set 3 _)
  have K0 : Hid (Kept (fun k => k < w.heap.size + 2) v0 ((((v0.setCell ⟨w.heap.size + 1, 0, none⟩ (.int .i64 x0.pe)).setCell ⟨w.heap.size + 1, 1, none⟩ (.int .i64 x0.bu)).setCell ⟨w.heap.size + 1, 2, none⟩ (.int .i64 x0.off)).setCell ⟨w.heap.size + 1, 3, none⟩ (.int .i64 x0.pr))) := (((((Kept.refl (fun k => k < w.heap.size + 2) v0).setCell (p := ⟨w.heap.size + 1, 0, none⟩) (.inl (by show w.heap.size + 1 < w.heap.size + 2; omega)) _).setCell (p := ⟨w.heap.size + 1, 1, none⟩) (.inl (by show w.heap.size + 1 < w.heap.size + 2; omega)) _).setCell (p := ⟨w.heap.size + 1, 2, none⟩) (.inl (by show w.heap.size + 1 < w.heap.size + 2; omega)) _).setCell (p := ⟨w.heap.size + 1, 3, none⟩) (.inl (by show w.heap.size + 1 < w.heap.size + 2; omega)) _)
  have HL1 : Hid (s1.1.length ≤ 1048576) := Nat.le_trans HGX0.out.len HL0.out
  generalize ((((v0.setCell ⟨w.heap.size + 1, 0, none⟩ (.int .i64 x0.pe)).setCell ⟨w.heap.size + 1, 1, none⟩ (.int .i64 x0.bu)).setCell ⟨w.heap.size + 1, 2, none⟩ (.int .i64 x0.off)).setCell ⟨w.heap.size + 1, 3, none⟩ (.int .i64 x0.pr)) = w1 at *
  clear cp q0_0 z0_0 q0_1 z0_1 q0_2 z0_2 q0_3 z0_3 G0
  have cp := getNumber_any F p s1.1 s1.2 w1 F1.out.rd
  go_upto_region 4 with (go_at_call 107; refine cp.mono ?_; rintro ex v1 ⟨x1, s2, rfl, hx1, hg1, hd1⟩; have G1 : Hid (Fil w F p [.int .i64 0, .int .i64 0, .int .i64 0, .int .i64 0, .int .i64 0, .int .i64 0, .slice none 0 0, .slice none 0 0, .slice none 0 0, .int .i64 0, .int .i64 0, .int .i64 0, .int .i64 0, .int .i64 0, .int .i64 0, .int .i64 0, .int .i64 0, .int .i64 0, .slice none 0 0, .slice none 0 0, .slice none 0 0] [.int .i64 x0.pe, .int .i64 x0.bu, .int .i64 x0.off, .int .i64 x0.pr, .int .i64 0, .int .i64 0, .slice none 0 0, .slice none 0 0, .slice none 0 0, .int .i64 0, .int .i64 0, .int .i64 0, .int .i64 0, .int .i64 0, .int .i64 0, .int .i64 0, .int .i64 0, .int .i64 0, .slice none 0 0, .slice none 0 0, .slice none 0 0] 66 s2 v1) := F1.out.did hd1; have D1 : Hid (Kept (fun k => k < w.heap.size + 2) w1 v1) := hd1.2.mono (fun k e => by have := G1.out.fl p G1.out.fp; omega); have HGX1 : Hid (Got decI (s1.1, s1.2) x1 s2) := hg1; have q1_4 := G1.out.b3.cell (j := 4) rfl; have z1_4 := G1.out.b3.fz 4; clear hd1 hg1)
  have F2 : Hid (Fil w F p [.int .i64 0, .int .i64 0, .int .i64 0, .int .i64 0, .int .i64 0, .int .i64 0, .slice none 0 0, .slice none 0 0, .slice none 0 0, .int .i64 0, .int .i64 0, .int .i64 0, .int .i64 0, .int .i64 0, .int .i64 0, .int .i64 0, .int .i64 0, .int .i64 0, .slice none 0 0, .slice none 0 0, .slice none 0 0] [.int .i64 x0.pe, .int .i64 x0.bu, .int .i64 x0.off, .int .i64 x0.pr, .int .i64 x1, .int .i64 0, .slice none 0 0, .slice none 0 0, .slice none 0 0, .int .i64 0, .int .i64 0, .int .i64 0, .int .i64 0, .int .i64 0, .int .i64 0, .int .i64 0, .int .i64 0, .int .i64 0, .slice none 0 0, .slice none 0 0, .slice none 0 0] 66 s2 (v1.setCell ⟨w.heap.size + 1, 4, none⟩ (.int .i64 x1))) := (G1.out.set 4 _)
  have K1 : Hid (Kept (fun k => k < w.heap.size + 2) v1 (v1.setCell ⟨w.heap.size + 1, 4, none⟩ (.int .i64 x1))) := ((Kept.refl (fun k => k < w.heap.size + 2) v1).setCell (p := ⟨w.heap.size + 1, 4, none⟩) (.inl (by show w.heap.size + 1 < w.heap.size + 2; omega)) _)
  have HL2 : Hid (s2.1.length ≤ 1048576) := Nat.le_trans HGX1.out.len HL1.out
  generalize (v1.setCell ⟨w.heap.size + 1, 4, none⟩ (.int .i64 x1)) = w2 at *
  clear cp q1_4 z1_4 G1
  have cp := getNumber_any F p s2.1 s2.2 w2 F2.out.rd
  go_upto_region 5 with (go_at_call 107; refine cp.mono ?_; rintro ex v2 ⟨x2, s3, rfl, hx2, hg2, hd2⟩; have G2 : Hid (Fil w F p [.int .i64 0, .int .i64 0, .int .i64 0, .int .i64 0, .int .i64 0, .int .i64 0, .slice none 0 0, .slice none 0 0, .slice none 0 0, .int .i64 0, .int .i64 0, .int .i64 0, .int .i64 0, .int .i64 0, .int .i64 0, .int .i64 0, .int .i64 0, .int .i64 0, .slice none 0 0, .slice none 0 0, .slice none 0 0] [.int .i64 x0.pe, .int .i64 x0.bu, .int .i64 x0.off, .int .i64 x0.pr, .int .i64 x1, .int .i64 0, .slice none 0 0, .slice none 0 0, .slice none 0 0, .int .i64 0, .int .i64 0, .int .i64 0, .int .i64 0, .int .i64 0, .int .i64 0, .int .i64 0, .int .i64 0, .int .i64 0, .slice none 0 0, .slice none 0 0, .slice none 0 0] 66 s3 v2) := F2.out.did hd2; have D2 : Hid (Kept (fun k => k < w.heap.size + 2) w2 v2) := hd2.2.mono (fun k e => by have := G2.out.fl p G2.out.fp; omega); have HGX2 : Hid (Got decI (s2.1, s2.2) x2 s3) := hg2; have q2_5 := G2.out.b3.cell (j := 5) rfl; have z2_5 := G2.out.b3.fz 5; clear hd2 hg2)
  have F3 : Hid (Fil w F p [.int .i64 0, .int .i64 0, .int .i64 0, .int .i64 0, .int .i64 0, .int .i64 0, .slice none 0 0, .slice none 0 0, .slice none 0 0, .int .i64 0, .int .i64 0, .int .i64 0, .int .i64 0, .int .i64 0, .int .i64 0, .int .i64 0, .int .i64 0, .int .i64 0, .slice none 0 0, .slice none 0 0, .slice none 0 0] [.int .i64 x0.pe, .int .i64 x0.bu, .int .i64 x0.off, .int .i64 x0.pr, .int .i64 x1, .int .i64 x2, .slice none 0 0, .slice none 0 0, .slice none 0 0, .int .i64 0, .int .i64 0, .int .i64 0, .int .i64 0, .int .i64 0, .int .i64 0, .int .i64 0, .int .i64 0, .int .i64 0, .slice none 0 0, .slice none 0 0, .slice none 0 0] 66 s3 (v2.setCell ⟨w.heap.size + 1, 5, none⟩ (.int .i64 x2))) := (G2.out.set 5 _)
  have K2 : Hid (Kept (fun k => k < w.heap.size + 2) v2 (v2.setCell ⟨w.heap.size + 1, 5, none⟩ (.int .i64 x2))) := ((Kept.refl (fun k => k < w.heap.size + 2) v2).setCell (p := ⟨w.heap.size + 1, 5, none⟩) (.inl (by show w.heap.size + 1 < w.heap.size + 2; omega)) _)
  have HL3 : Hid (s3.1.length ≤ 1048576) := Nat.le_trans HGX2.out.len HL2.out
  generalize (v2.setCell ⟨w.heap.size + 1, 5, none⟩ (.int .i64 x2)) = w3 at *
  clear cp q2_5 z2_5 G2
  have HB3 : Hid (w.heap.size + 2 ≤ w3.heap.size) := F3.out.b3.lt
  have cp := get_I F p s3.1 s3.2 w3 F3.out.rd HL3.out
  go_upto_region 6 with (go_at_call 108; refine cp.mono ?_; rintro ex v3 ⟨u3, x3, s4, rfl, ho3, hg3, hd3⟩; obtain ⟨a3, n3, c3, hu3⟩ := own_slice ho3.1; subst hu3; have HO3 : Hid (OwI v3 w3.heap.size (.slice a3 n3 c3) x3) := ho3; clear ho3; have G3 : Hid (Fil w F p [.int .i64 0, .int .i64 0, .int .i64 0, .int .i64 0, .int .i64 0, .int .i64 0, .slice none 0 0, .slice none 0 0, .slice none 0 0, .int .i64 0, .int .i64 0, .int .i64 0, .int .i64 0, .int .i64 0, .int .i64 0, .int .i64 0, .int .i64 0, .int .i64 0, .slice none 0 0, .slice none 0 0, .slice none 0 0] [.int .i64 x0.pe, .int .i64 x0.bu, .int .i64 x0.off, .int .i64 x0.pr, .int .i64 x1, .int .i64 x2, .slice none 0 0, .slice none 0 0, .slice none 0 0, .int .i64 0, .int .i64 0, .int .i64 0, .int .i64 0, .int .i64 0, .int .i64 0, .int .i64 0, .int .i64 0, .int .i64 0, .slice none 0 0, .slice none 0 0, .slice none 0 0] 66 s4 v3) := F3.out.did hd3; have D3 : Hid (Kept (fun k => k < w.heap.size + 2) w3 v3) := hd3.2.mono (fun k e => by have := G3.out.fl p G3.out.fp; omega); have HGX3 : Hid (Got (decL decI) (s3.1, s3.2) x3 s4) := hg3; have q3_6 := G3.out.b3.cell (j := 6) rfl; have z3_6 := G3.out.b3.fz 6; clear hd3 hg3)
  have F4 : Hid (Fil w F p [.int .i64 0, .int .i64 0, .int .i64 0, .int .i64 0, .int .i64 0, .int .i64 0, .slice none 0 0, .slice none 0 0, .slice none 0 0, .int .i64 0, .int .i64 0, .int .i64 0, .int .i64 0, .int .i64 0, .int .i64 0, .int .i64 0, .int .i64 0, .int .i64 0, .slice none 0 0, .slice none 0 0, .slice none 0 0] [.int .i64 x0.pe, .int .i64 x0.bu, .int .i64 x0.off, .int .i64 x0.pr, .int .i64 x1, .int .i64 x2, .slice a3 n3 c3, .slice none 0 0, .slice none 0 0, .int .i64 0, .int .i64 0, .int .i64 0, .int .i64 0, .int .i64 0, .int .i64 0, .int .i64 0, .int .i64 0, .int .i64 0, .slice none 0 0, .slice none 0 0, .slice none 0 0] 66 s4 (v3.setCell ⟨w.heap.size + 1, 6, none⟩ (.slice a3 n3 c3))) := (G3.out.set 6 _)
  have K3 : Hid (Kept (fun k => k < w.heap.size + 2) v3 (v3.setCell ⟨w.heap.size + 1, 6, none⟩ (.slice a3 n3 c3))) := ((Kept.refl (fun k => k < w.heap.size + 2) v3).setCell (p := ⟨w.heap.size + 1, 6, none⟩) (.inl (by show w.heap.size + 1 < w.heap.size + 2; omega)) _)
  have HL4 : Hid (s4.1.length ≤ 1048576) := Nat.le_trans HGX3.out.len HL3.out
  generalize (v3.setCell ⟨w.heap.size + 1, 6, none⟩ (.slice a3 n3 c3)) = w4 at *
  clear cp q3_6 z3_6 G3
  have HB4 : Hid (w.heap.size + 2 ≤ w4.heap.size) := F4.out.b3.lt
  have cp := gets_Ins F p s4.1 s4.2 w4 F4.out.rd HL4.out
  go_upto_region 7 with (go_at_call 110; refine cp.mono ?_; rintro ex v4 ⟨u4, x4, s5, rfl, ho4, hg4, hd4⟩; obtain ⟨a4, n4, c4, hu4⟩ := own_slice ho4.1; subst hu4; have HO4 : Hid (OwIns v4 w4.heap.size (.slice a4 n4 c4) x4) := ho4; clear ho4; have G4 : Hid (Fil w F p [.int .i64 0, .int .i64 0, .int .i64 0, .int .i64 0, .int .i64 0, .int .i64 0, .slice none 0 0, .slice none 0 0, .slice none 0 0, .int .i64 0, .int .i64 0, .int .i64 0, .int .i64 0, .int .i64 0, .int .i64 0, .int .i64 0, .int .i64 0, .int .i64 0, .slice none 0 0, .slice none 0 0, .slice none 0 0] [.int .i64 x0.pe, .int .i64 x0.bu, .int .i64 x0.off, .int .i64 x0.pr, .int .i64 x1, .int .i64 x2, .slice a3 n3 c3, .slice none 0 0, .slice none 0 0, .int .i64 0, .int .i64 0, .int .i64 0, .int .i64 0, .int .i64 0, .int .i64 0, .int .i64 0, .int .i64 0, .int .i64 0, .slice none 0 0, .slice none 0 0, .slice none 0 0] 66 s5 v4) := F4.out.did hd4; have D4 : Hid (Kept (fun k => k < w.heap.size + 2) w4 v4) := hd4.2.mono (fun k e => by have := G4.out.fl p G4.out.fp; omega); have HGX4 : Hid (Got (decL decIns) (s4.1, s4.2) x4 s5) := hg4; have q4_7 := G4.out.b3.cell (j := 7) rfl; have z4_7 := G4.out.b3.fz 7; clear hd4 hg4)
  have F5 : Hid (Fil w F p [.int .i64 0, .int .i64 0, .int .i64 0, .int .i64 0, .int .i64 0, .int .i64 0, .slice none 0 0, .slice none 0 0, .slice none 0 0, .int .i64 0, .int .i64 0, .int .i64 0, .int .i64 0, .int .i64 0, .int .i64 0, .int .i64 0, .int .i64 0, .int .i64 0, .slice none 0 0, .slice none 0 0, .slice none 0 0] [.int .i64 x0.pe, .int .i64 x0.bu, .int .i64 x0.off, .int .i64 x0.pr, .int .i64 x1, .int .i64 x2, .slice a3 n3 c3, .slice a4 n4 c4, .slice none 0 0, .int .i64 0, .int .i64 0, .int .i64 0, .int .i64 0, .int .i64 0, .int .i64 0, .int .i64 0, .int .i64 0, .int .i64 0, .slice none 0 0, .slice none 0 0, .slice none 0 0] 66 s5 (v4.setCell ⟨w.heap.size + 1, 7, none⟩ (.slice a4 n4 c4))) := (G4.out.set 7 _)
  have K4 : Hid (Kept (fun k => k < w.heap.size + 2) v4 (v4.setCell ⟨w.heap.size + 1, 7, none⟩ (.slice a4 n4 c4))) := ((Kept.refl (fun k => k < w.heap.size + 2) v4).setCell (p := ⟨w.heap.size + 1, 7, none⟩) (.inl (by show w.heap.size + 1 < w.heap.size + 2; omega)) _)
  have HL5 : Hid (s5.1.length ≤ 1048576) := Nat.le_trans HGX4.out.len HL4.out
  generalize (v4.setCell ⟨w.heap.size + 1, 7, none⟩ (.slice a4 n4 c4)) = w5 at *
  clear cp q4_7 z4_7 G4
  have HB5 : Hid (w.heap.size + 2 ≤ w5.heap.size) := F5.out.b3.lt
  have cp := gets_Prc F p s5.1 s5.2 w5 F5.out.rd HL5.out
  go_upto_region 8 with (go_at_call 111; refine cp.mono ?_; rintro ex v5 ⟨u5, x5, s6, rfl, ho5, hg5, hd5⟩; obtain ⟨a5, n5, c5, hu5⟩ := own_slice ho5.1; subst hu5; have HO5 : Hid (OwPrc v5 w5.heap.size (.slice a5 n5 c5) x5) := ho5; clear ho5; have G5 : Hid (Fil w F p [.int .i64 0, .int .i64 0, .int .i64 0, .int .i64 0, .int .i64 0, .int .i64 0, .slice none 0 0, .slice none 0 0, .slice none 0 0, .int .i64 0, .int .i64 0, .int .i64 0, .int .i64 0, .int .i64 0, .int .i64 0, .int .i64 0, .int .i64 0, .int .i64 0, .slice none 0 0, .slice none 0 0, .slice none 0 0] [.int .i64 x0.pe, .int .i64 x0.bu, .int .i64 x0.off, .int .i64 x0.pr, .int .i64 x1, .int .i64 x2, .slice a3 n3 c3, .slice a4 n4 c4, .slice none 0 0, .int .i64 0, .int .i64 0, .int .i64 0, .int .i64 0, .int .i64 0, .int .i64 0, .int .i64 0, .int .i64 0, .int .i64 0, .slice none 0 0, .slice none 0 0, .slice none 0 0] 66 s6 v5) := F5.out.did hd5; have D5 : Hid (Kept (fun k => k < w.heap.size + 2) w5 v5) := hd5.2.mono (fun k e => by have := G5.out.fl p G5.out.fp; omega); have HGX5 : Hid (Got (decL decPrc) (s5.1, s5.2) x5 s6) := hg5; have q5_8 := G5.out.b3.cell (j := 8) rfl; have z5_8 := G5.out.b3.fz 8; clear hd5 hg5)
  have F6 : Hid (Fil w F p [.int .i64 0, .int .i64 0, .int .i64 0, .int .i64 0, .int .i64 0, .int .i64 0, .slice none 0 0, .slice none 0 0, .slice none 0 0, .int .i64 0, .int .i64 0, .int .i64 0, .int .i64 0, .int .i64 0, .int .i64 0, .int .i64 0, .int .i64 0, .int .i64 0, .slice none 0 0, .slice none 0 0, .slice none 0 0] [.int .i64 x0.pe, .int .i64 x0.bu, .int .i64 x0.off, .int .i64 x0.pr, .int .i64 x1, .int .i64 x2, .slice a3 n3 c3, .slice a4 n4 c4, .slice a5 n5 c5, .int .i64 0, .int .i64 0, .int .i64 0, .int .i64 0, .int .i64 0, .int .i64 0, .int .i64 0, .int .i64 0, .int .i64 0, .slice none 0 0, .slice none 0 0, .slice none 0 0] 66 s6 (v5.setCell ⟨w.heap.size + 1, 8, none⟩ (.slice a5 n5 c5))) := (G5.out.set 8 _)
  have K5 : Hid (Kept (fun k => k < w.heap.size + 2) v5 (v5.setCell ⟨w.heap.size + 1, 8, none⟩ (.slice a5 n5 c5))) := ((Kept.refl (fun k => k < w.heap.size + 2) v5).setCell (p := ⟨w.heap.size + 1, 8, none⟩) (.inl (by show w.heap.size + 1 < w.heap.size + 2; omega)) _)
  have HL6 : Hid (s6.1.length ≤ 1048576) := Nat.le_trans HGX5.out.len HL5.out
  generalize (v5.setCell ⟨w.heap.size + 1, 8, none⟩ (.slice a5 n5 c5)) = w6 at *
  clear cp q5_8 z5_8 G5
  have cp := getNumber_any F p s6.1 s6.2 w6 F6.out.rd
  go_upto_region 9 with (go_at_call 107; refine cp.mono ?_; rintro ex v6 ⟨x6, s7, rfl, hx6, hg6, hd6⟩; have G6 : Hid (Fil w F p [.int .i64 0, .int .i64 0, .int .i64 0, .int .i64 0, .int .i64 0, .int .i64 0, .slice none 0 0, .slice none 0 0, .slice none 0 0, .int .i64 0, .int .i64 0, .int .i64 0, .int .i64 0, .int .i64 0, .int .i64 0, .int .i64 0, .int .i64 0, .int .i64 0, .slice none 0 0, .slice none 0 0, .slice none 0 0] [.int .i64 x0.pe, .int .i64 x0.bu, .int .i64 x0.off, .int .i64 x0.pr, .int .i64 x1, .int .i64 x2, .slice a3 n3 c3, .slice a4 n4 c4, .slice a5 n5 c5, .int .i64 0, .int .i64 0, .int .i64 0, .int .i64 0, .int .i64 0, .int .i64 0, .int .i64 0, .int .i64 0, .int .i64 0, .slice none 0 0, .slice none 0 0, .slice none 0 0] 66 s7 v6) := F6.out.did hd6; have D6 : Hid (Kept (fun k => k < w.heap.size + 2) w6 v6) := hd6.2.mono (fun k e => by have := G6.out.fl p G6.out.fp; omega); have HGX6 : Hid (Got decI (s6.1, s6.2) x6 s7) := hg6; have q6_9 := G6.out.b3.cell (j := 9) rfl; have z6_9 := G6.out.b3.fz 9; clear hd6 hg6)
  have F7 : Hid (Fil w F p [.int .i64 0, .int .i64 0, .int .i64 0, .int .i64 0, .int .i64 0, .int .i64 0, .slice none 0 0, .slice none 0 0, .slice none 0 0, .int .i64 0, .int .i64 0, .int .i64 0, .int .i64 0, .int .i64 0, .int .i64 0, .int .i64 0, .int .i64 0, .int .i64 0, .slice none 0 0, .slice none 0 0, .slice none 0 0] [.int .i64 x0.pe, .int .i64 x0.bu, .int .i64 x0.off, .int .i64 x0.pr, .int .i64 x1, .int .i64 x2, .slice a3 n3 c3, .slice a4 n4 c4, .slice a5 n5 c5, .int .i64 x6, .int .i64 0, .int .i64 0, .int .i64 0, .int .i64 0, .int .i64 0, .int .i64 0, .int .i64 0, .int .i64 0, .slice none 0 0, .slice none 0 0, .slice none 0 0] 66 s7 (v6.setCell ⟨w.heap.size + 1, 9, none⟩ (.int .i64 x6))) := (G6.out.set 9 _)
  have K6 : Hid (Kept (fun k => k < w.heap.size + 2) v6 (v6.setCell ⟨w.heap.size + 1, 9, none⟩ (.int .i64 x6))) := ((Kept.refl (fun k => k < w.heap.size + 2) v6).setCell (p := ⟨w.heap.size + 1, 9, none⟩) (.inl (by show w.heap.size + 1 < w.heap.size + 2; omega)) _)
  have HL7 : Hid (s7.1.length ≤ 1048576) := Nat.le_trans HGX6.out.len HL6.out
  generalize (v6.setCell ⟨w.heap.size + 1, 9, none⟩ (.int .i64 x6)) = w7 at *
  clear cp q6_9 z6_9 G6
  obtain ⟨A, hA⟩ : ∃ A : List Value, A = [.int .i64 x0.pe, .int .i64 x0.bu, .int .i64 x0.off, .int .i64 x0.pr, .int .i64 x1, .int .i64 x2, .slice a3 n3 c3, .slice a4 n4 c4, .slice a5 n5 c5, .int .i64 x6] := ⟨_, rfl⟩
  have HA : Hid (A = [.int .i64 x0.pe, .int .i64 x0.bu, .int .i64 x0.off, .int .i64 x0.pr, .int .i64 x1, .int .i64 x2, .slice a3 n3 c3, .slice a4 n4 c4, .slice a5 n5 c5, .int .i64 x6]) := hA
  have hAl : A.length = 10 := by rw [hA]; rfl
  have FH : Hid (Fil w F p [.int .i64 0, .int .i64 0, .int .i64 0, .int .i64 0, .int .i64 0, .int .i64 0, .slice none 0 0, .slice none 0 0, .slice none 0 0, .int .i64 0, .int .i64 0, .int .i64 0, .int .i64 0, .int .i64 0, .int .i64 0, .int .i64 0, .int .i64 0, .int .i64 0, .slice none 0 0, .slice none 0 0, .slice none 0 0] (hcs A [] [.slice none 0 0, .slice none 0 0, .slice none 0 0]) 66 s7 w7) := by rw [hA]; exact F7.out
  clear hA
  go_wp2
  go_loopw [26] (fun i wr => ∃ (k : Nat) (hs : List Int) (s : St), k ≤ 8 ∧ i = .int .i64 k ∧ hs.length = k ∧ okL I6 hs ∧ Got (decNn decI k) s7 hs s ∧ Fil w F p [.int .i64 0, .int .i64 0, .int .i64 0, .int .i64 0, .int .i64 0, .int .i64 0, .slice none 0 0, .slice none 0 0, .slice none 0 0, .int .i64 0, .int .i64 0, .int .i64 0, .int .i64 0, .int .i64 0, .int .i64 0, .int .i64 0, .int .i64 0, .int .i64 0, .slice none 0 0, .slice none 0 0, .slice none 0 0] (hcs A hs [.slice none 0 0, .slice none 0 0, .slice none 0 0]) 66 s wr ∧ Kept (fun k => k < w.heap.size + 2) w7 wr) (fun i _ => 8 - (intOf i).toNat)
  case atStart => exact ⟨0, [], s7, by omega, rfl, rfl, (fun x hx => by cases hx), Got.pure _ _, FH.out, Kept.refl _ _⟩
  case round =>
    obtain ⟨k, hs, s, hk, rfl, hhl, hho, hgk, hfk, hkk⟩ := hrel
    have HFK : Hid (Fil w F p [.int .i64 0, .int .i64 0, .int .i64 0, .int .i64 0, .int .i64 0, .int .i64 0, .slice none 0 0, .slice none 0 0, .slice none 0 0, .int .i64 0, .int .i64 0, .int .i64 0, .int .i64 0, .int .i64 0, .int .i64 0, .int .i64 0, .int .i64 0, .int .i64 0, .slice none 0 0, .slice none 0 0, .slice none 0 0] (hcs A hs [.slice none 0 0, .slice none 0 0, .slice none 0 0]) 66 s wr) := hfk
    have HH : Hid (hs.length = k ∧ okL I6 hs ∧ Got (decNn decI k) s7 hs s ∧ Kept (fun k => k < w.heap.size + 2) w7 wr) := ⟨hhl, hho, hgk, hkk⟩
    clear FH F7
    by_cases hlt : k < 8
    · have cp := getNumber_any F p s.1 s.2 wr hfk.rd
      clear hhl hho hgk hfk hkk
      go_wp2_with (go_at_call 107; refine cp.mono ?_; rintro ex vk ⟨xk, sk, rfl, hxk, hgk, hdk⟩; have GK : Hid (Fil w F p [.int .i64 0, .int .i64 0, .int .i64 0, .int .i64 0, .int .i64 0, .int .i64 0, .slice none 0 0, .slice none 0 0, .slice none 0 0, .int .i64 0, .int .i64 0, .int .i64 0, .int .i64 0, .int .i64 0, .int .i64 0, .int .i64 0, .int .i64 0, .int .i64 0, .slice none 0 0, .slice none 0 0, .slice none 0 0] (hcs A hs [.slice none 0 0, .slice none 0 0, .slice none 0 0]) 66 sk vk) := HFK.out.did hdk; have qk : vk.cell? ⟨w.heap.size + 1, 10 + k, none⟩ = some (.int .i64 0) := GK.out.b3.cell (hcs_at hAl HH.out.1 hlt); have zk := GK.out.b3.fz (10 + k); have DK : Hid (Kept (fun k => k < w.heap.size + 2) wr vk) := hdk.2.mono (fun k e => by have := GK.out.fl p GK.out.fp; omega); have HGK : Hid (Got decI (s.1, s.2) xk sk ∧ I6 xk) := ⟨hgk, hxk⟩; clear hdk hgk hxk)
      have FK : Hid (Fil w F p [.int .i64 0, .int .i64 0, .int .i64 0, .int .i64 0, .int .i64 0, .int .i64 0, .slice none 0 0, .slice none 0 0, .slice none 0 0, .int .i64 0, .int .i64 0, .int .i64 0, .int .i64 0, .int .i64 0, .int .i64 0, .int .i64 0, .int .i64 0, .int .i64 0, .slice none 0 0, .slice none 0 0, .slice none 0 0] (hcs A (hs ++ [xk]) [.slice none 0 0, .slice none 0 0, .slice none 0 0]) 66 sk (vk.setCell ⟨w.heap.size + 1, 10 + k, none⟩ (.int .i64 xk))) := by
        have := GK.out.set (10 + k) (iv xk)
        rw [hcs_set xk hAl HH.out.1 hlt] at this
        exact this
      have KK : Hid (Kept (fun k => k < w.heap.size + 2) vk (vk.setCell ⟨w.heap.size + 1, 10 + k, none⟩ (.int .i64 xk))) := (Kept.refl (fun k => k < w.heap.size + 2) vk).setCell (p := ⟨w.heap.size + 1, 10 + k, none⟩) (.inl (by show w.heap.size + 1 < w.heap.size + 2; omega)) _
      go_roundw
      case rel =>
        obtain ⟨h1, h2, h3, h4⟩ := HH.out
        refine ⟨k + 1, hs ++ [xk], sk, by omega, by go_num, by rw [List.length_append, h1]; rfl, ?_, h3.bind (HGK.out.1.bind (Got.pure _ _)), FK.out, (h4.trans DK.out (fun _ h => .inl h)).trans KK.out (fun _ h => .inl h)⟩
        intro y hy
        rcases List.mem_append.1 hy with hy | hy
        · exact h2 y hy
        · simp at hy; subst hy; exact HGK.out.2
      case measure => simp [intOf]; omega
    · have hk8 : k = 8 := by omega
      subst hk8
      obtain ⟨h0, h1, h2, h3, h4, h5, h6, h7, hhs⟩ := hs8 hhl
      have HHS : Hid (hs = [h0, h1, h2, h3, h4, h5, h6, h7]) := hhs
      obtain ⟨w8, hw8⟩ : ∃ w8, w8 = wr := ⟨_, rfl⟩
      subst hw8
      obtain ⟨s8, hs8e⟩ : ∃ s8, s8 = s := ⟨_, rfl⟩
      subst hs8e
      have D7 : Hid (Kept (fun k => k < w.heap.size + 2) w7 w8) := hkk
      have F8 : Hid (Fil w F p [.int .i64 0, .int .i64 0, .int .i64 0, .int .i64 0, .int .i64 0, .int .i64 0, .slice none 0 0, .slice none 0 0, .slice none 0 0, .int .i64 0, .int .i64 0, .int .i64 0, .int .i64 0, .int .i64 0, .int .i64 0, .int .i64 0, .int .i64 0, .int .i64 0, .slice none 0 0, .slice none 0 0, .slice none 0 0] [.int .i64 x0.pe, .int .i64 x0.bu, .int .i64 x0.off, .int .i64 x0.pr, .int .i64 x1, .int .i64 x2, .slice a3 n3 c3, .slice a4 n4 c4, .slice a5 n5 c5, .int .i64 x6, .int .i64 h0, .int .i64 h1, .int .i64 h2, .int .i64 h3, .int .i64 h4, .int .i64 h5, .int .i64 h6, .int .i64 h7, .slice none 0 0, .slice none 0 0, .slice none 0 0] 66 s8 w8) := by
        have := HFK.out
        rw [HA.out, hhs] at this
        exact this
      have HL8 : Hid (s8.1.length ≤ 1048576) := Nat.le_trans hgk.len HL7.out
      have HG8 : Hid (Got (decNn decI 8) s7 hs s8 ∧ okL I6 hs) := ⟨hgk, hho⟩
      clear hhl hho hgk hfk hkk hhs HFK HH hlt
      have HB8 : Hid (w.heap.size + 2 ≤ w8.heap.size) := F8.out.b3.lt
      have cp := gets_Sm F p s8.1 s8.2 w8 F8.out.rd HL8.out
      go_upto_region 15 with (go_at_call 112; refine cp.mono ?_; rintro ex v8 ⟨u8, x8, s9, rfl, ho8, hg8, hd8⟩; obtain ⟨a8, n8, c8, hu8⟩ := own_slice ho8.1; subst hu8; have HO8 : Hid (OwSm v8 w8.heap.size (.slice a8 n8 c8) x8) := ho8; clear ho8; have G8 : Hid (Fil w F p [.int .i64 0, .int .i64 0, .int .i64 0, .int .i64 0, .int .i64 0, .int .i64 0, .slice none 0 0, .slice none 0 0, .slice none 0 0, .int .i64 0, .int .i64 0, .int .i64 0, .int .i64 0, .int .i64 0, .int .i64 0, .int .i64 0, .int .i64 0, .int .i64 0, .slice none 0 0, .slice none 0 0, .slice none 0 0] [.int .i64 x0.pe, .int .i64 x0.bu, .int .i64 x0.off, .int .i64 x0.pr, .int .i64 x1, .int .i64 x2, .slice a3 n3 c3, .slice a4 n4 c4, .slice a5 n5 c5, .int .i64 x6, .int .i64 h0, .int .i64 h1, .int .i64 h2, .int .i64 h3, .int .i64 h4, .int .i64 h5, .int .i64 h6, .int .i64 h7, .slice none 0 0, .slice none 0 0, .slice none 0 0] 66 s9 v8) := F8.out.did hd8; have D8 : Hid (Kept (fun k => k < w.heap.size + 2) w8 v8) := hd8.2.mono (fun k e => by have := G8.out.fl p G8.out.fp; omega); have HGX8 : Hid (Got (decL decSm) (s8.1, s8.2) x8 s9) := hg8; have q8 := G8.out.b3.cell (j := 18) rfl; have z8 := G8.out.b3.fz 18; clear hd8 hg8)
      have F9 : Hid (Fil w F p [.int .i64 0, .int .i64 0, .int .i64 0, .int .i64 0, .int .i64 0, .int .i64 0, .slice none 0 0, .slice none 0 0, .slice none 0 0, .int .i64 0, .int .i64 0, .int .i64 0, .int .i64 0, .int .i64 0, .int .i64 0, .int .i64 0, .int .i64 0, .int .i64 0, .slice none 0 0, .slice none 0 0, .slice none 0 0] [.int .i64 x0.pe, .int .i64 x0.bu, .int .i64 x0.off, .int .i64 x0.pr, .int .i64 x1, .int .i64 x2, .slice a3 n3 c3, .slice a4 n4 c4, .slice a5 n5 c5, .int .i64 x6, .int .i64 h0, .int .i64 h1, .int .i64 h2, .int .i64 h3, .int .i64 h4, .int .i64 h5, .int .i64 h6, .int .i64 h7, .slice a8 n8 c8, .slice none 0 0, .slice none 0 0] 66 s9 (v8.setCell ⟨w.heap.size + 1, 18, none⟩ (.slice a8 n8 c8))) := G8.out.set 18 _
      have K8 : Hid (Kept (fun k => k < w.heap.size + 2) v8 (v8.setCell ⟨w.heap.size + 1, 18, none⟩ (.slice a8 n8 c8))) := (Kept.refl (fun k => k < w.heap.size + 2) v8).setCell (p := ⟨w.heap.size + 1, 18, none⟩) (.inl (by show w.heap.size + 1 < w.heap.size + 2; omega)) _
      have HL9 : Hid (s9.1.length ≤ 1048576) := Nat.le_trans HGX8.out.len HL8.out
      generalize (v8.setCell ⟨w.heap.size + 1, 18, none⟩ (.slice a8 n8 c8)) = w9 at *
      clear cp q8 z8 G8
      have HB9 : Hid (w.heap.size + 2 ≤ w9.heap.size) := F9.out.b3.lt
      have cp := get_B F p s9.1 s9.2 w9 F9.out.rd HL9.out
      go_upto_region 16 with (go_at_call 113; refine cp.mono ?_; rintro ex v9 ⟨u9, x9, s10, rfl, ho9, hg9, hd9⟩; obtain ⟨a9, n9, c9, hu9⟩ := own_slice ho9.1; subst hu9; have HO9 : Hid (OwB v9 w9.heap.size (.slice a9 n9 c9) x9) := ho9; clear ho9; have G9 : Hid (Fil w F p [.int .i64 0, .int .i64 0, .int .i64 0, .int .i64 0, .int .i64 0, .int .i64 0, .slice none 0 0, .slice none 0 0, .slice none 0 0, .int .i64 0, .int .i64 0, .int .i64 0, .int .i64 0, .int .i64 0, .int .i64 0, .int .i64 0, .int .i64 0, .int .i64 0, .slice none 0 0, .slice none 0 0, .slice none 0 0] [.int .i64 x0.pe, .int .i64 x0.bu, .int .i64 x0.off, .int .i64 x0.pr, .int .i64 x1, .int .i64 x2, .slice a3 n3 c3, .slice a4 n4 c4, .slice a5 n5 c5, .int .i64 x6, .int .i64 h0, .int .i64 h1, .int .i64 h2, .int .i64 h3, .int .i64 h4, .int .i64 h5, .int .i64 h6, .int .i64 h7, .slice a8 n8 c8, .slice none 0 0, .slice none 0 0] 66 s10 v9) := F9.out.did hd9; have D9 : Hid (Kept (fun k => k < w.heap.size + 2) w9 v9) := hd9.2.mono (fun k e => by have := G9.out.fl p G9.out.fp; omega); have HGX9 : Hid (Got (decL decB) (s9.1, s9.2) x9 s10) := hg9; have q9 := G9.out.b3.cell (j := 19) rfl; have z9 := G9.out.b3.fz 19; clear hd9 hg9)
      have F10 : Hid (Fil w F p [.int .i64 0, .int .i64 0, .int .i64 0, .int .i64 0, .int .i64 0, .int .i64 0, .slice none 0 0, .slice none 0 0, .slice none 0 0, .int .i64 0, .int .i64 0, .int .i64 0, .int .i64 0, .int .i64 0, .int .i64 0, .int .i64 0, .int .i64 0, .int .i64 0, .slice none 0 0, .slice none 0 0, .slice none 0 0] [.int .i64 x0.pe, .int .i64 x0.bu, .int .i64 x0.off, .int .i64 x0.pr, .int .i64 x1, .int .i64 x2, .slice a3 n3 c3, .slice a4 n4 c4, .slice a5 n5 c5, .int .i64 x6, .int .i64 h0, .int .i64 h1, .int .i64 h2, .int .i64 h3, .int .i64 h4, .int .i64 h5, .int .i64 h6, .int .i64 h7, .slice a8 n8 c8, .slice a9 n9 c9, .slice none 0 0] 66 s10 (v9.setCell ⟨w.heap.size + 1, 19, none⟩ (.slice a9 n9 c9))) := G9.out.set 19 _
      have K9 : Hid (Kept (fun k => k < w.heap.size + 2) v9 (v9.setCell ⟨w.heap.size + 1, 19, none⟩ (.slice a9 n9 c9))) := (Kept.refl (fun k => k < w.heap.size + 2) v9).setCell (p := ⟨w.heap.size + 1, 19, none⟩) (.inl (by show w.heap.size + 1 < w.heap.size + 2; omega)) _
      have HL10 : Hid (s10.1.length ≤ 1048576) := Nat.le_trans HGX9.out.len HL9.out
      generalize (v9.setCell ⟨w.heap.size + 1, 19, none⟩ (.slice a9 n9 c9)) = w10 at *
      clear cp q9 z9 G9
      have HB10 : Hid (w.heap.size + 2 ≤ w10.heap.size) := F10.out.b3.lt
      have cp := gets_Bf F p s10.1 s10.2 w10 F10.out.rd HL10.out
      go_upto_region 17 with (go_at_call 115; refine cp.mono ?_; rintro ex v10 ⟨u10, x10, s11, rfl, ho10, hg10, hd10⟩; obtain ⟨a10, n10, c10, hu10⟩ := own_slice ho10.1; subst hu10; have HO10 : Hid (OwBf v10 w10.heap.size (.slice a10 n10 c10) x10) := ho10; clear ho10; have G10 : Hid (Fil w F p [.int .i64 0, .int .i64 0, .int .i64 0, .int .i64 0, .int .i64 0, .int .i64 0, .slice none 0 0, .slice none 0 0, .slice none 0 0, .int .i64 0, .int .i64 0, .int .i64 0, .int .i64 0, .int .i64 0, .int .i64 0, .int .i64 0, .int .i64 0, .int .i64 0, .slice none 0 0, .slice none 0 0, .slice none 0 0] [.int .i64 x0.pe, .int .i64 x0.bu, .int .i64 x0.off, .int .i64 x0.pr, .int .i64 x1, .int .i64 x2, .slice a3 n3 c3, .slice a4 n4 c4, .slice a5 n5 c5, .int .i64 x6, .int .i64 h0, .int .i64 h1, .int .i64 h2, .int .i64 h3, .int .i64 h4, .int .i64 h5, .int .i64 h6, .int .i64 h7, .slice a8 n8 c8, .slice a9 n9 c9, .slice none 0 0] 66 s11 v10) := F10.out.did hd10; have D10 : Hid (Kept (fun k => k < w.heap.size + 2) w10 v10) := hd10.2.mono (fun k e => by have := G10.out.fl p G10.out.fp; omega); have HGX10 : Hid (Got (decL decBf) (s10.1, s10.2) x10 s11) := hg10; have q10 := G10.out.b3.cell (j := 20) rfl; have z10 := G10.out.b3.fz 20; clear hd10 hg10)
      have F11 : Hid (Fil w F p [.int .i64 0, .int .i64 0, .int .i64 0, .int .i64 0, .int .i64 0, .int .i64 0, .slice none 0 0, .slice none 0 0, .slice none 0 0, .int .i64 0, .int .i64 0, .int .i64 0, .int .i64 0, .int .i64 0, .int .i64 0, .int .i64 0, .int .i64 0, .int .i64 0, .slice none 0 0, .slice none 0 0, .slice none 0 0] [.int .i64 x0.pe, .int .i64 x0.bu, .int .i64 x0.off, .int .i64 x0.pr, .int .i64 x1, .int .i64 x2, .slice a3 n3 c3, .slice a4 n4 c4, .slice a5 n5 c5, .int .i64 x6, .int .i64 h0, .int .i64 h1, .int .i64 h2, .int .i64 h3, .int .i64 h4, .int .i64 h5, .int .i64 h6, .int .i64 h7, .slice a8 n8 c8, .slice a9 n9 c9, .slice a10 n10 c10] 66 s11 (v10.setCell ⟨w.heap.size + 1, 20, none⟩ (.slice a10 n10 c10))) := G10.out.set 20 _
      have K10 : Hid (Kept (fun k => k < w.heap.size + 2) v10 (v10.setCell ⟨w.heap.size + 1, 20, none⟩ (.slice a10 n10 c10))) := (Kept.refl (fun k => k < w.heap.size + 2) v10).setCell (p := ⟨w.heap.size + 1, 20, none⟩) (.inl (by show w.heap.size + 1 < w.heap.size + 2; omega)) _
      have HL11 : Hid (s11.1.length ≤ 1048576) := Nat.le_trans HGX10.out.len HL10.out
      generalize (v10.setCell ⟨w.heap.size + 1, 20, none⟩ (.slice a10 n10 c10)) = w11 at *
      clear cp q10 z10 G10
      obtain ⟨C, hC⟩ : ∃ C : List Value, C = [.int .i64 x0.pe, .int .i64 x0.bu, .int .i64 x0.off, .int .i64 x0.pr, .int .i64 x1, .int .i64 x2, .slice a3 n3 c3, .slice a4 n4 c4, .slice a5 n5 c5, .int .i64 x6, .int .i64 h0, .int .i64 h1, .int .i64 h2, .int .i64 h3, .int .i64 h4, .int .i64 h5, .int .i64 h6, .int .i64 h7, .slice a8 n8 c8, .slice a9 n9 c9, .slice a10 n10 c10] := ⟨_, rfl⟩
      have HC : Hid (C = [.int .i64 x0.pe, .int .i64 x0.bu, .int .i64 x0.off, .int .i64 x0.pr, .int .i64 x1, .int .i64 x2, .slice a3 n3 c3, .slice a4 n4 c4, .slice a5 n5 c5, .int .i64 x6, .int .i64 h0, .int .i64 h1, .int .i64 h2, .int .i64 h3, .int .i64 h4, .int .i64 h5, .int .i64 h6, .int .i64 h7, .slice a8 n8 c8, .slice a9 n9 c9, .slice a10 n10 c10]) := hC
      have hCl : C.length = 21 := by rw [hC]; rfl
      have HC1 : Hid (∀ v ∈ C, v.oneCell' = true) := by
        show ∀ v ∈ C, v.oneCell' = true
        rw [hC]
        intro v hv
        simp only [List.mem_cons, List.not_mem_nil, or_false] at hv
        rcases hv with rfl | rfl | rfl | rfl | rfl | rfl | rfl | rfl | rfl | rfl | rfl | rfl | rfl | rfl | rfl | rfl | rfl | rfl | rfl | rfl | rfl <;> rfl
      have HE : Hid (Fil w F p [.int .i64 0, .int .i64 0, .int .i64 0, .int .i64 0, .int .i64 0, .int .i64 0, .slice none 0 0, .slice none 0 0, .slice none 0 0, .int .i64 0, .int .i64 0, .int .i64 0, .int .i64 0, .int .i64 0, .int .i64 0, .int .i64 0, .int .i64 0, .int .i64 0, .slice none 0 0, .slice none 0 0, .slice none 0 0] C 66 s11 w11) := by rw [hC]; exact F11.out
      clear hC F11
      have hld : (Instr.loadAt 66 (.pointer (some ⟨w.heap.size + 1, 0, none⟩))).run Tryz.prog w11 = .ok (.agg C.toArray) w11 := run_loadAt_mid w11 (w.heap.size + 1) 0 _ C _ (fun j v hv => by rw [Nat.zero_add]; exact HE.out.b3.cell hv) Tryz.underlying66 rfl (by rw [hCl]; exact sizePn)
      have hst : (Instr.storeAt 66 (.pointer (some ⟨w.heap.size, 0, none⟩)) (.agg C.toArray)).run Tryz.prog w11 = .ok () (w11.setCells w.heap.size 0 C) := by
        refine run_storeAt_mid w11 w.heap.size 0 _ C.toArray ?_ (by rw [sizePn]; simp [hCl]) (all_oneCell_toArray HC1.out)
        intro j hj
        rw [Nat.zero_add]
        refine ⟨?_, HE.out.b2.fz j⟩
        obtain ⟨v, hv⟩ : ∃ v, ([.int .i64 0, .int .i64 0, .int .i64 0, .int .i64 0, .int .i64 0, .int .i64 0, .slice none 0 0, .slice none 0 0, .slice none 0 0, .int .i64 0, .int .i64 0, .int .i64 0, .int .i64 0, .int .i64 0, .int .i64 0, .int .i64 0, .int .i64 0, .int .i64 0, .slice none 0 0, .slice none 0 0, .slice none 0 0] : List Value)[j]? = some v := ⟨_, List.getElem?_eq_getElem (by simpa [hCl] using hj)⟩
        rw [HE.out.b2.cell hv]; rfl
      have HLD : Hid ((Instr.loadAt 66 (.pointer (some ⟨w.heap.size + 1, 0, none⟩))).run Tryz.prog w11 = .ok (.agg C.toArray) w11) := hld
      have HST : Hid ((Instr.storeAt 66 (.pointer (some ⟨w.heap.size, 0, none⟩)) (.agg C.toArray)).run Tryz.prog w11 = .ok () (w11.setCells w.heap.size 0 C)) := hst
      have HBK : Hid (Bk (w11.setCells w.heap.size 0 C) w.heap.size C 66) := by
        have h := Bk.setCells C w11 _ 0 HE.out.b2
        have h2 := setL_all C [] [.int .i64 0, .int .i64 0, .int .i64 0, .int .i64 0, .int .i64 0, .int .i64 0, .slice none 0 0, .slice none 0 0, .slice none 0 0, .int .i64 0, .int .i64 0, .int .i64 0, .int .i64 0, .int .i64 0, .int .i64 0, .int .i64 0, .int .i64 0, .int .i64 0, .slice none 0 0, .slice none 0 0, .slice none 0 0] (by rw [hCl]; rfl)
        rw [List.nil_append, List.nil_append] at h2
        have h3 : setL [.int .i64 0, .int .i64 0, .int .i64 0, .int .i64 0, .int .i64 0, .int .i64 0, .slice none 0 0, .slice none 0 0, .slice none 0 0, .int .i64 0, .int .i64 0, .int .i64 0, .int .i64 0, .int .i64 0, .int .i64 0, .int .i64 0, .int .i64 0, .int .i64 0, .slice none 0 0, .slice none 0 0, .slice none 0 0] 0 C = C := h2
        rw [h3] at h
        exact h
      have HKB : Hid (Kept (fun k => k = w.heap.size) w11 (w11.setCells w.heap.size 0 C)) := setCells_keptB _ _ _ _
      clear hld hst
      refine wp_region_lit ?_
      try simp only [Act.put, List.setIfInBounds_toArray, List.set_cons_zero, List.set_cons_succ]
      refine l_take 44 rfl rfl (er_ld _ _ rfl _ _ rfl HLD.out) ?_
      simp only [Act.put, List.setIfInBounds_toArray, List.set_cons_zero, List.set_cons_succ]
      refine l_turn rfl rfl (er_st _ _ _ rfl _ _ rfl rfl HST.out) ?_
      generalize w11.setCells w.heap.size 0 C = w12 at *
      go_wp2
      refine bodyPost_ret (results_cell_row rfl _ _ w.heap.size 66 C.toArray (0, 0) _ rfl HBK.out Tryz.underlying66 rfl (by rw [sizePn]; simp [hCl])) rfl ?_
      have ks2 := HKB.out.mono (G := fun k => k < w.heap.size + 2) (fun k e => by omega)
      refine ⟨⟨x0.pe, x0.bu, x0.off, x0.pr, x1, x2, x3, x4, x5, x6, h0, h1, h2, h3, h4, h5, h6, h7, x8, x9, x10⟩, s11, C, rfl, ⟨⟨a3, n3, c3, a4, n4, c4, a5, n5, c5, a8, n8, c8, a9, n9, c9, a10, n10, c10, HC.out, (HO3.out.kept ((((((((((((((K3.out.trans D4.out (fun _ h => .inl h)).trans K4.out (fun _ h => .inl h)).trans D5.out (fun _ h => .inl h)).trans K5.out (fun _ h => .inl h)).trans D6.out (fun _ h => .inl h)).trans K6.out (fun _ h => .inl h)).trans D7.out (fun _ h => .inl h)).trans D8.out (fun _ h => .inl h)).trans K8.out (fun _ h => .inl h)).trans D9.out (fun _ h => .inl h)).trans K9.out (fun _ h => .inl h)).trans D10.out (fun _ h => .inl h)).trans K10.out (fun _ h => .inl h)).trans ks2 (fun _ h => .inl h)) (fun g hg e => by have := HB3.out; omega) (by have := HB3.out; omega)), (HO4.out.kept ((((((((((((K4.out.trans D5.out (fun _ h => .inl h)).trans K5.out (fun _ h => .inl h)).trans D6.out (fun _ h => .inl h)).trans K6.out (fun _ h => .inl h)).trans D7.out (fun _ h => .inl h)).trans D8.out (fun _ h => .inl h)).trans K8.out (fun _ h => .inl h)).trans D9.out (fun _ h => .inl h)).trans K9.out (fun _ h => .inl h)).trans D10.out (fun _ h => .inl h)).trans K10.out (fun _ h => .inl h)).trans ks2 (fun _ h => .inl h)) (fun g hg e => by have := HB4.out; omega) (by have := HB4.out; omega)), (HO5.out.kept ((((((((((K5.out.trans D6.out (fun _ h => .inl h)).trans K6.out (fun _ h => .inl h)).trans D7.out (fun _ h => .inl h)).trans D8.out (fun _ h => .inl h)).trans K8.out (fun _ h => .inl h)).trans D9.out (fun _ h => .inl h)).trans K9.out (fun _ h => .inl h)).trans D10.out (fun _ h => .inl h)).trans K10.out (fun _ h => .inl h)).trans ks2 (fun _ h => .inl h)) (fun g hg e => by have := HB5.out; omega) (by have := HB5.out; omega)), (HO8.out.kept (((((K8.out.trans D9.out (fun _ h => .inl h)).trans K9.out (fun _ h => .inl h)).trans D10.out (fun _ h => .inl h)).trans K10.out (fun _ h => .inl h)).trans ks2 (fun _ h => .inl h)) (fun g hg e => by have := HB8.out; omega) (by have := HB8.out; omega)), (HO9.out.kept (((K9.out.trans D10.out (fun _ h => .inl h)).trans K10.out (fun _ h => .inl h)).trans ks2 (fun _ h => .inl h)) (fun g hg e => by have := HB9.out; omega) (by have := HB9.out; omega)), (HO10.out.kept (K10.out.trans ks2 (fun _ h => .inl h)) (fun g hg e => by have := HB10.out; omega) (by have := HB10.out; omega))⟩, ?_⟩, ?_, HE.out.rd.kept HKB.out (fun b hb e => by have := HE.out.fl b hb; omega), HE.out.kp.trans HKB.out (fun k e => .inr (by omega))⟩
      · have q := HG8.out.2
        rw [HHS.out] at q
        exact ⟨hx0.1, hx0.2.1, hx0.2.2.1, hx0.2.2.2, hx1, hx2, HO3.out.2.1, HO4.out.2.1, HO5.out.2.1, hx6, q h0 (by simp), q h1 (by simp), q h2 (by simp), q h3 (by simp), q h4 (by simp), q h5 (by simp), q h6 (by simp), q h7 (by simp), HO8.out.2.1, HO9.out.2.1, HO10.out.2.1⟩
      · rw [decPn_eq]
        have g8 := HG8.out.1
        rw [HHS.out] at g8
        exact (HGX0.out.bind (HGX1.out.bind (HGX2.out.bind (HGX3.out.bind (HGX4.out.bind (HGX5.out.bind (HGX6.out.bind (g8.bind (HGX8.out.bind (HGX9.out.bind (HGX10.out.bind (Got.pure _ _)))))))))))) 

end Go.Proofs.YtolmhoenjcinjaaGreat
