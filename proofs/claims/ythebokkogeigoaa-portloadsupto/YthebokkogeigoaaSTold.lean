/-
  told: State is the document's, and new memory each time.
-/
import Derived.Test.YthebokkogeigoaaSSpo
import Derived.Test.YthebokkogeigoaaSSame
namespace Go.Proofs.Ythebokkogeigoaa
open Go.RowKit
set_option linter.unusedVariables false
set_option linter.unusedSimpArgs false
set_option maxRecDepth 100000

theorem Tv.mr {B : Nat} {w : World} {it : Value} {ms : List Value} {sv : Value} {s : Ps} (h : Tv B w it ms sv s) (hl : s.q.length ≤ 1048576) (hq : ∀ x, x ∈ s.q → x.length ≤ 1048576) : ∃ qa qc, it = .slice qa s.q.length qc ∧ Mr w (fun k => B ≤ k) qa s.q.length qc s.q := by
  obtain ⟨qa, qc, e, v⟩ := Vs.of_owns h.que
  rw [← h.len] at e v
  refine ⟨qa, qc, e, rfl, v.cap, v.max, v.nil, hl, fun i hi => ?_⟩
  have hi' : i < ms.length := by rw [← h.len]; exact hi
  obtain ⟨b, o, ea, hb, hc⟩ := v.at' i _ (List.getElem?_eq_getElem hi')
  have hx : s.q[i]? = some s.q[i] := List.getElem?_eq_getElem hi
  have ho := h.msg i _ _ (List.getElem?_eq_getElem hi') hx
  obtain ⟨za, zc, ez, zz⟩ := Zs.of_owns ho
  have hgd : s.q.getD i [] = s.q[i] := by rw [List.getD_eq_getElem?_getD, hx]; rfl
  refine ⟨b, o, za, s.q[i].length, zc, ea, (owns_blk h.que hb).1, by rw [hc, ez], ?_, hq _ (List.getElem_mem hi)⟩
  rw [hgd]
  exact zz.mono (fun k hk => (owns_blk ho hk).1)
theorem Tl.sr {B : Nat} {w : World} {a : Option Addr} {n c : Nat} {it sv : Nat → Value} {ms : Nat → List Value} {ss : Nat → Ps} (h : Tl B w a n c it sv ms ss) (hn : n ≤ 1048576) (hs : ∀ i, i < n → (ss i).q.length ≤ 1048576 ∧ (ss i).d.length ≤ 1048576 ∧ ∀ x, x ∈ (ss i).q → x.length ≤ 1048576) : Sr w (fun k => B ≤ k) a n c ss := by
  have hcc : n ≤ c ∧ c ≤ 9223372036854775807 := by
    rcases h.row.shape with ⟨a', c', e, h1, h2⟩
    injection e with _ _ e3
    subst e3
    exact ⟨h1, h2⟩
  refine ⟨hcc.1, hcc.2, hn, fun i hi => ?_⟩
  obtain ⟨g, rfl⟩ : ∃ g, a = some ⟨g, 0, none⟩ := by
    obtain ⟨g, cap, e, _⟩ := h.row.look hi
    injection e with e
    exact ⟨g, e⟩
  have tv := h.each i hi
  obtain ⟨qa, qc, eq, mr⟩ := tv.mr (hs i hi).1 (hs i hi).2.2
  obtain ⟨za, zc, ez, zz⟩ := Zs.of_owns tv.smp
  refine ⟨g, 0, (ss i).val (it i) (sv i), rfl, (h.row.blk (g := g) rfl).1, fun j hj => ?_, qa, _, qc, za, _, zc, by rw [eq, ez], mr, zz.mono (fun k hk => (owns_blk tv.smp hk).1), (hs i hi).2.1⟩
  rw [Nat.zero_add, h.at5 hi j hj]
  have : j = 0 ∨ j = 1 ∨ j = 2 ∨ j = 3 ∨ j = 4 := by omega
  rcases this with rfl | rfl | rfl | rfl | rfl <;> rfl
theorem Tl.long {B : Nat} {w : World} {a : Option Addr} {n c : Nat} {it sv : Nat → Value} {ms : Nat → List Value} {ss : Nat → Ps} (h : Tl B w a n c it sv ms ss) (hq : ∀ i, i < n → (ss i).q.length ≤ 64) : ∀ k, k ≤ n → (cat (fun i => sv i :: ms i) k).length ≤ k * 65
  | 0, _ => Nat.le_refl _
  | k + 1, hk => by
    have h1 := Tl.long h hq k (by omega)
    have h2 := (h.each k (by omega)).len
    have h3 := hq k (by omega)
    rw [cat, List.length_append]
    simp
    omega
theorem Tl.ub {B : Nat} {w : World} {a : Option Addr} {n c : Nat} {it sv : Nat → Value} {ms : Nat → List Value} {ss : Nat → Ps} (h : Tl B w a n c it sv ms ss) {x : Nat} (hx : Ub (cat (fun i => sv i :: ms i) n) x) : B ≤ x ∧ x < w.heap.size := by
  obtain ⟨j, v, hv, hb⟩ := hx
  obtain ⟨i, hi, hm⟩ := (h.flat n (Nat.le_refl _)).1 j v hv
  obtain ⟨y, ho⟩ := (h.each i hi).wd hm
  exact owns_at ho hb
theorem Tl.kept {B : Nat} {w w' : World} {a : Option Addr} {n c : Nat} {it sv : Nat → Value} {ms : Nat → List Value} {ss : Nat → Ps} {G : Nat → Prop} (h : Tl B w a n c it sv ms ss) (K : Kept G w w') (hG : ∀ x, G x → x < B) : Tl B w' a n c it sv ms ss :=
  ⟨h.row.kept K (fun g hg e => by have := (h.row.blk hg).1; have := hG g e; omega), fun i hi => (h.each i hi).kept K (fun g hg e => by have := (owns_blk (h.each i hi).que hg).1; have := hG g e; omega) (fun u hu g hg e => by obtain ⟨y, ho⟩ := (h.each i hi).wd hu; have := (owns_blk ho hg).1; have := hG g e; omega), h.far⟩
/-- ports that stand in small lists -/
def Smal (n : Nat) (ss : Nat → Ps) : Prop := ∀ i, i < n → (ss i).q.length ≤ 64 ∧ (ss i).d.length ≤ 1048576 ∧ ∀ x, x ∈ (ss i).q → x.length ≤ 1048576
set_option maxHeartbeats 8000000 in
theorem told_yes {F : Nat → Prop} {B b mb c sc : Nat} {sa : Option Addr} {S : Pd} (w : World) (h : Pt w B b mb c S) (hn : S.n ≤ 64) (hsm : Smal S.n S.ss) (hs : Sr w F sa S.n sc S.ss) (hF : ∀ k, F k → k < w.heap.size) :
    Calls Try.prog 21 #[.pointer (some ⟨b, 0, none⟩), .slice sa S.n sc] w fun r w' => r = .returned (.bool true) ∧ Kept No w w' := by
  have hsS : S.small := fun i hi ho => by
    have h1 := hsm i hi
    unfold Pd.ss at h1
    rw [if_pos ho] at h1
    exact ⟨by rw [← (h.ends i hi ho).len]; have : (S.en i).xs.length ≤ 64 := h1.1; omega, h1.2.2, h1.2.1⟩
  have hsm3 : ∀ i, i < S.n → (S.ss i).q.length ≤ 1048576 ∧ (S.ss i).d.length ≤ 1048576 ∧ ∀ x, x ∈ (S.ss i).q → x.length ≤ 1048576 := fun i hi => ⟨by have := (hsm i hi).1; omega, (hsm i hi).2⟩
  have st1 := state_any w h (by omega) hsS
  have HH := hid (And.intro h (And.intro hsm (And.intro hsm3 (And.intro hs (And.intro hF hsS)))))
  clear h hsm hsm3 hs hF hsS
  go_enter Try.func21, Try.ntmps21
  go_upto_region 2 with (go_at_call 25; refine st1.mono ?_; rintro r w1 ⟨a1, c1, it1, sv1, ms1, rfl, tl1, k1⟩; have T1 := hid (And.intro tl1 k1); clear tl1 k1 st1)
  have st2 := state_any w1 (HH.out.1.keep T1.out.2) (by omega) HH.out.2.2.2.2.2
  go_upto_region 3 with (go_at_call 25; refine st2.mono ?_; rintro r w2 ⟨a2, c2, it2, sv2, ms2, rfl, tl2, k2⟩; have T2 := hid (And.intro tl2 k2); clear tl2 k2 st2)
  have k02 : Kept No w w2 := T1.out.2.trans T2.out.2 (fun _ e => .inl e)
  have sA := sameState_yes w2 ((T1.out.1.keep T2.out.2).sr (by omega) HH.out.2.2.1) (HH.out.2.2.2.1.kept k02 (fun _ _ e => e))
  have K02 := hid k02
  clear k02
  go_cut [25] (fun x wd => x = .bool false ∧ Kept No w wd)
  case first =>
    go_wp2_with (first
      | (go_at_call 40; refine sA.mono ?_; rintro r w3 ⟨rfl, k3⟩; have tl3 := (T1.out.1.keep T2.out.2).keep k3; have spo := spoilt_yes w3 tl3 (fun i hi => (HH.out.2.2.1 i hi).2) (by omega) (by have := tl3.long (fun i hi => (HH.out.2.1 i hi).1) S.n (Nat.le_refl _); omega); have K3 := hid (And.intro k3 tl3); clear k3 tl3 sA)
      | (go_at_call 41; refine spo.mono ?_; rintro r w4 ⟨rfl, k4⟩; have kg : Kept (fun x => w.heap.size ≤ x) w w4 := ((K02.out.trans K3.out.1 (fun _ e => .inl e)).mono (fun _ e => e.elim)).trans k4 (fun x hx => .inl (K3.out.2.ub hx).1); have tl4 := (T2.out.1.keep K3.out.1).kept k4 (fun x hx => ((T1.out.1.ub hx).2)); have sB := sameState_yes w4 (tl4.sr (by omega) HH.out.2.2.1) (HH.out.2.2.2.1.kept kg (fun x hx e => by have := HH.out.2.2.2.2.1 x hx; omega)); have K4 := hid kg; clear k4 kg tl4 spo)
      | (go_at_call 40; refine sB.mono ?_; rintro r w5 ⟨rfl, k5⟩; have K5 : Hid (Kept No w w5) := ⟨(K4.out.trans k5 (fun _ e => e.elim)).os, (K4.out.trans k5 (fun _ e => e.elim)).tape, (K4.out.trans k5 (fun _ e => e.elim)).output, (K4.out.trans k5 (fun _ e => e.elim)).size, fun j hj _ => (K4.out.trans k5 (fun _ e => e.elim)).block j hj (fun e => by omega)⟩; clear k5 sB))
    go_meet
    exact ⟨rfl, K5.out⟩
  case rest =>
  obtain ⟨rfl, kc⟩ := hcut
  rename World => w6
  have st3 := state_any w6 (HH.out.1.keep kc) (by omega) HH.out.2.2.2.2.2
  have KC := hid kc
  clear kc sA T1 T2 K02
  go_wp2_with (first
    | (go_at_call 25; refine st3.mono ?_; rintro r w7 ⟨a3, c3, it3, sv3, ms3, rfl, tl7, k7⟩; have k07 := KC.out.trans k7 (fun _ e => .inl e); have sC := sameState_yes w7 (tl7.sr (by omega) HH.out.2.2.1) (HH.out.2.2.2.1.kept k07 (fun _ _ e => e)); have K7 := hid k07; clear tl7 k7 k07 st3)
    | (go_at_call 40; refine sC.mono ?_; rintro r w8 ⟨rfl, k8⟩; have K8 := hid (K7.out.trans k8 (fun _ e => .inl e)); clear k8 sC))
  go_ret
  exact ⟨rfl, K8.out⟩
end Go.Proofs.Ythebokkogeigoaa
