/-
  States: the walk.
-/
import Derived.Test.YtofkacfchkimiaaPStP
import Derived.Deep.DeepCutAuto
namespace Go.Proofs.Ytofkacfchkimiaa
open Go.RowKit
set_option linter.unusedVariables false
set_option linter.unusedSimpArgs false
set_option maxRecDepth 100000
/-- the first k states, told since w -/
def StL (w wr : World) (T : Tt) (k : Nat) (v : Value) (ds : Nat → Value) : Prop :=
  wr.ownsRow w.heap.size 48 28 v k (sL T ds k) ∧ Kept No w wr ∧
  (∀ j, j < k → ∃ ya yc, ds j = .slice ya (T.ps j).ws.length yc ∧ wr.ownsRow w.heap.size 2 1 (ds j) (T.ps j).ws.length ((T.ps j).ws.map iv)) ∧
  (∀ i j, i < j → j < k → ∀ q, (ds i).ownBlock = some q → (ds j).ownBlock ≠ some q)
theorem StL.keep {w W W' : World} {T : Tt} {k : Nat} {v : Value} {ds : Nat → Value} (h : StL w W T k v ds) (q : Kept No W W') : StL w W' T k v ds :=
  ⟨q.owns h.1 (fun _ _ e => e), h.2.1.trans q (fun _ e => e.elim), fun j hj => by obtain ⟨ya, yc, e, o⟩ := h.2.2.1 j hj; exact ⟨ya, yc, e, q.owns o (fun _ _ e => e)⟩, h.2.2.2⟩
theorem owns_lo {w : World} {B e s n : Nat} {v : Value} {xs : List Value} (h : w.ownsRow B e s v n xs) {q : Nat} (hq : v.ownBlock = some q) : B ≤ q := by
  obtain ⟨_, ⟨rfl, _⟩ | ⟨g, cap, cur, rfl, hB, hg, _⟩⟩ := h
  · cases hq
  · have e1 : g = q := by simpa [Value.ownBlock] using hq
    omega
theorem owns_lt {w : World} {B e s n : Nat} {v : Value} {xs : List Value} (h : w.ownsRow B e s v n xs) {q : Nat} (hq : v.ownBlock = some q) : q < w.heap.size := by
  obtain ⟨_, ⟨rfl, _⟩ | ⟨g, cap, cur, rfl, hB, hg, _⟩⟩ := h
  · cases hq
  · have e1 : g = q := by simpa [Value.ownBlock] using hq
    subst e1
    exact (Array.getElem?_eq_some_iff.1 hg).1
section
variable {b g cap : Nat} {T : Tt}
set_option maxHeartbeats 8000000 in
theorem states_any (w : World) (h : Tw w b g cap T) (hn : T.n ≤ 1048576) (hm : ∀ i, i < T.n → (T.ps i).ws.length ≤ 1048576) :
    Calls Try.prog 30 #[.pointer (some ⟨b, 0, none⟩)] w fun e w' => ∃ va vc ds, e = .returned (.tuple #[.slice va T.n vc, .int .i64 T.lk, .int .i64 T.pl]) ∧ StL w w' T T.n (.slice va T.n vc) ds := by
  have hb := h.box
  have hc := h.hcap
  have hx := h.hmax
  have H : Hid (Tw w b g cap T ∧ ∀ i, i < T.n → (T.ps i).ws.length ≤ 1048576) := ⟨h, hm⟩
  clear h hm
  go_enter Try.func30, Try.ntmps30
  go_wp2
  clear hb
  go_loopw [5, 14] (fun l i wr => ∃ (k : Nat) (va : Option Addr) (vc : Nat) (ds : Nat → Value), k ≤ T.n ∧ i = .int .i64 k ∧ l = .slice va k vc ∧ StL w wr T k (.slice va k vc) ds) (fun _ i _ => T.n - (intOf i).toNat)
  case atStart => exact ⟨0, none, 0, fun _ => .slice none 0 0, by omega, rfl, rfl, World.ownsRow_nil _ _ _ _, Kept.refl _ _, fun j hj => by omega, fun i j _ hj => by omega⟩
  case round =>
    obtain ⟨k, va, vc, ds, hk, rfl, rfl, sl⟩ := hrel
    by_cases hlt : k < T.n
    · have hltz : (k : Int) < (T.n : Int) := by omega
      have tr := H.out.1.keep sl.2.1
      have hb := tr.box
      have hr := tr.range hlt
      obtain ⟨a, m, c, ed, hz⟩ := tr.da k hlt
      have em := hz.len
      have co := copyOf_any wr ((T.ps k).val (.slice a m c)) rfl rfl (val_one _) hz (fun k hk => hk.2.2) (by have := H.out.2 k hlt; omega)
      rw [ed] at hr
      have HR : Hid (wr.rangeAt g (k * 32) ((T.ps k).val (.slice a m c)).toList ∧ (T.ps k).ws.length = m) := ⟨hr, em⟩
      have SL : Hid (StL w wr T k (.slice va k vc) ds) := sl
      clear tr hr hz ed em sl
      go_upto_region 7 with fail
      refine wp_region_lit ?_
      iterate 24 go_step
      refine wpList_load_mid rfl 48 (.tmp 24) rfl g (k * 32) rfl _ _ HR.out.1 Try.underlying48 rfl (by rw [show ((T.ps k).val (.slice a m c)).toList.length = 28 from rfl]; exact Try.info48) ?_
      rw [show ((T.ps k).val (.slice a m c)).toList.toArray = (T.ps k).val (.slice a m c) from rfl]
      simp only [Act.put, List.setIfInBounds_toArray, List.set_cons_zero, List.set_cons_succ]
      refine list_call rfl (er_c_copyOf (.tmp 25) 48 rfl _ rfl) co (fun e w' ⟨ya, yc, he, _⟩ => ⟨_, he⟩) ?_
      rintro v w3 ⟨ya, yc, he, o3, k3⟩
      rw [show ((T.ps k).val (.slice a m c)).setIfInBounds 26 (.slice ya m yc) = (T.ps k).val (.slice ya m yc) from rfl] at he
      injection he with he
      subst he
      simp only [Act.put, List.setIfInBounds_toArray, List.set_cons_zero, List.set_cons_succ]
      have hw3 := k3.size
      have hw0 := SL.out.2.1.size
      obtain ⟨za, zc, w4, hrun, o4, g4⟩ := appS_run w3 ((T.ps k).val (.slice ya m yc)) rfl (val_one _) (k3.owns SL.out.1 (fun _ _ e => e)) (by omega) (by omega) 78
      refine wg_val rfl (er_bsS _ rfl ((T.ps k).val (.slice ya m yc)) rfl (fill_val _ _)) ?_
      simp only [Act.put, List.setIfInBounds_toArray, List.set_cons_zero, List.set_cons_succ]
      refine wg_val rfl (er_appS _ _ rfl (.slice va k vc) (.slice (some ⟨w3.heap.size, 0, none⟩) 1 1) rfl rfl (.slice za (k + 1) zc) w4 hrun) ?_
      simp only [Act.put, List.setIfInBounds_toArray, List.set_cons_zero, List.set_cons_succ]
      have S4 : Hid (StL w w4 T (k + 1) (.slice za (k + 1) zc) (fun j => if j = k then .slice ya m yc else ds j)) := by
        have ka : Kept No wr (w3.alloc (.cells ((T.ps k).val (.slice ya m yc)) 48)) := k3.alloc _
        have kg : Kept (fun q => (Value.slice va k vc).ownBlock = some q) wr w4 := (ka.mono (fun _ e => e.elim)).grown g4 (fun q e => .inl e)
        have kh : Kept (fun q => (Value.slice va k vc).ownBlock = some q) w3 w4 := (((Kept.refl No w3).alloc _).mono (fun _ e => e.elim)).grown g4 (fun q e => .inl e)
        have o31 := k3.owns SL.out.1 (fun _ _ e => e)
        refine ⟨?_, SL.out.2.1.trans kg (fun q e => .inr (owns_lo SL.out.1 e)), fun j hj => ?_, fun i j hij hj q hq => ?_⟩
        · have e1 : sL T (fun j => if j = k then .slice ya m yc else ds j) (k + 1) = sL T ds k ++ ((T.ps k).val (.slice ya m yc)).toList := by
            show sL T (fun j => if j = k then .slice ya m yc else ds j) k ++ ((T.ps k).val (if k = k then .slice ya m yc else ds k)).toList = _
            rw [if_pos rfl, sL_ext T _ ds k (fun j hj => by show (if j = k then _ else _) = _; rw [if_neg (by omega)])]
          rw [e1]; exact o4
        · by_cases ej : j = k
          · subst ej
            simp only [if_pos rfl]
            rw [HR.out.2]
            refine ⟨ya, yc, rfl, own_down (kh.owns o3 (fun q e1 e2 => own_ne o3 o31 (by decide) e1 e2)) hw0⟩
          · simp only [if_neg ej]
            obtain ⟨xa, xc, e1, e2⟩ := SL.out.2.2.1 j (by omega)
            exact ⟨xa, xc, e1, kg.owns e2 (fun q e3 e4 => own_ne e2 SL.out.1 (by decide) e3 e4)⟩
        · have ei : i ≠ k := by omega
          simp only [if_neg ei] at hq
          by_cases ej : j = k
          · subst ej
            simp only [if_pos rfl]
            intro e
            obtain ⟨xa, xc, e1, e2⟩ := SL.out.2.2.1 i hij
            have l1 := (owns_lt e2 hq)
            have l2 := owns_lo o3 e
            omega
          · simp only [if_neg ej]
            exact SL.out.2.2.2 i j hij (by omega) q hq
      clear hrun o4 g4 o3 k3 co hw3 hw0
      go_wp2
      go_roundw
      case rel => exact ⟨k + 1, za, zc, _, by omega, by go_num, rfl, S4.out⟩
      case measure => simp [intOf]; omega
    · have hltz : ¬ (k : Int) < (T.n : Int) := by omega
      have hkn : k = T.n := by omega
      subst hkn
      have tr := H.out.1.keep sl.2.1
      have c3 := tr.lk
      have c4 := tr.pl
      have SL : Hid (StL w wr T T.n (.slice va T.n vc) ds) := sl
      clear tr sl
      go_wp2
      go_quiet (fail)
      go_wp2
      go_ret3
      exact ⟨va, vc, ds, rfl, by first | exact SL.out | exact SL.out.keep (Kept.refl No wr).drew | exact SL.out.keep ((Kept.refl No wr).drewN _)⟩
end
end Go.Proofs.Ytofkacfchkimiaa
