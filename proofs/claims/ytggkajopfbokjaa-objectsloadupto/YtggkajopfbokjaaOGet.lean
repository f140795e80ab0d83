/-
  objects: Put where there is no room, Get.
-/
import Derived.Test.YtggkajopfbokjaaOPut
namespace Go.Proofs.Ytggkajopfbokjaa
open Go.RowKit
set_option linter.unusedVariables false
set_option maxRecDepth 100000
section
variable {B b : Nat} {sv ev bv : Value} {S : So}
set_option maxHeartbeats 2000000 in
theorem put_full {F : Nat → Prop} {da : Option Addr} {dn dc : Nat} {xs : List Int} (w : World) (h : St w B b sv ev bv S) {i : Nat} (hi : i < S.nb) (hn : S.nb ≤ 1048576) (hz : Zs w F da dn dc xs) (hd : (dn : Int) = S.sz i) (hl : S.dp i ≤ ((S.ms i).length : Int)) (hdn : dn ≤ 17592186044416) :
    Calls Try.prog 9 #[.pointer (some ⟨b, 0, none⟩), .int .i64 ((i : Int) + 1), .slice da dn dc] w fun e w' => e = .returned (.tuple #[.bool false, .int .i64 0]) ∧ Kept No w w' := by
  have li := lists_any w h
  obtain ⟨g, cap, rfl, _, _, hg, hc, hf⟩ := h.bufs.look hi
  obtain ⟨sa, sc, rfl, _⟩ := h.sems.shape
  obtain ⟨ea, ec, rfl, _⟩ := h.evs.shape
  obtain ⟨ia, ic, hia, _⟩ := (h.its i hi).shape
  have fd := field2 sa ea (some ⟨g, 0, none⟩) S.ns sc S.ne ec S.nb cap
  have fi := fun W => findb_yes W g S.nb cap hn i hi
  have c2 : w.cell? ⟨g, i * 3 + 2, none⟩ = some (.int .i64 (S.sz i)) := hc 2 (by decide)
  have hd' : ((dn : Int) != S.sz i) = false := by simp [hd]
  have CW : Hid (∀ W, Kept No w W → Calls Try.prog 34 #[.slice da dn dc] W fun e w' => ∃ ya yc, e = .returned (.slice ya dn yc) ∧ w'.ownsRow W.heap.size 2 1 (.slice ya dn yc) dn (xs.map iv) ∧ Kept No W w') := fun W k => words_any W (hz.kept k (fun _ _ e => e)) hdn
  have c0 : w.cell? ⟨g, i * 3, none⟩ = some (.slice ia (S.ms i).length ic) := by rw [← hia]; exact hc 0 (by decide)
  have AD : Hid (∀ W, Kept No w W → ∀ m, Calls Try.prog 33 #[.pointer (some ⟨g, i * 3, none⟩), m] W fun e w' => e = .returned (.bool false) ∧ Kept No W w') := fun W k m =>
    add_no W (k.cell c0 (fun e => e)) (k.cell (hc 1 (by decide)) (fun e => e)) hl m
  clear h hc hf hz hl c0 hia
  generalize S.sz i = z at *
  clear hd
  go_enter Try.func9, Try.ntmps9
  go_upto_region 4 with (first
    | (go_at_call 31; refine li.mono ?_; rintro e w1 ⟨rfl, k1⟩; have c1 := k1.cell c2 (fun e => e); have K1 := hid k1; clear li k1 c2)
    | (go_at_call 32; refine (fi _).mono ?_; rintro e w2 ⟨rfl, hw2⟩; obtain rfl := hw2.symm))
  clear c1 hd' fd fi
  go_region_with (first
    | (go_at_call 34; refine (CW.out _ (by first | exact K1.out | exact K1.out.drew)).mono ?_; rintro e w3 ⟨ya, yc, rfl, o3, k3⟩; have K3 := hid k3; clear o3 k3)
    | (go_at_call 33; refine (AD.out _ (by first | exact K1.out.drew.trans K3.out (fun _ e => e.elim) | exact K1.out.trans K3.out (fun _ e => e.elim)) _).mono ?_; rintro e w4 ⟨rfl, a4⟩; have A4 := hid a4; clear a4))
  go_wp2
  go_ret2
  exact ⟨rfl, (K1.out.drew.trans K3.out (fun _ e => e.elim)).trans A4.out (fun _ e => e.elim)⟩
theorem get_none (w : World) (h : St w B b sv ev bv S) {i : Nat} (hi : i < S.nb) (hn : S.nb ≤ 1048576) (hl : S.ms i = []) :
    Calls Try.prog 10 #[.pointer (some ⟨b, 0, none⟩), .int .i64 ((i : Int) + 1)] w fun e w' => e = .returned (.tuple #[.slice none 0 0, .bool false, .int .i64 0]) ∧ Kept No w w' := by
  have li := lists_any w h
  obtain ⟨g, cap, rfl, _, _, hg, hc, hf⟩ := h.bufs.look hi
  obtain ⟨sa, sc, rfl, _⟩ := h.sems.shape
  obtain ⟨ea, ec, rfl, _⟩ := h.evs.shape
  obtain ⟨ia, ic, hia, _⟩ := (h.its i hi).shape
  rw [hl] at hia
  have fd := field2 sa ea (some ⟨g, 0, none⟩) S.ns sc S.ne ec S.nb cap
  have fi := fun W => findb_yes W g S.nb cap hn i hi
  have c0 : w.cell? ⟨g, i * 3, none⟩ = some (.slice ia 0 ic) := by
    have : S.it i = .slice ia 0 ic := hia
    rw [← this]; exact hc 0 (by decide)
  have TK : Hid (∀ W, Kept No w W → Calls Try.prog 35 #[.pointer (some ⟨g, i * 3, none⟩)] W fun e w' => e = .returned (.tuple #[.slice none 0 0, .bool false]) ∧ Kept No W w') := fun W k => take_no W (k.cell c0 (fun e => e))
  clear h hc hf hl c0 hia
  go_enter Try.func10, Try.ntmps10
  go_wp2_with (first
    | (go_at_call 31; refine li.mono ?_; rintro e w1 ⟨rfl, k1⟩; have K1 := hid k1; clear li k1)
    | (go_at_call 32; refine (fi _).mono ?_; rintro e w2 ⟨rfl, hw2⟩; obtain rfl := hw2.symm)
    | (go_at_call 35; refine (TK.out _ K1.out).mono ?_; rintro e w3 ⟨rfl, k3⟩; have K3 := hid k3; clear k3))
  go_ret3
  exact ⟨rfl, K1.out.trans K3.out (fun _ e => e.elim)⟩
/-- what Get makes of the set -/
def Got (w w' : World) (B b : Nat) (sv ev bv : Value) (S : So) (i : Nat) (m : Value) (x : List Int) (ms : List Value) (xs : List (List Int)) : Prop :=
  ∃ it, Did w w' B b sv ev bv S (S.bufTo i it ms xs) ∧ w'.ownsRow B 2 1 m x.length (x.map iv) ∧ (∀ k, m.ownBlock = some k → Fm S k ∧ ¬ Fm (S.bufTo i it ms xs) k)
theorem St.get_did {w w1 w' : World} (h : St w B b sv ev bv S) {i : Nat} (hi : i < S.nb) {g : Nat} (hg : bv.ownBlock = some g) {m : Value} {x : List Int} {ms : List Value} {xs : List (List Int)} (hm : S.ms i = m :: ms) (hx : S.xs i = x :: xs) (K1 : Kept No w w1) (A : Took w1 w' B g (i * 3) (S.it i) ms) : Got w w' B b sv ev bv S i m x ms xs := by
  obtain ⟨wa, it, K, q, hit, rfl⟩ := A
  have K2 : Kept (fun k => (S.it i).ownBlock = some k) w wa := (K1.mono (fun _ e => e.elim)).trans K (fun k e => .inl e)
  have hl := h.len i hi
  rw [hm, hx, List.length_cons, List.length_cons] at hl
  have up : ∀ (j : Nat) (v : Value), ms[j]? = some v → (S.ms i)[j + 1]? = some v := fun j v hv => by rw [hm]; simpa using hv
  have D := h.buf_put hg hi K2 q (.inl hit) (xs := xs) (by omega) (fun j v y hv hy => by
    have ho := h.msg i (j + 1) v y hi (up j v hv) (by rw [hx]; simpa using hy)
    refine K2.owns ho (fun k hk e => ?_)
    obtain ⟨_, cs, h1⟩ := owns_blk ho hk
    obtain ⟨_, cs', h2⟩ := (h.its i hi).blk e
    exact absurd (two_tags h1 h2) (by decide)) (fun j v hv => .inl ⟨j + 1, up j v hv⟩) (fun j j' v v' hv hv' hjj => h.mfar i (j + 1) i (j' + 1) v v' hi hi (up j v hv) (up j' v' hv') (fun q => hjj (by omega)))
  have ho := h.msg i 0 m x hi (by rw [hm]; rfl) (by rw [hx]; rfl)
  have hfm : ∀ k, m.ownBlock = some k → Fm S k := fun k hk => ⟨i, m, hi, by rw [hm]; exact List.mem_cons_self, hk⟩
  refine ⟨it, D, D.2.1.owns ho (fun k hk e => h.fo_fm e (hfm k hk)), fun k hk => ⟨hfm k hk, ?_⟩⟩
  rintro ⟨c, v, hc, hv, hk'⟩
  have hv' : v ∈ upd S.ms i ms c := hv
  obtain ⟨j, hj, e⟩ := List.mem_iff_getElem.1 hv'
  have hj' : (upd S.ms i ms c)[j]? = some v := by rw [List.getElem?_eq_getElem hj, e]
  by_cases e2 : c = i
  · subst e2
    rw [upd_same] at hj'
    exact h.mfar c 0 c (j + 1) m v hi hi (by rw [hm]; rfl) (up j v hj') (fun q => by omega) k hk hk'
  · rw [upd_oth _ _ e2] at hj'
    exact h.mfar i 0 c j m v hi hc (by rw [hm]; rfl) hj' (fun q => e2 q.1.symm) k hk hk'
set_option maxHeartbeats 2000000 in
theorem get_yes (w : World) (h : St w B b sv ev bv S) {i : Nat} (hi : i < S.nb) (hn : S.nb ≤ 1048576) {m : Value} {x : List Int} {ms : List Value} {xs : List (List Int)} (hm : S.ms i = m :: ms) (hx : S.xs i = x :: xs) (hlen : ms.length + 1 ≤ 1099511627776) :
    Calls Try.prog 10 #[.pointer (some ⟨b, 0, none⟩), .int .i64 ((i : Int) + 1)] w fun e w' => e = .returned (.tuple #[m, .bool true, .int .i64 0]) ∧ Got w w' B b sv ev bv S i m x ms xs := by
  have li := lists_any w h
  have hh := h
  obtain ⟨g, cap, rfl, _, _, hg, hc, hf⟩ := h.bufs.look hi
  obtain ⟨sa, sc, rfl, _⟩ := h.sems.shape
  obtain ⟨ea, ec, rfl, _⟩ := h.evs.shape
  have fd := field2 sa ea (some ⟨g, 0, none⟩) S.ns sc S.ne ec S.nb cap
  have fi := fun W => findb_yes W g S.nb cap hn i hi
  have msl : ∃ ma mn mc, m = .slice ma mn mc := own_slice (h.msg i 0 m x hi (by rw [hm]; rfl) (by rw [hx]; rfl))
  have TK : Hid (∀ W, Kept No w W → Calls Try.prog 35 #[.pointer (some ⟨g, i * 3, none⟩)] W fun e w' => e = .returned (.tuple #[m, .bool true]) ∧ Took W w' B g (i * 3) (S.it i) ms) := fun W k => by
    have h1 := hh.keep k
    obtain ⟨_, cs, hb⟩ := h1.bufs.blk hg
    have q := h1.its i hi
    rw [hm] at q
    exact take_yes W (k.cell (hc 0 (by decide)) (fun e => e)) (fun x => fz_blk hb x) q (hh.it_ne hi hg) msl hlen
  have GD : Hid (∀ w1 w', Kept No w w1 → Took w1 w' B g (i * 3) (S.it i) ms → Got w w' B b (.slice sa S.ns sc) (.slice ea S.ne ec) (.slice (some ⟨g, 0, none⟩) S.nb cap) S i m x ms xs) := fun w1 w' k1 A => hh.get_did hi hg hm hx k1 A
  obtain ⟨ma, mn, mc, rfl⟩ := msl
  clear h hh hc hf hm hx
  go_enter Try.func10, Try.ntmps10
  go_wp2_with (first
    | (go_at_call 31; refine li.mono ?_; rintro e w1 ⟨rfl, k1⟩; have K1 := hid k1; clear li k1)
    | (go_at_call 32; refine (fi _).mono ?_; rintro e w2 ⟨rfl, hw2⟩; obtain rfl := hw2.symm)
    | (go_at_call 35; refine (TK.out _ K1.out).mono ?_; rintro e w3 ⟨rfl, a3⟩; have A3 := hid a3; clear a3))
  go_ret3
  exact ⟨rfl, GD.out _ _ K1.out A3.out⟩
end
end Go.Proofs.Ytggkajopfbokjaa
