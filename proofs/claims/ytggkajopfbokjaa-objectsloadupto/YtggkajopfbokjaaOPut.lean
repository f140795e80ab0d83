/-
  objects: add, take, Put, Get.
-/
import Derived.Test.YtggkajopfbokjaaOCopy
namespace Go.Proofs.Ytggkajopfbokjaa
open Go.RowKit
set_option linter.unusedVariables false
set_option maxRecDepth 100000

/-- what add makes of the world: one thing more in the line -/
def Added (w w' : World) (B g o : Nat) (it : Value) (ms : List Value) (m : Value) : Prop :=
  ∃ wa v', Kept (fun k => it.ownBlock = some k) w wa ∧ Qr wa B 31 v' (ms ++ [m]) ∧ (v'.ownBlock = it.ownBlock ∨ ∃ k, v'.ownBlock = some k ∧ w.heap.size ≤ k) ∧ w' = wa.setCell ⟨g, o, none⟩ v'
set_option maxHeartbeats 1000000 in
theorem add_yes {B g o : Nat} {it : Value} {ms : List Value} {d : Int} (w : World) (c0 : w.cell? ⟨g, o, none⟩ = some it) (c1 : w.cell? ⟨g, o + 1, none⟩ = some (.int .i64 d)) (hf : ∀ x, w.frozen? ⟨g, x, none⟩ = false) (q : Qr w B 31 it ms) (hne : it.ownBlock ≠ some g) (hl : (ms.length : Int) < d) (ma : Option Addr) (mn mc : Nat) (hlen : ms.length + 1 ≤ 1099511627776) (hB : B ≤ w.heap.size) :
    Calls Try.prog 33 #[.pointer (some ⟨g, o, none⟩), .slice ma mn mc] w fun e w' => e = .returned (.bool true) ∧ Added w w' B g o it ms (.slice ma mn mc) := by
  obtain ⟨ia, ic, rfl, hic, _⟩ := q.shape
  have hge : ¬ d ≤ (ms.length : Int) := by omega
  have Kd : Kept No w w.drew := (Kept.refl No w).drew
  have Ka : Kept No w (w.drew.alloc (.cells #[.slice ma mn mc] 31)) := Kd.alloc _
  have Q : Hid (Qr (w.drew.alloc (.cells #[.slice ma mn mc] 31)) B 31 (.slice ia ms.length ic) ms) := q.kept Ka (fun _ _ e => e)
  have hg : g < w.heap.size := cell_lt c0
  have cn : (w.drew.alloc (.cells #[.slice ma mn mc] 31)).cell? ⟨w.heap.size, 0, none⟩ = some (.slice ma mn mc) := cell_blk (alloc_new w.drew _) 0
  have ci : (w.drew.alloc (.cells #[.slice ma mn mc] 31)).cell? ⟨g, o, none⟩ = some (.slice ia ms.length ic) := Ka.cell c0 (fun e => e)
  have fz : (w.drew.alloc (.cells #[.slice ma mn mc] 31)).frozen? ⟨g, o, none⟩ = false := by
    have := hf o
    simp only [World.frozen?, Ka.block g hg (fun e => e)] at this ⊢
    exact this
  have HH : Hid (∀ wa, Kept (fun k => (Value.slice ia ms.length ic).ownBlock = some k) (w.drew.alloc (.cells #[.slice ma mn mc] 31)) wa → Kept (fun k => (Value.slice ia ms.length ic).ownBlock = some k) w wa ∧ wa.cell? ⟨g, o, none⟩ = some (.slice ia ms.length ic) ∧ wa.frozen? ⟨g, o, none⟩ = false) := fun wa k => by
    refine ⟨(Ka.mono (fun _ e => e.elim)).trans k (fun j e => .inl e), k.cell ci hne, ?_⟩
    have hb := k.block g (Nat.lt_of_lt_of_le hg Ka.size) hne
    simp only [World.frozen?, hb] at fz ⊢
    exact fz
  have hsz : (w.drew.alloc (.cells #[.slice ma mn mc] 31)).heap.size = w.heap.size + 1 := by rw [World.size_alloc]; rfl
  have HBB : Hid (B ≤ (w.drew.alloc (.cells #[.slice ma mn mc] 31)).heap.size) := hid (by rw [hsz]; omega)
  have HSZ := hid hsz
  clear q hne hf Ka Kd fz hsz
  go_enter Try.func33, Try.ntmps33
  go_upto_region 1 with fail
  go_region
  go_upto_region 3 with fail
  clear c1 hge
  have cd : w.drew.cell? ⟨g, o, none⟩ = some (.slice ia ms.length ic) := c0
  clear c0
  go_wp2_with (at_builtin; refine wpList_app_q rfl _ _ 40 31 rfl _ 24 Try.underlying40 Try.infoL rfl (v := .slice ia ms.length ic) rfl Q.out ⟨w.heap.size, 0, none⟩ 1 (.slice ma mn mc) rfl cn rfl (by omega) (by unfold maxLen; omega) HBB.out ?_; intro ya yn yc wa qa ka la; obtain ⟨k1, c2, f2⟩ := HH.out wa ka.out; have K1 := hid k1; clear k1)
  go_ret
  refine ⟨rfl, wa, .slice ya yn yc, K1.out, qa.out, ?_, rfl⟩
  rcases la.out with h1 | ⟨k, h1, h2⟩
  · exact .inl h1
  · have h3 : (w.drew.alloc (.cells #[.slice ma mn mc] 31)).heap.size ≤ k := h2
    rw [HSZ.out] at h3
    exact .inr ⟨k, h1, by omega⟩
theorem add_no {g o : Nat} {ia : Option Addr} {n ic : Nat} {d : Int} (w : World) (c0 : w.cell? ⟨g, o, none⟩ = some (.slice ia n ic)) (c1 : w.cell? ⟨g, o + 1, none⟩ = some (.int .i64 d)) (hl : d ≤ (n : Int)) (m : Value) :
    Calls Try.prog 33 #[.pointer (some ⟨g, o, none⟩), m] w fun e w' => e = .returned (.bool false) ∧ Kept No w w' := by
  go_enter Try.func33, Try.ntmps33
  go_upto_region 1 with fail
  go_region
  go_wp2
  go_ret
  exact ⟨rfl, (Kept.refl No w).drew⟩
theorem take_no {g o : Nat} {ia : Option Addr} {ic : Nat} (w : World) (c0 : w.cell? ⟨g, o, none⟩ = some (.slice ia 0 ic)) :
    Calls Try.prog 35 #[.pointer (some ⟨g, o, none⟩)] w fun e w' => e = .returned (.tuple #[.slice none 0 0, .bool false]) ∧ Kept No w w' := by
  go_enter Try.func35, Try.ntmps35
  go_wp2
  go_ret2
  exact ⟨rfl, Kept.refl No w⟩
/-- what take makes of the world -/
def Took (w w' : World) (B g o : Nat) (it : Value) (ms : List Value) : Prop :=
  ∃ wa v', Kept (fun k => it.ownBlock = some k) w wa ∧ Qr wa B 31 v' ms ∧ v'.ownBlock = it.ownBlock ∧ w' = wa.setCell ⟨g, o, none⟩ v'
set_option maxHeartbeats 1000000 in
theorem take_yes {B g o : Nat} {it m : Value} {ms : List Value} (w : World) (c0 : w.cell? ⟨g, o, none⟩ = some it) (hf : ∀ x, w.frozen? ⟨g, x, none⟩ = false) (q : Qr w B 31 it (m :: ms)) (hne : it.ownBlock ≠ some g) (hm : ∃ ma mn mc, m = .slice ma mn mc) (hlen : ms.length + 1 ≤ 1099511627776) :
    Calls Try.prog 35 #[.pointer (some ⟨g, o, none⟩)] w fun e w' => e = .returned (.tuple #[m, .bool true]) ∧ Took w w' B g o it ms := by
  obtain ⟨ma, mn, mc, rfl⟩ := hm
  obtain ⟨z, p, cap, rfl, hc1, hc2, _, cz, fz⟩ := q.look (i := 0) rfl
  rw [List.length_cons] at hc1
  have hgz : z ≠ g := fun e => hne (by rw [e]; rfl)
  have cz0 : w.cell? ⟨z, p, none⟩ = some (.slice ma mn mc) := cz
  have f0 := fz p
  have fo := hf o
  have qt := q.tail (.slice none 0 0)
  have K : Kept (fun k => (Value.slice (some ⟨z, p, none⟩) (ms.length + 1) cap).ownBlock = some k) w (w.setCell ⟨z, p, none⟩ (.slice none 0 0)) := (Kept.refl (fun k => (Value.slice (some ⟨z, p, none⟩) (ms.length + 1) cap).ownBlock = some k) w).setCell (p := ⟨z, p, none⟩) (.inl rfl) _
  have HQ := hid (⟨qt, K⟩ : _ ∧ _)
  have cg : (w.setCell ⟨z, p, none⟩ (.slice none 0 0)).cell? ⟨g, o, none⟩ = some (.slice (some ⟨z, p, none⟩) (ms.length + 1) cap) := K.cell c0 (fun e => by injection e with e; exact hgz e)
  have fg : (w.setCell ⟨z, p, none⟩ (.slice none 0 0)).frozen? ⟨g, o, none⟩ = false := by rw [World.frozen?_setCell]; exact fo
  have hlc : (Value.slice (some ⟨z, p, none⟩) (Value.slice ma mn mc :: ms).length cap) = .slice (some ⟨z, p, none⟩) (ms.length + 1) cap := rfl
  rw [hlc] at c0 ⊢
  clear q hne hf qt K fz cz fo hlc
  generalize ms.length = n at *
  by_cases h1 : cap = 1
  · subst h1
    rw [if_pos rfl] at HQ
    have hn0 : n = 0 := by omega
    subst hn0
    go_enter Try.func35, Try.ntmps35
    go_wp2
    go_ret2
    exact ⟨rfl, _, _, HQ.out.2, HQ.out.1, rfl, rfl⟩
  · rw [if_neg h1] at HQ
    go_enter Try.func35, Try.ntmps35
    go_wp2
    go_ret2
    exact ⟨rfl, _, _, HQ.out.2, HQ.out.1, rfl, rfl⟩

section
variable {B b : Nat} {sv ev bv : Value} {S : So}
/-- a call about a buffer that is not there -/
theorem buf_no (w : World) (h : St w B b sv ev bv S) (x : Int) (hx : x < 1 ∨ (S.nb : Int) < x) (da : Option Addr) (dn dc : Nat) :
    (Calls Try.prog 9 #[.pointer (some ⟨b, 0, none⟩), .int .i64 x, .slice da dn dc] w fun e w' => e = .returned (.tuple #[.bool false, .int .i64 2]) ∧ Kept No w w') ∧ (Calls Try.prog 10 #[.pointer (some ⟨b, 0, none⟩), .int .i64 x] w fun e w' => e = .returned (.tuple #[.slice none 0 0, .bool false, .int .i64 2]) ∧ Kept No w w') := by
  have li := lists_any w h
  obtain ⟨sa, sc, rfl, _⟩ := h.sems.shape
  obtain ⟨ea, ec, rfl, _⟩ := h.evs.shape
  obtain ⟨ba, bc, rfl, _⟩ := h.bufs.shape
  have fd := field2 sa ea ba S.ns sc S.ne ec S.nb bc
  have fi := fun W => findb_no W ba S.nb bc x hx
  clear h hx
  refine ⟨?_, ?_⟩
  · go_enter Try.func9, Try.ntmps9
    go_wp2_with (first
      | (go_at_call 31; refine li.mono ?_; rintro e w1 ⟨rfl, k1⟩; have K1 := k1; clear li k1)
      | (go_at_call 32; refine (fi _).mono ?_; rintro e w' ⟨rfl, rfl⟩))
    go_ret2
    exact ⟨rfl, K1⟩
  · go_enter Try.func10, Try.ntmps10
    go_wp2_with (first
      | (go_at_call 31; refine li.mono ?_; rintro e w1 ⟨rfl, k1⟩; have K1 := k1; clear li k1)
      | (go_at_call 32; refine (fi _).mono ?_; rintro e w' ⟨rfl, rfl⟩))
    go_ret3
    exact ⟨rfl, K1⟩
/-- Put of a wrong length -/
theorem put_bad (w : World) (h : St w B b sv ev bv S) {i : Nat} (hi : i < S.nb) (hn : S.nb ≤ 1048576) (da : Option Addr) (dn dc : Nat) (hd : ¬ (dn : Int) = S.sz i) :
    Calls Try.prog 9 #[.pointer (some ⟨b, 0, none⟩), .int .i64 ((i : Int) + 1), .slice da dn dc] w fun e w' => e = .returned (.tuple #[.bool false, .int .i64 2]) ∧ Kept No w w' := by
  have li := lists_any w h
  obtain ⟨g, cap, rfl, _, _, hg, hc, hf⟩ := h.bufs.look hi
  obtain ⟨sa, sc, rfl, _⟩ := h.sems.shape
  obtain ⟨ea, ec, rfl, _⟩ := h.evs.shape
  have fd := field2 sa ea (some ⟨g, 0, none⟩) S.ns sc S.ne ec S.nb cap
  have fi := fun W => findb_yes W g S.nb cap hn i hi
  have c2 : w.cell? ⟨g, i * 3 + 2, none⟩ = some (.int .i64 (S.sz i)) := hc 2 (by decide)
  have hd' : ((dn : Int) != S.sz i) = true := by simp [hd]
  clear h hc hf
  generalize S.sz i = z at *
  go_enter Try.func9, Try.ntmps9
  go_wp2_with (first
    | (go_at_call 31; refine li.mono ?_; rintro e w1 ⟨rfl, k1⟩; have c1 := k1.cell c2 (fun e => e); have K1 := k1; clear li k1 c2)
    | (go_at_call 32; refine (fi _).mono ?_; rintro e w' ⟨rfl, rfl⟩))
  go_ret2
  exact ⟨rfl, K1⟩
/-- what Put makes of the set -/
def Puts (w w' : World) (B b : Nat) (sv ev bv : Value) (S : So) (i : Nat) (xs : List Int) : Prop := ∃ it m, Did w w' B b sv ev bv S (S.bufTo i it (S.ms i ++ [m]) (S.xs i ++ [xs]))
theorem St.it_ne {w : World} (h : St w B b sv ev bv S) {i : Nat} (hi : i < S.nb) {g : Nat} (hg : bv.ownBlock = some g) : (S.it i).ownBlock ≠ some g := fun e => by
  obtain ⟨_, cs, h1⟩ := (h.its i hi).blk e
  obtain ⟨_, cs', h2⟩ := h.bufs.blk hg
  exact absurd (two_tags h1 h2) (by decide)
theorem St.B_lt {w : World} (h : St w B b sv ev bv S) : B ≤ w.heap.size := by
  have := h.low
  have := heap_lt h.box
  omega
theorem St.put_did {w w1 w' : World} (h : St w B b sv ev bv S) {i : Nat} (hi : i < S.nb) {g : Nat} (hg : bv.ownBlock = some g) {m : Value} {n : Nat} {xs : List Int} (hx : xs.length = n) (K1 : Kept No w w1) (om : w1.ownsRow w.heap.size 2 1 m n (xs.map iv)) (A : Added w1 w' B g (i * 3) (S.it i) (S.ms i) m) : Puts w w' B b sv ev bv S i xs := by
  subst hx
  obtain ⟨wa, it, K, q, hit, rfl⟩ := A
  have hB := h.B_lt
  have hs1 := K1.size
  have K2 : Kept (fun k => (S.it i).ownBlock = some k) w wa := (K1.mono (fun _ e => e.elim)).trans K (fun k e => .inl e)
  have hm_blk : ∀ k, m.ownBlock = some k → w.heap.size ≤ k := fun k hk => (owns_blk om hk).1
  refine ⟨it, m, h.buf_put hg hi K2 q ?_ ?_ ?_ ?_ ?_⟩
  · rcases hit with h1 | ⟨k, h1, h2⟩
    · exact .inl h1
    · exact .inr ⟨k, h1, by omega⟩
  · rw [List.length_append, List.length_append, h.len i hi]; rfl
  · intro j v x hv hx
    have hl := h.len i hi
    by_cases hj : j < (S.ms i).length
    · rw [List.getElem?_append_left hj] at hv
      rw [List.getElem?_append_left (by omega)] at hx
      have ho := h.msg i j v x hi hv hx
      refine K2.owns ho (fun k hk e => ?_)
      obtain ⟨_, cs, h1⟩ := owns_blk ho hk
      obtain ⟨_, cs', h2⟩ := (h.its i hi).blk e
      exact absurd (two_tags h1 h2) (by decide)
    · rw [List.getElem?_append_right (by omega)] at hv
      rw [List.getElem?_append_right (by omega)] at hx
      obtain ⟨a1, e1⟩ := List.getElem?_eq_some_iff.1 hv
      obtain ⟨a2, e2⟩ := List.getElem?_eq_some_iff.1 hx
      simp at e1 e2
      subst e1 e2
      have om' := K.owns om (fun k hk e => by
        obtain ⟨_, cs', h2⟩ := (h.its i hi).blk e
        have := heap_lt h2
        have := hm_blk k hk
        omega)
      obtain ⟨q1, q2 | ⟨g', cap, cur, r1, r2, r3⟩⟩ := om'
      · exact ⟨q1, .inl q2⟩
      · exact ⟨q1, .inr ⟨g', cap, cur, r1, by omega, r3⟩⟩
  · intro j v hv
    by_cases hj : j < (S.ms i).length
    · rw [List.getElem?_append_left hj] at hv
      exact .inl ⟨j, hv⟩
    · rw [List.getElem?_append_right (by omega)] at hv
      obtain ⟨a1, e1⟩ := List.getElem?_eq_some_iff.1 hv
      simp at e1
      subst e1
      exact .inr hm_blk
  · have key : ∀ (j : Nat) (v : Value), (S.ms i)[j]? = some v → Far v m := fun j v hv k hk hk' => by
      have := h.fm_lt ⟨i, v, hi, List.mem_of_getElem? hv, hk⟩
      have := hm_blk k hk'
      omega
    intro j j' v v' hv hv' hjj
    by_cases hj : j < (S.ms i).length
    · rw [List.getElem?_append_left hj] at hv
      by_cases hj' : j' < (S.ms i).length
      · rw [List.getElem?_append_left hj'] at hv'
        exact h.mfar i j i j' v v' hi hi hv hv' (fun q => hjj q.2)
      · rw [List.getElem?_append_right (by omega)] at hv'
        obtain ⟨a1, e1⟩ := List.getElem?_eq_some_iff.1 hv'
        simp at e1
        subst e1
        exact key j v hv
    · rw [List.getElem?_append_right (by omega)] at hv
      obtain ⟨a1, e1⟩ := List.getElem?_eq_some_iff.1 hv
      simp at a1 e1
      subst e1
      by_cases hj' : j' < (S.ms i).length
      · rw [List.getElem?_append_left hj'] at hv'
        exact (key j' v' hv').symm
      · have a2 := (List.getElem?_eq_some_iff.1 hv').1
        simp at a2
        omega
set_option maxHeartbeats 2000000 in
theorem put_yes {F : Nat → Prop} {da : Option Addr} {dn dc : Nat} {xs : List Int} (w : World) (h : St w B b sv ev bv S) {i : Nat} (hi : i < S.nb) (hn : S.nb ≤ 1048576) (hz : Zs w F da dn dc xs) (hd : (dn : Int) = S.sz i) (hl : ((S.ms i).length : Int) < S.dp i) (hlen : (S.ms i).length + 1 ≤ 1099511627776) (hdn : dn ≤ 17592186044416) :
    Calls Try.prog 9 #[.pointer (some ⟨b, 0, none⟩), .int .i64 ((i : Int) + 1), .slice da dn dc] w fun e w' => e = .returned (.tuple #[.bool true, .int .i64 0]) ∧ Puts w w' B b sv ev bv S i xs := by
  have li := lists_any w h
  have hh := h
  obtain ⟨g, cap, rfl, _, _, hg, hc, hf⟩ := h.bufs.look hi
  obtain ⟨sa, sc, rfl, _⟩ := h.sems.shape
  obtain ⟨ea, ec, rfl, _⟩ := h.evs.shape
  have fd := field2 sa ea (some ⟨g, 0, none⟩) S.ns sc S.ne ec S.nb cap
  have fi := fun W => findb_yes W g S.nb cap hn i hi
  have c2 : w.cell? ⟨g, i * 3 + 2, none⟩ = some (.int .i64 (S.sz i)) := hc 2 (by decide)
  have hd' : ((dn : Int) != S.sz i) = false := by simp [hd]
  have CW : Hid (∀ W, Kept No w W → Calls Try.prog 34 #[.slice da dn dc] W fun e w' => ∃ ya yc, e = .returned (.slice ya dn yc) ∧ w'.ownsRow W.heap.size 2 1 (.slice ya dn yc) dn (xs.map iv) ∧ Kept No W w') := fun W k => words_any W (hz.kept k (fun _ _ e => e)) hdn
  have AD : Hid (∀ W, Kept No w W → ∀ ma mn mc, Calls Try.prog 33 #[.pointer (some ⟨g, i * 3, none⟩), .slice ma mn mc] W fun e w' => e = .returned (.bool true) ∧ Added W w' B g (i * 3) (S.it i) (S.ms i) (.slice ma mn mc)) := fun W k ma mn mc => by
    have h1 := hh.keep k
    obtain ⟨_, cs, hb⟩ := h1.bufs.blk hg
    exact add_yes W (k.cell (hc 0 (by decide)) (fun e => e)) (k.cell (hc 1 (by decide)) (fun e => e)) (fun x => fz_blk hb x) (h1.its i hi) (hh.it_ne hi hg) hl ma mn mc hlen h1.B_lt
  have PD : Hid (∀ w0 w1 w' m, Kept No w w0 → Kept No w0 w1 → w1.ownsRow w0.heap.size 2 1 m dn (xs.map iv) → Added w1 w' B g (i * 3) (S.it i) (S.ms i) m → Puts w w' B b (.slice sa S.ns sc) (.slice ea S.ne ec) (.slice (some ⟨g, 0, none⟩) S.nb cap) S i xs) := fun w0 w1 w' m k0 k1 om A => by
    obtain ⟨it, m', d⟩ := (hh.keep k0).put_did hi hg hz.len k1 om A
    exact ⟨it, m', Did.pre k0 d⟩
  clear h hh hc hf hz hl hlen
  generalize S.sz i = z at *
  clear hd
  go_enter Try.func9, Try.ntmps9
  go_upto_region 4 with (first
    | (go_at_call 31; refine li.mono ?_; rintro e w1 ⟨rfl, k1⟩; have c1 := k1.cell c2 (fun e => e); have K1 := hid k1; clear li k1 c2)
    | (go_at_call 32; refine (fi _).mono ?_; rintro e w2 ⟨rfl, hw2⟩; obtain rfl := hw2.symm))
  clear c1 hd' fd fi
  go_region_with (first
    | (go_at_call 34; refine (CW.out _ (by first | exact K1.out | exact K1.out.drew)).mono ?_; rintro e w3 ⟨ya, yc, rfl, o3, k3⟩; have O3 := hid o3; have K3 := hid k3; clear o3 k3)
    | (go_at_call 33; refine (AD.out _ (by first | exact K1.out.drew.trans K3.out (fun _ e => e.elim) | exact K1.out.trans K3.out (fun _ e => e.elim)) _ _ _).mono ?_; rintro e w4 ⟨rfl, a4⟩; have A4 := hid a4; clear a4))
  go_wp2
  go_ret2
  exact ⟨rfl, PD.out _ _ _ _ (by first | exact K1.out.drew | exact K1.out) K3.out O3.out A4.out⟩
end
end Go.Proofs.Ytggkajopfbokjaa
