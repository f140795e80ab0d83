/-
  One text: SPlain, SData, SAlong, SLen, SSmall.
-/
import Derived.Test.YtkmpgcgdamcikaaGreatDoorOJoinP
import Derived.RowKit
import Derived.Test.YtkmpgcgdamcikaaGreatDoorGRng
import Derived.Test.YtkmpgcgdamcikaaGreatDoorProg
import Derived.OwnWalkIn
import Derived.TacticsInMore
import Derived.LoopNIn
import Derived.LoopIn
import Derived.Shelf.RegionOpen
import Derived.RegionIn
import Derived.Deep.LoopGhost
import Derived.Deep.Cut
namespace Go.Proofs.YtkmpgcgdamcikaaGreatDoor
namespace Slt
set_option linter.unusedVariables false
set_option linter.unusedSimpArgs false

/-- the ticks of the first q slots -/
def pr (L : List (Int × Int)) (q : Nat) : Int := ((L.take q).map (·.1)).sum
def gt (L : List (Int × Int)) (q : Nat) : Int × Int := L.getD q (0, 0)
/-- the occupant of the slot ahead -/
def nb (L : List (Int × Int)) (q : Nat) : Int := if q = 0 then -1 else (gt L (q - 1)).2
def Ok (L : List (Int × Int)) (q : Nat) : Prop := 1 ≤ (gt L q).1 ∧ (gt L q).1 ≤ 1048576 - pr L q ∧ 0 ≤ (gt L q).2 ∧ (gt L q).2 ≤ 32 ∧ (gt L q).2 ≠ nb L q
instance (L : List (Int × Int)) (q : Nat) : Decidable (Ok L q) := inferInstanceAs (Decidable (_ ∧ _))
def Goes (L : List (Int × Int)) : Prop := ∀ q, q < L.length → Ok L q
instance (L : List (Int × Int)) : Decidable (Goes L) := inferInstanceAs (Decidable (∀ q, q < L.length → Ok L q))
/-- the length of a part; 0: it doesn't go -/
def lenF (L : List (Int × Int)) : Int := if Goes L then pr L L.length else 0

theorem gt_eq {L : List (Int × Int)} {q : Nat} {x : Int × Int} (h : L[q]? = some x) : gt L q = x := by simp [gt, List.getD, h]
theorem gt_some {L : List (Int × Int)} {q : Nat} (h : q < L.length) : L[q]? = some (gt L q) := by
  simp [gt, List.getD, h]
theorem pr_zero (L : List (Int × Int)) : pr L 0 = 0 := rfl
theorem pr_succ {L : List (Int × Int)} {q : Nat} (h : q < L.length) : pr L (q + 1) = pr L q + (gt L q).1 := by
  unfold pr
  rw [List.take_add_one, gt_some h]
  simp
theorem nb_zero (L : List (Int × Int)) : nb L 0 = -1 := rfl
theorem nb_succ (L : List (Int × Int)) (q : Nat) : nb L (q + 1) = (gt L q).2 := rfl

/-- so far all slots may be -/
theorem pr_bd {L : List (Int × Int)} : ∀ {q : Nat}, q ≤ L.length → (∀ i, i < q → Ok L i) → (q : Int) ≤ pr L q ∧ pr L q ≤ 1048576
  | 0, _, _ => by rw [pr_zero]; omega
  | q + 1, hq, h => by
    have ih := pr_bd (q := q) (by omega) (fun i hi => h i (by omega))
    have ho := h q (by omega)
    rw [pr_succ (by omega)]
    have := ho.1; have := ho.2.1
    omega
theorem pr_mono {L : List (Int × Int)} (h : Goes L) : ∀ {p q : Nat}, p ≤ q → q ≤ L.length → pr L p ≤ pr L q
  | p, 0, hp, _ => by rw [show p = 0 by omega]; omega
  | p, q + 1, hp, hq => by
    by_cases e : p = q + 1
    · rw [e]; omega
    · have := pr_mono h (p := p) (q := q) (by omega) (by omega)
      rw [pr_succ (by omega)]
      have := (h q (by omega)).1
      omega
theorem lenF_bd (L : List (Int × Int)) : 0 ≤ lenF L ∧ lenF L ≤ 1048576 := by
  unfold lenF
  split
  · rename_i h
    have := pr_bd (Nat.le_refl _) h
    omega
  · omega
theorem lenF_pos {L : List (Int × Int)} (h : lenF L ≠ 0) : Goes L ∧ lenF L = pr L L.length ∧ 1 ≤ L.length := by
  unfold lenF at h ⊢
  split
  · rename_i hg
    refine ⟨hg, rfl, ?_⟩
    rw [if_pos hg] at h
    apply Decidable.byContradiction
    intro hn
    rw [show L.length = 0 by omega] at h
    exact h rfl
  · rename_i hg
    rw [if_neg hg] at h
    exact (h rfl).elim

/-- what 'along' tells ahead of a slot -/
def ah (L : List (Int × Int)) : Nat → Int
  | 0 => 0
  | q + 1 => Go.RowKit.wrap64 (ah L q + (gt L q).1)
theorem ah_eq {L : List (Int × Int)} : ∀ {q : Nat}, q ≤ L.length → (∀ i, i < q → Ok L i) → ah L q = pr L q
  | 0, _, _ => rfl
  | q + 1, hq, h => by
    have ih := ah_eq (q := q) (by omega) (fun i hi => h i (by omega))
    have hb := pr_bd (q := q) (by omega) (fun i hi => h i (by omega))
    have ho := h q (by omega)
    have := ho.1; have := ho.2.1
    rw [pr_succ (by omega), ah, ih]
    unfold Go.RowKit.wrap64
    omega
/-- place u lies in slot q -/
def In (L : List (Int × Int)) (u : Int) (q : Nat) : Prop := q < L.length ∧ pr L q ≤ u ∧ u < pr L (q + 1)
theorem In.uniq {L : List (Int × Int)} (h : Goes L) {u : Int} {p q : Nat} (hp : In L u p) (hq : In L u q) : p = q := by
  rcases Nat.lt_trichotomy p q with h1 | h1 | h1
  · have := pr_mono h (p := p + 1) (q := q) (by omega) (by have := hq.1; omega)
    have := hp.2.2; have := hq.2.1; omega
  · exact h1
  · have := pr_mono h (p := q + 1) (q := p) (by omega) (by have := hp.1; omega)
    have := hq.2.2; have := hp.2.1; omega
theorem In.ex {L : List (Int × Int)} {u : Int} (h0 : 0 ≤ u) : ∀ {n : Nat}, n ≤ L.length → u < pr L n → ∃ q, q < n ∧ In L u q
  | 0, _, h => by rw [pr_zero] at h; omega
  | n + 1, hn, h => by
    by_cases e : u < pr L n
    · obtain ⟨q, h1, h2⟩ := In.ex h0 (n := n) (by omega) e
      exact ⟨q, by omega, h2⟩
    · exact ⟨n, by omega, by omega, by omega, h⟩

/-- the list of a turn -/
def lst (P C : List (Int × Int)) (b : Nat) : List (Int × Int) := if b = 0 then P else C
/-- the first tick of a tick's turn -/
def beg (H t : Nat) : Nat := t - t % H
/-- the slot of a tick -/
structure Sits (P C : List (Int × Int)) (H t q : Nat) : Prop where
  in' : In (lst P C (beg H t)) ((t % H : Nat) : Int) q
structure Tab (P C : List (Int × Int)) (H : Nat) : Prop where
  p : Goes P
  c : Goes C
  hp : pr P P.length = H
  hc : pr C C.length = H
  pos : 1 ≤ H
  top : H ≤ 1048576
theorem Tab.goes {P C : List (Int × Int)} {H : Nat} (h : Tab P C H) (b : Nat) : Goes (lst P C b) := by
  unfold lst; split
  · exact h.p
  · exact h.c
theorem Tab.sum {P C : List (Int × Int)} {H : Nat} (h : Tab P C H) (b : Nat) : pr (lst P C b) (lst P C b).length = H := by
  unfold lst; split
  · exact h.hp
  · exact h.hc
theorem Tab.sits {P C : List (Int × Int)} {H : Nat} (h : Tab P C H) (t : Nat) : ∃ q, Sits P C H t q := by
  have hm : t % H < H := Nat.mod_lt _ h.pos
  obtain ⟨q, _, hq⟩ := In.ex (L := lst P C (beg H t)) (u := ((t % H : Nat) : Int)) (by omega) (Nat.le_refl _) (by rw [h.sum]; omega)
  exact ⟨q, ⟨hq⟩⟩
/-- the end of a slot, counted from tick 0 -/
def fin (P C : List (Int × Int)) (H t q : Nat) : Int := beg H t + pr (lst P C (beg H t)) (q + 1)
def who (P C : List (Int × Int)) (H t q : Nat) : Int := (gt (lst P C (beg H t)) q).2
theorem tab_of {P C : List (Int × Int)} (h : lenF P = lenF C) (h0 : lenF P ≠ 0) : Tab P C (lenF P).toNat := by
  have hb := lenF_bd P
  obtain ⟨g1, e1, l1⟩ := lenF_pos h0
  obtain ⟨g2, e2, l2⟩ := lenF_pos (L := C) (by rw [← h]; exact h0)
  exact ⟨g1, g2, by omega, by omega, by omega, by omega⟩
theorem beg_mul (H t : Nat) : beg H t = H * (t / H) := by
  have := Nat.div_add_mod t H
  unfold beg; omega
theorem beg_le (H t : Nat) : beg H t ≤ t := by unfold beg; omega
theorem beg_add (H t : Nat) : beg H t + t % H = t := by
  have := Nat.mod_le t H
  unfold beg; omega
theorem div_same {H t m : Nat} (hH : 1 ≤ H) (h1 : beg H t ≤ m) (h2 : m < beg H t + H) : m / H = t / H := by
  rw [beg_mul] at h1 h2
  refine Nat.div_eq_of_lt_le ?_ ?_
  · rw [Nat.mul_comm]; exact h1
  · rw [Nat.mul_comm, Nat.mul_add, Nat.mul_one]; exact h2
theorem beg_same {H t m : Nat} (hH : 1 ≤ H) (h1 : beg H t ≤ m) (h2 : m < beg H t + H) : beg H m = beg H t := by
  rw [beg_mul H m, div_same hH h1 h2, ← beg_mul]
section
variable {P C : List (Int × Int)} {H t q : Nat}
theorem Sits.lt (h : Sits P C H t q) : (t : Int) < fin P C H t q := by
  have := h.in'.2.2
  have := beg_add H t
  unfold fin; omega
theorem Tab.fin_le (k : Tab P C H) (h : Sits P C H t q) : fin P C H t q ≤ beg H t + H := by
  have := pr_mono (k.goes (beg H t)) (p := q + 1) h.in'.1 (Nat.le_refl _)
  rw [k.sum] at this
  unfold fin; omega
theorem Tab.uniq (k : Tab P C H) {p : Nat} (h : Sits P C H t q) (h' : Sits P C H t p) : q = p := In.uniq (k.goes _) h.in' h'.in'
theorem Tab.same (k : Tab P C H) (h : Sits P C H t q) {m : Nat} (h1 : t ≤ m) (h2 : (m : Int) < fin P C H t q) : Sits P C H m q ∧ beg H m = beg H t := by
  have hf := k.fin_le h
  have hb := beg_le H t
  have e := beg_same (t := t) (m := m) k.pos (by omega) (by omega)
  have a1 := beg_add H m
  have a2 := beg_add H t
  refine ⟨⟨?_⟩, e⟩
  rw [e] at a1 ⊢
  unfold fin at h2
  exact ⟨h.in'.1, by have := h.in'.2.1; omega, by omega⟩
theorem Tab.fin_same (k : Tab P C H) (h : Sits P C H t q) {m : Nat} (h1 : t ≤ m) (h2 : (m : Int) < fin P C H t q) : fin P C H m q = fin P C H t q ∧ who P C H m q = who P C H t q := by
  have := (k.same h h1 h2).2
  unfold fin who
  rw [this]
  exact ⟨rfl, rfl⟩
theorem Tab.next (k : Tab P C H) (h : Sits P C H t q) {m p : Nat} (e : (m : Int) = fin P C H t q) (hm : Sits P C H m p) (hw : who P C H m p = who P C H t q) : m % H = 0 := by
  have hf := k.fin_le h
  have hb := beg_le H t
  have hl := h.lt
  by_cases hlt : m < beg H t + H
  · exfalso
    have eb := beg_same (t := t) (m := m) k.pos (by omega) hlt
    have a1 := beg_add H m
    have hin := hm.in'
    rw [eb] at hin a1
    unfold fin at e
    have hq1 : q + 1 < (lst P C (beg H t)).length := by
      apply Decidable.byContradiction
      intro hn
      have : q + 1 = (lst P C (beg H t)).length := by have := h.in'.1; omega
      rw [this, k.sum] at e
      omega
    have hok := k.goes (beg H t) (q + 1) hq1
    have hq2 : In (lst P C (beg H t)) ((m % H : Nat) : Int) (q + 1) := ⟨hq1, by omega, by rw [pr_succ hq1]; have := hok.1; omega⟩
    have ep := In.uniq (k.goes _) hin hq2
    unfold who at hw
    rw [eb, ep] at hw
    exact hok.2.2.2.2 (by rw [nb_succ]; exact hw)
  · have em : m = beg H t + H := by omega
    rw [em, beg_mul, Nat.add_mod_right, Nat.mul_mod_right]
end
end Slt
end Go.Proofs.YtkmpgcgdamcikaaGreatDoor

namespace Go.Proofs.YtkmpgcgdamcikaaGreatDoor
open Go.RowKit
set_option linter.unusedVariables false
set_option maxRecDepth 100000

/-- v is a slice of slots; where there is one, they lie in a block of F -/
structure Sl (w : World) (F : Nat → Prop) (a : Option Addr) (n c : Nat) (L : List (Int × Int)) : Prop where
  len : L.length = n
  cap : n ≤ c
  max : c ≤ 9223372036854775807
  nil : a = none → c = 0
  at' : ∀ i x, L[i]? = some x → ∃ b o, a = some ⟨b, o, none⟩ ∧ F b ∧ w.cell? ⟨b, o + i * 2, none⟩ = some (.int .i64 x.1) ∧ w.cell? ⟨b, o + i * 2 + 1, none⟩ = some (.int .i64 x.2)
section
variable {w w' W : World} {F G : Nat → Prop} {a : Option Addr} {n c : Nat} {L : List (Int × Int)}
theorem Sl.kept (h : Sl w F a n c L) (k : Kept G w w') (hd : ∀ b, F b → ¬ G b) : Sl w' F a n c L :=
  ⟨h.len, h.cap, h.max, h.nil, fun i x hx => by obtain ⟨b, o, e, hb, h0, h1⟩ := h.at' i x hx; exact ⟨b, o, e, hb, k.cell h0 (hd b hb), k.cell h1 (hd b hb)⟩⟩
theorem Sl.keep (h : Sl w F a n c L) (k : Kept No w w') : Sl w' F a n c L := h.kept k (fun _ _ h => h)
theorem Sl.same (h : Sl w F a n c L) (hk : ∀ k, F k → W.heap[k]? = w.heap[k]?) : Sl W F a n c L :=
  ⟨h.len, h.cap, h.max, h.nil, fun i x hx => by obtain ⟨b, o, e, hb, h0, h1⟩ := h.at' i x hx; exact ⟨b, o, e, hb, (World.cell?_of_block (hk b hb)).trans h0, (World.cell?_of_block (hk b hb)).trans h1⟩⟩
theorem Sl.mono (h : Sl w F a n c L) (hF : ∀ k, F k → G k) : Sl w G a n c L :=
  ⟨h.len, h.cap, h.max, h.nil, fun i x hx => by obtain ⟨b, o, e, hb, h0⟩ := h.at' i x hx; exact ⟨b, o, e, hF b hb, h0⟩⟩
theorem Sl.gt (h : Sl w F a n c L) {i : Nat} (hi : i < n) : ∃ b o, a = some ⟨b, o, none⟩ ∧ F b ∧ w.cell? ⟨b, o + i * 2, none⟩ = some (.int .i64 (Slt.gt L i).1) ∧ w.cell? ⟨b, o + i * 2 + 1, none⟩ = some (.int .i64 (Slt.gt L i).2) :=
  h.at' i _ (Slt.gt_some (by rw [h.len]; exact hi))
theorem Sl.cut (h : Sl w F a n c L) : Sl w (fun k => F k ∧ k < w.heap.size) a n c L :=
  ⟨h.len, h.cap, h.max, h.nil, fun i x hx => by obtain ⟨b, o, e, hb, h0, h1⟩ := h.at' i x hx; exact ⟨b, o, e, ⟨hb, cell_lt h0⟩, h0, h1⟩⟩
end
end Go.Proofs.YtkmpgcgdamcikaaGreatDoor

namespace Go.Proofs.YtkmpgcgdamcikaaGreatDoor
open Go.RowKit Go.Shelf
attribute [local go_sem] Oper.semAt_some
set_option linter.unusedVariables false
set_option maxRecDepth 100000

theorem bx1 {w : World} {g : Nat} {u : Value} {t : TypeId} (h : w.heap[g]? = some (.cells #[u] t)) : w.cell? ⟨g, 0, none⟩ = some u := by
  simp [World.cell?, h]
theorem bx2 {w : World} {g : Nat} {u v : Value} {t : TypeId} (h : w.heap[g]? = some (.cells #[u, v] t)) : w.cell? ⟨g, 0, none⟩ = some u ∧ w.cell? ⟨g, 1, none⟩ = some v := by
  refine ⟨?_, ?_⟩ <;> simp [World.cell?, h]

/-- what 'along' tells of slot q -/
def el (L : List (Int × Int)) (q : Nat) : Array Value := #[.int .i64 (Slt.ah L q), .agg #[.int .i64 (Slt.gt L q).1, .int .i64 (Slt.gt L q).2]]

theorem along_new (a : Option Addr) (n c : Nat) (w : World) :
    Calls Tryz.prog 46 #[.slice a n c] w fun e w' => e = .returned (.func (.func 64) #[] #[.pointer (some ⟨w.heap.size, 0, none⟩)]) ∧ w' = w.alloc (.cells #[.slice a n c] 23) := by
  go_enter Tryz.func46, Tryz.ntmps46
  go_wp2
  go_ret
  exact ⟨rfl, rfl⟩

theorem yieldsL {P : Program} {l : Nat} {el : Nat → Array Value} {n : Nat} {J Jx : St} (hJ : Hangs J) (hT : TakesL P l el n J Jx) {q : Nat} {w : World} {S : Nat → Prop} (hj : J q w S) (hq : q < n) (o : Obj) : YieldAt Fence.wide 8 P l (el q) (w.alloc o) (Took J Jx (q + 1) (w.alloc o) S) :=
  hT 8 q _ S (hJ.kept _ w _ _ hj (by simp) (fun k hs => Below.heap_alloc _ _ _ (hJ.old _ _ _ hj k hs))) hq

set_option maxHeartbeats 2000000 in
theorem along_in {F : Nat → Prop} {a : Option Addr} {n c : Nat} {L : List (Int × Int)} (b1 : Nat) (l : Nat) (J Jx : St) (W : World) (S : Nat → Prop)
    (h : Sl W F a n c L) (hFS : ∀ k, F k → ¬ S k) (h1 : W.cell? ⟨b1, 0, none⟩ = some (.slice a n c)) (hn1 : ¬ S b1)
    (hJ : Hangs J) (hJx : Hangs Jx) (hT : TakesL Tryz.prog l (el L) n J Jx) (h0 : J 0 W S) :
    Calls Tryz.prog 64 #[.func (.yield l) #[] #[], .pointer (some ⟨b1, 0, none⟩)] W fun e W' => (∃ v, e = .returned v) ∧ ∃ S', Kept S W W' ∧ More S W S' ∧ (J n W' S' ∨ ∃ q, Jx q W' S') := by
  refine callsIn_wide (n := 9).1 ?_
  refine callsIn_of_wp Tryz.func64 rfl trivial ?_ rfl
  simp only [Tryz.ntmps64, List.size_toArray, List.length_cons, List.length_nil, Nat.reduceAdd, Nat.reduceSub, Array.replicate_succ, Array.replicate_zero, List.push_toArray, List.append_toArray, List.nil_append, List.cons_append]
  gi_wp2
  have HH : Hid (Sl W F a n c L ∧ (∀ k, F k → ¬ S k)) := ⟨h, hFS⟩
  have HJ : Hid (Hangs J ∧ Hangs Jx ∧ TakesL Tryz.prog l (el L) n J Jx) := ⟨hJ, hJx, hT⟩
  have HJ0 : Hid (J 0 W S) := h0
  have hmx := h.cap
  have hmx2 := h.max
  clear h hFS hJ hJx hT h0 h1 hn1
  gi_loopw [3, 8] (fun x y wr => ∃ (q : Nat) (S' : Nat → Prop), x = .int .i64 (Slt.ah L q) ∧ y = .int .i64 q ∧ q ≤ n ∧ J q wr S' ∧ Kept S W wr ∧ More S W S') (fun _ y _ => n - (intOf y).toNat)
  case atStart => exact ⟨0, S, rfl, rfl, Nat.zero_le _, HJ0.out, Kept.refl _ _, More.refl _ _⟩
  case round =>
    clear HJ0
    obtain ⟨q, S', rfl, rfl, hq, hj, hk, hm⟩ := hrel
    by_cases hlt : q < n
    · obtain ⟨b, o, rfl, hb, c0, c1⟩ := (HH.out.1.kept hk HH.out.2).gt hlt
      have hlt' : (q : Int) < n := by omega
      obtain ⟨fn, tmps, assign, body, hy, hR⟩ := yieldsL HJ.out.1 HJ.out.2.2 hj hlt (.cells #[.int .i64 (Slt.gt L q).1, .int .i64 (Slt.gt L q).2] 62)
      have HR : Hid (J q wr S' ∧ Kept S W wr ∧ More S W S') := ⟨hj, hk, hm⟩
      have HA : Hid (Slt.ah L (q + 1) = wrap64 (Slt.ah L q + (Slt.gt L q).1)) := rfl
      clear hj hk hm
      simp only [el] at hy hR
      generalize (Slt.gt L q).1 = g1 at *
      generalize (Slt.gt L q).2 = g2 at *
      generalize Slt.ah L q = A at *
      gi_wp2
      refine hR.mono ?_
      clear hy hR
      have hbx : ¬ S' wr.heap.size := fun hs => by have := HJ.out.1.old _ _ _ HR.out.1 _ hs; omega
      have hd0 := (bx2 (World.alloc_heap_new wr (.cells #[.int .i64 g1, .int .i64 g2] 62))).1
      have hka : Kept S W (wr.alloc (.cells #[.int .i64 g1, .int .i64 g2] 62)) := HR.out.2.1.alloc _
      rintro e w3 ⟨S3, hk3, hm3, (⟨rfl, hj3⟩ | ⟨rfl, hj3⟩)⟩
      · have hd3 : w3.cell? ⟨wr.heap.size, 0, none⟩ = some (.int .i64 g1) := hk3.cell hd0 hbx
        have HF : Hid (J (q + 1) w3 S3 ∧ Kept S W w3 ∧ More S W S3) := ⟨hj3, hka.more HR.out.2.2 hk3, HR.out.2.2.trans hm3 hka.size⟩
        clear hd0 hk3 hm3 hj3 hka c0 c1 hbx
        gi_wp2
        go_roundw
        case rel =>
          obtain ⟨z1, z2, z3⟩ := HF.out
          exact ⟨q + 1, S3, by rw [HA.out], by go_num, by omega, z1, z2, z3⟩
        case measure => simp [intOf]; omega
      · have HF : Hid (Kept S W w3 ∧ More S W S3 ∧ Jx (q + 1) w3 S3) := ⟨hka.more HR.out.2.2 hk3, HR.out.2.2.trans hm3 hka.size, hj3⟩
        clear hd0 hk3 hm3 hj3 hka c0 c1 hbx
        gi_wp2
        refine bodyPost_ret (results_none rfl _ _ _) rfl ?_
        exact ⟨⟨_, rfl⟩, S3, HF.out.1, HF.out.2.1, .inr ⟨_, HF.out.2.2⟩⟩
    · have hqe : q = n := by omega
      subst hqe
      gi_wp2
      go_end0
      exact ⟨⟨_, rfl⟩, S', hk, hm, .inl hj⟩

theorem along_gives {F : Nat → Prop} {a : Option Addr} {n c : Nat} {L : List (Int × Int)} {w : World} (h : Sl w F a n c L) (hF : ∀ k, F k → k < w.heap.size) :
    GivesL Tryz.prog 64 #[.pointer (some ⟨w.heap.size, 0, none⟩)] (el L) n (w.alloc (.cells #[.slice a n c] 23)) (fun k => F k ∨ k = w.heap.size) := by
  intro l J Jx W S hsz hsame hGS hJ hJx hT h0
  have h' : Sl W F a n c L := h.same (fun k hk => (hsame k (.inl hk)).trans (Below.heap_alloc _ _ _ (hF k hk)))
  exact along_in w.heap.size l J Jx W S h' (fun k hk => hGS k (.inl hk)) (bx1 ((hsame _ (.inr rfl)).trans (World.alloc_heap_new w _))) (hGS _ (.inr rfl)) hJ hJx hT h0
end Go.Proofs.YtkmpgcgdamcikaaGreatDoor

namespace Go.Proofs.YtkmpgcgdamcikaaGreatDoor
open Go.RowKit Go.Shelf
attribute [local go_sem] Oper.semAt_some
set_option linter.unusedVariables false
set_option maxRecDepth 100000

def Th (b : Nat) : Nat → Prop := fun k => k = b ∨ k = b + 1 ∨ k = b + 1 + 1
/-- the boxes of lengthOf behind q slots -/
def LenI (b : Nat) (L : List (Int × Int)) : St := fun q W S => S = Th b ∧ W.heap[b]? = some (.cells #[.int .i64 0] 3) ∧ W.heap[b + 1]? = some (.cells #[.int .i64 (Slt.pr L q)] 3) ∧ W.heap[b + 1 + 1]? = some (.cells #[.int .i64 (Slt.nb L q)] 3) ∧ ∀ i, i < q → Slt.Ok L i
def LenX (b : Nat) (L : List (Int × Int)) : St := fun q W S => S = Th b ∧ W.heap[b]? = some (.cells #[.int .i64 0] 3) ∧ b + 1 + 1 < W.heap.size ∧ ¬ Slt.Goes L
theorem LenI.hangs (b : Nat) (L : List (Int × Int)) : Hangs (LenI b L) := by
  refine ⟨?_, ?_⟩
  · rintro q W S ⟨rfl, h0, h1, h2, _⟩ k (hk | hk | hk)
    · subst hk; exact heap_lt h0
    · subst hk; exact heap_lt h1
    · subst hk; exact heap_lt h2
  · rintro q W W' S ⟨rfl, h0, h1, h2, h3⟩ hs hk
    exact ⟨rfl, (hk _ (.inl rfl)).trans h0, (hk _ (.inr (.inl rfl))).trans h1, (hk _ (.inr (.inr rfl))).trans h2, h3⟩
theorem LenX.hangs (b : Nat) (L : List (Int × Int)) : Hangs (LenX b L) := by
  refine ⟨?_, ?_⟩
  · rintro q W S ⟨rfl, h0, h1, _⟩ k (hk | hk | hk) <;> omega
  · rintro q W W' S ⟨rfl, h0, h1, h3⟩ hs hk
    exact ⟨rfl, (hk _ (.inl rfl)).trans h0, by omega, h3⟩

theorem set1 {w : World} {g : Nat} {u : Value} {t : TypeId} (h : w.heap[g]? = some (.cells #[u] t)) (v : Value) : (w.setCell ⟨g, 0, none⟩ v).heap[g]? = some (.cells #[v] t) := by
  have hl := heap_lt h
  have e := (Array.getElem?_eq_some_iff.1 h).2
  simp only [World.setCell]
  simp [Array.getElem?_modify, h]
theorem ldI {w : World} {g : Nat} {v : Int} (h : w.cell? ⟨g, 0, none⟩ = some (.int .i64 v)) : (loadVar 3 ⟨g, 0, none⟩).run Tryz.prog w = .ok (.int .i64 v) w := by
  simp [go_sem, h]
theorem results_cellI {P : Program} {fn : Func} {p : Tmp} {ty : TypeId} (h : fn.results = #[.cell p ty]) (tmps : Array Value) (w : World) (g : Nat) (v : Value)
    (hp : tmps.getD p undef = .pointer (some ⟨g, 0, none⟩)) (hl : (loadVar ty ⟨g, 0, none⟩).run P w = .ok v w) : (results fn tmps).run P w = .ok v w := by
  have hp' : tmps[p]?.getD undef = .pointer (some ⟨g, 0, none⟩) := by simpa using hp
  simp [results, h, hp', asAddr, hl]
set_option maxHeartbeats 4000000 in
theorem lengthOf_any {F : Nat → Prop} {a : Option Addr} {n c : Nat} {L : List (Int × Int)} (w : World) (h : Sl w F a n c L) (hF : ∀ k, F k → k < w.heap.size) :
    Calls Tryz.prog 37 #[.slice a n c] w fun e w' => e = .returned (.int .i64 (Slt.lenF L)) ∧ Kept No w w' := by
  refine callsIn_wide (n := 9).1 ?_
  refine callsIn_of_wp_marks Tryz.func37 rfl trivial ?_ rfl
  simp only [Tryz.ntmps37, List.size_toArray, List.length_cons, List.length_nil, Nat.reduceAdd, Nat.reduceSub, Array.replicate_succ, Array.replicate_zero, List.push_toArray, List.append_toArray, List.nil_append, List.cons_append]
  gi_wp2_with ((try refine ⟨trivial, ?_⟩); gi_at_call 46; refine (callsIn_wide.2 (along_new a n c _)).mono ?_; rintro e w1 ⟨rfl, hw1⟩)
  have w3s : (((w.alloc (.cells #[.int .i64 0] 3)).alloc (.cells #[.int .i64 0] 3)).alloc (.cells #[.int .i64 (-1)] 3)).heap.size = w.heap.size + 3 := by simp
  have k3 : Kept No w (((w.alloc (.cells #[.int .i64 0] 3)).alloc (.cells #[.int .i64 0] 3)).alloc (.cells #[.int .i64 (-1)] 3)) := (((Kept.refl No w).alloc _).alloc _).alloc _
  have hI3 : LenI w.heap.size L 0 (((w.alloc (.cells #[.int .i64 0] 3)).alloc (.cells #[.int .i64 0] 3)).alloc (.cells #[.int .i64 (-1)] 3)) (Th w.heap.size) := by
    have e1 := World.alloc_heap_new w (.cells #[.int .i64 0] 3)
    have e2 := World.alloc_heap_new (w.alloc (.cells #[.int .i64 0] 3)) (.cells #[.int .i64 0] 3)
    have e3 := World.alloc_heap_new ((w.alloc (.cells #[.int .i64 0] 3)).alloc (.cells #[.int .i64 0] 3)) (.cells #[.int .i64 (-1)] 3)
    simp only [World.size_alloc] at e2 e3
    exact ⟨rfl, (Below.heap_alloc _ _ _ (by simp; omega)).trans ((Below.heap_alloc _ _ _ (by simp)).trans e1), (Below.heap_alloc _ _ _ (by simp)).trans e2, e3, fun i hi => by omega⟩
  generalize (((w.alloc (.cells #[.int .i64 0] 3)).alloc (.cells #[.int .i64 0] 3)).alloc (.cells #[.int .i64 (-1)] 3)) = w3 at *
  clear hw1 w1
  have hs3 := h.keep k3
  have hF3 : ∀ k, F k → k < w3.heap.size := fun k hk => by have := hF k hk; omega
  have hgv := along_gives hs3 hF3
  have hI4 := (LenI.hangs w.heap.size L).kept _ _ (w3.alloc (.cells #[.slice a n c] 23)) _ hI3 (by simp) (fun k hk => Below.heap_alloc _ _ _ ((LenI.hangs w.heap.size L).old _ _ _ hI3 k hk))
  have HK : Hid (Kept No w (w3.alloc (.cells #[.slice a n c] 23)) ∧ (w3.alloc (.cells #[.slice a n c] 23)).heap.size = w.heap.size + 4) := ⟨k3.alloc _, by simp [w3s]⟩
  rw [w3s] at hgv
  generalize w3.alloc (.cells #[.slice a n c] 23) = w4 at *
  have w4s := HK.out.2
  clear k3 hI3 hs3 hF3 w3s
  refine range_list (n := 9) (gf := 64) (lb := #[.pointer (some ⟨w.heap.size + 1 + 1 + 1, 0, none⟩)]) rfl (enters_of Tryz.func64 (by kernel_rfl) rfl) rfl (el := el L) (fun _ => rfl) hgv (Nat.le_refl _) (fun k hk => ⟨by rcases hk with hk | hk; have := hF k hk; omega; omega, rfl⟩)
    (LenI w.heap.size L) (fun c q W S => c = .ret ∧ LenX w.heap.size L q W S) (LenI.hangs _ _) (fun _ => ⟨fun q W S hi => (LenX.hangs _ _).old q W S hi.2, fun q W W' S hi hs hk => ⟨hi.1, (LenX.hangs _ _).kept q W W' S hi.2 hs hk⟩⟩) hI4
    (fun k hk hs => by rcases hk with hk | hk; have := hF k hk; rcases hs with hs | hs | hs <;> omega; rcases hs with hs | hs | hs <;> omega)
    (fun q => .cells #[.int .i64 (Slt.gt L q).1, .int .i64 (Slt.gt L q).2] 62)
    (fun q B => { tmps := #[.slice a n c, undef, .pointer (some ⟨w.heap.size, 0, none⟩), .pointer (some ⟨w.heap.size + 1, 0, none⟩), .pointer (some ⟨w.heap.size + 1 + 1, 0, none⟩), .int .i64 (Slt.ah L q), .pointer (some ⟨B, 0, none⟩), .slice a n c, .func (.func 64) #[] #[.pointer (some ⟨w.heap.size + 1 + 1 + 1, 0, none⟩)], .int .i64 (Slt.ah L q), .agg #[.int .i64 (Slt.gt L q).1, .int .i64 (Slt.gt L q).2], undef, undef, undef, undef, undef, undef, undef, undef, undef, undef, undef, undef, undef, undef, undef, undef, undef, undef, undef, undef, undef, undef, undef, undef, undef, undef, undef, undef, undef, undef, undef], defers := [] }) ?assign ?body ?done ?stop
  case assign =>
    intro l q W K hq hK
    simp only [el]
    gi_wp2
    exact hK
  case body =>
    rintro l q B W S ⟨rfl, h0, h1, h2, h3⟩ hB hob hq
    have hqL : q < L.length := by rw [h.len]; exact hq
    have hA := Slt.pr_bd (Nat.le_of_lt hqL) h3
    have eA := Slt.ah_eq (Nat.le_of_lt hqL) h3
    have HP : Hid (Slt.pr L (q + 1) = Slt.pr L q + (Slt.gt L q).1 ∧ Slt.nb L (q + 1) = (Slt.gt L q).2) := ⟨Slt.pr_succ hqL, rfl⟩
    have HOK : Hid (Slt.Ok L q ↔ (1 ≤ (Slt.gt L q).1 ∧ (Slt.gt L q).1 ≤ 1048576 - Slt.pr L q ∧ 0 ≤ (Slt.gt L q).2 ∧ (Slt.gt L q).2 ≤ 32 ∧ (Slt.gt L q).2 ≠ Slt.nb L q)) := Iff.rfl
    have HNO : Hid (¬ Slt.Ok L q → ¬ Slt.Goes L) := fun hn hg => hn (hg q hqL)
    have HAll : Hid (Slt.Ok L q → ∀ i, i < q + 1 → Slt.Ok L i) := fun ho i hi => by
      by_cases e : i = q
      · rw [e]; exact ho
      · exact h3 i (by omega)
    rw [eA]
    clear h3 eA hgv hI4 h hF hqL
    obtain ⟨hA0, hA1⟩ := hA
    generalize Slt.pr L q = A at *
    generalize (Slt.gt L q).1 = x1 at *
    generalize (Slt.gt L q).2 = x2 at *
    generalize Slt.nb L q = N at *
    obtain ⟨b0, b1⟩ := bx2 hob
    have c0 := bx1 h0
    have c1 := bx1 h1
    have c2 := bx1 h2
    have f0 : W.frozen? ⟨w.heap.size, 0, none⟩ = false := by simp [World.frozen?, h0]
    have f1 : W.frozen? ⟨w.heap.size + 1, 0, none⟩ = false := by simp [World.frozen?, h1]
    have f2 : W.frozen? ⟨w.heap.size + 1 + 1, 0, none⟩ = false := by simp [World.frozen?, h2]
    have HW : Hid (W.heap[w.heap.size]? = some (.cells #[.int .i64 0] 3) ∧ W.heap[w.heap.size + 1]? = some (.cells #[.int .i64 A] 3) ∧ W.heap[w.heap.size + 1 + 1]? = some (.cells #[.int .i64 N] 3)) := ⟨h0, h1, h2⟩
    have HX : Hid (¬ Slt.Ok L q → ∃ S', Kept (Th w.heap.size) W (W.setCell ⟨w.heap.size, 0, none⟩ (.int .i64 0)) ∧ More (Th w.heap.size) W S' ∧ LenX w.heap.size L (q + 1) (W.setCell ⟨w.heap.size, 0, none⟩ (.int .i64 0)) S') := fun hn =>
      ⟨Th w.heap.size, (Kept.refl _ W).setCell (.inl (.inl rfl)) _, More.refl _ _, rfl, by rw [set1 h0], by have := heap_lt h2; simpa [World.setCell] using this, HNO.out hn⟩
    clear h0 h1 h2 hob HNO
    dsimp only
    by_cases p1 : x1 < 1
    · gi_wp2
      obtain ⟨S', z1, z2, z3⟩ := HX.out (fun ho => by have := HOK.out.1 ho; omega); exact ⟨S', z1, z2, rfl, z3⟩
    · by_cases p2 : 1048576 - A < x1
      · gi_wp2
        obtain ⟨S', z1, z2, z3⟩ := HX.out (fun ho => by have := HOK.out.1 ho; omega); exact ⟨S', z1, z2, rfl, z3⟩
      · by_cases p3 : x2 < 0
        · gi_wp2
          obtain ⟨S', z1, z2, z3⟩ := HX.out (fun ho => by have := HOK.out.1 ho; omega); exact ⟨S', z1, z2, rfl, z3⟩
        · by_cases p4 : 32 < x2
          · gi_wp2
            obtain ⟨S', z1, z2, z3⟩ := HX.out (fun ho => by have := HOK.out.1 ho; omega); exact ⟨S', z1, z2, rfl, z3⟩
          · by_cases p5 : x2 = N
            · gi_wp2
              obtain ⟨S', z1, z2, z3⟩ := HX.out (fun ho => (HOK.out.1 ho).2.2.2.2 p5); exact ⟨S', z1, z2, rfl, z3⟩
            · have ho : Slt.Ok L q := HOK.out.2 ⟨by omega, by omega, by omega, by omega, p5⟩
              have HO : Hid (Slt.Ok L q) := ho
              clear ho
              have ew : IntKind.i64.wrap (A + x1) = A + x1 := by rw [IntKind.wrap_i64]; omega
              have HWX : Hid (∀ X : World, (X = ((W.setCell ⟨w.heap.size + 1, 0, none⟩ (.int .i64 (A + x1))).setCell ⟨w.heap.size + 1 + 1, 0, none⟩ (.int .i64 x2)).drew ∨ X = ((W.setCell ⟨w.heap.size + 1 + 1, 0, none⟩ (.int .i64 x2)).setCell ⟨w.heap.size + 1, 0, none⟩ (.int .i64 (A + x1))).drew) → ∃ S', Kept (Th w.heap.size) W X ∧ More (Th w.heap.size) W S' ∧ LenI w.heap.size L (q + 1) X S') := by
                obtain ⟨h0, h1, h2⟩ := HW.out
                rintro X (rfl | rfl)
                · refine ⟨Th w.heap.size, (((Kept.refl _ W).setCell (.inl (.inr (.inl rfl))) _).setCell (.inl (.inr (.inr rfl))) _).drew, More.refl _ _, rfl, ?_, ?_, ?_, HAll.out HO.out⟩
                  · exact (Below.heap_setCell _ _ _ _ (by simp; omega)).trans ((Below.heap_setCell _ _ _ _ (by simp)).trans h0)
                  · rw [HP.out.1]; exact (Below.heap_setCell _ _ _ _ (by simp)).trans (set1 h1 _)
                  · rw [HP.out.2]; exact set1 ((Below.heap_setCell _ _ _ _ (by simp)).trans h2) _
                · refine ⟨Th w.heap.size, (((Kept.refl _ W).setCell (.inl (.inr (.inr rfl))) _).setCell (.inl (.inr (.inl rfl))) _).drew, More.refl _ _, rfl, ?_, ?_, ?_, HAll.out HO.out⟩
                  · exact (Below.heap_setCell _ _ _ _ (by simp)).trans ((Below.heap_setCell _ _ _ _ (by simp; omega)).trans h0)
                  · rw [HP.out.1]; exact set1 ((Below.heap_setCell _ _ _ _ (by simp)).trans h1) _
                  · rw [HP.out.2]; exact (Below.heap_setCell _ _ _ _ (by simp)).trans (set1 h2 _)
              have EW : Hid (IntKind.i64.wrap (A + x1) = A + x1) := ew
              clear ew
              gi_wp2
              gi_region
              all_goals (show ∃ S', Kept (Th w.heap.size) W _ ∧ More (Th w.heap.size) W S' ∧ LenI w.heap.size L (q + 1) _ S'; rw [EW.out]; refine HWX.out _ ?_; first | exact .inl rfl | exact .inr rfl)
  case done =>
    rintro D W S' hk hm ⟨rfl, h0, h1, h2, h3⟩ hD1 hD2 hD3
    have hgo : Slt.Goes L := fun i hi => h3 i (by rw [← h.len]; exact hi)
    have HL : Hid (Slt.lenF L = Slt.pr L n) := by
      show Slt.lenF L = _
      unfold Slt.lenF
      rw [if_pos hgo, h.len]
    have kw : Kept No w W := HK.out.1.trans hk (fun k q => .inr (by rcases q with q | q | q <;> omega))
    have HKW : Hid (Kept No w W ∧ w.heap.size ≠ D) := ⟨kw, by omega⟩
    have c0 := bx1 h0
    have c1 := bx1 h1
    have f0 : W.frozen? ⟨w.heap.size, 0, none⟩ = false := by simp [World.frozen?, h0]
    have HD : Hid (W.heap[D]? = some (.deferred (some []))) := hD3
    have H0 : Hid (W.heap[w.heap.size]? = some (.cells #[.int .i64 0] 3)) := h0
    clear hgv hI4 hm h1 h2 h3 hgo hk kw h0 hD3
    generalize Slt.pr L n = A at *
    gi_wp2
    have hD4 : (W.setCell ⟨w.heap.size, 0, none⟩ (.int .i64 A)).heap[D]? = some (.deferred (some [])) := (Below.heap_setCell _ _ _ _ (by simp; exact fun e => HKW.out.2 e.symm)).trans HD.out
    refine ⟨by simp, .inl ⟨_, _, rfl, run_takeDeferred hD4, ?_⟩⟩
    refine ⟨_, results_cellI rfl _ _ w.heap.size (.int .i64 A) rfl (ldI (bx1 ((World.putObj_heap_other (by exact HKW.out.2)).trans (set1 H0.out _)))), by rw [HL.out], ?_⟩
    have k5 : Kept No w (W.setCell ⟨w.heap.size, 0, none⟩ (.int .i64 A)) := HKW.out.1.setCell (.inr (Nat.le_refl _)) _
    exact k5.trans (kept_put (S := fun k => k = D) _ rfl) (fun k q => .inr (by omega))
  case stop =>
    rintro D c q W S' hk hm ⟨rfl, rfl, h0, h1, h3⟩ hD1 hD2 hD3
    have HL : Hid (Slt.lenF L = 0) := by
      show Slt.lenF L = _
      unfold Slt.lenF
      rw [if_neg h3]
    have kw : Kept No w W := HK.out.1.trans hk (fun k q => .inr (by rcases q with q | q | q <;> omega))
    have hne : w.heap.size ≠ D := by omega
    clear hgv hI4 hm h1 h3 hk
    gi_wp2
    refine ⟨by simp, .inl ⟨_, _, rfl, run_takeDeferred hD3, ?_⟩⟩
    refine ⟨_, results_cellI rfl _ _ w.heap.size (.int .i64 0) rfl (ldI (bx1 ((World.putObj_heap_other (by exact hne)).trans h0))), by rw [HL.out], ?_⟩
    exact kw.trans (kept_put (S := fun k => k = D) _ rfl) (fun k q => .inr (by omega))
end Go.Proofs.YtkmpgcgdamcikaaGreatDoor

namespace Go.Proofs.YtkmpgcgdamcikaaGreatDoor
open Go.RowKit Go.Shelf
set_option linter.unusedVariables false
set_option maxRecDepth 100000

def hyF (P C : List (Int × Int)) : Int := if Slt.lenF P = Slt.lenF C then Slt.lenF P else 0
theorem hyF_tab {P C : List (Int × Int)} (h : hyF P C ≠ 0) : Slt.Tab P C (hyF P C).toNat ∧ ((hyF P C).toNat : Int) = hyF P C := by
  unfold hyF at h ⊢
  by_cases e : Slt.lenF P = Slt.lenF C
  · rw [if_pos e] at h ⊢
    have := Slt.lenF_bd P
    exact ⟨Slt.tab_of e h, by omega⟩
  · rw [if_neg e] at h
    exact (h rfl).elim
theorem tab_hyF {P C : List (Int × Int)} {H : Nat} (h : Slt.Tab P C H) : hyF P C = H := by
  have e1 : Slt.lenF P = H := by unfold Slt.lenF; rw [if_pos h.p]; exact h.hp
  have e2 : Slt.lenF C = H := by unfold Slt.lenF; rw [if_pos h.c]; exact h.hc
  unfold hyF
  rw [e1, e2, if_pos rfl]

theorem turnOf_any (H t : Nat) (w : World) (hH : 1 ≤ H) (hH2 : H ≤ 1048576) (ht : t < 1099511627776) :
    Calls Tryz.prog 61 #[.int .i64 H, .int .i64 t] w fun e w' => e = .returned (.int .i64 (Slt.beg H t : Nat)) ∧ w' = w := by
  have hm := Nat.mod_le t H
  have h0 : ¬ (H : Int) = 0 := by omega
  have HB : Hid ((Slt.beg H t : Nat) = t - t % H) := rfl
  have HE : Hid ((t : Int) % (H : Int) = ((t % H : Nat) : Int)) := rfl
  go_enter Tryz.func61, Tryz.ntmps61
  go_wp2
  go_ret
  refine ⟨?_, rfl⟩
  have e1 := HB.out
  have e2 := HE.out
  rw [e1]
  clear HB HE e1
  generalize t % H = M at *
  show Ending.returned (Value.int .i64 ((t : Int) - (t : Int) % (H : Int))) = _
  rw [e2, show ((t - M : Nat) : Int) = (t : Int) - M by omega]

set_option maxHeartbeats 1000000 in
theorem hyperOf_any {F G : Nat → Prop} {a0 a1 : Option Addr} {n0 c0 n1 c1 : Nat} {P C : List (Int × Int)} (w : World) (h : Sl w F a0 n0 c0 P) (hF : ∀ k, F k → k < w.heap.size) (h' : Sl w G a1 n1 c1 C) (hG : ∀ k, G k → k < w.heap.size) :
    Calls Tryz.prog 18 #[.agg #[.slice a0 n0 c0, .slice a1 n1 c1]] w fun e w' => e = .returned (.int .i64 (hyF P C)) ∧ Kept No w w' := by
  have k1 : Kept No w (w.alloc (.cells #[.slice a0 n0 c0, .slice a1 n1 c1] 25)) := (Kept.refl No w).alloc _
  have hl := lengthOf_any _ (h.keep k1) (fun k hk => Nat.lt_of_lt_of_le (hF k hk) k1.size)
  have HL : Hid (∀ w', Kept No w w' → Calls Tryz.prog 37 #[.slice a1 n1 c1] w' fun e w'' => e = .returned (.int .i64 (Slt.lenF C)) ∧ Kept No w' w'') := fun w' hk => lengthOf_any _ (h'.keep hk) (fun k hg => Nat.lt_of_lt_of_le (hG k hg) hk.size)
  have HB : Hid ((w.alloc (.cells #[.slice a0 n0 c0, .slice a1 n1 c1] 25)).heap[w.heap.size]? = some (.cells #[.slice a0 n0 c0, .slice a1 n1 c1] 25)) := World.alloc_heap_new _ _
  have HK : Hid (Kept No w (w.alloc (.cells #[.slice a0 n0 c0, .slice a1 n1 c1] 25))) := k1
  have HE : Hid (hyF P C = if Slt.lenF P = Slt.lenF C then Slt.lenF P else 0) := rfl
  generalize hyF P C = Y at *
  clear h h' hF hG k1
  generalize Slt.lenF P = A at *
  generalize Slt.lenF C = B at *
  obtain ⟨b0, b1⟩ := bx2 HB.out
  go_enter Tryz.func18, Tryz.ntmps18
  go_upto_region 2 with (go_at_call 37; refine hl.mono ?_; rintro e w1 ⟨rfl, hk1⟩; have H1 : Hid (Kept No w w1 ∧ w1.heap[w.heap.size]? = some (.cells #[.slice a0 n0 c0, .slice a1 n1 c1] 25)) := ⟨HK.out.trans hk1 (fun _ h => h.elim), hk1.at' HB.out (fun h => h)⟩; clear hk1 hl)
  obtain ⟨d0, d1⟩ := bx2 H1.out.2
  have hl2 := HL.out w1 H1.out.1
  by_cases e : B = A
  · go_wp2_with (go_at_call 37; refine hl2.mono ?_; rintro e w2 ⟨rfl, hk2⟩; have H2 : Hid (Kept No w w2) := H1.out.1.trans hk2 (fun _ h => h.elim); clear hk2 hl2)
    go_ret
    exact ⟨by rw [HE.out, if_pos e.symm]; rfl, H2.out⟩
  · go_wp2_with (go_at_call 37; refine hl2.mono ?_; rintro e w2 ⟨rfl, hk2⟩; have H2 : Hid (Kept No w w2) := H1.out.1.trans hk2 (fun _ h => h.elim); clear hk2 hl2)
    go_ret
    exact ⟨by rw [HE.out, if_neg (fun h => e h.symm)]; rfl, H2.out⟩

set_option maxHeartbeats 1000000 in
theorem valid_any {F G : Nat → Prop} {a0 a1 : Option Addr} {n0 c0 n1 c1 : Nat} {P C : List (Int × Int)} (w : World) (h : Sl w F a0 n0 c0 P) (hF : ∀ k, F k → k < w.heap.size) (h' : Sl w G a1 n1 c1 C) (hG : ∀ k, G k → k < w.heap.size) :
    Calls Tryz.prog 10 #[.agg #[.slice a0 n0 c0, .slice a1 n1 c1]] w fun e w' => e = .returned (.int .i64 (if hyF P C = 0 then 20 else 0)) ∧ Kept No w w' := by
  have k1 : Kept No w (w.alloc (.cells #[.slice a0 n0 c0, .slice a1 n1 c1] 25)) := (Kept.refl No w).alloc _
  have hl := hyperOf_any _ (h.keep k1) (fun k hk => Nat.lt_of_lt_of_le (hF k hk) k1.size) (h'.keep k1) (fun k hk => Nat.lt_of_lt_of_le (hG k hk) k1.size)
  obtain ⟨b0, b1⟩ := bx2 (World.alloc_heap_new w (.cells #[.slice a0 n0 c0, .slice a1 n1 c1] 25))
  have HK : Hid (Kept No w (w.alloc (.cells #[.slice a0 n0 c0, .slice a1 n1 c1] 25))) := k1
  generalize hyF P C = Y at *
  clear h h' hF hG k1
  by_cases e : Y = 0
  · rw [if_pos e]
    go_enter Tryz.func10, Tryz.ntmps10
    go_wp2_with (go_at_call 18; refine hl.mono ?_; rintro e w1 ⟨rfl, hk1⟩; have H1 : Hid (Kept No w w1) := HK.out.trans hk1 (fun _ h => h.elim); clear hk1 hl)
    go_ret
    exact ⟨rfl, H1.out⟩
  · rw [if_neg e]
    go_enter Tryz.func10, Tryz.ntmps10
    go_wp2_with (go_at_call 18; refine hl.mono ?_; rintro e w1 ⟨rfl, hk1⟩; have H1 : Hid (Kept No w w1) := HK.out.trans hk1 (fun _ h => h.elim); clear hk1 hl)
    go_ret
    exact ⟨rfl, H1.out⟩

end Go.Proofs.YtkmpgcgdamcikaaGreatDoor
