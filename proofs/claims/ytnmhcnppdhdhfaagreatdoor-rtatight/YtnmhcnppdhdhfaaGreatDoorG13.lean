/-
  One text: CHyp, OSrvs, RUp, VJb.
-/
import Derived.Test.YtnmhcnppdhdhfaaGreatDoorG11
import Derived.Test.YtnmhcnppdhdhfaaGreatDoorG12
import Derived.Test.YtnmhcnppdhdhfaaGreatDoorG10
import Derived.Laws.MakeOwn
import Derived.Test.YtnmhcnppdhdhfaaGreatDoorG06
import Derived.BigQuiet
import Derived.Deep.DeepCutAuto
namespace Go.Proofs.YtnmhcnppdhdhfaaGreatDoor
open Go.RowKit Plain
set_option linter.unusedVariables false
set_option maxRecDepth 100000

def iv (x : Int) : Value := .int .i64 x
def zP (xs : List Srv) (i : Nat) : Int := (xs.getD i ⟨0, 0, 0, 0⟩).p
def psP (xs : List Srv) (k : Nat) : List Int := (List.range k).map (zP xs)
theorem psP_len (xs : List Srv) (k : Nat) : (psP xs k).length = k := by simp [psP]
theorem psP_succ (xs : List Srv) (k : Nat) : (psP xs (k + 1)).map iv = (psP xs k).map iv ++ [.int .i64 (zP xs k)] := by simp [psP, List.range_succ, iv]
theorem psP_get (xs : List Srv) (k i : Nat) (h : i < k) : ((psP xs k).map iv)[i]? = some (.int .i64 (zP xs i)) := by simp [psP, h, iv]
theorem Tryz.infoI : (Tryz.prog.info? 3).map (fun i => (i.zero, i.size, i.bytes)) = some (some (.int .i64 0), 1, 8) := by kernel_rfl
theorem Tryz.infoL : (Tryz.prog.info? 2).map (fun i => (i.zero, i.size, i.bytes)) = some (some (.int .i64 0), 1, 8) := by kernel_rfl
theorem info_parts {P : Program} {t : TypeId} {z : Option Value} {s b : Nat} (h : (P.info? t).map (fun i => (i.zero, i.size, i.bytes)) = some (z, s, b)) : ∃ i, P.info? t = some i ∧ i.zero = z ∧ i.size = s ∧ i.bytes = b := by
  cases hi : P.info? t with
  | none => rw [hi] at h; cases h
  | some i => rw [hi] at h; simp only [Option.map_some, Option.some.injEq, Prod.mk.injEq] at h; exact ⟨i, rfl, h.1, h.2.1, h.2.2⟩
theorem cell_one_new (w : World) (v : Value) (t : TypeId) : ∀ j u, [v][j]? = some u → (w.alloc (.cells #[v] t)).cell? (Addr.add ⟨w.heap.size, 0, none⟩ j) = some u := by
  intro j u hj
  match j, hj with
  | 0, hj => simp at hj; subst hj; simp [Addr.add]
  | j + 1, hj => simp at hj

theorem cell_one_at (w : World) (v : Value) (t : TypeId) (g : Nat) (hg : g = w.heap.size) : ∀ j u, [v][j]? = some u → (w.alloc (.cells #[v] t)).cell? (Addr.add ⟨g, 0, none⟩ j) = some u := by
  subst hg; exact cell_one_new w v t

theorem row_of (w : World) (B : Nat) (t : TypeId) (v : Value) (xs : List Srv) (n : Nat) (h : w.ownsRow B t 1 v n ((psP xs n).map iv)) (hok : ∀ i, i < n → I64 (zP xs i)) : ∃ a c, v = .slice a n c ∧ Row w a n (zP xs) := by
  rcases owns_cells h with ⟨rfl, h0⟩ | ⟨g, cap, rfl, hb, hg, hn, hm, hc, hf⟩
  · exact ⟨none, 0, by rw [h0], fun i hi => by omega⟩
  · exact ⟨_, cap, rfl, fun i hi => ⟨g, 0, rfl, by rw [Nat.zero_add]; exact hc i _ (psP_get xs n i hi), hok i hi⟩⟩

set_option maxHeartbeats 4000000 in
theorem multiple_any (F : Nat → Prop) (a : Option Addr) (n c : Nat) (xs : List Srv) (w : World) (h : Sv w F a n c xs) (hn : n ≤ 70000) :
    Calls Tryz.prog 36 #[.slice a n c] w fun e w' => e = .returned (.tuple #[.int .i64 (lcmV (zP xs) n 1048576), .bool (lcmB (zP xs) n 1048576)]) ∧ Kept No w w' := by
  obtain ⟨i0, hi, hz0, hz1, hz2⟩ := info_parts Tryz.infoI
  have H : Hid (Sv w F a n c xs) := h
  obtain ⟨z1, hz1'⟩ : ∃ z, z = lcmV (zP xs) n 1048576 := ⟨_, rfl⟩
  obtain ⟨z2, hz2'⟩ : ∃ z, z = lcmB (zP xs) n 1048576 := ⟨_, rfl⟩
  rw [← hz1', ← hz2']
  have HZ1 : Hid (z1 = lcmV (zP xs) n 1048576) := hz1'
  have HZ2 : Hid (z2 = lcmB (zP xs) n 1048576) := hz2'
  clear h hz1' hz2'
  go_enter Tryz.func36, Tryz.ntmps36
  go_wp2
  go_loopw [4, 9] (fun v x wr => ∃ k : Nat, k ≤ n ∧ x = .int .i64 k ∧ Kept No w wr ∧ wr.ownsRow w.heap.size 3 1 v k ((psP xs k).map iv)) (fun _ x _ => n - (intOf x).toNat)
  case atStart => exact ⟨0, by omega, rfl, Kept.refl No w, ⟨rfl, .inl ⟨rfl, rfl⟩⟩⟩
  case round =>
    obtain ⟨k, hk, rfl, hkr, hown⟩ := hrel
    by_cases hlt : k < n
    · have hx : xs[k]? = some (xs.getD k ⟨0, 0, 0, 0⟩) := by rw [List.getD, List.getElem?_eq_getElem (by rw [H.out.len]; exact hlt)]; rfl
      obtain ⟨hok, b, o, rfl, hb, c0, c1, c2, c3⟩ := (H.out.keep hkr).at' k _ hx
      have HNX : Hid ((psP xs (k + 1)).map iv = (psP xs k).map iv ++ [.int .i64 (xs.getD k ⟨0, 0, 0, 0⟩).p]) := psP_succ xs k
      have HL : Hid (((psP xs k).map iv).length = k) := by show ((psP xs k).map iv).length = k; rw [List.length_map, psP_len]
      clear hx hok
      generalize (psP xs k).map iv = L0 at *
      generalize xs.getD k ⟨0, 0, 0, 0⟩ = y at *
      obtain ⟨yp, yb, yo, yq⟩ := y
      simp only at c0 c1 c2 c3 HNX
      have HOW : Hid (wr.ownsRow w.heap.size 3 1 u4 k L0) := hown
      have HKR : Hid (Kept No w wr) := hkr
      clear hown hkr
      go_wp2_with (at_builtin; refine wpList_append_own_at _ rfl _ _ 27 rfl w.heap.size 3 i0 (.int .i64 0) 1 8 Tryz.underlying27 hi hz0 hz1 hz2 rfl (by decide) _ _ _ rfl ((HOW.out.alloc _).alloc _) ⟨wr.heap.size + 1, 0, none⟩ 1 1 [.int .i64 yp] rfl rfl (cell_one_at _ _ _ _ (by simp)) (one_one _ _) (by unfold maxLen; omega) (by omega) (by have := HKR.out.size; simp; omega) ?_; intro v1 w6 own1 grow1 _ at1)
      have HK6 : Hid (Kept No w w6 ∧ w6.ownsRow w.heap.size 3 1 v1 (k + 1) ((psP xs (k + 1)).map iv)) := by
        exact ⟨((HKR.out.alloc _).alloc _).grown grow1 (fun g e => .inr (HOW.out.lt g e).1), by rw [HNX.out]; exact own1⟩
      clear own1 grow1 at1
      go_wp2
      go_roundw
      case rel => exact ⟨k + 1, by omega, by go_num, HK6.out.1, HK6.out.2⟩
      case measure => simp [intOf]; omega
    · have hke : k = n := by omega
      subst hke
      obtain ⟨sa, sc, rfl, hrow⟩ := row_of wr w.heap.size 3 u4 xs k hown (fun i hi => by
        have hx : xs[i]? = some (xs.getD i ⟨0, 0, 0, 0⟩) := by rw [List.getD, List.getElem?_eq_getElem (by rw [H.out.len]; exact hi)]; rfl
        exact (H.out.at' i _ hx).1.1)
      have hc := lcmInt_any sa k sc (zP xs) 1048576 wr (by omega) (by unfold I64; omega) hrow
      have HKR : Hid (Kept No w wr) := hkr
      clear hown hkr hrow
      rw [← HZ1.out, ← HZ2.out] at hc
      go_wp2_with (go_at_call 28; refine hc.mono ?_; rintro e w2 ⟨rfl, nn, rfl⟩)
      go_ret2
      exact ⟨rfl, HKR.out.drewN _⟩
theorem eachF_none {r : Nat → Int} {first : Int} : ∀ {n : Nat}, eachF r first n = none → ∀ i, i < n → r i = 0
  | 0, _, i, hi => by omega
  | n + 1, h, i, hi => by
    rw [eachF] at h
    cases he : eachF r first n with
    | some p => rw [he] at h; cases h
    | none =>
      rw [he] at h
      rcases Nat.lt_or_eq_of_le (Nat.lt_succ_iff.1 hi) with h1 | h1
      · exact eachF_none he i h1
      · subst h1
        apply Decidable.byContradiction
        intro hn
        simp [hn] at h
theorem rowsF_zero {e : Nat → Int} : ∀ {m : Nat}, rowsF e m = 0 → ∀ j, j < m → e j = 0
  | 0, _, j, hj => by omega
  | m + 1, h, j, hj => by
    rw [rowsF] at h
    by_cases he : rowsF e m = 0
    · rw [if_pos he] at h
      rcases Nat.lt_or_eq_of_le (Nat.lt_succ_iff.1 hj) with h1 | h1
      · exact rowsF_zero he j h1
      · subst h1; exact h
    · rw [if_neg he] at h; exact absurd h he
theorem findF_none {xs : List Srv} {n : Nat} (h : findF xs n = none) : n ≤ 32 ∧ ∀ i, i < n → 1 ≤ zP xs i ∧ zP xs i ≤ 1048576 := by
  unfold findF at h
  by_cases h32 : n ≤ 32
  · rw [if_pos h32] at h
    refine ⟨h32, fun i hi => ?_⟩
    have := rowsF_zero (eachF_none h i hi) 0 (by omega)
    simp only [bS] at this
    by_cases hb : inB (xs.getD i ⟨0, 0, 0, 0⟩).p 1 1048576 = true
    · simp [inB] at hb; exact hb
    · rw [if_neg hb] at this; omega
  · rw [if_neg h32] at h; cases h

def relF (h : Int) (xs : List Srv) : Nat → Int
  | 0 => 0
  | k + 1 => relF h xs k + (2 * h) / zP xs k
theorem relF_bd {h : Int} {xs : List Srv} (h0 : 0 ≤ h) (h1 : h ≤ 1048576) : ∀ k, (∀ i, i < k → 1 ≤ zP xs i) → 0 ≤ relF h xs k ∧ relF h xs k ≤ k * 2097152
  | 0, _ => by simp [relF]
  | k + 1, hp => by
    have ih := relF_bd h0 h1 k (fun i hi => hp i (by omega))
    have hk := hp k (by omega)
    have d0 : 0 ≤ (2 * h) / zP xs k := Int.ediv_nonneg (by omega) (by omega)
    have d1 : (2 * h) / zP xs k ≤ 2 * h := Int.ediv_le_self _ (by omega)
    rw [relF]
    constructor
    · omega
    · push_cast; omega
theorem lcm_bd (xs : List Srv) (n : Nat) : 0 ≤ lcmV (zP xs) n 1048576 ∧ lcmV (zP xs) n 1048576 ≤ 1048576 := by
  obtain ⟨h0, h1, _⟩ := lcmV_facts (zP xs) n 1048576
  refine ⟨h0, ?_⟩
  by_cases h : 0 < lcmV (zP xs) n 1048576
  · exact (h1 h).1
  · omega

end Go.Proofs.YtnmhcnppdhdhfaaGreatDoor

namespace Go.Proofs.YtnmhcnppdhdhfaaGreatDoor
open Go.RowKit Plain
set_option linter.unusedVariables false
set_option linter.unusedSimpArgs false
set_option maxRecDepth 100000

/-- cells of a block by a function -/
def Mf (w : World) (g N : Nat) (f : Nat → Srv) : Prop :=
  ∀ i, i < N → w.cell? ⟨g, i * 4, none⟩ = some (.int .i64 (f i).p) ∧ w.cell? ⟨g, i * 4 + 1, none⟩ = some (.int .i64 (f i).b) ∧ w.cell? ⟨g, i * 4 + 2, none⟩ = some (.int .i64 (f i).o) ∧ w.cell? ⟨g, i * 4 + 3, none⟩ = some (.int .i64 (f i).q)
def Fz (w : World) (g : Nat) : Prop := ∀ i, w.frozen? ⟨g, i, none⟩ = false
theorem Mf.kept {w w' : World} {g N : Nat} {f : Nat → Srv} {G : Nat → Prop} (h : Mf w g N f) (k : Kept G w w') (hg : ¬ G g) : Mf w' g N f := fun i hi => by
  obtain ⟨h0, h1, h2, h3⟩ := h i hi
  exact ⟨k.cell h0 hg, k.cell h1 hg, k.cell h2 hg, k.cell h3 hg⟩
theorem Mf.sv {w : World} {g N : Nat} {f : Nat → Srv} (h : Mf w g N f) (n c : Nat) (hn : n ≤ N) (hc : n ≤ c) (hm : c ≤ 9223372036854775807) (hok : ∀ i, i < n → (f i).ok) : Sv w (fun b => b = g) (some ⟨g, 0, none⟩) n c ((List.range n).map f) :=
  ⟨by simp, hc, hm, fun e => (by cases e), fun i x hx => by
    have hi : i < n := by
      apply Decidable.byContradiction
      intro hn
      rw [List.getElem?_eq_none (by simp; omega)] at hx
      cases hx
    rw [List.getElem?_map, List.getElem?_range hi] at hx
    simp at hx
    subst hx
    obtain ⟨h0, h1, h2, h3⟩ := h i (by omega)
    exact ⟨hok i hi, g, 0, rfl, rfl, by rw [Nat.zero_add]; exact h0, by rw [Nat.zero_add]; exact h1, by rw [Nat.zero_add]; exact h2, by rw [Nat.zero_add]; exact h3⟩⟩
theorem Sv.eq {w : World} {F : Nat → Prop} {a : Option Addr} {n c : Nat} {xs : List Srv} (h : Sv w F a n c xs) : xs = (List.range n).map (fun i => xs.getD i ⟨0, 0, 0, 0⟩) := by
  apply List.ext_getElem?
  intro i
  by_cases hi : i < n
  · rw [List.getElem?_map, List.getElem?_range hi, List.getElem?_eq_getElem (by rw [h.len]; exact hi)]
    simp [h.len, hi]
  · rw [List.getElem?_eq_none (by rw [h.len]; omega), List.getElem?_eq_none (by simp; omega)]
theorem Sv.ok {w : World} {F : Nat → Prop} {a : Option Addr} {n c : Nat} {xs : List Srv} (h : Sv w F a n c xs) (i : Nat) (hi : i < n) : (xs.getD i ⟨0, 0, 0, 0⟩).ok :=
  (h.at' i _ (by rw [List.getD, List.getElem?_eq_getElem (by rw [h.len]; exact hi)]; rfl)).1

/-- the cells of a list, one behind the other -/
def fl : List Srv → List Value
  | [] => []
  | x :: r => .int .i64 x.p :: .int .i64 x.b :: .int .i64 x.o :: .int .i64 x.q :: fl r
theorem fl_len : ∀ xs : List Srv, (fl xs).length = xs.length * 4
  | [] => rfl
  | x :: r => by simp only [fl, List.length_cons, fl_len r]; omega
theorem fl_app : ∀ xs ys : List Srv, fl (xs ++ ys) = fl xs ++ fl ys
  | [], ys => rfl
  | x :: r, ys => by simp only [fl, List.cons_append, fl_app r ys]
theorem fl_one : ∀ xs : List Srv, ∀ u ∈ fl xs, u.oneCell' = true
  | [], u, h => by cases h
  | x :: r, u, h => by
    simp only [fl, List.mem_cons] at h
    rcases h with rfl | rfl | rfl | rfl | h
    · rfl
    · rfl
    · rfl
    · rfl
    · exact fl_one r u h
theorem fl_get : ∀ (xs : List Srv) (i : Nat) (x : Srv), xs[i]? = some x → (fl xs)[i * 4]? = some (.int .i64 x.p) ∧ (fl xs)[i * 4 + 1]? = some (.int .i64 x.b) ∧ (fl xs)[i * 4 + 2]? = some (.int .i64 x.o) ∧ (fl xs)[i * 4 + 3]? = some (.int .i64 x.q)
  | [], i, x, h => by cases h
  | y :: r, 0, x, h => by simp at h; subst h; exact ⟨rfl, rfl, rfl, rfl⟩
  | y :: r, i + 1, x, h => by
    obtain ⟨h0, h1, h2, h3⟩ := fl_get r i x (by simpa using h)
    rw [show (i + 1) * 4 = i * 4 + 4 by omega]
    exact ⟨h0, h1, h2, h3⟩
theorem Sv.news {w : World} {F : Nat → Prop} {ad : Addr} {n c : Nat} {xs : List Srv} (h : Sv w F (some ad) n c xs) : ∀ j u, (fl xs)[j]? = some u → w.cell? (ad.add j) = some u := by
  intro j u hj
  have hlt : j < xs.length * 4 := by
    rw [← fl_len]
    exact (List.getElem?_eq_some_iff.1 hj).1
  obtain ⟨x, hx⟩ : ∃ x, xs[j / 4]? = some x := ⟨_, List.getElem?_eq_getElem (by omega)⟩
  obtain ⟨g0, g1, g2, g3⟩ := fl_get xs (j / 4) x hx
  obtain ⟨_, b, o, e, _, c0, c1, c2, c3⟩ := h.at' (j / 4) x hx
  simp only [Option.some.injEq] at e
  subst e
  rw [add_none]
  have h4 : j % 4 < 4 := Nat.mod_lt _ (by omega)
  rcases (by omega : j % 4 = 0 ∨ j % 4 = 1 ∨ j % 4 = 2 ∨ j % 4 = 3) with h4 | h4 | h4 | h4
  · rw [show j = j / 4 * 4 by omega] at hj; rw [g0] at hj; rw [show o + j = o + j / 4 * 4 by omega, c0]; exact hj
  · rw [show j = j / 4 * 4 + 1 by omega] at hj; rw [g1] at hj; rw [show o + j = o + j / 4 * 4 + 1 by omega, c1]; exact hj
  · rw [show j = j / 4 * 4 + 2 by omega] at hj; rw [g2] at hj; rw [show o + j = o + j / 4 * 4 + 2 by omega, c2]; exact hj
  · rw [show j = j / 4 * 4 + 3 by omega] at hj; rw [g3] at hj; rw [show o + j = o + j / 4 * 4 + 3 by omega, c3]; exact hj

theorem Tryz.infoS : (Tryz.prog.info? 39).map (fun i => (i.zero, i.size, i.bytes)) = some (some (.agg #[.int .i64 0, .int .i64 0, .int .i64 0, .int .i64 0]), 4, 32) := by kernel_rfl

/-- an owned row of servers, as cells -/
theorem own_mf {w : World} {B : Nat} {v : Value} {N : Nat} {xs : List Srv} (h : w.ownsRow B 39 4 v N (fl xs)) (hl : xs.length = N) :
    (v = .slice none 0 0 ∧ N = 0) ∨ ∃ g cap, v = .slice (some ⟨g, 0, none⟩) N cap ∧ B ≤ g ∧ g < w.heap.size ∧ N ≤ cap ∧ cap ≤ 9223372036854775807 ∧ Mf w g N (fun i => xs.getD i ⟨0, 0, 0, 0⟩) ∧ Fz w g := by
  have hc := h
  obtain ⟨_, h1 | ⟨g, cap, cur, rfl, hb, hg, hn, hm, _, _⟩⟩ := h
  · exact .inl h1
  · refine .inr ⟨g, cap, rfl, hb, (hc.lt g rfl).2, hn, Nat.le_trans hm (by unfold maxLen; omega), ?_, fun i => by simp [World.frozen?, hg]⟩
    intro i hi
    have hx : xs[i]? = some (xs.getD i ⟨0, 0, 0, 0⟩) := by rw [List.getD, List.getElem?_eq_getElem (by omega)]; rfl
    obtain ⟨g0, g1, g2, g3⟩ := fl_get xs i _ hx
    have key := hc.cells (g := g) rfl
    have k0 := key _ _ g0
    have k1 := key _ _ g1
    have k2 := key _ _ g2
    have k3 := key _ _ g3
    rw [add_none, Nat.zero_add] at k0 k1 k2 k3
    exact ⟨k0, k1, k2, k3⟩
theorem own_sv {w : World} {B : Nat} {v : Value} {N : Nat} {xs : List Srv} (h : w.ownsRow B 39 4 v N (fl xs)) (hl : xs.length = N) (hok : ∀ i, i < N → (xs.getD i ⟨0, 0, 0, 0⟩).ok) :
    ∃ a c, v = .slice a N c ∧ Sv w (fun g => v.ownBlock = some g) a N c xs := by
  rcases own_mf h hl with ⟨rfl, h0⟩ | ⟨g, cap, rfl, _, _, hn, hm, hf, _⟩
  · refine ⟨none, 0, by rw [h0], ⟨hl, by omega, by omega, fun _ => rfl, fun i x hx => ?_⟩⟩
    have := (List.getElem?_eq_some_iff.1 hx).1
    omega
  · refine ⟨_, cap, rfl, ?_⟩
    have h1 := hf.sv N cap (Nat.le_refl _) hn hm hok
    have h2 : xs = (List.range N).map (fun i => xs.getD i ⟨0, 0, 0, 0⟩) := by
      apply List.ext_getElem?
      intro i
      by_cases hi : i < N
      · rw [List.getElem?_map, List.getElem?_range hi, List.getElem?_eq_getElem (by omega)]
        simp [hl, hi]
      · rw [List.getElem?_eq_none (by omega), List.getElem?_eq_none (by simp; omega)]
    rw [← h2] at h1
    exact ⟨h1.len, h1.cap, h1.max, h1.nil, fun i x hx => by
      obtain ⟨ok, b, o, e, hb, r⟩ := h1.at' i x hx
      exact ⟨ok, b, o, e, by rw [hb]; rfl, r⟩⟩

theorem made0 (w : World) : (w.alloc (.cells #[] 39)).ownsRow w.heap.size 39 4 (.slice (some ⟨w.heap.size, 0, none⟩) 0 0) 0 [] := World.ownsRow_made w #[] 0 (Nat.le_refl _) (by unfold maxLen; omega) rfl
theorem cell_four (w : World) (x : Srv) (t : TypeId) : ∀ j u, (fl [x])[j]? = some u → (w.alloc (.cells #[.int .i64 x.p, .int .i64 x.b, .int .i64 x.o, .int .i64 x.q] t)).cell? (Addr.add ⟨w.heap.size, 0, none⟩ j) = some u := by
  intro j u hj
  match j, hj with
  | 0, hj => simp [fl] at hj; subst hj; simp [Addr.add]
  | 1, hj => simp [fl] at hj; subst hj; simp [Addr.add]
  | 2, hj => simp [fl] at hj; subst hj; simp [Addr.add]
  | 3, hj => simp [fl] at hj; subst hj; simp [Addr.add]
  | j + 4, hj => simp [fl] at hj
end Go.Proofs.YtnmhcnppdhdhfaaGreatDoor

namespace Go.Proofs.YtnmhcnppdhdhfaaGreatDoor
open Go.RowKit
set_option linter.unusedVariables false
set_option linter.unusedSimpArgs false
set_option maxRecDepth 100000

def zeroW : Wr := ⟨0, 0, 0, false, 0, ⟨0, 0, 0, 0, 0, 0⟩⟩
def dPrc : Prc := ⟨0, 0, 0, 0, 0, false⟩
def wrk (x : Prc) (i : Nat) : Wr := ⟨x.en, x.pr, x.li, x.auto, i, ⟨x.pe.toNat, x.ca.toNat, 0, 0, 0, 0⟩⟩
theorem Tryz.infoW : (Tryz.prog.info? 63).map (fun i => (i.zero, i.size, i.bytes)) = some (some (.agg #[.int .i64 0, .int .i64 0, .int .i64 0, .int .i64 0, .int .i64 0, .bool false, .int .i64 0, .int .i64 0, .int .i64 0, .int .i64 0, .int .i64 0]), 11, 88) := by kernel_rfl
def mkW (n : Nat) (W : World) : World := W.alloc (.cells (madeCells (Value.agg #[.int .i64 0, .int .i64 0, .int .i64 0, .int .i64 0, .int .i64 0, .bool false, .int .i64 0, .int .i64 0, .int .i64 0, .int .i64 0, .int .i64 0]).cells (n * 11)) 63)
theorem mkW_run (n : Nat) (hn : n ≤ 64) (W : World) : (Instr.makeSlice 60 (.int .i64 n) (.int .i64 n)).run Tryz.prog W = .ok (.slice (some ⟨W.heap.size, 0, none⟩) n n) (mkW n W) := by
  obtain ⟨i0, hi, hz0, hz1, hz2⟩ := info_parts Tryz.infoW
  have hr := run_make (P := Tryz.prog) W 60 63 i0 _ Tryz.underlying60 hi hz0 .i64 .i64 n n (by omega) (Int.le_refl _) (by rw [hz2]; omega) (by omega)
  simp only [Int.toNat_natCast] at hr
  rw [hz1] at hr
  exact hr
theorem mkW_ln (n : Nat) (W : World) : Ln (mkW n W) W.heap.size n (fun _ => zeroW) := by
  have hb := alloc_newG W (.cells (madeCells (Value.agg #[.int .i64 0, .int .i64 0, .int .i64 0, .int .i64 0, .int .i64 0, .bool false, .int .i64 0, .int .i64 0, .int .i64 0, .int .i64 0, .int .i64 0]).cells (n * 11)) 63)
  refine ⟨⟨_, hb⟩, fun i j hi hj => ?_⟩
  unfold mkW
  simp only [World.cell?]
  rw [hb]
  have e : (madeCells (Value.agg #[.int .i64 0, .int .i64 0, .int .i64 0, .int .i64 0, .int .i64 0, .bool false, .int .i64 0, .int .i64 0, .int .i64 0, .int .i64 0, .int .i64 0]).cells (n * 11))[i * 11 + j]? = some (cellv zeroW j) := by
    unfold madeCells
    rw [Array.getElem?_map, Array.getElem?_range, if_pos (by omega)]
    show some (#[Value.int .i64 0, .int .i64 0, .int .i64 0, .int .i64 0, .int .i64 0, .bool false, .int .i64 0, .int .i64 0, .int .i64 0, .int .i64 0, .int .i64 0][(i * 11 + j) % 11]!) = _
    rw [show (i * 11 + j) % 11 = j by omega]
    match j, hj with
    | 0, _ => rfl
    | 1, _ => rfl
    | 2, _ => rfl
    | 3, _ => rfl
    | 4, _ => rfl
    | 5, _ => rfl
    | 6, _ => rfl
    | 7, _ => rfl
    | 8, _ => rfl
    | 9, _ => rfl
    | 10, _ => rfl
  simpa using e
theorem ln_setCells {g N i : Nat} : ∀ (vs : List Value) (j : Nat) (W : World) (F : Nat → Nat → Value), j + vs.length ≤ 11 → LnF W g N F → LnF (W.setCells g (i * 11 + j) vs) g N (fun a b => if a = i ∧ j ≤ b ∧ b < j + vs.length then (vs[b - j]?).getD undef else F a b)
  | [], j, W, F, _, h => LnF.congr h (fun a b _ _ => by
      rw [if_neg (by rintro ⟨_, h1, h2⟩; simp at h2; omega)])
  | v :: vs, j, W, F, hl, h => by
    simp only [List.length_cons] at hl
    have h1 := LnF.put h (i := i) (j := j) (by omega) v
    have h2 := ln_setCells (i := i) vs (j + 1) _ _ (by omega) h1
    refine LnF.congr (show LnF (W.setCells g (i * 11 + j) (v :: vs)) g N _ from h2) (fun a b _ _ => ?_)
    simp only [List.length_cons]
    by_cases ha : a = i
    · subst ha
      by_cases hb : b = j
      · subst hb
        rw [if_neg (by omega), if_pos ⟨rfl, rfl⟩, if_pos ⟨rfl, Nat.le_refl _, by omega⟩]
        simp
      · by_cases hc : j + 1 ≤ b ∧ b < j + 1 + vs.length
        · rw [if_pos ⟨rfl, hc⟩, if_pos ⟨rfl, by omega, by omega⟩, show b - j = (b - (j + 1)) + 1 by omega, List.getElem?_cons_succ]
        · rw [if_neg (fun h => hc h.2), if_neg (fun h => hb h.2), if_neg (by omega)]
    · rw [if_neg (fun h => ha h.1), if_neg (fun h => ha h.1), if_neg (fun h => ha h.1)]
theorem ln_put {W : World} {g N i : Nat} {f : Nat → Wr} (h : Ln W g N f) (v : Wr) : Ln (W.setCells g (i * 11) (pw v)) g N (upd f i v) := by
  have := ln_setCells (i := i) (pw v) 0 W _ (by simp [pw]) h
  refine LnF.congr this (fun a b _ hb => ?_)
  unfold upd
  by_cases ha : a = i
  · rw [if_pos ⟨ha, Nat.zero_le _, by simp [pw]; omega⟩, if_pos ha, Nat.sub_zero]
    have := pw_at v b hb
    rw [List.getElem!_eq_getElem?_getD] at this
    have hl : b < (pw v).length := by simp [pw]; omega
    rw [List.getElem?_eq_getElem hl] at this ⊢
    simpa using this
  · rw [if_neg (fun h => ha h.1), if_neg ha]
theorem ln_there {W : World} {g N i : Nat} {f : Nat → Wr} (h : Ln W g N f) (hi : i < N) : W.there g (i * 11) 11 := fun j hj => ⟨by rw [h.2 i j hi hj]; rfl, LnF.fz h _⟩
theorem sizeW : (Tryz.prog.info? 63).map (·.size) = some 11 := by kernel_rfl
theorem pw_one (v : Wr) : (pw v).toArray.all (·.oneCell') = true := by simp [pw, Value.oneCell']
section
variable {o : Oper} {a : Act} {w : World}
theorem er_bW (x y : Operand) (ho : o.op = .build 63 #[(0, x), (1, y)]) (en pr pe li ca : Int) (au : Bool) (i : Nat) (hx : a.eval x = .agg #[.int .i64 en, .int .i64 pr, .int .i64 pe, .int .i64 li, .int .i64 ca, .bool au]) (hy : a.eval y = .int .i64 i) : (execOp a.eval o).run Tryz.prog w = .ok (.value (.agg #[.int .i64 en, .int .i64 pr, .int .i64 pe, .int .i64 li, .int .i64 ca, .bool au, .int .i64 i, .int .i64 0, .int .i64 0, .int .i64 0, .int .i64 0])) w := by
  have e : (Instr.build 63 #[(0, .agg #[.int .i64 en, .int .i64 pr, .int .i64 pe, .int .i64 li, .int .i64 ca, .bool au]), (1, .int .i64 i)]).run Tryz.prog w = .ok (.agg #[.int .i64 en, .int .i64 pr, .int .i64 pe, .int .i64 li, .int .i64 ca, .bool au, .int .i64 i, .int .i64 0, .int .i64 0, .int .i64 0, .int .i64 0]) w := by kernel_rfl
  simp only [execOp, ho, List.map_toArray, List.map_cons, List.map_nil, hx, hy]; rw [Sem.run_bind, e]; rfl
theorem er_idxW (x y : Operand) (ho : o.op = .indexAddr 60 x y) (g n c d : Nat) (hd : d < n) (hn : n ≤ 9223372036854775807) (hx : a.eval x = .slice (some ⟨g, 0, none⟩) n c) (hy : a.eval y = .int .i64 d) : (execOp a.eval o).run Tryz.prog w = .ok (.value (.pointer (some ⟨g, d * 11, none⟩))) w := by
  simp only [execOp, ho, hx, hy]
  simp [go_sem, add_none]
  omega
end
end Go.Proofs.YtnmhcnppdhdhfaaGreatDoor

namespace Go.Proofs.YtnmhcnppdhdhfaaGreatDoor
open Go.RowKit
set_option linter.unusedVariables false
set_option linter.unusedSimpArgs false
set_option maxRecDepth 100000

def zeroJ : Jb := ⟨0, 0, 0⟩
def cellj (v : Jb) : Nat → Value
  | 0 => .int .i64 v.rl
  | 1 => .int .i64 v.lf
  | _ => .int .i64 v.ct
def updJ (f : Nat → Jb) (i : Nat) (v : Jb) : Nat → Jb := fun a => if a = i then v else f a
/-- N jobs in the block g -/
def Jm (w : World) (g N : Nat) (f : Nat → Jb) : Prop :=
  (∃ cs, w.heap[g]? = some (.cells cs 80 (0, 0))) ∧ ∀ i j, i < N → j < 3 → w.cell? ⟨g, i * 3 + j, none⟩ = some (cellj (f i) j)
namespace Jm
variable {w w' : World} {g N : Nat} {f : Nat → Jb}
theorem fz (h : Jm w g N f) (x : Nat) : w.frozen? ⟨g, x, none⟩ = false := by
  obtain ⟨cs, hc⟩ := h.1
  simp [World.frozen?, hc]
theorem lt (h : Jm w g N f) : g < w.heap.size := by obtain ⟨cs, hc⟩ := h.1; exact heap_lt hc
theorem kept {G : Nat → Prop} (h : Jm w g N f) (K : Kept G w w') (hg : ¬ G g) : Jm w' g N f :=
  ⟨by obtain ⟨cs, hc⟩ := h.1; exact ⟨cs, K.at' hc hg⟩, fun i j hi hj => K.cell (h.2 i j hi hj) hg⟩
theorem c0 (h : Jm w g N f) {i : Nat} (hi : i < N) : w.cell? ⟨g, i * 3, none⟩ = some (.int .i64 (f i).rl) := h.2 i 0 hi (by omega)
theorem c1 (h : Jm w g N f) {i : Nat} (hi : i < N) : w.cell? ⟨g, i * 3 + 1, none⟩ = some (.int .i64 (f i).lf) := h.2 i 1 hi (by omega)
theorem c2 (h : Jm w g N f) {i : Nat} (hi : i < N) : w.cell? ⟨g, i * 3 + 2, none⟩ = some (.int .i64 (f i).ct) := h.2 i 2 hi (by omega)
theorem congr {f' : Nat → Jb} (h : Jm w g N f) (hf : ∀ i, i < N → f i = f' i) : Jm w g N f' := ⟨h.1, fun i j hi hj => by rw [← hf i hi]; exact h.2 i j hi hj⟩
theorem putF {F : Nat → Nat → Value} (hb : ∃ cs, w.heap[g]? = some (.cells cs 80 (0, 0))) (h : ∀ i j, i < N → j < 3 → w.cell? ⟨g, i * 3 + j, none⟩ = some (F i j)) (i j : Nat) (hj : j < 3) (u : Value) :
    (∃ cs, (w.setCell ⟨g, i * 3 + j, none⟩ u).heap[g]? = some (.cells cs 80 (0, 0))) ∧ ∀ a b, a < N → b < 3 → (w.setCell ⟨g, i * 3 + j, none⟩ u).cell? ⟨g, a * 3 + b, none⟩ = some (if a = i ∧ b = j then u else F a b) := by
  obtain ⟨cs, hc⟩ := hb
  refine ⟨⟨_, set_blkG hc _ _⟩, fun a b ha hb => ?_⟩
  rw [cell_setG (h a b ha hb)]
  by_cases e : a * 3 + b = i * 3 + j
  · rw [if_pos e, if_pos (by omega)]
  · rw [if_neg e, if_neg (fun q => e (by rw [q.1, q.2]))]
/-- a whole job laid down -/
theorem put (h : Jm w g N f) (i : Nat) (v : Jb) : Jm (((w.setCell ⟨g, i * 3, none⟩ (.int .i64 v.rl)).setCell ⟨g, i * 3 + 1, none⟩ (.int .i64 v.lf)).setCell ⟨g, i * 3 + 2, none⟩ (.int .i64 v.ct)) g N (updJ f i v) := by
  have h0 := putF h.1 h.2 i 0 (by omega) (.int .i64 v.rl)
  have h1 := putF h0.1 h0.2 i 1 (by omega) (.int .i64 v.lf)
  have h2 := putF h1.1 h1.2 i 2 (by omega) (.int .i64 v.ct)
  refine ⟨h2.1, fun a b ha hb => ?_⟩
  have := h2.2 a b ha hb
  rw [Nat.add_zero] at this
  rw [this]
  unfold updJ
  by_cases e : a = i
  · subst e
    rw [if_pos rfl]
    match b, hb with
    | 0, _ => simp [cellj]
    | 1, _ => simp [cellj]
    | 2, _ => simp [cellj]
  · simp [e]
/-- what is left of it, alone -/
theorem putL (h : Jm w g N f) {i : Nat} (hi : i < N) (x : Int) : Jm (w.setCell ⟨g, i * 3 + 1, none⟩ (.int .i64 x)) g N (updJ f i ⟨(f i).rl, x, (f i).ct⟩) := by
  have h1 := putF h.1 h.2 i 1 (by omega) (.int .i64 x)
  refine ⟨h1.1, fun a b ha hb => ?_⟩
  rw [h1.2 a b ha hb]
  unfold updJ
  by_cases e : a = i
  · subst e
    rw [if_pos rfl]
    match b, hb with
    | 0, _ => simp [cellj]
    | 1, _ => simp [cellj]
    | 2, _ => simp [cellj]
  · simp [e]
end Jm
theorem Tryz.infoJ : (Tryz.prog.info? 80).map (fun i => (i.zero, i.size, i.bytes)) = some (some (.agg #[.int .i64 0, .int .i64 0, .int .i64 0]), 3, 24) := by kernel_rfl
def mkJ (n : Nat) (W : World) : World := W.alloc (.cells (madeCells (Value.agg #[.int .i64 0, .int .i64 0, .int .i64 0]).cells (n * 3)) 80)
theorem mkJ_run (n : Nat) (hn : n ≤ 70000) (W : World) : (Instr.makeSlice 78 (.int .i64 n) (.int .i64 n)).run Tryz.prog W = .ok (.slice (some ⟨W.heap.size, 0, none⟩) n n) (mkJ n W) := by
  obtain ⟨i0, hi, hz0, hz1, hz2⟩ := info_parts Tryz.infoJ
  have hr := run_make (P := Tryz.prog) W 78 80 i0 _ Tryz.underlying78 hi hz0 .i64 .i64 n n (by omega) (Int.le_refl _) (by rw [hz2]; omega) (by omega)
  simp only [Int.toNat_natCast] at hr
  rw [hz1] at hr
  exact hr
theorem mkJ_jm (n : Nat) (W : World) : Jm (mkJ n W) W.heap.size n (fun _ => zeroJ) := by
  have hb := alloc_newG W (.cells (madeCells (Value.agg #[.int .i64 0, .int .i64 0, .int .i64 0]).cells (n * 3)) 80)
  refine ⟨⟨_, hb⟩, fun i j hi hj => ?_⟩
  unfold mkJ
  simp only [World.cell?]
  rw [hb]
  have e : (madeCells (Value.agg #[.int .i64 0, .int .i64 0, .int .i64 0]).cells (n * 3))[i * 3 + j]? = some (cellj zeroJ j) := by
    unfold madeCells
    rw [Array.getElem?_map, Array.getElem?_range, if_pos (by omega)]
    show some (#[Value.int .i64 0, .int .i64 0, .int .i64 0][(i * 3 + j) % 3]!) = _
    rw [show (i * 3 + j) % 3 = j by omega]
    match j, hj with
    | 0, _ => rfl
    | 1, _ => rfl
    | 2, _ => rfl
  simpa using e

/-- what the n-th job of the process at i takes -/
def tkV (zs : List Int) (ca : Int) (n i : Nat) : Int :=
  if zs.length = 0 then ca else 1 + (if zs.getD ((7 * n + i) % zs.length) 0 < 0 then -(zs.getD ((7 * n + i) % zs.length) 0 + 1) else zs.getD ((7 * n + i) % zs.length) 0) % ca
theorem tkV_bd (zs : List Int) {ca : Int} (n i : Nat) (hc : 1 ≤ ca) : 1 ≤ tkV zs ca n i ∧ tkV zs ca n i ≤ ca := by
  unfold tkV
  split
  · omega
  · have h1 : 0 ≤ (if zs.getD ((7 * n + i) % zs.length) 0 < 0 then -(zs.getD ((7 * n + i) % zs.length) 0 + 1) else zs.getD ((7 * n + i) % zs.length) 0) := by split <;> omega
    generalize (if zs.getD ((7 * n + i) % zs.length) 0 < 0 then -(zs.getD ((7 * n + i) % zs.length) 0 + 1) else zs.getD ((7 * n + i) % zs.length) 0) = k at *
    have := Int.emod_nonneg k (b := ca) (by omega)
    have := Int.emod_lt_of_pos k (b := ca) (by omega)
    omega
set_option maxHeartbeats 4000000 in
theorem taken_any {F : Nat → Prop} {a : Option Addr} {l c : Nat} {zs : List Int} (x : Prc) (n i : Nat) (w : World) (hZ : Ls 1 elI w F a l c zs) (hn : n ≤ 100000) (hi : i ≤ 100000) (hc : 1 ≤ x.ca) (hc2 : x.ca ≤ 2199023255552) :
    Calls Tryz.prog 23 #[.agg #[.int .i64 x.en, .int .i64 x.pr, .int .i64 x.pe, .int .i64 x.li, .int .i64 x.ca, .bool x.auto], .int .i64 (n : Int), .slice a l c, .int .i64 (i : Int)] w fun e w' => e = .returned (.int .i64 (tkV zs x.ca n i)) ∧ Kept No w w' := by
  have hl := hZ.len
  have hm : l ≤ 9223372036854775807 := Nat.le_trans hZ.cap hZ.max
  have HK : Hid (Kept No w (w.alloc (.cells #[.int .i64 x.en, .int .i64 x.pr, .int .i64 x.pe, .int .i64 x.li, .int .i64 x.ca, .bool x.auto] 54))) := (Kept.refl No w).alloc _
  obtain ⟨x0, x1, x2, x3, ca, x5⟩ := x
  simp only at *
  obtain ⟨R, hR⟩ : ∃ R, R = tkV zs ca n i := ⟨_, rfl⟩
  rw [← hR]
  by_cases h0 : l = 0
  · subst h0
    have HR := hid (show R = ca by rw [hR]; unfold tkV; rw [if_pos hl])
    clear hR hZ hl
    go_enter Tryz.func23, Tryz.ntmps23
    go_wp2
    go_ret
    exact ⟨by rw [HR.out]; rfl, HK.out⟩
  · have hlz : zs.length ≠ 0 := by omega
    obtain ⟨j, hj⟩ : ∃ j : Nat, j = (7 * n + i) % l := ⟨_, rfl⟩
    have hjl : j < l := by rw [hj]; exact Nat.mod_lt _ (by omega)
    have hx : zs[j]? = some (zs.getD j 0) := by rw [List.getD, List.getElem?_eq_getElem (by omega)]; rfl
    obtain ⟨zb, zo, cs, rfl, _, _, hr, hE⟩ := hZ.at' j _ hx
    have hcs : cs = [.int .i64 (zs.getD j 0)] := hE.1
    subst hcs
    have h6 : I6 (zs.getD j 0) := hE.2
    have hcell := HK.out.cell (hr 0 _ rfl) (fun h => h)
    rw [Nat.mul_one, Nat.add_zero] at hcell
    have HR := hid (show R = 1 + (if zs.getD j 0 < 0 then -(zs.getD j 0 + 1) else zs.getD j 0) % ca by rw [hR]; unfold tkV; rw [if_neg hlz, hl, hj])
    generalize zs.getD j 0 = y at *
    unfold I6 at h6
    have hI : (7 * (n : Int) + (i : Int)) % (l : Int) = (j : Int) := by rw [hj]; simp [Int.natCast_emod]
    have hlp : (0 : Int) < (l : Int) := by omega
    have hl0 : ¬ (l : Int) = 0 := by omega
    have hl0' : ((l : Int) == 0) = false := by simpa using hl0
    have hj2 : (j : Int) < (l : Int) := by omega
    clear hR hZ hl hlz hj hx hr hE
    by_cases hy : y < 0
    · obtain ⟨u, hu⟩ : ∃ u, u = -(y + 1) := ⟨_, rfl⟩
      have hw1 : wrap64 (y + 1) = y + 1 := by unfold wrap64; omega
      have hw2 : wrap64 (-(y + 1)) = u := by rw [hu]; unfold wrap64; omega
      have hu0 : 0 ≤ u := by omega
      have e1 := Int.emod_nonneg u (b := ca) (by omega)
      have e2 := Int.emod_lt_of_pos u (b := ca) (by omega)
      have HR2 := hid (show R = 1 + u % ca by rw [HR.out, if_pos hy, hu])
      have hw3 : wrap64 (1 + u % ca) = 1 + u % ca := by unfold wrap64; omega
      have hca0 : (ca == 0) = false := by simp; omega
      have e3 : -((y + 1).tmod ca) = u % ca := by rw [← Int.neg_tmod, ← hu, Int.tmod_eq_emod_of_nonneg hu0]
      have HE := hid (show wrap64 (1 + -((y + 1).tmod ca)) = R by rw [e3, hw3, HR2.out])
      clear HR HR2 hw3 hw2 hu e1 e2 e3
      go_enter Tryz.func23, Tryz.ntmps23
      go_wp2
      go_ret
      exact ⟨by rw [← HE.out]; rfl, HK.out⟩
    · have e1 := Int.emod_nonneg y (b := ca) (by omega)
      have e2 := Int.emod_lt_of_pos y (b := ca) (by omega)
      have HR2 := hid (show R = 1 + y % ca by rw [HR.out, if_neg hy])
      have hca0 : (ca == 0) = false := by simp; omega
      have hy0 : 0 ≤ y := by omega
      have e3 : y.tmod ca = y % ca := Int.tmod_eq_emod_of_nonneg hy0
      have hw3 : wrap64 (1 + y % ca) = 1 + y % ca := by unfold wrap64; omega
      have HE := hid (show wrap64 (1 + y % ca) = R by rw [hw3, HR2.out])
      clear HR HR2 hw3 e1 e2 e3
      go_enter Tryz.func23, Tryz.ntmps23
      go_wp2
      go_ret
      exact ⟨by rw [← HE.out]; rfl, HK.out⟩
end Go.Proofs.YtnmhcnppdhdhfaaGreatDoor
