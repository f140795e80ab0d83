/-
  One text: OSrvs, QMark.
-/
import Derived.Test.YtibmgpinfdcaoaaGreatDoorG08
import Derived.Test.YtibmgpinfdcaoaaGreatDoorG34
import Derived.Laws.AppendOwnNone
import Derived.BigQuiet
namespace Go.Proofs.YtibmgpinfdcaoaaGreatDoor
open Go.RowKit Plain
set_option linter.unusedVariables false
set_option linter.unusedSimpArgs false
set_option maxRecDepth 100000

/-- cells of a block by a function -/
def Mf (w : World) (g N : Nat) (f : Nat → Srv) : Prop :=
  ∀ i, i < N → w.cell? ⟨g, i * 4, none⟩ = some (.int .i64 (f i).p) ∧ w.cell? ⟨g, i * 4 + 1, none⟩ = some (.int .i64 (f i).b) ∧ w.cell? ⟨g, i * 4 + 2, none⟩ = some (.int .i64 (f i).o) ∧ w.cell? ⟨g, i * 4 + 3, none⟩ = some (.int .i64 (f i).q)
def Fz (w : World) (g : Nat) : Prop := ∀ i, w.frozen? ⟨g, i, none⟩ = false
theorem Mf.kept {w w' : World} {g N : Nat} {f : Nat → Srv} {G : Nat → Prop} (h : Mf w g N f) (k : Kept G w w') (hg : ¬ G g) : Mf w' g N f := fun i hi => by
  obtain ⟨h0, h1, h2, h3⟩ := h i hi
  exact ⟨k.cell h0 hg, k.cell h1 hg, k.cell h2 hg, k.cell h3 hg⟩
theorem Mf.sv {w : World} {g N : Nat} {f : Nat → Srv} (h : Mf w g N f) (n c : Nat) (hn : n ≤ N) (hc : n ≤ c) (hm : c ≤ 9223372036854775807) (hok : ∀ i, i < n → (f i).ok) : Sv w (fun b => b = g) (some ⟨g, 0, none⟩) n c ((List.range n).map f) :=
  ⟨by simp, hc, hm, fun e => (by cases e), fun i x hx => by
    have hi : i < n := by
      apply Decidable.byContradiction
      intro hn
      rw [List.getElem?_eq_none (by simp; omega)] at hx
      cases hx
    rw [List.getElem?_map, List.getElem?_range hi] at hx
    simp at hx
    subst hx
    obtain ⟨h0, h1, h2, h3⟩ := h i (by omega)
    exact ⟨hok i hi, g, 0, rfl, rfl, by rw [Nat.zero_add]; exact h0, by rw [Nat.zero_add]; exact h1, by rw [Nat.zero_add]; exact h2, by rw [Nat.zero_add]; exact h3⟩⟩
theorem Sv.eq {w : World} {F : Nat → Prop} {a : Option Addr} {n c : Nat} {xs : List Srv} (h : Sv w F a n c xs) : xs = (List.range n).map (fun i => xs.getD i ⟨0, 0, 0, 0⟩) := by
  apply List.ext_getElem?
  intro i
  by_cases hi : i < n
  · rw [List.getElem?_map, List.getElem?_range hi, List.getElem?_eq_getElem (by rw [h.len]; exact hi)]
    simp [h.len, hi]
  · rw [List.getElem?_eq_none (by rw [h.len]; omega), List.getElem?_eq_none (by simp; omega)]
theorem Sv.ok {w : World} {F : Nat → Prop} {a : Option Addr} {n c : Nat} {xs : List Srv} (h : Sv w F a n c xs) (i : Nat) (hi : i < n) : (xs.getD i ⟨0, 0, 0, 0⟩).ok :=
  (h.at' i _ (by rw [List.getD, List.getElem?_eq_getElem (by rw [h.len]; exact hi)]; rfl)).1

/-- the cells of a list, one behind the other -/
def fl : List Srv → List Value
  | [] => []
  | x :: r => .int .i64 x.p :: .int .i64 x.b :: .int .i64 x.o :: .int .i64 x.q :: fl r
theorem fl_len : ∀ xs : List Srv, (fl xs).length = xs.length * 4
  | [] => rfl
  | x :: r => by simp only [fl, List.length_cons, fl_len r]; omega
theorem fl_app : ∀ xs ys : List Srv, fl (xs ++ ys) = fl xs ++ fl ys
  | [], ys => rfl
  | x :: r, ys => by simp only [fl, List.cons_append, fl_app r ys]
theorem fl_one : ∀ xs : List Srv, ∀ u ∈ fl xs, u.oneCell' = true
  | [], u, h => by cases h
  | x :: r, u, h => by
    simp only [fl, List.mem_cons] at h
    rcases h with rfl | rfl | rfl | rfl | h
    · rfl
    · rfl
    · rfl
    · rfl
    · exact fl_one r u h
theorem fl_get : ∀ (xs : List Srv) (i : Nat) (x : Srv), xs[i]? = some x → (fl xs)[i * 4]? = some (.int .i64 x.p) ∧ (fl xs)[i * 4 + 1]? = some (.int .i64 x.b) ∧ (fl xs)[i * 4 + 2]? = some (.int .i64 x.o) ∧ (fl xs)[i * 4 + 3]? = some (.int .i64 x.q)
  | [], i, x, h => by cases h
  | y :: r, 0, x, h => by simp at h; subst h; exact ⟨rfl, rfl, rfl, rfl⟩
  | y :: r, i + 1, x, h => by
    obtain ⟨h0, h1, h2, h3⟩ := fl_get r i x (by simpa using h)
    rw [show (i + 1) * 4 = i * 4 + 4 by omega]
    exact ⟨h0, h1, h2, h3⟩
theorem Sv.news {w : World} {F : Nat → Prop} {ad : Addr} {n c : Nat} {xs : List Srv} (h : Sv w F (some ad) n c xs) : ∀ j u, (fl xs)[j]? = some u → w.cell? (ad.add j) = some u := by
  intro j u hj
  have hlt : j < xs.length * 4 := by
    rw [← fl_len]
    exact (List.getElem?_eq_some_iff.1 hj).1
  obtain ⟨x, hx⟩ : ∃ x, xs[j / 4]? = some x := ⟨_, List.getElem?_eq_getElem (by omega)⟩
  obtain ⟨g0, g1, g2, g3⟩ := fl_get xs (j / 4) x hx
  obtain ⟨_, b, o, e, _, c0, c1, c2, c3⟩ := h.at' (j / 4) x hx
  simp only [Option.some.injEq] at e
  subst e
  rw [add_none]
  have h4 : j % 4 < 4 := Nat.mod_lt _ (by omega)
  rcases (by omega : j % 4 = 0 ∨ j % 4 = 1 ∨ j % 4 = 2 ∨ j % 4 = 3) with h4 | h4 | h4 | h4
  · rw [show j = j / 4 * 4 by omega] at hj; rw [g0] at hj; rw [show o + j = o + j / 4 * 4 by omega, c0]; exact hj
  · rw [show j = j / 4 * 4 + 1 by omega] at hj; rw [g1] at hj; rw [show o + j = o + j / 4 * 4 + 1 by omega, c1]; exact hj
  · rw [show j = j / 4 * 4 + 2 by omega] at hj; rw [g2] at hj; rw [show o + j = o + j / 4 * 4 + 2 by omega, c2]; exact hj
  · rw [show j = j / 4 * 4 + 3 by omega] at hj; rw [g3] at hj; rw [show o + j = o + j / 4 * 4 + 3 by omega, c3]; exact hj

theorem Tryz.infoS : (Tryz.prog.info? 40).map (fun i => (i.zero, i.size, i.bytes)) = some (some (.agg #[.int .i64 0, .int .i64 0, .int .i64 0, .int .i64 0]), 4, 32) := by kernel_rfl

/-- an owned row of servers, as cells -/
theorem own_mf {w : World} {B : Nat} {v : Value} {N : Nat} {xs : List Srv} (h : w.ownsRow B 40 4 v N (fl xs)) (hl : xs.length = N) :
    (v = .slice none 0 0 ∧ N = 0) ∨ ∃ g cap, v = .slice (some ⟨g, 0, none⟩) N cap ∧ B ≤ g ∧ g < w.heap.size ∧ N ≤ cap ∧ cap ≤ 9223372036854775807 ∧ Mf w g N (fun i => xs.getD i ⟨0, 0, 0, 0⟩) ∧ Fz w g := by
  have hc := h
  obtain ⟨_, h1 | ⟨g, cap, cur, rfl, hb, hg, hn, hm, _, _⟩⟩ := h
  · exact .inl h1
  · refine .inr ⟨g, cap, rfl, hb, (hc.lt g rfl).2, hn, Nat.le_trans hm (by unfold maxLen; omega), ?_, fun i => by simp [World.frozen?, hg]⟩
    intro i hi
    have hx : xs[i]? = some (xs.getD i ⟨0, 0, 0, 0⟩) := by rw [List.getD, List.getElem?_eq_getElem (by omega)]; rfl
    obtain ⟨g0, g1, g2, g3⟩ := fl_get xs i _ hx
    have key := hc.cells (g := g) rfl
    have k0 := key _ _ g0
    have k1 := key _ _ g1
    have k2 := key _ _ g2
    have k3 := key _ _ g3
    rw [add_none, Nat.zero_add] at k0 k1 k2 k3
    exact ⟨k0, k1, k2, k3⟩
theorem own_sv {w : World} {B : Nat} {v : Value} {N : Nat} {xs : List Srv} (h : w.ownsRow B 40 4 v N (fl xs)) (hl : xs.length = N) (hok : ∀ i, i < N → (xs.getD i ⟨0, 0, 0, 0⟩).ok) :
    ∃ a c, v = .slice a N c ∧ Sv w (fun g => v.ownBlock = some g) a N c xs := by
  rcases own_mf h hl with ⟨rfl, h0⟩ | ⟨g, cap, rfl, _, _, hn, hm, hf, _⟩
  · refine ⟨none, 0, by rw [h0], ⟨hl, by omega, by omega, fun _ => rfl, fun i x hx => ?_⟩⟩
    have := (List.getElem?_eq_some_iff.1 hx).1
    omega
  · refine ⟨_, cap, rfl, ?_⟩
    have h1 := hf.sv N cap (Nat.le_refl _) hn hm hok
    have h2 : xs = (List.range N).map (fun i => xs.getD i ⟨0, 0, 0, 0⟩) := by
      apply List.ext_getElem?
      intro i
      by_cases hi : i < N
      · rw [List.getElem?_map, List.getElem?_range hi, List.getElem?_eq_getElem (by omega)]
        simp [hl, hi]
      · rw [List.getElem?_eq_none (by omega), List.getElem?_eq_none (by simp; omega)]
    rw [← h2] at h1
    exact ⟨h1.len, h1.cap, h1.max, h1.nil, fun i x hx => by
      obtain ⟨ok, b, o, e, hb, r⟩ := h1.at' i x hx
      exact ⟨ok, b, o, e, by rw [hb]; rfl, r⟩⟩

theorem made0 (w : World) : (w.alloc (.cells #[] 40)).ownsRow w.heap.size 40 4 (.slice (some ⟨w.heap.size, 0, none⟩) 0 0) 0 [] := World.ownsRow_made w #[] 0 (Nat.le_refl _) (by unfold maxLen; omega) rfl
theorem cell_four (w : World) (x : Srv) (t : TypeId) : ∀ j u, (fl [x])[j]? = some u → (w.alloc (.cells #[.int .i64 x.p, .int .i64 x.b, .int .i64 x.o, .int .i64 x.q] t)).cell? (Addr.add ⟨w.heap.size, 0, none⟩ j) = some u := by
  intro j u hj
  match j, hj with
  | 0, hj => simp [fl] at hj; subst hj; simp [Addr.add]
  | 1, hj => simp [fl] at hj; subst hj; simp [Addr.add]
  | 2, hj => simp [fl] at hj; subst hj; simp [Addr.add]
  | 3, hj => simp [fl] at hj; subst hj; simp [Addr.add]
  | j + 4, hj => simp [fl] at hj
end Go.Proofs.YtibmgpinfdcaoaaGreatDoor

namespace Go.Proofs.YtibmgpinfdcaoaaGreatDoor
open Go.RowKit Plain
set_option linter.unusedVariables false
set_option linter.unusedSimpArgs false
set_option maxRecDepth 100000

theorem wpList_cps {w : World} {ops : Array Oper} {rest : List Oper} {o : Oper} {a : Act} {Q : Exit → Act → World → Prop} (hgd : o.guard = none) (s x : Operand)
    (ho : o.op = .call { callee := .builtin .append, args := #[s, x], argTypes := #[22, 22] }) (B : Nat) (v : Value) (hs : a.eval s = v) (hv : w.ownsRow B 40 4 v 0 []) (hB : B ≤ w.heap.size) (xa : Option Addr) (n c : Nat) (hx : a.eval x = .slice xa n c)
    (F : Nat → Prop) (xs : List Srv) (hz : Sv w F xa n c xs) (hn : n * 32 ≤ 140737488351232)
    (h : ∀ v1 w', Hid (w'.ownsRow B 40 4 v1 n (fl xs)) → Hid (Kept (fun k => v.ownBlock = some k) w w') → wpList Tryz.prog ops Q rest (a.put o.dst v1) w') : wpList Tryz.prog ops Q (o :: rest) a w := by
  obtain ⟨i0, hi, hz0, hz1, hz2⟩ := info_parts Tryz.infoS
  cases xa with
  | none =>
    have hc0 := hz.nil rfl
    have hn0 : n = 0 := by have := hz.cap; omega
    have hx0 : xs = [] := List.eq_nil_of_length_eq_zero (by rw [hz.len]; exact hn0)
    subst hc0 hn0 hx0
    refine wpList_append_own_none hgd s x 22 ho B 40 i0 4 Tryz.underlying22 hi _ _ _ hs hv hx ?_
    exact h v w hv (Kept.refl _ _)
  | some ad =>
    refine wpList_append_own _ hgd s x 22 ho B 40 i0 (.agg #[.int .i64 0, .int .i64 0, .int .i64 0, .int .i64 0]) 4 32 Tryz.underlying22 hi hz0 hz1 hz2 rfl (by decide) _ 0 [] hs hv ad n c (fl xs) hx (by rw [fl_len, hz.len]) hz.news (fl_one _) (by unfold maxLen; omega) (by omega) hB ?_
    intro v1 w1 own1 grow1 _
    rw [Nat.zero_add, List.nil_append] at own1
    exact h v1 w1 own1 ((Kept.refl (fun k => v.ownBlock = some k) w).grown grow1 (fun k e => .inl e))

/-- servers with two marks behind them, in block g -/
structure Mk (w : World) (g n c : Nat) (xs : List Srv) : Prop where
  sv : Sv w (fun k => k = g) (some ⟨g, 0, none⟩) n c xs
  cap : n + 2 ≤ c
  m7 : w.cell? ⟨g, n * 4, none⟩ = some (.int .i64 (-7))
  m8 : w.cell? ⟨g, (n + 1) * 4, none⟩ = some (.int .i64 (-8))
theorem Mk.kept {w w' : World} {g n c : Nat} {xs : List Srv} {G : Nat → Prop} (h : Mk w g n c xs) (k : Kept G w w') (hd : ¬ G g) : Mk w' g n c xs :=
  ⟨h.sv.kept k (fun b e => by rw [e]; exact hd), h.cap, k.cell h.m7 hd, k.cell h.m8 hd⟩

set_option maxHeartbeats 4000000 in
theorem marked_any {F : Nat → Prop} {a : Option Addr} {n c : Nat} {xs : List Srv} (w : World) (h : Sv w F a n c xs) (hn : n * 32 ≤ 140737488351232) :
    Calls Tryz.prog 4 #[.slice a n c] w fun e w' => ∃ g cm, e = .returned (.slice (some ⟨g, 0, none⟩) n cm) ∧ w.heap.size ≤ g ∧ g < w'.heap.size ∧ Mk w' g n cm xs ∧ Kept No w w' := by
  obtain ⟨i0, hi, hz0, hz1, hz2⟩ := info_parts Tryz.infoS
  have HS : Hid (Sv w F a n c xs) := h
  have hcap := h.cap
  have hmax := h.max
  clear h
  go_enter Tryz.func4, Tryz.ntmps4
  go_upto_region 3 with (at_builtin; refine wpList_cps rfl _ _ rfl w.heap.size _ rfl (World.ownsRow_nil _ _ _ _) (Nat.le_refl _) a n c rfl F xs HS.out hn ?_; intro v1 w1 o1 g1)
  have H1 : Hid (w1.ownsRow w.heap.size 40 4 v1 n (fl xs) ∧ Kept No w w1) := ⟨o1.out, g1.out.mono (fun k e => by cases e)⟩
  clear o1 g1
  go_upto_region 4 with (at_builtin; refine wpList_append_own _ rfl _ _ 22 rfl w.heap.size 40 i0 (.agg #[.int .i64 0, .int .i64 0, .int .i64 0, .int .i64 0]) 4 32 Tryz.underlying22 hi hz0 hz1 hz2 rfl (by decide) v1 n (fl xs) rfl (H1.out.1.alloc _) ⟨w1.heap.size, 0, none⟩ 2 2 (fl [⟨-7, 0, 0, 0⟩, ⟨-8, 0, 0, 0⟩]) rfl rfl (by
      intro j u hj
      have hb := World.alloc_heap_new w1 (.cells #[.int .i64 (-7), .int .i64 0, .int .i64 0, .int .i64 0, .int .i64 (-8), .int .i64 0, .int .i64 0, .int .i64 0] 40)
      have hlt : j < 8 := (List.getElem?_eq_some_iff.1 hj).1
      rw [add_none, Nat.zero_add]
      simp only [World.cell?, hb]
      simp only [fl] at hj
      rcases j with _ | _ | _ | _ | _ | _ | _ | _ | j
      all_goals first | exact hj | (simp at hj ⊢; exact hj) | omega) (fl_one _) (by unfold maxLen; omega) (by omega) (by have := H1.out.2.size; rw [World.size_alloc]; omega) ?_; intro v2 w2 own2 grow2 _)
  have hfl : fl xs ++ fl [⟨-7, 0, 0, 0⟩, ⟨-8, 0, 0, 0⟩] = fl (xs ++ [⟨-7, 0, 0, 0⟩, ⟨-8, 0, 0, 0⟩]) := (fl_app _ _).symm
  rw [hfl] at own2
  have hxl := HS.out.len
  have hl2 : (xs ++ [(⟨-7, 0, 0, 0⟩ : Srv), ⟨-8, 0, 0, 0⟩]).length = n + 2 := by rw [List.length_append, hxl]; rfl
  rcases own_mf own2 hl2 with ⟨_, h0⟩ | ⟨g, cap, rfl, hB, hlt, hc1, hc2, hmf, hfz⟩
  · omega
  · have k2 : Kept No w w2 := (H1.out.2.alloc _).trans ((Kept.refl (fun k => v1.ownBlock = some k) _).grown grow2 (fun k e => .inl e)) (fun k e => .inr (H1.out.1.lt k e).1)
    have sv0 := hmf.sv n cap (by omega) (by omega) hc2 (fun i hi => by
      have e : (xs ++ [(⟨-7, 0, 0, 0⟩ : Srv), ⟨-8, 0, 0, 0⟩]).getD i ⟨0, 0, 0, 0⟩ = xs.getD i ⟨0, 0, 0, 0⟩ := by simp [List.getD, List.getElem?_append_left (show i < xs.length by omega)]
      rw [e]
      exact HS.out.ok i hi)
    have e : (List.range n).map (fun i => (xs ++ [(⟨-7, 0, 0, 0⟩ : Srv), ⟨-8, 0, 0, 0⟩]).getD i ⟨0, 0, 0, 0⟩) = xs := by
      conv => rhs; rw [HS.out.eq]
      apply List.map_congr_left
      intro i hi
      rw [List.mem_range] at hi
      simp [List.getD, List.getElem?_append_left (show i < xs.length by omega)]
    rw [e] at sv0
    have q7 : (xs ++ [(⟨-7, 0, 0, 0⟩ : Srv), ⟨-8, 0, 0, 0⟩]).getD n ⟨0, 0, 0, 0⟩ = ⟨-7, 0, 0, 0⟩ := by rw [← hxl]; simp [List.getD]
    have q8 : (xs ++ [(⟨-7, 0, 0, 0⟩ : Srv), ⟨-8, 0, 0, 0⟩]).getD (n + 1) ⟨0, 0, 0, 0⟩ = ⟨-8, 0, 0, 0⟩ := by rw [← hxl]; simp [List.getD]
    have m7 : w2.cell? ⟨g, n * 4, none⟩ = some (.int .i64 (-7)) := by rw [(hmf n (by omega)).1]; show some (Value.int .i64 ((xs ++ [(⟨-7, 0, 0, 0⟩ : Srv), ⟨-8, 0, 0, 0⟩]).getD n ⟨0, 0, 0, 0⟩).p) = _; rw [q7]
    have m8 : w2.cell? ⟨g, (n + 1) * 4, none⟩ = some (.int .i64 (-8)) := by rw [(hmf (n + 1) (by omega)).1]; show some (Value.int .i64 ((xs ++ [(⟨-7, 0, 0, 0⟩ : Srv), ⟨-8, 0, 0, 0⟩]).getD (n + 1) ⟨0, 0, 0, 0⟩).p) = _; rw [q8]
    have HF : Hid (w.heap.size ≤ g ∧ g < w2.heap.size ∧ Mk w2 g n cap xs ∧ Kept No w w2) := ⟨hB, hlt, ⟨sv0, hc1, m7, m8⟩, k2⟩
    clear own2 grow2 hmf hfz sv0 e m7 m8 k2 H1 hfl hl2 hxl hB hlt
    go_wp2
    go_ret
    exact ⟨g, cap, rfl, HF.out⟩

theorem eqSv (w : World) (p b o q : Int) : (Op.equalIn 10000 40 (.agg #[.int .i64 p, .int .i64 b, .int .i64 o, .int .i64 q]) (.agg #[.int .i64 p, .int .i64 b, .int .i64 o, .int .i64 q])).run Tryz.prog w = .ok true w := by
  rw [show (10000 : Nat) = 9999 + 1 from rfl, run_equalIn_struct w 9999 _ _ _ (by kernel_rfl) (by kernel_rfl)]
  simp [go_sem, Tryz.underlying40]

set_option maxHeartbeats 4000000 in
theorem left_any {F : Nat → Prop} {a : Option Addr} {g n c cm : Nat} {xs : List Srv} (w : World) (h : Sv w F a n c xs) (hm : Mk w g n cm xs) :
    Calls Tryz.prog 12 #[.slice (some ⟨g, 0, none⟩) n cm, .slice a n c] w fun e w' => e = .returned (.bool true) ∧ Kept No w w' := by
  have HS : Hid (Sv w F a n c xs ∧ Mk w g n cm xs) := ⟨h, hm⟩
  have hcap := h.cap
  have hmax := h.max
  have hcm := hm.cap
  have hmm := hm.sv.max
  have h7 := hm.m7
  have h8 := hm.m8
  have hnz : (n : Int) + 2 ≤ (cm : Int) := by omega
  have HX : Hid (xs.length = n) := h.len
  clear h hm
  go_enter Tryz.func12, Tryz.ntmps12
  go_wp2
  go_loopw [7] (fun x wr => ∃ k : Nat, k ≤ n ∧ x = .int .i64 k ∧ Kept No w wr) (fun x _ => n - (intOf x).toNat)
  case atStart => exact ⟨0, Nat.zero_le _, rfl, Kept.refl No w⟩
  case round =>
    obtain ⟨k, hk, rfl, hkr⟩ := hrel
    have HKR : Hid (Kept No w wr) := hkr
    have h7' := hkr.cell h7 (fun h => h)
    have h8' := hkr.cell h8 (fun h => h)
    clear hkr h7 h8
    by_cases hlt : k < n
    · have hltz : (k : Int) < (n : Int) := by omega
      have hx : xs[k]? = some (xs.getD k ⟨0, 0, 0, 0⟩) := by rw [List.getD, List.getElem?_eq_getElem (by rw [HX.out]; exact hlt)]; rfl
      obtain ⟨_, b, o, rfl, _, e0, e1, e2, e3⟩ := (HS.out.1.keep HKR.out).at' k _ hx
      obtain ⟨_, b2, o2, eq2, _, d0, d1, d2, d3⟩ := (HS.out.2.sv.keep HKR.out).at' k _ hx
      injection eq2 with eq2
      injection eq2 with q1 q2 _
      subst q1 q2
      rw [Nat.zero_add] at d0 d1 d2 d3
      generalize xs.getD k ⟨0, 0, 0, 0⟩ = y at *
      obtain ⟨yp, yb, yo, yq⟩ := y
      simp only at e0 e1 e2 e3 d0 d1 d2 d3
      have hEQ := fun w => eqSv w yp yb yo yq
      clear hx h7' h8'
      go_upto_region 6 with fail
      go_quiet (fail)
      clear e0 e1 e2 e3 d0 d1 d2 d3
      go_wp2
      go_roundw
      case rel => exact ⟨k + 1, by omega, by go_num, HKR.out.drewN _⟩
      case measure => simp [intOf]; omega
    · have hltz : ¬ (k : Int) < (n : Int) := by omega
      obtain rfl : k = n := by omega
      clear hk
      go_wp2
      go_ret
      exact ⟨rfl, HKR.out⟩

set_option maxHeartbeats 2000000 in
theorem few_any {F : Nat → Prop} {a : Option Addr} {c : Nat} {xs : List Srv} (w : World) (h : Sv w F a xs.length c xs) :
    Calls Tryz.prog 14 #[.slice a xs.length c] w fun e w' => ∃ (ys : List Srv) (ya : Option Addr) (yc : Nat), e = .returned (.slice ya ys.length yc) ∧ ys.length ≤ xs.length ∧ Sv w' F ya ys.length yc ys ∧ Kept No w w' := by
  have hc := rHyper_any F a xs.length c xs w h
  have HS : Hid (Sv w F a xs.length c xs) := h
  clear h
  generalize hyV xs xs.length = Y at *
  generalize hyE xs xs.length = E at *
  by_cases hY : 4096 < Y
  · go_enter Tryz.func14, Tryz.ntmps14
    go_wp2_with (go_at_call 20; refine hc.mono ?_; rintro e w1 ⟨rfl, hk1⟩; have HK1 : Hid (Kept No w w1) := hk1; clear hk1 hc)
    refine bodyPost_ret (results_tmp rfl _ _ _) rfl ?_
    exact ⟨[], none, 0, rfl, Nat.zero_le _, ⟨rfl, Nat.le_refl _, by omega, fun _ => rfl, fun i x hx => by cases hx⟩, HK1.out⟩
  · go_enter Tryz.func14, Tryz.ntmps14
    go_wp2_with (go_at_call 20; refine hc.mono ?_; rintro e w1 ⟨rfl, hk1⟩; have HK1 : Hid (Kept No w w1) := hk1; clear hk1 hc)
    refine bodyPost_ret (results_tmp rfl _ _ _) rfl ?_
    exact ⟨xs, a, c, rfl, Nat.le_refl _, HS.out.keep HK1.out, HK1.out⟩
end Go.Proofs.YtibmgpinfdcaoaaGreatDoor
