/-
  One text: QAll, QMark, QOth, QPlc, QHld, QHd1, QLaw.
-/
import Derived.Test.YtahhkkkgaoekcaaGreatDoorGQa
import Derived.Test.YtahhkkkgaoekcaaGreatDoorOSrvs
import Derived.Laws.AppendOwnNone
import Derived.BigQuiet
import Derived.ArgAppend
namespace Go.Proofs.YtahhkkkgaoekcaaGreatDoor
open Go.RowKit Plain
set_option linter.unusedVariables false
set_option maxRecDepth 100000

/-- a row of numbers that is its holder's -/
structure Rw9 (w : World) (lo : Nat) (a : Option Addr) (n : Nat) (f : Nat → Int) : Prop where
  sh : (a = none ∧ n = 0) ∨ ∃ g, a = some ⟨g, 0, none⟩ ∧ lo ≤ g ∧ g < w.heap.size ∧ (∀ i, i < n → w.cell? ⟨g, i, none⟩ = some (.int .i64 (f i))) ∧ ∀ k, w.frozen? ⟨g, k, none⟩ = false
  max : n ≤ 9223372036854775807
theorem Rw9.nm {w : World} {lo : Nat} {a : Option Addr} {n : Nat} {f : Nat → Int} (h : Rw9 w lo a n f) : Nm w (fun k => lo ≤ k ∧ k < w.heap.size) a n n f := by
  refine ⟨Nat.le_refl _, h.max, fun i hi => ?_⟩
  rcases h.sh with ⟨_, h0⟩ | ⟨g, e, h1, h2, h3, _⟩
  · omega
  · exact ⟨g, e, ⟨h1, h2⟩, h3 i hi⟩
def Bk9 (a : Option Addr) (k : Nat) : Prop := a = some ⟨k, 0, none⟩
theorem Rw9.kept {w w' : World} {lo : Nat} {a : Option Addr} {n : Nat} {f : Nat → Int} {G : Nat → Prop} (h : Rw9 w lo a n f) (k : Kept G w w') (hd : ∀ b, Bk9 a b → ¬ G b) : Rw9 w' lo a n f := by
  refine ⟨?_, h.max⟩
  rcases h.sh with h0 | ⟨g, e, h1, h2, h3, h4⟩
  · exact .inl h0
  · have hg := hd g e
    refine .inr ⟨g, e, h1, Nat.lt_of_lt_of_le h2 k.size, fun i hi => k.cell (h3 i hi) hg, fun j => ?_⟩
    have eb := k.block g h2 hg
    have := h4 j
    simp only [World.frozen?] at this ⊢
    rw [eb]; exact this
theorem Rw9.keep {w w' : World} {lo : Nat} {a : Option Addr} {n : Nat} {f : Nat → Int} (h : Rw9 w lo a n f) (k : Kept No w w') : Rw9 w' lo a n f := h.kept k (fun _ _ h => h)
theorem Rw9.set {w : World} {lo g n : Nat} {f : Nat → Int} (h : Rw9 w lo (some ⟨g, 0, none⟩) n f) (k : Nat) (x : Int) (hk : k < n) : Rw9 (w.setCell ⟨g, k, none⟩ (.int .i64 x)) lo (some ⟨g, 0, none⟩) n (fun i => if i = k then x else f i) := by
  refine ⟨?_, h.max⟩
  rcases h.sh with ⟨h0, _⟩ | ⟨g', e, h1, h2, h3, h4⟩
  · cases h0
  · injection e with e; injection e with e _ _; subst e
    refine .inr ⟨g, rfl, h1, by simpa [World.setCell] using h2, fun i hi => ?_, fun j => by rw [World.frozen?_setCell]; exact h4 j⟩
    rw [cell_set (h3 i hi)]
    by_cases e : i = k
    · rw [if_pos e, if_pos e]
    · rw [if_neg e, if_neg e]
theorem Rw9.ext {w : World} {lo : Nat} {a : Option Addr} {n : Nat} {f f' : Nat → Int} (h : Rw9 w lo a n f) (he : ∀ i, i < n → f i = f' i) : Rw9 w lo a n f' := by
  refine ⟨?_, h.max⟩
  rcases h.sh with h0 | ⟨g, e, h1, h2, h3, h4⟩
  · exact .inl h0
  · exact .inr ⟨g, e, h1, h2, fun i hi => by rw [← he i hi]; exact h3 i hi, h4⟩

set_option maxHeartbeats 2000000 in
theorem at_all {F : Nat → Prop} {a : Option Addr} {c : Nat} {xs : List Srv} (t : Int) (w : World) (hg : Gl w) (h : Sv w F a xs.length c xs) (hF : ∀ k, F k → k < w.heap.size) :
    Calls Tryz.prog 5 #[.slice a xs.length c, .int .i64 t] w fun e w' => e = .returned (.tuple #[.int .i64 (atV xs t), .int .i64 (atE xs t)]) ∧ Kept No w w' := by
  cases ht : timF xs xs.length with
  | some p =>
    have hc := hyper_any F a xs.length c xs w hg h
    obtain ⟨e1, e2⟩ := at_none (t := t) ht
    rw [e1, e2]
    rw [(tim_no ht).1, (tim_no ht).2] at hc
    have hp := tim_neQ ht
    have hp1 : (p.1 != 0) = true := bne_iff_ne.2 hp
    clear h hF ht e1 e2 hg
    generalize p.1 = E at *
    go_enter Tryz.func5, Tryz.ntmps5
    go_wp2_with (go_at_call 14; refine hc.mono ?_; rintro e w1 ⟨rfl, hk1⟩; have HK1 : Hid (Kept No w w1) := hk1; clear hk1 hc)
    go_ret2
    exact ⟨rfl, HK1.out⟩
  | none =>
    by_cases htt : 0 ≤ t ∧ t < 1099511627776
    · obtain ⟨e1, e2⟩ := at_good ht htt
      rw [e1, e2]
      have := at_yes t.toNat w hg h hF ht (by omega)
      rw [show ((t.toNat : Nat) : Int) = t by omega] at this
      exact this
    · obtain ⟨e1, e2⟩ := at_bad ht htt
      rw [e1, e2]
      have hc := hyper_any F a xs.length c xs w hg h
      rw [(tim_yes ht).1, (tim_yes ht).2] at hc
      have hti := fun W => isTick_any t W
      have hd : (decide (0 ≤ t) && decide (t < 1099511627776)) = false := by
        by_cases h0 : 0 ≤ t
        · rw [decide_eq_false (p := t < 1099511627776) (by omega), Bool.and_false]
        · rw [decide_eq_false h0]; rfl
      clear hg h hF ht e1 e2 htt
      generalize ((hyp xs : Nat) : Int) = Y at *
      go_enter Tryz.func5, Tryz.ntmps5
      go_wp2_with (first
        | (go_at_call 14; refine hc.mono ?_; rintro e w1 ⟨rfl, hk1⟩; have HK1 : Hid (Kept No w w1) := hk1; clear hk1 hc)
        | (go_at_call 15; refine (hti _).mono ?_; rintro e w2 ⟨rfl, hw2⟩; obtain rfl := hw2.symm))
      go_ret2
      exact ⟨rfl, HK1.out⟩

set_option maxHeartbeats 2000000 in
theorem rests_all {F : Nat → Prop} {a : Option Addr} {c : Nat} {xs : List Srv} (t : Int) (w : World) (hg : Gl w) (h : Sv w F a xs.length c xs) (hF : ∀ k, F k → k < w.heap.size) :
    Calls Tryz.prog 7 #[.slice a xs.length c, .int .i64 t] w fun e w' => ∃ ra, e = .returned (.tuple #[.slice ra (rsN xs t) (rsN xs t), .int .i64 (atE xs t)]) ∧ Rw9 w' w.heap.size ra (rsN xs t) (rsV xs t) ∧ Kept No w w' := by
  cases ht : timF xs xs.length with
  | some p =>
    have hc := hyper_any F a xs.length c xs w hg h
    obtain ⟨e1, e2⟩ := at_none (t := t) ht
    have hp := tim_neQ ht
    rw [show rsN xs t = 0 by unfold rsN; rw [e2, if_neg hp], e2]
    rw [(tim_no ht).1, (tim_no ht).2] at hc
    have hp1 : (p.1 != 0) = true := bne_iff_ne.2 hp
    clear h hF ht e1 e2 hg
    generalize p.1 = E at *
    go_enter Tryz.func7, Tryz.ntmps7
    go_wp2_with (go_at_call 14; refine hc.mono ?_; rintro e w1 ⟨rfl, hk1⟩; have HK1 : Hid (Kept No w w1) := hk1; clear hk1 hc)
    go_ret2
    exact ⟨none, rfl, ⟨.inl ⟨rfl, rfl⟩, by omega⟩, HK1.out⟩
  | none =>
    by_cases htt : 0 ≤ t ∧ t < 1099511627776
    · obtain ⟨e1, e2⟩ := at_good ht htt
      have hn := (vd_of ht).num
      rw [show rsN xs t = xs.length by unfold rsN; rw [e2, if_pos rfl], e2]
      have := rests_yes t.toNat w hg h hF ht (by omega)
      rw [show ((t.toNat : Nat) : Int) = t by omega] at this
      refine this.mono ?_
      rintro e w' ⟨g, rfl, hb, hct, hk⟩
      exact ⟨_, rfl, ⟨.inr ⟨g, rfl, hb, hct.lt, fun i hi => hct.at' i hi, hct.fz⟩, by omega⟩, hk⟩
    · obtain ⟨e1, e2⟩ := at_bad ht htt
      rw [show rsN xs t = 0 by unfold rsN; rw [e2]; rfl, e2]
      have hc := hyper_any F a xs.length c xs w hg h
      rw [(tim_yes ht).1, (tim_yes ht).2] at hc
      have hti := fun W => isTick_any t W
      have hd : (decide (0 ≤ t) && decide (t < 1099511627776)) = false := by
        by_cases h0 : 0 ≤ t
        · rw [decide_eq_false (p := t < 1099511627776) (by omega), Bool.and_false]
        · rw [decide_eq_false h0]; rfl
      clear hg h hF ht e1 e2 htt
      generalize ((hyp xs : Nat) : Int) = Y at *
      go_enter Tryz.func7, Tryz.ntmps7
      go_wp2_with (first
        | (go_at_call 14; refine hc.mono ?_; rintro e w1 ⟨rfl, hk1⟩; have HK1 : Hid (Kept No w w1) := hk1; clear hk1 hc)
        | (go_at_call 15; refine (hti _).mono ?_; rintro e w2 ⟨rfl, hw2⟩; obtain rfl := hw2.symm))
      go_ret2
      exact ⟨none, rfl, ⟨.inl ⟨rfl, rfl⟩, by omega⟩, HK1.out⟩

set_option maxHeartbeats 2000000 in
theorem sameI_yes {F G : Nat → Prop} {a a2 : Option Addr} {n c c2 : Nat} {f : Nat → Int} (w : World) (h : Nm w F a n c f) (h2 : Nm w G a2 n c2 f) :
    Calls Tryz.prog 9 #[.slice a n c, .slice a2 n c2] w fun e w' => e = .returned (.bool true) ∧ Kept No w w' := by
  have HS : Hid (Nm w F a n c f ∧ Nm w G a2 n c2 f) := ⟨h, h2⟩
  have hcap := h.cap
  have hmax := h.max
  have hcap2 := h2.cap
  have hmax2 := h2.max
  clear h h2
  go_enter Tryz.func9, Tryz.ntmps9
  go_wp2
  go_loopw [5] (fun x wr => ∃ k : Nat, k ≤ n ∧ x = .int .i64 k ∧ Kept No w wr) (fun x _ => n - (intOf x).toNat)
  case atStart => exact ⟨0, Nat.zero_le _, rfl, Kept.refl No w⟩
  case round =>
    obtain ⟨k, hk, rfl, hkr⟩ := hrel
    have HKR : Hid (Kept No w wr) := hkr
    clear hkr
    by_cases hlt : k < n
    · have hltz : (k : Int) < (n : Int) := by omega
      obtain ⟨b, rfl, _, e0⟩ := HS.out.1.at' k hlt
      obtain ⟨b2, rfl, _, d0⟩ := HS.out.2.at' k hlt
      have e0' := HKR.out.cell e0 (fun h => h)
      have d0' := HKR.out.cell d0 (fun h => h)
      generalize f k = y0 at *
      clear e0 d0
      go_upto_region 6 with fail
      go_quiet (fail)
      clear e0' d0'
      go_wp2
      go_roundw
      case rel => exact ⟨k + 1, by omega, by go_num, HKR.out.drewN _⟩
      case measure => simp [intOf]; omega
    · have hltz : ¬ (k : Int) < (n : Int) := by omega
      clear hk
      go_wp2
      go_ret
      exact ⟨rfl, HKR.out⟩
end Go.Proofs.YtahhkkkgaoekcaaGreatDoor

namespace Go.Proofs.YtahhkkkgaoekcaaGreatDoor
open Go.RowKit Plain
set_option linter.unusedVariables false
set_option linter.unusedSimpArgs false
set_option maxRecDepth 100000

theorem wpList_cps {w : World} {ops : Array Oper} {rest : List Oper} {o : Oper} {a : Act} {Q : Exit → Act → World → Prop} (hgd : o.guard = none) (s x : Operand)
    (ho : o.op = .call { callee := .builtin .append, args := #[s, x], argTypes := #[22, 22] }) (B : Nat) (v : Value) (hs : a.eval s = v) (hv : w.ownsRow B 38 4 v 0 []) (hB : B ≤ w.heap.size) (xa : Option Addr) (n c : Nat) (hx : a.eval x = .slice xa n c)
    (F : Nat → Prop) (xs : List Srv) (hz : Sv w F xa n c xs) (hn : n * 32 ≤ 140737488351232)
    (h : ∀ v1 w', Hid (w'.ownsRow B 38 4 v1 n (fl xs)) → Hid (Kept (fun k => v.ownBlock = some k) w w') → wpList Tryz.prog ops Q rest (a.put o.dst v1) w') : wpList Tryz.prog ops Q (o :: rest) a w := by
  obtain ⟨i0, hi, hz0, hz1, hz2⟩ := info_parts Tryz.infoS
  cases xa with
  | none =>
    have hc0 := hz.nil rfl
    have hn0 : n = 0 := by have := hz.cap; omega
    have hx0 : xs = [] := List.eq_nil_of_length_eq_zero (by rw [hz.len]; exact hn0)
    subst hc0 hn0 hx0
    refine wpList_append_own_none hgd s x 22 ho B 38 i0 4 Tryz.underlying22 hi _ _ _ hs hv hx ?_
    exact h v w hv (Kept.refl _ _)
  | some ad =>
    refine wpList_append_own _ hgd s x 22 ho B 38 i0 (.agg #[.int .i64 0, .int .i64 0, .int .i64 0, .int .i64 0]) 4 32 Tryz.underlying22 hi hz0 hz1 hz2 rfl (by decide) _ 0 [] hs hv ad n c (fl xs) hx (by rw [fl_len, hz.len]) hz.news (fl_one _) (by unfold maxLen; omega) (by omega) hB ?_
    intro v1 w1 own1 grow1 _
    rw [Nat.zero_add, List.nil_append] at own1
    exact h v1 w1 own1 ((Kept.refl (fun k => v.ownBlock = some k) w).grown grow1 (fun k e => .inl e))

/-- servers with two marks behind them, in block g -/
structure Mk (w : World) (g n c : Nat) (xs : List Srv) : Prop where
  sv : Sv w (fun k => k = g) (some ⟨g, 0, none⟩) n c xs
  cap : n + 2 ≤ c
  m7 : w.cell? ⟨g, n * 4, none⟩ = some (.int .i64 (-7))
  m8 : w.cell? ⟨g, (n + 1) * 4, none⟩ = some (.int .i64 (-8))
theorem Mk.kept {w w' : World} {g n c : Nat} {xs : List Srv} {G : Nat → Prop} (h : Mk w g n c xs) (k : Kept G w w') (hd : ¬ G g) : Mk w' g n c xs :=
  ⟨h.sv.kept k (fun b e => by rw [e]; exact hd), h.cap, k.cell h.m7 hd, k.cell h.m8 hd⟩

set_option maxHeartbeats 4000000 in
theorem marked_any {F : Nat → Prop} {a : Option Addr} {n c : Nat} {xs : List Srv} (w : World) (h : Sv w F a n c xs) (hn : n * 32 ≤ 140737488351232) :
    Calls Tryz.prog 4 #[.slice a n c] w fun e w' => ∃ g cm, e = .returned (.slice (some ⟨g, 0, none⟩) n cm) ∧ w.heap.size ≤ g ∧ g < w'.heap.size ∧ Mk w' g n cm xs ∧ Kept No w w' := by
  obtain ⟨i0, hi, hz0, hz1, hz2⟩ := info_parts Tryz.infoS
  have HS : Hid (Sv w F a n c xs) := h
  have hcap := h.cap
  have hmax := h.max
  clear h
  go_enter Tryz.func4, Tryz.ntmps4
  go_upto_region 3 with (at_builtin; refine wpList_cps rfl _ _ rfl w.heap.size _ rfl (World.ownsRow_nil _ _ _ _) (Nat.le_refl _) a n c rfl F xs HS.out hn ?_; intro v1 w1 o1 g1)
  have H1 : Hid (w1.ownsRow w.heap.size 38 4 v1 n (fl xs) ∧ Kept No w w1) := ⟨o1.out, g1.out.mono (fun k e => by cases e)⟩
  clear o1 g1
  go_upto_region 4 with (at_builtin; refine wpList_append_own _ rfl _ _ 22 rfl w.heap.size 38 i0 (.agg #[.int .i64 0, .int .i64 0, .int .i64 0, .int .i64 0]) 4 32 Tryz.underlying22 hi hz0 hz1 hz2 rfl (by decide) v1 n (fl xs) rfl (H1.out.1.alloc _) ⟨w1.heap.size, 0, none⟩ 2 2 (fl [⟨-7, 0, 0, 0⟩, ⟨-8, 0, 0, 0⟩]) rfl rfl (by
      intro j u hj
      have hb := World.alloc_heap_new w1 (.cells #[.int .i64 (-7), .int .i64 0, .int .i64 0, .int .i64 0, .int .i64 (-8), .int .i64 0, .int .i64 0, .int .i64 0] 38)
      have hlt : j < 8 := (List.getElem?_eq_some_iff.1 hj).1
      rw [add_none, Nat.zero_add]
      simp only [World.cell?, hb]
      simp only [fl] at hj
      rcases j with _ | _ | _ | _ | _ | _ | _ | _ | j
      all_goals first | exact hj | (simp at hj ⊢; exact hj) | omega) (fl_one _) (by unfold maxLen; omega) (by omega) (by have := H1.out.2.size; rw [World.size_alloc]; omega) ?_; intro v2 w2 own2 grow2 _)
  have hfl : fl xs ++ fl [⟨-7, 0, 0, 0⟩, ⟨-8, 0, 0, 0⟩] = fl (xs ++ [⟨-7, 0, 0, 0⟩, ⟨-8, 0, 0, 0⟩]) := (fl_app _ _).symm
  rw [hfl] at own2
  have hxl := HS.out.len
  have hl2 : (xs ++ [(⟨-7, 0, 0, 0⟩ : Srv), ⟨-8, 0, 0, 0⟩]).length = n + 2 := by rw [List.length_append, hxl]; rfl
  rcases own_mf own2 hl2 with ⟨_, h0⟩ | ⟨g, cap, rfl, hB, hlt, hc1, hc2, hmf, hfz⟩
  · omega
  · have k2 : Kept No w w2 := (H1.out.2.alloc _).trans ((Kept.refl (fun k => v1.ownBlock = some k) _).grown grow2 (fun k e => .inl e)) (fun k e => .inr (H1.out.1.lt k e).1)
    have sv0 := hmf.sv n cap (by omega) (by omega) hc2 (fun i hi => by
      have e : (xs ++ [(⟨-7, 0, 0, 0⟩ : Srv), ⟨-8, 0, 0, 0⟩]).getD i ⟨0, 0, 0, 0⟩ = xs.getD i ⟨0, 0, 0, 0⟩ := by simp [List.getD, List.getElem?_append_left (show i < xs.length by omega)]
      rw [e]
      exact HS.out.ok i hi)
    have e : (List.range n).map (fun i => (xs ++ [(⟨-7, 0, 0, 0⟩ : Srv), ⟨-8, 0, 0, 0⟩]).getD i ⟨0, 0, 0, 0⟩) = xs := by
      conv => rhs; rw [HS.out.eq]
      apply List.map_congr_left
      intro i hi
      rw [List.mem_range] at hi
      simp [List.getD, List.getElem?_append_left (show i < xs.length by omega)]
    rw [e] at sv0
    have q7 : (xs ++ [(⟨-7, 0, 0, 0⟩ : Srv), ⟨-8, 0, 0, 0⟩]).getD n ⟨0, 0, 0, 0⟩ = ⟨-7, 0, 0, 0⟩ := by rw [← hxl]; simp [List.getD]
    have q8 : (xs ++ [(⟨-7, 0, 0, 0⟩ : Srv), ⟨-8, 0, 0, 0⟩]).getD (n + 1) ⟨0, 0, 0, 0⟩ = ⟨-8, 0, 0, 0⟩ := by rw [← hxl]; simp [List.getD]
    have m7 : w2.cell? ⟨g, n * 4, none⟩ = some (.int .i64 (-7)) := by rw [(hmf n (by omega)).1]; show some (Value.int .i64 ((xs ++ [(⟨-7, 0, 0, 0⟩ : Srv), ⟨-8, 0, 0, 0⟩]).getD n ⟨0, 0, 0, 0⟩).p) = _; rw [q7]
    have m8 : w2.cell? ⟨g, (n + 1) * 4, none⟩ = some (.int .i64 (-8)) := by rw [(hmf (n + 1) (by omega)).1]; show some (Value.int .i64 ((xs ++ [(⟨-7, 0, 0, 0⟩ : Srv), ⟨-8, 0, 0, 0⟩]).getD (n + 1) ⟨0, 0, 0, 0⟩).p) = _; rw [q8]
    have HF : Hid (w.heap.size ≤ g ∧ g < w2.heap.size ∧ Mk w2 g n cap xs ∧ Kept No w w2) := ⟨hB, hlt, ⟨sv0, hc1, m7, m8⟩, k2⟩
    clear own2 grow2 hmf hfz sv0 e m7 m8 k2 H1 hfl hl2 hxl hB hlt
    go_wp2
    go_ret
    exact ⟨g, cap, rfl, HF.out⟩

theorem eqSv (w : World) (p b o q : Int) : (Op.equalIn 10000 38 (.agg #[.int .i64 p, .int .i64 b, .int .i64 o, .int .i64 q]) (.agg #[.int .i64 p, .int .i64 b, .int .i64 o, .int .i64 q])).run Tryz.prog w = .ok true w := by
  rw [show (10000 : Nat) = 9999 + 1 from rfl, run_equalIn_struct w 9999 _ _ _ (by kernel_rfl) (by kernel_rfl)]
  simp [go_sem, Tryz.underlying38]

set_option maxHeartbeats 4000000 in
theorem left_any {F : Nat → Prop} {a : Option Addr} {g n c cm : Nat} {xs : List Srv} (w : World) (h : Sv w F a n c xs) (hm : Mk w g n cm xs) :
    Calls Tryz.prog 10 #[.slice (some ⟨g, 0, none⟩) n cm, .slice a n c] w fun e w' => e = .returned (.bool true) ∧ Kept No w w' := by
  have HS : Hid (Sv w F a n c xs ∧ Mk w g n cm xs) := ⟨h, hm⟩
  have hcap := h.cap
  have hmax := h.max
  have hcm := hm.cap
  have hmm := hm.sv.max
  have h7 := hm.m7
  have h8 := hm.m8
  have hnz : (n : Int) + 2 ≤ (cm : Int) := by omega
  have HX : Hid (xs.length = n) := h.len
  clear h hm
  go_enter Tryz.func10, Tryz.ntmps10
  go_wp2
  go_loopw [7] (fun x wr => ∃ k : Nat, k ≤ n ∧ x = .int .i64 k ∧ Kept No w wr) (fun x _ => n - (intOf x).toNat)
  case atStart => exact ⟨0, Nat.zero_le _, rfl, Kept.refl No w⟩
  case round =>
    obtain ⟨k, hk, rfl, hkr⟩ := hrel
    have HKR : Hid (Kept No w wr) := hkr
    have h7' := hkr.cell h7 (fun h => h)
    have h8' := hkr.cell h8 (fun h => h)
    clear hkr h7 h8
    by_cases hlt : k < n
    · have hltz : (k : Int) < (n : Int) := by omega
      have hx : xs[k]? = some (xs.getD k ⟨0, 0, 0, 0⟩) := by rw [List.getD, List.getElem?_eq_getElem (by rw [HX.out]; exact hlt)]; rfl
      obtain ⟨_, b, o, rfl, _, e0, e1, e2, e3⟩ := (HS.out.1.keep HKR.out).at' k _ hx
      obtain ⟨_, b2, o2, eq2, _, d0, d1, d2, d3⟩ := (HS.out.2.sv.keep HKR.out).at' k _ hx
      injection eq2 with eq2
      injection eq2 with q1 q2 _
      subst q1 q2
      rw [Nat.zero_add] at d0 d1 d2 d3
      generalize xs.getD k ⟨0, 0, 0, 0⟩ = y at *
      obtain ⟨yp, yb, yo, yq⟩ := y
      simp only at e0 e1 e2 e3 d0 d1 d2 d3
      have hEQ := fun w => eqSv w yp yb yo yq
      clear hx h7' h8'
      go_upto_region 6 with fail
      go_quiet (fail)
      clear e0 e1 e2 e3 d0 d1 d2 d3
      go_wp2
      go_roundw
      case rel => exact ⟨k + 1, by omega, by go_num, HKR.out.drewN _⟩
      case measure => simp [intOf]; omega
    · have hltz : ¬ (k : Int) < (n : Int) := by omega
      obtain rfl : k = n := by omega
      clear hk
      go_wp2
      go_ret
      exact ⟨rfl, HKR.out⟩

set_option maxHeartbeats 2000000 in
theorem few_any {F : Nat → Prop} {a : Option Addr} {c : Nat} {xs : List Srv} (w : World) (h : Sv w F a xs.length c xs) :
    Calls Tryz.prog 12 #[.slice a xs.length c] w fun e w' => ∃ (ys : List Srv) (ya : Option Addr) (yc : Nat), e = .returned (.slice ya ys.length yc) ∧ ys.length ≤ xs.length ∧ Sv w' F ya ys.length yc ys ∧ Kept No w w' := by
  have hc := rHyper_any F a xs.length c xs w h
  have HS : Hid (Sv w F a xs.length c xs) := h
  clear h
  generalize hyV xs xs.length = Y at *
  generalize hyE xs xs.length = E at *
  by_cases hY : 4096 < Y
  · go_enter Tryz.func12, Tryz.ntmps12
    go_wp2_with (go_at_call 19; refine hc.mono ?_; rintro e w1 ⟨rfl, hk1⟩; have HK1 : Hid (Kept No w w1) := hk1; clear hk1 hc)
    refine bodyPost_ret (results_tmp rfl _ _ _) rfl ?_
    exact ⟨[], none, 0, rfl, Nat.zero_le _, ⟨rfl, Nat.le_refl _, by omega, fun _ => rfl, fun i x hx => by cases hx⟩, HK1.out⟩
  · go_enter Tryz.func12, Tryz.ntmps12
    go_wp2_with (go_at_call 19; refine hc.mono ?_; rintro e w1 ⟨rfl, hk1⟩; have HK1 : Hid (Kept No w w1) := hk1; clear hk1 hc)
    refine bodyPost_ret (results_tmp rfl _ _ _) rfl ?_
    exact ⟨xs, a, c, rfl, Nat.le_refl _, HS.out.keep HK1.out, HK1.out⟩
end Go.Proofs.YtahhkkkgaoekcaaGreatDoor

namespace Go.Proofs.YtahhkkkgaoekcaaGreatDoor
open Go.RowKit Plain
set_option linter.unusedVariables false
set_option linter.unusedSimpArgs false
set_option maxRecDepth 100000

/-- the j-th of the others -/
def othS (xs : List Srv) (j : Nat) : Srv := ⟨(xs.getD (xs.length - 1 - j) ⟨0, 0, 0, 0⟩).p, 1, (xs.getD (xs.length - 1 - j) ⟨0, 0, 0, 0⟩).o, (xs.getD (xs.length - 1 - j) ⟨0, 0, 0, 0⟩).q⟩
def othL (xs : List Srv) (k : Nat) : List Srv := (List.range k).map (othS xs)
theorem othL_len (xs : List Srv) (k : Nat) : (othL xs k).length = k := by simp [othL]
theorem othL_succ (xs : List Srv) (k : Nat) : fl (othL xs (k + 1)) = fl (othL xs k) ++ fl [othS xs k] := by rw [← fl_app]; simp [othL, List.range_succ]
theorem othL_get (xs : List Srv) {k i : Nat} (h : i < k) : (othL xs k).getD i ⟨0, 0, 0, 0⟩ = othS xs i := by simp [othL, List.getD, h]

set_option maxHeartbeats 4000000 in
theorem others_any {F : Nat → Prop} {a : Option Addr} {c : Nat} {xs : List Srv} (w : World) (h : Sv w F a xs.length c xs) (hn : xs.length * 32 ≤ 140737488351232) :
    Calls Tryz.prog 25 #[.slice a xs.length c] w fun e w' => ∃ v, e = .returned v ∧ w'.ownsRow w.heap.size 38 4 v xs.length (fl (othL xs xs.length)) ∧ Kept No w w' := by
  obtain ⟨i0, hi, hz0, hz1, hz2⟩ := info_parts Tryz.infoS
  have HS : Hid (Sv w F a xs.length c xs) := h
  have hcap := h.cap
  have hmax := h.max
  clear h
  go_enter Tryz.func25, Tryz.ntmps25
  go_wp2
  go_loopw [3, 4, 5] (fun v y z5 wr => ∃ k : Nat, k ≤ xs.length ∧ y = .int .i64 ((xs.length : Int) - 1 - k) ∧ wr.ownsRow w.heap.size 38 4 v k (fl (othL xs k)) ∧ Kept No w wr) (fun _ y _ _ => (intOf y + 1).toNat)
  case atStart => exact ⟨0, Nat.zero_le _, by congr 1; omega, ⟨rfl, .inl ⟨rfl, rfl⟩⟩, Kept.refl _ _⟩
  case round =>
    obtain ⟨k, hk, rfl, ho, hkr⟩ := hrel
    have HW : Hid (wr.ownsRow w.heap.size 38 4 u3 k (fl (othL xs k)) ∧ Kept No w wr) := ⟨ho, hkr⟩
    have HOW : Hid (∀ j, u3.ownBlock = some j → w.heap.size ≤ j) := fun j e => (ho.lt j e).1
    clear ho hkr
    by_cases hlt : k < xs.length
    · obtain ⟨p, hp⟩ : ∃ p : Nat, xs.length - 1 - k = p := ⟨_, rfl⟩
      have hpz : (xs.length : Int) - 1 - k = (p : Int) := by omega
      rw [hpz]
      have hpl : p < xs.length := by omega
      have hpl2 : (p : Int) < (xs.length : Int) := by omega
      have hx : xs[p]? = some (xs.getD p ⟨0, 0, 0, 0⟩) := by rw [List.getD, List.getElem?_eq_getElem hpl]; rfl
      obtain ⟨hok, b, o, rfl, hb, e0, e1, e2, e3⟩ := (HS.out.keep HW.out.2).at' p _ hx
      have HO : Hid (othS xs k = ⟨(xs.getD p ⟨0, 0, 0, 0⟩).p, 1, (xs.getD p ⟨0, 0, 0, 0⟩).o, (xs.getD p ⟨0, 0, 0, 0⟩).q⟩) := by show _ = _; unfold othS; rw [hp]
      have HP : Hid ((xs.length : Int) - 1 - k = (p : Int)) := hpz
      have HLS : Hid (fl (othL xs (k + 1)) = fl (othL xs k) ++ fl [othS xs k]) := othL_succ xs k
      clear hx hok hp hpz
      generalize xs.getD p ⟨0, 0, 0, 0⟩ = y at *
      obtain ⟨yp, yb, yo, yq⟩ := y
      simp only at e0 e1 e2 e3 HO
      have hbx := World.alloc_heap_new wr (.cells #[.int .i64 yp, .int .i64 yb, .int .i64 yo, .int .i64 yq] 38)
      obtain ⟨d0, d1, d2, d3⟩ := cellsS hbx
      have df : ∀ j, (wr.alloc (.cells #[.int .i64 yp, .int .i64 yb, .int .i64 yo, .int .i64 yq] 38)).frozen? ⟨wr.heap.size, j, none⟩ = false := fun j => by simp only [World.frozen?]; rw [hbx]; rfl
      go_upto_region 7 with fail
      clear d0 d1 d2 d3 df hbx e0 e1 e2 e3
      have kb : Kept No wr (wr.alloc (.cells #[.int .i64 yp, .int .i64 1, .int .i64 yo, .int .i64 yq] 38)) := (Kept.refl No wr).alloc _
      obtain ⟨d0, d1, d2, d3⟩ := cellsS (World.alloc_heap_new wr (.cells #[.int .i64 yp, .int .i64 1, .int .i64 yo, .int .i64 yq] 38))
      have HA : Hid ((wr.alloc (.cells #[.int .i64 yp, .int .i64 1, .int .i64 yo, .int .i64 yq] 38)).ownsRow w.heap.size 38 4 u3 k (fl (othL xs k)) ∧ Kept No w (wr.alloc (.cells #[.int .i64 yp, .int .i64 1, .int .i64 yo, .int .i64 yq] 38))) := ⟨kb.owns HW.out.1 (fun _ _ h => h), HW.out.2.trans kb (fun _ h => h.elim)⟩
      clear kb HW
      generalize (wr.alloc (.cells #[.int .i64 yp, .int .i64 1, .int .i64 yo, .int .i64 yq] 38)) = wa at *
      generalize wr.heap.size = Bx at *
      go_wp2_with (at_builtin; refine wpList_append_own _ rfl _ _ 22 rfl w.heap.size 38 i0 (.agg #[.int .i64 0, .int .i64 0, .int .i64 0, .int .i64 0]) 4 32 Tryz.underlying22 hi hz0 hz1 hz2 rfl (by decide) u3 k (fl (othL xs k)) rfl (HA.out.1.alloc _) ⟨wa.heap.size, 0, none⟩ 1 1 (fl [⟨yp, 1, yo, yq⟩]) rfl rfl (by
          intro j u hj
          have hb := World.alloc_heap_new wa (.cells #[.int .i64 yp, .int .i64 1, .int .i64 yo, .int .i64 yq] 38)
          have hlt : j < 4 := (List.getElem?_eq_some_iff.1 hj).1
          rw [add_none, Nat.zero_add]
          simp only [World.cell?, hb]
          simp only [fl] at hj
          rcases j with _ | _ | _ | _ | j
          all_goals first | exact hj | (simp at hj ⊢; exact hj) | omega) (fl_one _) (by unfold maxLen; omega) (by omega) (by have := HA.out.2.size; rw [World.size_alloc]; omega) ?_; intro v9 w10 own10 grow10 _)
      have HN : Hid (w10.ownsRow w.heap.size 38 4 v9 (k + 1) (fl (othL xs (k + 1))) ∧ Kept No w w10) := by
        have kg : Kept (fun j => u3.ownBlock = some j) wa w10 := ((Kept.refl _ wa).alloc _).grown grow10 (fun j e => .inl e)
        refine ⟨?_, HA.out.2.trans kg (fun j e => .inr (HOW.out j e))⟩
        rw [HLS.out, HO.out]
        exact own10
      clear own10 grow10 d0 d1 d2 d3
      go_wp2
      go_roundw
      case rel => exact ⟨k + 1, by omega, by have := HP.out; congr 1; omega, HN.out⟩
      case measure => simp [intOf] <;> omega
    · obtain rfl : k = xs.length := by omega
      have hz : ¬ (0 : Int) ≤ ((xs.length : Nat) : Int) - 1 - ((xs.length : Nat) : Int) := by omega
      clear hk
      go_wp2
      go_ret
      exact ⟨_, rfl, HW.out⟩

theorem Mf.put {w : World} {g N : Nat} {f : Nat → Srv} (h : Mf w g N f) (k : Nat) (x : Srv) : Mf ((((w.setCell ⟨g, k * 4, none⟩ (.int .i64 x.p)).setCell ⟨g, k * 4 + 1, none⟩ (.int .i64 x.b)).setCell ⟨g, k * 4 + 2, none⟩ (.int .i64 x.o)).setCell ⟨g, k * 4 + 3, none⟩ (.int .i64 x.q)) g N (fun i => if i = k then x else f i) := fun i hi => by
  obtain ⟨h0, h1, h2, h3⟩ := h i hi
  refine ⟨?_, ?_, ?_, ?_⟩
  · rw [cell_set (cell_set (cell_set (cell_set h0)))]
    by_cases e : i = k
    · subst e; simp
    · rw [if_neg (by omega), if_neg (by omega), if_neg (by omega), if_neg (by omega)]
      simp [e]
  · rw [cell_set (cell_set (cell_set (cell_set h1)))]
    by_cases e : i = k
    · subst e; simp
    · rw [if_neg (by omega), if_neg (by omega), if_neg (by omega), if_neg (by omega)]
      simp [e]
  · rw [cell_set (cell_set (cell_set (cell_set h2)))]
    by_cases e : i = k
    · subst e; simp
    · rw [if_neg (by omega), if_neg (by omega), if_neg (by omega), if_neg (by omega)]
      simp [e]
  · rw [cell_set (cell_set (cell_set (cell_set h3)))]
    by_cases e : i = k
    · subst e; simp
    · rw [if_neg (by omega), if_neg (by omega), if_neg (by omega), if_neg (by omega)]
      simp [e]
theorem Mf.ext {w : World} {g N : Nat} {f f' : Nat → Srv} (h : Mf w g N f) (e : ∀ i, i < N → f i = f' i) : Mf w g N f' := fun i hi => by rw [← e i hi]; exact h i hi
theorem put4_kept (w : World) (g k : Nat) (x : Srv) : Kept (fun j => j = g) w ((((w.setCell ⟨g, k * 4, none⟩ (.int .i64 x.p)).setCell ⟨g, k * 4 + 1, none⟩ (.int .i64 x.b)).setCell ⟨g, k * 4 + 2, none⟩ (.int .i64 x.o)).setCell ⟨g, k * 4 + 3, none⟩ (.int .i64 x.q)) :=
  Kept.setCell (F := fun j => j = g) (p := ⟨g, k * 4 + 3, none⟩) (Kept.setCell (F := fun j => j = g) (p := ⟨g, k * 4 + 2, none⟩) (Kept.setCell (F := fun j => j = g) (p := ⟨g, k * 4 + 1, none⟩) (Kept.setCell (F := fun j => j = g) (p := ⟨g, k * 4, none⟩) (Kept.refl _ w) (.inl rfl) _) (.inl rfl) _) (.inl rfl) _) (.inl rfl) _

set_option maxHeartbeats 4000000 in
theorem lay_any {F : Nat → Prop} {a : Option Addr} {c g cg : Nat} {xs : List Srv} {f : Nat → Srv} (w : World) (h : Sv w F a xs.length c xs) (hF : ¬ F g) (hm : Mf w g xs.length f) (hz : Fz w g) (hcg : xs.length ≤ cg) (hcm : cg ≤ 9223372036854775807) :
    Calls Tryz.prog 26 #[.slice (some ⟨g, 0, none⟩) xs.length cg, .slice a xs.length c] w fun e w' => (∃ v, e = .returned v) ∧ Mf w' g xs.length (fun i => xs.getD i ⟨0, 0, 0, 0⟩) ∧ Kept (fun j => j = g) w w' := by
  have HS : Hid (Sv w F a xs.length c xs ∧ ¬ F g) := ⟨h, hF⟩
  have H0 : Hid (Mf w g xs.length f ∧ Fz w g) := ⟨hm, hz⟩
  have hcap := h.cap
  have hmax := h.max
  clear h hF hm hz
  go_enter Tryz.func26, Tryz.ntmps26
  go_wp2
  go_loopw [4] (fun x wr => ∃ k : Nat, k ≤ xs.length ∧ x = .int .i64 k ∧ Mf wr g xs.length (fun i => if i < k then xs.getD i ⟨0, 0, 0, 0⟩ else f i) ∧ Fz wr g ∧ Kept (fun j => j = g) w wr) (fun x _ => xs.length - (intOf x).toNat)
  case atStart => exact ⟨0, Nat.zero_le _, rfl, H0.out.1.ext (fun i hi => by simp), H0.out.2, Kept.refl _ _⟩
  case round =>
    obtain ⟨k, hk, rfl, hm, hz, hkr⟩ := hrel
    by_cases hlt : k < xs.length
    · have hltz : (k : Int) < (xs.length : Int) := by omega
      have hx : xs[k]? = some (xs.getD k ⟨0, 0, 0, 0⟩) := by rw [List.getD, List.getElem?_eq_getElem hlt]; rfl
      obtain ⟨hok, b, o, rfl, hb, e0, e1, e2, e3⟩ := (HS.out.1.kept hkr (fun j hj e => HS.out.2 (by rw [← e]; exact hj))).at' k _ hx
      obtain ⟨c0, c1, c2, c3⟩ := hm k hlt
      have f0 := hz (k * 4)
      have f1 := hz (k * 4 + 1)
      have f2 := hz (k * 4 + 2)
      have f3 := hz (k * 4 + 3)
      have HN : Hid (Mf ((((wr.setCell ⟨g, k * 4, none⟩ (.int .i64 (xs.getD k ⟨0, 0, 0, 0⟩).p)).setCell ⟨g, k * 4 + 1, none⟩ (.int .i64 (xs.getD k ⟨0, 0, 0, 0⟩).b)).setCell ⟨g, k * 4 + 2, none⟩ (.int .i64 (xs.getD k ⟨0, 0, 0, 0⟩).o)).setCell ⟨g, k * 4 + 3, none⟩ (.int .i64 (xs.getD k ⟨0, 0, 0, 0⟩).q)) g xs.length (fun i => if i < k + 1 then xs.getD i ⟨0, 0, 0, 0⟩ else f i) ∧ Fz ((((wr.setCell ⟨g, k * 4, none⟩ (.int .i64 (xs.getD k ⟨0, 0, 0, 0⟩).p)).setCell ⟨g, k * 4 + 1, none⟩ (.int .i64 (xs.getD k ⟨0, 0, 0, 0⟩).b)).setCell ⟨g, k * 4 + 2, none⟩ (.int .i64 (xs.getD k ⟨0, 0, 0, 0⟩).o)).setCell ⟨g, k * 4 + 3, none⟩ (.int .i64 (xs.getD k ⟨0, 0, 0, 0⟩).q)) g ∧ Kept (fun j => j = g) w ((((wr.setCell ⟨g, k * 4, none⟩ (.int .i64 (xs.getD k ⟨0, 0, 0, 0⟩).p)).setCell ⟨g, k * 4 + 1, none⟩ (.int .i64 (xs.getD k ⟨0, 0, 0, 0⟩).b)).setCell ⟨g, k * 4 + 2, none⟩ (.int .i64 (xs.getD k ⟨0, 0, 0, 0⟩).o)).setCell ⟨g, k * 4 + 3, none⟩ (.int .i64 (xs.getD k ⟨0, 0, 0, 0⟩).q))) := by
        refine ⟨(hm.put k (xs.getD k ⟨0, 0, 0, 0⟩)).ext (fun i hi => ?_), fun i => by rw [World.frozen?_setCell, World.frozen?_setCell, World.frozen?_setCell, World.frozen?_setCell]; exact hz i, hkr.trans (put4_kept wr g k _) (fun _ h => .inl h)⟩
        by_cases e : i = k
        · rw [if_pos e, if_pos (by omega), e]
        · rw [if_neg e]
          by_cases e2 : i < k
          · rw [if_pos e2, if_pos (by omega)]
          · rw [if_neg e2, if_neg (by omega)]
      have ek : (fun i => if i < k then xs.getD i ⟨0, 0, 0, 0⟩ else f i) k = f k := if_neg (Nat.lt_irrefl k)
      rw [ek] at c0 c1 c2 c3
      clear ek
      clear hm hz hkr hx hok
      generalize xs.getD k ⟨0, 0, 0, 0⟩ = y at *
      obtain ⟨yp, yb, yo, yq⟩ := y
      simp only at e0 e1 e2 e3 HN
      generalize (f k).p = fp at *
      generalize (f k).b = fb at *
      generalize (f k).o = fo at *
      generalize (f k).q = fq at *
      go_wp2
      go_roundw
      case rel => exact ⟨k + 1, by omega, by go_num, HN.out⟩
      case measure => simp [intOf]; omega
    · have hltz : ¬ (k : Int) < (xs.length : Int) := by omega
      have HF : Hid (Mf wr g xs.length (fun i => xs.getD i ⟨0, 0, 0, 0⟩) ∧ Kept (fun j => j = g) w wr) := ⟨hm.ext (fun i hi => if_pos (by omega)), hkr⟩
      clear hm hz hkr hk
      go_wp2
      go_end0
      exact ⟨⟨_, rfl⟩, HF.out⟩
end Go.Proofs.YtahhkkkgaoekcaaGreatDoor

namespace Go.Proofs.YtahhkkkgaoekcaaGreatDoor
open Go.RowKit Plain
set_option linter.unusedVariables false
set_option maxRecDepth 100000

theorem oth_ok {xs : List Srv} (h : ∀ i, i < xs.length → (xs.getD i ⟨0, 0, 0, 0⟩).ok) : ∀ i, i < xs.length → ((othL xs xs.length).getD i ⟨0, 0, 0, 0⟩).ok := fun i hi => by
  rw [othL_get xs hi]
  unfold othS
  have := h (xs.length - 1 - i) (by omega)
  exact ⟨this.1, (by show I6 1; unfold I6; omega), this.2.2.1, this.2.2.2⟩

/-- the others, as servers that are read, and that may be written -/
theorem others_sv {F : Nat → Prop} {a : Option Addr} {c : Nat} {xs : List Srv} (w : World) (h : Sv w F a xs.length c xs) (hn : xs.length * 32 ≤ 140737488351232) :
    Calls Tryz.prog 25 #[.slice a xs.length c] w fun e w' => ∃ ga gc, e = .returned (.slice ga (othL xs xs.length).length gc) ∧ Sv w' (fun k => Bk9 ga k) ga (othL xs xs.length).length gc (othL xs xs.length) ∧ (∀ k, Bk9 ga k → w.heap.size ≤ k ∧ k < w'.heap.size) ∧ ((ga = none ∧ xs.length = 0) ∨ ∃ g f, ga = some ⟨g, 0, none⟩ ∧ Mf w' g xs.length f ∧ Fz w' g) ∧ Kept No w w' := by
  have hok := oth_ok (fun i hi => h.ok i hi)
  refine (others_any w h hn).mono ?_
  rintro e w' ⟨v, rfl, ho, hk⟩
  obtain ⟨ga, gc, rfl, hsv⟩ := own_sv ho (othL_len _ _) hok
  refine ⟨ga, gc, by rw [othL_len], ?_, ?_, ?_, hk⟩
  · rw [othL_len]
    refine ⟨hsv.len, hsv.cap, hsv.max, hsv.nil, fun i x hx => ?_⟩
    obtain ⟨q1, b, o, e, hb, r⟩ := hsv.at' i x hx
    rcases own_mf ho (othL_len _ _) with ⟨h1, h2⟩ | ⟨g, cap, h1, _⟩
    · have := (List.getElem?_eq_some_iff.1 hx).1
      rw [othL_len] at this
      omega
    · injection h1 with h1 _ _
      subst h1
      injection e with e
      injection e with e1 e2 _
      subst e1 e2
      exact ⟨q1, g, 0, rfl, rfl, r⟩
  · intro k hk9
    rcases own_mf ho (othL_len _ _) with ⟨h1, h2⟩ | ⟨g, cap, h1, h2, h3, _⟩
    · injection h1 with h1 _ _; subst h1; cases hk9
    · injection h1 with h1 _ _
      subst h1
      injection hk9 with e
      injection e with e _ _
      subst e
      exact ⟨h2, h3⟩
  · rcases own_mf ho (othL_len _ _) with ⟨h1, h2⟩ | ⟨g, cap, h1, h2, h3, h4, h5, h6, h7⟩
    · injection h1 with h1 _ _; exact .inl ⟨h1, h2⟩
    · injection h1 with h1 _ _
      exact .inr ⟨g, _, h1, h6, h7⟩

/-- lay, whether there are any or not -/
theorem lay_all {F : Nat → Prop} {a ga : Option Addr} {c gc : Nat} {xs ys : List Srv} (w : World) (h : Sv w F a xs.length c xs) (hF : ∀ k, Bk9 ga k → ¬ F k) (hg : Sv w (fun k => Bk9 ga k) ga ys.length gc ys) (hl : ys.length = xs.length) (hm : (ga = none ∧ xs.length = 0) ∨ ∃ g f, ga = some ⟨g, 0, none⟩ ∧ Mf w g xs.length f ∧ Fz w g) :
    Calls Tryz.prog 26 #[.slice ga ys.length gc, .slice a xs.length c] w fun e w' => (∃ v, e = .returned v) ∧ Sv w' (fun k => Bk9 ga k) ga xs.length gc xs ∧ Kept (fun j => Bk9 ga j) w w' := by
  rw [hl] at hg ⊢
  rcases hm with ⟨rfl, h0⟩ | ⟨g, f, rfl, hmf, hfz⟩
  · have hgc := hg.nil rfl
    subst hgc
    have hxs : xs = [] := List.eq_nil_of_length_eq_zero h0
    subst hxs
    have hcap := h.cap
    have hmax := h.max
    clear h hg hF hl
    show Calls Tryz.prog 26 #[.slice none 0 0, .slice a 0 c] w _
    go_enter Tryz.func26, Tryz.ntmps26
    go_wp2
    go_loopw [4] (fun x wr => x = .int .i64 0 ∧ wr = w) (fun x _ => 0)
    case atStart => exact ⟨rfl, rfl⟩
    case round =>
      obtain ⟨rfl, hw⟩ := hrel
      subst hw
      go_wp2
      go_end0
      exact ⟨⟨_, rfl⟩, ⟨rfl, Nat.le_refl _, by omega, fun _ => rfl, fun i x hx => by cases hx⟩, Kept.refl _ _⟩
  · have hcap := hg.cap
    have hmax := hg.max
    have hok : ∀ i, i < xs.length → (xs.getD i ⟨0, 0, 0, 0⟩).ok := fun i hi => h.ok i hi
    have heq := h.eq
    refine (lay_any w h (hF g rfl) hmf hfz hcap hmax).mono ?_
    rintro e w' ⟨he, hm', hk'⟩
    have sv := hm'.sv xs.length gc (Nat.le_refl _) hcap hmax hok
    rw [← heq] at sv
    refine ⟨he, ⟨sv.len, sv.cap, sv.max, sv.nil, fun i x hx => ?_⟩, hk'.mono (fun k e => by rw [e]; rfl)⟩
    obtain ⟨q1, b, o, e, hb, r⟩ := sv.at' i x hx
    exact ⟨q1, b, o, e, by rw [hb]; rfl, r⟩

set_option maxHeartbeats 16000000 in
theorem placed_any {F : Nat → Prop} {a : Option Addr} {c : Nat} {xs : List Srv} (t : Int) (w : World) (hg : Gl w) (h : Sv w F a xs.length c xs) (hF : ∀ k, F k → k < w.heap.size) (hn : xs.length * 32 ≤ 140737488351232) :
    Calls Tryz.prog 11 #[.slice a xs.length c, .int .i64 t] w fun e w' => e = .returned (.bool true) ∧ Kept No w w' := by
  have HS : Hid (Gl w ∧ Sv w F a xs.length c xs ∧ (∀ k, F k → k < w.heap.size)) := ⟨hg, h, hF⟩
  have HO : Hid (∀ W, Kept No w W → Calls Tryz.prog 25 #[.slice a xs.length c] W fun e w' => ∃ ga gc, e = .returned (.slice ga (othL xs xs.length).length gc) ∧ Sv w' (fun k => Bk9 ga k) ga (othL xs xs.length).length gc (othL xs xs.length) ∧ (∀ k, Bk9 ga k → W.heap.size ≤ k ∧ k < w'.heap.size) ∧ ((ga = none ∧ xs.length = 0) ∨ ∃ g f, ga = some ⟨g, 0, none⟩ ∧ Mf w' g xs.length f ∧ Fz w' g) ∧ Kept No W w') := fun W k => others_sv W (h.keep k) hn
  have HLL : Hid ((othL xs xs.length).length = xs.length) := othL_len _ _
  clear hg h hF hn
  generalize othL xs xs.length = os at *
  have o1 := HO.out w (Kept.refl _ _)
  go_enter Tryz.func11, Tryz.ntmps11
  go_upto_region 2 with (go_at_call 25; refine o1.mono ?_; rintro e w1 ⟨oa, oc, rfl, so, bo, mo, k1⟩; have H1 : Hid (Sv w1 (fun k => Bk9 oa k) oa os.length oc os ∧ (∀ k, Bk9 oa k → k < w1.heap.size) ∧ Kept No w w1) := ⟨so, fun k e => (bo k e).2, k1⟩; clear so bo mo k1 o1)
  have o2 := HO.out w1 H1.out.2.2
  go_upto_region 3 with (go_at_call 25; refine o2.mono ?_; rintro e w2 ⟨ga, gc, rfl, sg, bg, mg, k2⟩; have H2 : Hid (Sv w2 (fun k => Bk9 ga k) ga os.length gc os ∧ (∀ k, Bk9 ga k → w1.heap.size ≤ k ∧ k < w2.heap.size) ∧ ((ga = none ∧ xs.length = 0) ∨ ∃ g f, ga = some ⟨g, 0, none⟩ ∧ Mf w2 g xs.length f ∧ Fz w2 g) ∧ Kept No w1 w2) := ⟨sg, bg, mg, k2⟩; clear sg bg mg k2 o2)
  have c1 := at_all t w2 (HS.out.1.kept (H1.out.2.2.trans H2.out.2.2.2 (fun _ h => h.elim))) H2.out.1 (fun k e => (H2.out.2.1 k e).2)
  go_upto_region 4 with (go_at_call 5; refine c1.mono ?_; rintro e w3 ⟨rfl, k3⟩; have H3 : Hid (Kept No w2 w3) := k3; clear k3 c1)
  have c2 := rests_all t w3 (HS.out.1.kept ((H1.out.2.2.trans H2.out.2.2.2 (fun _ h => h.elim)).trans H3.out (fun _ h => h.elim))) (H2.out.1.keep H3.out) (fun k e => Nat.lt_of_lt_of_le (H2.out.2.1 k e).2 H3.out.size)
  go_upto_region 5 with (go_at_call 7; refine c2.mono ?_; rintro e w4 ⟨la, rfl, rl, k4⟩; have H4 : Hid (Rw9 w4 w3.heap.size la (rsN os t) (rsV os t) ∧ Kept No w2 w4 ∧ w2.heap.size ≤ w3.heap.size) := ⟨rl, H3.out.trans k4 (fun _ h => h.elim), H3.out.size⟩; clear k4 rl c2)
  have KW4 : Hid (Kept No w w4) := (H1.out.2.2.trans H2.out.2.2.2 (fun _ h => h.elim)).trans H4.out.2.1 (fun _ h => h.elim)
  have ly := lay_all w4 (HS.out.2.1.keep KW4.out) (fun k e hf => by have := HS.out.2.2 k hf; have := (H2.out.2.1 k e).1; have := H1.out.2.2.size; omega) (H2.out.1.keep H4.out.2.1) HLL.out (by
    rcases H2.out.2.2.1 with hh | ⟨g, f, e, m, z⟩
    · exact .inl hh
    · have hgl := (H2.out.2.1 g e).2
      refine .inr ⟨g, f, e, m.kept H4.out.2.1 (fun h => h), fun i => ?_⟩
      have eb := H4.out.2.1.block g hgl (fun h => h)
      have := z i
      simp only [World.frozen?] at this ⊢
      rw [eb]; exact this)
  go_upto_region 6 with (go_at_call 26; refine ly.mono ?_; rintro e w5 ⟨⟨v5, rfl⟩, s5, k5⟩; have H5 : Hid (Sv w5 (fun k => Bk9 ga k) ga xs.length gc xs ∧ Kept (fun j => Bk9 ga j) w4 w5) := ⟨s5, k5⟩; clear s5 k5 ly)
  have H6 : Hid (Kept No w w5 ∧ Sv w5 F a xs.length c xs ∧ (∀ k, F k → k < w5.heap.size) ∧ Sv w5 (fun k => Bk9 oa k) oa os.length oc os ∧ (∀ k, Bk9 oa k → k < w5.heap.size) ∧ Sv w5 (fun k => Bk9 ga k) ga xs.length gc xs ∧ (∀ k, Bk9 ga k → k < w5.heap.size) ∧ Nm w5 (fun k => w3.heap.size ≤ k ∧ k < w4.heap.size) la (rsN os t) (rsN os t) (rsV os t)) := by
    have kk := KW4.out
    have s1 := H1.out.2.2.size
    have s2 := H2.out.2.2.2.size
    have s4 := H4.out.2.1.size
    have s5 := H5.out.2.size
    refine ⟨kk.trans H5.out.2 (fun k e => .inr (by have := (H2.out.2.1 k e).1; omega)), (HS.out.2.1.keep kk).kept H5.out.2 (fun k hf e => by have := HS.out.2.2 k hf; have := (H2.out.2.1 k e).1; omega), fun k hf => by have := HS.out.2.2 k hf; omega, ((H1.out.1.keep H2.out.2.2.2).keep H4.out.2.1).kept H5.out.2 (fun k e1 e2 => by have := H1.out.2.1 k e1; have := (H2.out.2.1 k e2).1; omega), fun k e => by have := H1.out.2.1 k e; omega, H5.out.1, fun k e => by have := (H2.out.2.1 k e).2; omega, H4.out.1.nm.kept H5.out.2 (fun k e1 e2 => by have := (H2.out.2.1 k e2).2; have := H4.out.2.2; omega)⟩
  clear H1 H2 H3 H4 H5 KW4 HO
  have HAT : Hid (∀ W, Kept No w5 W → Calls Tryz.prog 5 #[.slice ga os.length gc, .int .i64 t] W fun e w' => e = .returned (.tuple #[.int .i64 (atV xs t), .int .i64 (atE xs t)]) ∧ Kept No w5 w') := fun W k => by rw [HLL.out]; exact (at_all t W (HS.out.1.kept (H6.out.1.trans k (fun _ h => h.elim))) (H6.out.2.2.2.2.2.1.keep k) (fun j e => Nat.lt_of_lt_of_le (H6.out.2.2.2.2.2.2.1 j e) k.size)).mono (fun e w' ⟨e1, e2⟩ => ⟨e1, k.trans e2 (fun _ h => h.elim)⟩)
  have HRS : Hid (∀ W, Kept No w5 W → Calls Tryz.prog 7 #[.slice ga os.length gc, .int .i64 t] W fun e w' => ∃ ra, e = .returned (.tuple #[.slice ra (rsN xs t) (rsN xs t), .int .i64 (atE xs t)]) ∧ Rw9 w' W.heap.size ra (rsN xs t) (rsV xs t) ∧ Kept No W w') := fun W k => by rw [HLL.out]; exact rests_all t W (HS.out.1.kept (H6.out.1.trans k (fun _ h => h.elim))) (H6.out.2.2.2.2.2.1.keep k) (fun j e => Nat.lt_of_lt_of_le (H6.out.2.2.2.2.2.2.1 j e) k.size)
  have HA1 : Hid (∀ W, Kept No w5 W → Calls Tryz.prog 6 #[.slice oa os.length oc, .int .i64 t] W fun e w' => e = .returned (.tuple #[.int .i64 (atV os t), .int .i64 (atE os t)]) ∧ Kept No W w') := fun W k => refAt_any t W (H6.out.2.2.2.1.keep k) (fun j e => Nat.lt_of_lt_of_le (H6.out.2.2.2.2.1 j e) k.size)
  have HA2 : Hid (∀ W, Kept No w5 W → Calls Tryz.prog 6 #[.slice a xs.length c, .int .i64 t] W fun e w' => e = .returned (.tuple #[.int .i64 (atV xs t), .int .i64 (atE xs t)]) ∧ Kept No W w') := fun W k => refAt_any t W (H6.out.2.1.keep k) (fun j e => Nat.lt_of_lt_of_le (H6.out.2.2.1 j e) k.size)
  have HR1 : Hid (∀ W, Kept No w5 W → Calls Tryz.prog 8 #[.slice oa os.length oc, .int .i64 t] W fun e w' => ∃ ra rc, e = .returned (.tuple #[.slice ra (rsN os t) rc, .int .i64 (atE os t)]) ∧ Nm w' (fun k => W.heap.size ≤ k ∧ k < w'.heap.size) ra (rsN os t) rc (rsV os t) ∧ Kept No W w') := fun W k => refRests_any t W (H6.out.2.2.2.1.keep k) (fun j e => Nat.lt_of_lt_of_le (H6.out.2.2.2.2.1 j e) k.size)
  have HR2 : Hid (∀ W, Kept No w5 W → Calls Tryz.prog 8 #[.slice a xs.length c, .int .i64 t] W fun e w' => ∃ ra rc, e = .returned (.tuple #[.slice ra (rsN xs t) rc, .int .i64 (atE xs t)]) ∧ Nm w' (fun k => W.heap.size ≤ k ∧ k < w'.heap.size) ra (rsN xs t) rc (rsV xs t) ∧ Kept No W w') := fun W k => refRests_any t W (H6.out.2.1.keep k) (fun j e => Nat.lt_of_lt_of_le (H6.out.2.2.1 j e) k.size)
  generalize atV xs t = V1 at *
  generalize atE xs t = E1 at *
  generalize atV os t = V2 at *
  generalize atE os t = E2 at *
  generalize rsN xs t = N1 at *
  generalize rsV xs t = f1 at *
  generalize rsN os t = N2 at *
  generalize rsV os t = f2 at *
  have a6 := HAT.out w5 (Kept.refl _ _)
  go_upto_region 7 with (go_at_call 5; refine a6.mono ?_; rintro e w6 ⟨rfl, k6⟩; have K6 : Hid (Kept No w5 w6) := k6; clear k6 a6)
  have a7 := HRS.out w6 K6.out
  go_upto_region 8 with (go_at_call 7; refine a7.mono ?_; rintro e w7 ⟨ma, rfl, rm, k7⟩; have K7 : Hid (Kept No w5 w7 ∧ Nm w7 (fun k => w6.heap.size ≤ k ∧ k < w7.heap.size) ma N1 N1 f1) := ⟨K6.out.trans k7 (fun _ h => h.elim), rm.nm⟩; clear k7 rm a7)
  have a8 := HA1.out w7 K7.out.1
  go_upto_region 9 with (go_at_call 6; refine a8.mono ?_; rintro e w8 ⟨rfl, k8⟩; have K8 : Hid (Kept No w7 w8) := k8; clear k8 a8)
  have a9 := HA2.out w8 (K7.out.1.trans K8.out (fun _ h => h.elim))
  go_upto_region 10 with (go_at_call 6; refine a9.mono ?_; rintro e w9 ⟨rfl, k9⟩; have K9 : Hid (Kept No w7 w9) := K8.out.trans k9 (fun _ h => h.elim); clear k9 a9)
  have a10 := HR1.out w9 (K7.out.1.trans K9.out (fun _ h => h.elim))
  go_upto_region 11 with (go_at_call 8; refine a10.mono ?_; rintro e w10 ⟨pa, pc, rfl, np, k10⟩; have K10 : Hid (Kept No w7 w10 ∧ Nm w10 (fun k => w9.heap.size ≤ k ∧ k < w10.heap.size) pa N2 pc f2) := ⟨K9.out.trans k10 (fun _ h => h.elim), np⟩; clear k10 np a10)
  have a11 := HR2.out w10 (K7.out.1.trans K10.out.1 (fun _ h => h.elim))
  go_upto_region 12 with (go_at_call 8; refine a11.mono ?_; rintro e w11 ⟨qa, qc, rfl, nq, k11⟩; have K11 : Hid (Kept No w10 w11 ∧ Nm w11 (fun k => w10.heap.size ≤ k ∧ k < w11.heap.size) qa N1 qc f1) := ⟨k11, nq⟩; clear k11 nq a11)
  have H12 : Hid (Kept No w w11 ∧ Nm w11 (fun k => w3.heap.size ≤ k ∧ k < w4.heap.size) la N2 N2 f2 ∧ Nm w11 (fun k => w6.heap.size ≤ k ∧ k < w7.heap.size) ma N1 N1 f1 ∧ Nm w11 (fun k => w9.heap.size ≤ k ∧ k < w10.heap.size) pa N2 pc f2 ∧ Nm w11 (fun k => w10.heap.size ≤ k ∧ k < w11.heap.size) qa N1 qc f1) := by
    have k711 := K10.out.1.trans K11.out.1 (fun _ h => h.elim)
    have k511 := K7.out.1.trans k711 (fun _ h => h.elim)
    exact ⟨H6.out.1.trans k511 (fun _ h => h.elim), H6.out.2.2.2.2.2.2.2.keep k511, K7.out.2.keep k711, K10.out.2.keep K11.out.1, K11.out.2⟩
  clear K6 K7 K8 K9 K10 K11 HAT HRS HA1 HA2 HR1 HR2 H6
  have s1 := sameI_yes w11 H12.out.2.1 H12.out.2.2.2.1
  have HS2 : Hid (∀ W, Kept No w11 W → Calls Tryz.prog 9 #[.slice ma N1 N1, .slice qa N1 qc] W fun e w' => e = .returned (.bool true) ∧ Kept No W w') := fun W k => sameI_yes W (H12.out.2.2.1.keep k) (H12.out.2.2.2.2.keep k)
  go_upto_region 14 with fail
  go_wp2_with (first
    | (go_at_call 9; refine s1.mono ?_; rintro e w12 ⟨rfl, k12⟩; have K12 : Hid (Kept No w11 w12) := k12; have s2 := HS2.out w12 k12; clear k12 s1)
    | (go_at_call 9; refine s2.mono ?_; rintro e w13 ⟨rfl, k13⟩; have K13 : Hid (Kept No w11 w13) := K12.out.trans k13 (fun _ h => h.elim); clear k13 s2))
  go_ret
  exact ⟨rfl, H12.out.1.trans K13.out (fun _ h => h.elim)⟩
end Go.Proofs.YtahhkkkgaoekcaaGreatDoor

namespace Go.Proofs.YtahhkkkgaoekcaaGreatDoor
open Go.RowKit Plain
set_option linter.unusedVariables false
set_option linter.unusedSimpArgs false
set_option maxRecDepth 100000

/-- numbers in a block of their own, if there are any -/
def Rv (w : World) (lo : Nat) (a : Option Addr) (n : Nat) (f : Nat → Int) : Prop :=
  0 < n → ∃ g, a = some ⟨g, 0, none⟩ ∧ lo ≤ g ∧ g < w.heap.size ∧ (∀ i, i < n → w.cell? ⟨g, i, none⟩ = some (.int .i64 (f i))) ∧ ∀ k, w.frozen? ⟨g, k, none⟩ = false
theorem Rv.of {w : World} {lo : Nat} {a : Option Addr} {n : Nat} {f : Nat → Int} (h : Rw9 w lo a n f) : Rv w lo a n f := fun hn => by
  rcases h.sh with ⟨_, h0⟩ | h1
  · omega
  · exact h1
theorem Rv.kept {w w' : World} {lo : Nat} {a : Option Addr} {n : Nat} {f : Nat → Int} {G : Nat → Prop} (h : Rv w lo a n f) (k : Kept G w w') (hd : 0 < n → ∀ b, Bk9 a b → ¬ G b) : Rv w' lo a n f := fun hn => by
  obtain ⟨g, e, h1, h2, h3, h4⟩ := h hn
  have hg := hd hn g e
  refine ⟨g, e, h1, Nat.lt_of_lt_of_le h2 k.size, fun i hi => k.cell (h3 i hi) hg, fun j => ?_⟩
  have eb := k.block g h2 hg
  have := h4 j
  simp only [World.frozen?] at this ⊢
  rw [eb]; exact this
theorem Rv.keep {w w' : World} {lo : Nat} {a : Option Addr} {n : Nat} {f : Nat → Int} (h : Rv w lo a n f) (k : Kept No w w') : Rv w' lo a n f := h.kept k (fun _ _ _ h => h)
theorem Rv.low {w : World} {lo lo' : Nat} {a : Option Addr} {n : Nat} {f : Nat → Int} (h : Rv w lo a n f) (hl : lo' ≤ lo) : Rv w lo' a n f := fun hn => by
  obtain ⟨g, e, h1, r⟩ := h hn
  exact ⟨g, e, by omega, r⟩
theorem Rv.nm {w : World} {lo : Nat} {a : Option Addr} {n : Nat} {f : Nat → Int} (h : Rv w lo a n f) (hm : n ≤ 9223372036854775807) : Nm w (fun k => lo ≤ k ∧ k < w.heap.size) a n n f :=
  ⟨Nat.le_refl _, hm, fun i hi => by obtain ⟨g, e, h1, h2, h3, _⟩ := h (by omega); exact ⟨g, e, ⟨h1, h2⟩, h3 i hi⟩⟩

/-- m lists of numbers, apart -/
structure Sh (w : World) (lo m : Nat) (A : Nat → Option Addr) (nn : Nat → Nat) (ff : Nat → Nat → Int) : Prop where
  rv : ∀ i, i < m → Rv w lo (A i) (nn i) (ff i)
  dis : ∀ i j, i < m → j < m → i ≠ j → 0 < nn i → ∀ b, Bk9 (A i) b → 0 < nn j → ¬ Bk9 (A j) b
  ad : ∀ i, i < m → (A i = none ∧ nn i = 0) ∨ ∃ g, A i = some ⟨g, 0, none⟩
theorem Sh.keep {w w' : World} {lo m : Nat} {A : Nat → Option Addr} {nn : Nat → Nat} {ff : Nat → Nat → Int} (h : Sh w lo m A nn ff) (k : Kept No w w') : Sh w' lo m A nn ff :=
  ⟨fun i hi => (h.rv i hi).keep k, h.dis, h.ad⟩
theorem Sh.kept {w w' : World} {lo m : Nat} {A : Nat → Option Addr} {nn : Nat → Nat} {ff : Nat → Nat → Int} {G : Nat → Prop} (h : Sh w lo m A nn ff) (k : Kept G w w') (hd : ∀ i, i < m → 0 < nn i → ∀ b, Bk9 (A i) b → ¬ G b) : Sh w' lo m A nn ff :=
  ⟨fun i hi => (h.rv i hi).kept k (hd i hi), h.dis, h.ad⟩
/-- a number written into list i -/
theorem Sh.set {w : World} {lo m : Nat} {A : Nat → Option Addr} {nn : Nat → Nat} {ff : Nat → Nat → Int} (h : Sh w lo m A nn ff) {i k g : Nat} (hi : i < m) (hk : k < nn i) (hA : A i = some ⟨g, 0, none⟩) (x : Int) : Sh (w.setCell ⟨g, k, none⟩ (.int .i64 x)) lo m A nn (fun j q => if j = i ∧ q = k then x else ff j q) := by
  have ks : Kept (fun b => b = g) w (w.setCell ⟨g, k, none⟩ (.int .i64 x)) := Kept.setCell (F := fun b => b = g) (p := ⟨g, k, none⟩) (Kept.refl _ w) (.inl rfl) _
  refine ⟨fun j hj => ?_, h.dis, h.ad⟩
  by_cases e : j = i
  · subst e
    intro hn
    obtain ⟨g', e', h1, h2, h3, h4⟩ := h.rv j hj hn
    rw [hA] at e'
    injection e' with e'; injection e' with e' _ _; subst e'
    refine ⟨g, hA, h1, by simpa [World.setCell] using h2, fun q hq => ?_, fun q => by rw [World.frozen?_setCell]; exact h4 q⟩
    rw [cell_set (h3 q hq)]
    by_cases e2 : q = k
    · simp [e2]
    · simp [e2]
  · have := (h.rv j hj).kept ks (fun hn b hb e2 => h.dis i j hi hj (Ne.symm e) (by omega) g hA hn (by rw [← e2]; exact hb))
    intro hn
    obtain ⟨g', e', h1, h2, h3, h4⟩ := this hn
    exact ⟨g', e', h1, h2, fun q hq => by rw [h3 q hq]; simp [e], h4⟩
theorem Sh.ext {w : World} {lo m : Nat} {A : Nat → Option Addr} {nn : Nat → Nat} {ff gg : Nat → Nat → Int} (h : Sh w lo m A nn ff) (he : ∀ i, i < m → ∀ q, q < nn i → ff i q = gg i q) : Sh w lo m A nn gg :=
  ⟨fun i hi hn => by obtain ⟨g', e', h1, h2, h3, h4⟩ := h.rv i hi hn; exact ⟨g', e', h1, h2, fun q hq => by rw [h3 q hq, he i hi q hq], h4⟩, h.dis, h.ad⟩

def lsL (A : Nat → Option Addr) (nn : Nat → Nat) (m : Nat) : List Value := (List.range m).map (fun i => .slice (A i) (nn i) (nn i))
theorem lsL_len (A : Nat → Option Addr) (nn : Nat → Nat) (m : Nat) : (lsL A nn m).length = m := by simp [lsL]
theorem lsL_get (A : Nat → Option Addr) (nn : Nat → Nat) {m i : Nat} (h : i < m) : (lsL A nn m)[i]? = some (.slice (A i) (nn i) (nn i)) := by simp [lsL, h]
def two (A : Nat → Option Addr) (m : Nat) (a0 a1 : Option Addr) : Nat → Option Addr := fun i => if i = m then a0 else if i = m + 1 then a1 else A i
theorem lsL_two (A : Nat → Option Addr) (nn : Nat → Nat) (m : Nat) (a0 a1 : Option Addr) : lsL (two A m a0 a1) nn (m + 2) = lsL A nn m ++ [.slice a0 (nn m) (nn m), .slice a1 (nn (m + 1)) (nn (m + 1))] := by
  have e : lsL (two A m a0 a1) nn m = lsL A nn m := by
    unfold lsL
    apply List.map_congr_left
    intro i hi
    rw [List.mem_range] at hi
    unfold two
    rw [if_neg (by omega), if_neg (by omega)]
  rw [← e]
  unfold lsL
  rw [List.range_succ, List.range_succ]
  simp [two]
/-- a row of slices has no block with numbers in it -/
theorem ls_ne {w : World} {B m n lo : Nat} {v : Value} {A : Nat → Option Addr} {nn : Nat → Nat} {a : Option Addr} {f : Nat → Int} (h : w.ownsRow B 29 1 v m (lsL A nn m)) (hm : v.ownBlock = none ∨ 0 < m) (hr : Rv w lo a n f) (hn : 0 < n) : ∀ b, Bk9 a b → v.ownBlock ≠ some b := fun b hb e => by
  obtain ⟨g, e', _, _, h3, _⟩ := hr hn
  rw [hb] at e'
  injection e' with e'; injection e' with e' _ _; subst e'
  rcases owns_cells h with ⟨rfl, _⟩ | ⟨g2, cap, rfl, _, _, _, _, h6, _⟩
  · cases e
  · injection e with e
    subst e
    rcases hm with hm | hm
    · cases hm
    · have c1 := h6 0 _ (lsL_get A nn hm)
      rw [h3 0 hn] at c1
      cases c1
end Go.Proofs.YtahhkkkgaoekcaaGreatDoor

namespace Go.Proofs.YtahhkkkgaoekcaaGreatDoor
open Go.RowKit Plain
set_option linter.unusedVariables false
set_option linter.unusedSimpArgs false
set_option maxRecDepth 100000

theorem Tryz.infoIs : (Tryz.prog.info? 29).map (fun i => (i.zero, i.size, i.bytes)) = some (some (.slice none 0 0), 1, 24) := by kernel_rfl
def nnF (N1 N0 : Nat) (i : Nat) : Nat := if i % 2 = 0 then N1 else N0
def ffF (f1 f0 : Nat → Int) (i : Nat) : Nat → Int := if i % 2 = 0 then f1 else f0

/-- what restsHeld has when its lists are made -/
structure Hd (w : World) (B m : Nat) (v : Value) (A : Nat → Option Addr) (nn : Nat → Nat) (ff : Nat → Nat → Int) : Prop where
  row : w.ownsRow B 29 1 v m (lsL A nn m)
  pos : v.ownBlock = none ∨ 0 < m
  sh : Sh w B m A nn ff

theorem Hd.add {w w' : World} {B m : Nat} {v v' : Value} {A : Nat → Option Addr} {nn : Nat → Nat} {ff : Nat → Nat → Int} {a0 a1 : Option Addr} {lo : Nat} (h : Hd w B m v A nn ff) (hlo : ∀ i, i < m → 0 < nn i → ∀ b, Bk9 (A i) b → b < lo) (hB : B ≤ lo)
    (r0 : Rw9 w lo a0 (nn m) (ff m)) (r1 : Rw9 w lo a1 (nn (m + 1)) (ff (m + 1))) (hd : 0 < nn m → ∀ b, Bk9 a0 b → 0 < nn (m + 1) → ¬ Bk9 a1 b) (ha0 : (a0 = none ∧ nn m = 0) ∨ ∃ g, a0 = some ⟨g, 0, none⟩) (ha1 : (a1 = none ∧ nn (m + 1) = 0) ∨ ∃ g, a1 = some ⟨g, 0, none⟩)
    (ho : w'.ownsRow B 29 1 v' (m + 2) (lsL A nn m ++ [.slice a0 (nn m) (nn m), .slice a1 (nn (m + 1)) (nn (m + 1))])) (hk : Kept (fun j => v.ownBlock = some j) w w') : Hd w' B (m + 2) v' (two A m a0 a1) nn ff := by
  have e0 : two A m a0 a1 m = a0 := by simp [two]
  have e1 : two A m a0 a1 (m + 1) = a1 := by simp [two]
  have eo : ∀ i, i < m → two A m a0 a1 i = A i := fun i hi => by unfold two; rw [if_neg (by omega), if_neg (by omega)]
  have v0 := Rv.of r0
  have v1 := Rv.of r1
  have lo0 : 0 < nn m → ∀ b, Bk9 a0 b → lo ≤ b := fun hn b hb => by
    obtain ⟨g, e, h1, _⟩ := v0 hn
    rw [hb] at e; injection e with e; injection e with e _ _; rw [e]; exact h1
  have lo1 : 0 < nn (m + 1) → ∀ b, Bk9 a1 b → lo ≤ b := fun hn b hb => by
    obtain ⟨g, e, h1, _⟩ := v1 hn
    rw [hb] at e; injection e with e; injection e with e _ _; rw [e]; exact h1
  have cs : ∀ i, i < m + 2 → i < m ∨ i = m ∨ i = m + 1 := fun i hi => by omega
  refine ⟨by rw [lsL_two]; exact ho, .inr (by omega), ⟨fun i hi => ?_, fun i j hi hj hne => ?_, fun i hi => ?_⟩⟩
  · rcases cs i hi with h1 | h1 | h1
    · rw [eo i h1]
      exact (h.sh.rv i h1).kept hk (fun hn => ls_ne h.row h.pos (h.sh.rv i h1) hn)
    · rw [h1, e0]
      exact (v0.low hB).kept hk (fun hn => ls_ne h.row h.pos v0 hn)
    · rw [h1, e1]
      exact (v1.low hB).kept hk (fun hn => ls_ne h.row h.pos v1 hn)
  · rcases cs i hi with h1 | h1 | h1 <;> rcases cs j hj with h2 | h2 | h2
    · rw [eo i h1, eo j h2]; exact h.sh.dis i j h1 h2 hne
    · rw [eo i h1, h2, e0]; intro hn b hb hn2 hb2; have := hlo i h1 hn b hb; have := lo0 hn2 b hb2; omega
    · rw [eo i h1, h2, e1]; intro hn b hb hn2 hb2; have := hlo i h1 hn b hb; have := lo1 hn2 b hb2; omega
    · rw [eo j h2, h1, e0]; intro hn b hb hn2 hb2; have := hlo j h2 hn2 b hb2; have := lo0 hn b hb; omega
    · omega
    · rw [h1, h2, e0, e1]; exact hd
    · rw [eo j h2, h1, e1]; intro hn b hb hn2 hb2; have := hlo j h2 hn2 b hb2; have := lo1 hn b hb; omega
    · rw [h1, h2, e0, e1]; intro hn b hb hn2 hb2; exact hd hn2 b hb2 hn hb
    · omega
  · rcases cs i hi with h1 | h1 | h1
    · rw [eo i h1]; exact h.sh.ad i h1
    · rw [h1, e0]; exact ha0
    · rw [h1, e1]; exact ha1
theorem Rw9.ad {w : World} {lo : Nat} {a : Option Addr} {n : Nat} {f : Nat → Int} (h : Rw9 w lo a n f) : (a = none ∧ n = 0) ∨ ∃ g, a = some ⟨g, 0, none⟩ := by
  rcases h.sh with h0 | ⟨g, e, _⟩
  · exact .inl h0
  · exact .inr ⟨g, e⟩

/-- the lists, by the cells of the row that holds them -/
structure Ln (w : World) (g B m : Nat) (A : Nat → Option Addr) (nn : Nat → Nat) (ff : Nat → Nat → Int) : Prop where
  cells : ∀ i, i < m → w.cell? ⟨g, i, none⟩ = some (.slice (A i) (nn i) (nn i))
  sh : Sh w B m A nn ff
  lt : g < w.heap.size
theorem Ln.ne {w : World} {g B m : Nat} {A : Nat → Option Addr} {nn : Nat → Nat} {ff : Nat → Nat → Int} (h : Ln w g B m A nn ff) (hm : 0 < m) {i : Nat} (hi : i < m) (hn : 0 < nn i) : ¬ Bk9 (A i) g := fun e => by
  obtain ⟨g', e', _, _, h3, _⟩ := h.sh.rv i hi hn
  rw [e] at e'
  injection e' with e'; injection e' with e' _ _; subst e'
  have := h.cells 0 hm
  rw [h3 0 hn] at this
  cases this
theorem Ln.keep {w w' : World} {g B m : Nat} {A : Nat → Option Addr} {nn : Nat → Nat} {ff : Nat → Nat → Int} (h : Ln w g B m A nn ff) (k : Kept No w w') : Ln w' g B m A nn ff :=
  ⟨fun i hi => k.cell (h.cells i hi) (fun h => h), h.sh.keep k, Nat.lt_of_lt_of_le h.lt k.size⟩
theorem Ln.ext {w : World} {g B m : Nat} {A : Nat → Option Addr} {nn : Nat → Nat} {ff gg : Nat → Nat → Int} (h : Ln w g B m A nn ff) (he : ∀ i, i < m → ∀ q, q < nn i → ff i q = gg i q) : Ln w g B m A nn gg := ⟨h.cells, h.sh.ext he, h.lt⟩
theorem Ln.set {w : World} {g B m : Nat} {A : Nat → Option Addr} {nn : Nat → Nat} {ff : Nat → Nat → Int} (h : Ln w g B m A nn ff) {i k b : Nat} (hi : i < m) (hk : k < nn i) (hA : A i = some ⟨b, 0, none⟩) (x : Int) : Ln (w.setCell ⟨b, k, none⟩ (.int .i64 x)) g B m A nn (fun j q => if j = i ∧ q = k then x else ff j q) ∧ Kept (fun j => B ≤ j) w (w.setCell ⟨b, k, none⟩ (.int .i64 x)) := by
  have ks : Kept (fun j => j = b) w (w.setCell ⟨b, k, none⟩ (.int .i64 x)) := Kept.setCell (F := fun j => j = b) (p := ⟨b, k, none⟩) (Kept.refl _ w) (.inl rfl) _
  have hne : g ≠ b := fun e => h.ne (by omega) hi (by omega) (by rw [e]; exact hA)
  obtain ⟨g', e', h1, _⟩ := h.sh.rv i hi (by omega)
  rw [hA] at e'
  injection e' with e'; injection e' with e' _ _; subst e'
  exact ⟨⟨fun j hj => ks.cell (h.cells j hj) hne, h.sh.set hi hk hA x, Nat.lt_of_lt_of_le h.lt ks.size⟩, ks.mono (fun j e => by rw [e]; exact h1)⟩

set_option maxHeartbeats 8000000 in
theorem held_any {F : Nat → Prop} {a : Option Addr} {c : Nat} {xs : List Srv} (t : Int) (w : World) (hg : Gl w) (h : Sv w F a xs.length c xs) (hF : ∀ k, F k → k < w.heap.size) (hn : xs.length * 32 ≤ 140737488351232) :
    Calls Tryz.prog 13 #[.slice a xs.length c, .int .i64 t] w fun e w' => e = .returned (.bool true) ∧ Kept No w w' := by
  obtain ⟨i0, hi, hz0, hz1, hz2⟩ := info_parts Tryz.infoIs
  obtain ⟨j0, hj, hy0, hy1, hy2⟩ := info_parts Tryz.infoI
  have HS : Hid (Gl w ∧ Sv w F a xs.length c xs ∧ (∀ k, F k → k < w.heap.size)) := ⟨hg, h, hF⟩
  have HR1 : Hid (∀ W, Kept No w W → Calls Tryz.prog 7 #[.slice a xs.length c, .int .i64 t] W fun e w' => ∃ ra, e = .returned (.tuple #[.slice ra (rsN xs t) (rsN xs t), .int .i64 (atE xs t)]) ∧ Rw9 w' W.heap.size ra (rsN xs t) (rsV xs t) ∧ Kept No W w') := fun W k => rests_all t W (hg.kept k) (h.keep k) (fun j e => Nat.lt_of_lt_of_le (hF j e) k.size)
  have HR0 : Hid (∀ W, Kept No w W → Calls Tryz.prog 7 #[.slice a xs.length c, .int .i64 0] W fun e w' => ∃ ra, e = .returned (.tuple #[.slice ra (rsN xs 0) (rsN xs 0), .int .i64 (atE xs 0)]) ∧ Rw9 w' W.heap.size ra (rsN xs 0) (rsV xs 0) ∧ Kept No W w') := fun W k => rests_all 0 W (hg.kept k) (h.keep k) (fun j e => Nat.lt_of_lt_of_le (hF j e) k.size)
  have c1 := refRests_any t w h hF
  have HQ2 : Hid (∀ W, Kept No w W → Calls Tryz.prog 8 #[.slice a xs.length c, .int .i64 0] W fun e w' => ∃ ra rc, e = .returned (.tuple #[.slice ra (rsN xs 0) rc, .int .i64 (atE xs 0)]) ∧ Nm w' (fun k => W.heap.size ≤ k ∧ k < w'.heap.size) ra (rsN xs 0) rc (rsV xs 0) ∧ Kept No W w') := fun W k => refRests_any 0 W (h.keep k) (fun j e => Nat.lt_of_lt_of_le (hF j e) k.size)
  have HN : Hid (∀ t, rsN xs t ≤ xs.length) := fun t => by unfold rsN; split <;> omega
  have hn1 := HN.out t
  have hn0 := HN.out 0
  have hL : xs.length ≤ 4398046510976 := by omega
  clear hg h hF hn HN HS
  generalize rsN xs t = N1 at *
  generalize rsV xs t = f1 at *
  generalize atE xs t = E1 at *
  generalize rsN xs 0 = N0 at *
  generalize rsV xs 0 = f0 at *
  generalize atE xs 0 = E0 at *
  generalize xs.length = L at *
  have hN1 : N1 ≤ 4398046510976 := by omega
  have hN0 : N0 ≤ 4398046510976 := by omega
  clear hn1 hn0 hL
  go_enter Tryz.func13, Tryz.ntmps13
  go_upto_region 2 with (go_at_call 8; refine c1.mono ?_; rintro e w1 ⟨pa, pc, rfl, np, k1⟩; have H1 : Hid (Kept No w w1 ∧ Nm w1 (fun k => w.heap.size ≤ k ∧ k < w1.heap.size) pa N1 pc f1) := ⟨k1, np⟩; clear k1 np c1)
  have c2 := HQ2.out w1 H1.out.1
  go_upto_region 3 with (go_at_call 8; refine c2.mono ?_; rintro e w2 ⟨qa, qc, rfl, nq, k2⟩; have H2 : Hid (Kept No w w2 ∧ Nm w2 (fun k => w.heap.size ≤ k ∧ k < w1.heap.size) pa N1 pc f1 ∧ Nm w2 (fun k => w1.heap.size ≤ k ∧ k < w2.heap.size) qa N0 qc f0) := ⟨H1.out.1.trans k2 (fun _ h => h.elim), H1.out.2.keep k2, nq⟩; clear k2 nq c2 H1 HQ2)
  go_wp2
  go_loopw [9, 10, 11, 12, 13, 14] (fun v y z1 z2 z3 z4 wr => ∃ (k : Nat) (A : Nat → Option Addr), k ≤ 2 ∧ y = .int .i64 k ∧ Hd wr w2.heap.size (2 * k) v A (nnF N1 N0) (ffF f1 f0) ∧ Kept No w2 wr) (fun _ y _ _ _ _ _ => 2 - (intOf y).toNat)
  case atStart => exact ⟨0, fun _ => none, by omega, rfl, ⟨⟨rfl, .inl ⟨rfl, rfl⟩⟩, .inl rfl, ⟨fun i hi => by omega, fun i j hi => by omega, fun i hi => by omega⟩⟩, Kept.refl _ _⟩
  case round =>
    obtain ⟨k, A, hk, rfl, hh, hkr⟩ := hrel
    have HW : Hid (Hd wr w2.heap.size (2 * k) u9 A (nnF N1 N0) (ffF f1 f0) ∧ Kept No w2 wr) := ⟨hh, hkr⟩
    clear hh hkr
    by_cases hlt : k < 2
    · have hltz : (k : Int) < 2 := by omega
      have r1 := HR1.out wr (H2.out.1.trans HW.out.2 (fun _ h => h.elim))
      go_wp2_with (first
        | (go_at_call 7; refine r1.mono ?_; rintro e wa ⟨ra, rfl, rr, ka⟩; have HA : Hid (Rw9 wa wr.heap.size ra N1 f1 ∧ Kept No wr wa) := ⟨rr, ka⟩; clear rr ka r1; have r0 := HR0.out wa ((H2.out.1.trans HW.out.2 (fun _ h => h.elim)).trans HA.out.2 (fun _ h => h.elim)))
        | (go_at_call 7; refine r0.mono ?_; rintro e wb ⟨rb, rfl, rr, kb⟩; have HB : Hid (Rw9 wb wa.heap.size rb N0 f0 ∧ Kept No wa wb) := ⟨rr, kb⟩; clear rr kb r0)
        | (at_builtin; refine wpList_append_own _ rfl _ _ 59 rfl w2.heap.size 29 i0 (.slice none 0 0) 1 24 Tryz.underlying59 hi hz0 hz1 hz2 rfl (by decide) u9 (2 * k) (lsL A (nnF N1 N0) (2 * k)) rfl (((HA.out.2.trans HB.out.2 (fun _ h => h.elim)).owns HW.out.1.row (fun _ _ h => h)).alloc _) ⟨wb.heap.size, 0, none⟩ 2 2 [.slice ra N1 N1, .slice rb N0 N0] rfl rfl (by
              intro j u hj
              have hb := World.alloc_heap_new wb (.cells #[.slice ra N1 N1, .slice rb N0 N0] 29)
              have hlt : j < 2 := (List.getElem?_eq_some_iff.1 hj).1
              rw [add_none, Nat.zero_add]
              simp only [World.cell?, hb]
              rcases j with _ | _ | j
              all_goals first | exact hj | (simp at hj ⊢; exact hj) | omega) (by intro u hu; simp at hu; rcases hu with rfl | rfl <;> rfl) (by unfold maxLen; omega) (by omega) (by have := HW.out.2.size; have := HA.out.2.size; have := HB.out.2.size; rw [World.size_alloc]; omega) ?_; intro v9 w10 own10 grow10 _))
      have HN : Hid (Hd w10 w2.heap.size (2 * (k + 1)) v9 (two A (2 * k) ra rb) (nnF N1 N0) (ffF f1 f0) ∧ Kept No w2 w10) := by
        have n0 : nnF N1 N0 (2 * k) = N1 := by unfold nnF; rw [if_pos (by omega)]
        have n1 : nnF N1 N0 (2 * k + 1) = N0 := by unfold nnF; rw [if_neg (by omega)]
        have g0 : ffF f1 f0 (2 * k) = f1 := by unfold ffF; rw [if_pos (by omega)]
        have g1 : ffF f1 f0 (2 * k + 1) = f0 := by unfold ffF; rw [if_neg (by omega)]
        have kab := HA.out.2.trans HB.out.2 (fun _ h => h.elim)
        have kg : Kept (fun j => u9.ownBlock = some j) wb w10 := ((Kept.refl _ wb).alloc _).grown grow10 (fun j e => .inl e)
        have hsz := HW.out.2.size
        have hd0 : Hd wb w2.heap.size (2 * k) u9 A (nnF N1 N0) (ffF f1 f0) := ⟨kab.owns HW.out.1.row (fun _ _ h => h), HW.out.1.pos, HW.out.1.sh.keep kab⟩
        refine ⟨hd0.add (m := 2 * k) (lo := wr.heap.size) ?_ hsz ?_ ?_ ?_ ?_ ?_ ?_ kg, (HW.out.2.trans kab (fun _ h => h.elim)).trans kg (fun j e => .inr (HW.out.1.row.lt j e).1)⟩
        · intro i hi hn b hb
          obtain ⟨g, e, _, h2, _⟩ := HW.out.1.sh.rv i hi hn
          rw [hb] at e; injection e with e; injection e with e _ _; rw [e]; exact h2
        · rw [n0, g0]; exact HA.out.1.keep HB.out.2
        · rw [n1, g1]
          have := HB.out.1
          refine ⟨?_, this.max⟩
          rcases this.sh with h0 | ⟨g, e, h1, r⟩
          · exact .inl h0
          · exact .inr ⟨g, e, by have := HA.out.2.size; omega, r⟩
        · rw [n0, n1]
          intro hn b hb hn2 hb2
          obtain ⟨g, e, _, h2, _⟩ := Rv.of HA.out.1 hn
          obtain ⟨g2, e2, h3, _⟩ := Rv.of HB.out.1 hn2
          rw [hb] at e; injection e with e; injection e with e _ _
          rw [hb2] at e2; injection e2 with e2; injection e2 with e2 _ _
          omega
        · rw [n0]; exact HA.out.1.ad
        · rw [n1]; exact HB.out.1.ad
        · rw [n0, n1]; exact own10
      clear own10 grow10 HA HB HW
      go_roundw
      case rel => exact ⟨k + 1, _, by omega, by go_num, HN.out⟩
      case measure => simp [intOf]; omega
    · obtain rfl : k = 2 := by omega
      rcases owns_cells HW.out.1.row with ⟨_, h0⟩ | ⟨g, cap, rfl, hB, hgl, hc1, hc2, hcs, _⟩
      · omega
      have HL : Hid (Ln wr g w2.heap.size 4 A (nnF N1 N0) (ffF f1 f0) ∧ Kept No w2 wr ∧ w2.heap.size ≤ g) := ⟨⟨fun i hi => hcs i _ (lsL_get A _ hi), HW.out.1.sh, hgl⟩, HW.out.2, hB⟩
      clear HW hB hgl hcs hk HR1 HR0
      have hcm : cap ≤ 9223372036854775807 := hc2
      clear hc2
      generalize wr = w3 at *
      rw [show (2 * 2 : Nat) = 4 from rfl, show ((2 : Nat) : Int) = 2 from rfl]
      have HQ : Hid (Nm w3 (fun k => w.heap.size ≤ k ∧ k < w1.heap.size) pa N1 pc f1 ∧ Nm w3 (fun k => w1.heap.size ≤ k ∧ k < w2.heap.size) qa N0 qc f0) := ⟨H2.out.2.1.keep HL.out.2.1, H2.out.2.2.keep HL.out.2.1⟩
      have HM1 : Hid (∀ i, i < 4 → i % 2 = 0 → ∀ W, Kept No w3 W → W.cell? ⟨g, i, none⟩ = some (.slice (A i) N1 N1) ∧ Calls Tryz.prog 9 #[.slice (A i) N1 N1, .slice pa N1 pc] W fun e w' => e = .returned (.bool true) ∧ Kept No W w') := fun i hi h2 W k => by
        have n0 : nnF N1 N0 i = N1 := by unfold nnF; rw [if_pos h2]
        have g0 : ffF f1 f0 i = f1 := by unfold ffF; rw [if_pos h2]
        have hc := HL.out.1.cells i hi
        have hr := HL.out.1.sh.rv i hi
        rw [n0] at hc hr
        rw [g0] at hr
        exact ⟨k.cell hc (fun h => h), sameI_yes W ((hr.keep k).nm (by omega)) (HQ.out.1.keep k)⟩
      have HM0 : Hid (∀ i, i < 4 → i % 2 = 1 → ∀ W, Kept No w3 W → W.cell? ⟨g, i, none⟩ = some (.slice (A i) N0 N0) ∧ Calls Tryz.prog 9 #[.slice (A i) N0 N0, .slice qa N0 qc] W fun e w' => e = .returned (.bool true) ∧ Kept No W w') := fun i hi h2 W k => by
        have n0 : nnF N1 N0 i = N0 := by unfold nnF; rw [if_neg (by omega)]
        have g0 : ffF f1 f0 i = f0 := by unfold ffF; rw [if_neg (by omega)]
        have hc := HL.out.1.cells i hi
        have hr := HL.out.1.sh.rv i hi
        rw [n0] at hc hr
        rw [g0] at hr
        exact ⟨k.cell hc (fun h => h), sameI_yes W ((hr.keep k).nm (by omega)) (HQ.out.2.keep k)⟩
      go_wp2
      go_loopw [15] (fun x wr => ∃ k : Nat, k ≤ 4 ∧ x = .int .i64 k ∧ Kept No w3 wr) (fun x _ => 4 - (intOf x).toNat)
      case atStart => exact ⟨0, by omega, rfl, Kept.refl _ _⟩
      case round =>
        obtain ⟨k, hk, rfl, hkr⟩ := hrel
        have HK : Hid (Kept No w3 wr) := hkr
        clear hkr
        have hks : (k = 0 ∨ k = 2) ∨ (k = 1 ∨ k = 3) ∨ k = 4 := by omega
        rcases hks with hks | hks | rfl
        · obtain ⟨cl, sm⟩ := HM1.out k (by omega) (by omega) wr HK.out
          rcases hks with rfl | rfl
          · go_wp2_with (go_at_call 9; refine sm.mono ?_; rintro e w5 ⟨rfl, k5⟩; have K5 : Hid (Kept No w3 w5) := HK.out.trans k5 (fun _ h => h.elim); clear k5 sm)
            go_roundw
            case rel => exact ⟨1, by omega, rfl, K5.out⟩
            case measure => simp [intOf]
          · go_wp2_with (go_at_call 9; refine sm.mono ?_; rintro e w5 ⟨rfl, k5⟩; have K5 : Hid (Kept No w3 w5) := HK.out.trans k5 (fun _ h => h.elim); clear k5 sm)
            go_roundw
            case rel => exact ⟨3, by omega, rfl, K5.out⟩
            case measure => simp [intOf]
        · obtain ⟨cl, sm⟩ := HM0.out k (by omega) (by omega) wr HK.out
          rcases hks with rfl | rfl
          · go_wp2_with (go_at_call 9; refine sm.mono ?_; rintro e w5 ⟨rfl, k5⟩; have K5 : Hid (Kept No w3 w5) := HK.out.trans k5 (fun _ h => h.elim); clear k5 sm)
            go_roundw
            case rel => exact ⟨2, by omega, rfl, K5.out⟩
            case measure => simp [intOf]
          · go_wp2_with (go_at_call 9; refine sm.mono ?_; rintro e w5 ⟨rfl, k5⟩; have K5 : Hid (Kept No w3 w5) := HK.out.trans k5 (fun _ h => h.elim); clear k5 sm)
            go_roundw
            case rel => exact ⟨4, by omega, rfl, K5.out⟩
            case measure => simp [intOf]
        · have HL4 : Hid (Ln wr g w2.heap.size 4 A (nnF N1 N0) (ffF f1 f0) ∧ Kept No w wr ∧ w2.heap.size ≤ g ∧ w.heap.size ≤ w2.heap.size) := ⟨HL.out.1.keep HK.out, (H2.out.1.trans HL.out.2.1 (fun _ h => h.elim)).trans HK.out (fun _ h => h.elim), HL.out.2.2, H2.out.1.size⟩
          have HNN : Hid (∀ i, nnF N1 N0 i ≤ 4398046510976) := fun i => by unfold nnF; split <;> omega
          clear HL HK HM1 HM0 HQ H2 hk
          generalize nnF N1 N0 = nn at *
          generalize ffF f1 f0 = ff at *
          generalize wr = w4 at *
          go_wp2
          rw [show ((4 : Nat) : Int) = 4 from rfl]
          go_loopw [16, 17] (fun x y wr => ∃ k : Nat, k ≤ 4 ∧ x = .int .i64 k ∧ Ln wr g w2.heap.size 4 A nn (fun j q => if j < k then -1 - (j : Int) else ff j q) ∧ Kept No w wr) (fun x _ _ => 4 - (intOf x).toNat)
          case atStart => exact ⟨0, by omega, rfl, HL4.out.1.ext (fun i hi q hq => by simp), HL4.out.2.1⟩
          case round =>
            obtain ⟨k, hk, rfl, hln, hkr⟩ := hrel
            have HK : Hid (Ln wr g w2.heap.size 4 A nn (fun j q => if j < k then -1 - (j : Int) else ff j q) ∧ Kept No w wr) := ⟨hln, hkr⟩
            clear hln hkr
            by_cases hlt4 : k < 4
            · have hlz : (k : Int) < 4 := by omega
              have cl := HK.out.1.cells k hlt4
              have hnk := HNN.out k
              have HE : Hid (k ≤ 4 ∧ w.heap.size ≤ w2.heap.size) := ⟨hk, HL4.out.2.2.2⟩
              generalize wr = wo at *
              obtain ⟨n, hn⟩ : ∃ n : Nat, nn k = n := ⟨_, rfl⟩
              rw [hn] at cl hnk
              go_wp2
              go_loopw [17] (fun y wr => ∃ q : Nat, q ≤ n ∧ y = .int .i64 q ∧ Ln wr g w2.heap.size 4 A nn (fun j p => if j < k ∨ (j = k ∧ p < q) then -1 - (j : Int) else ff j p) ∧ Kept No w wr) (fun y _ => n - (intOf y).toNat)
              case atStart => exact ⟨0, Nat.zero_le _, rfl, HK.out.1.ext (fun i hi q hq => by simp), HK.out.2⟩
              case round =>
                obtain ⟨q, hq, rfl, hln, hkr⟩ := hrel
                have cl' := hln.cells k hlt4
                rw [hn] at cl'
                by_cases hqn : q < n
                · have hqz : (q : Int) < (n : Int) := by omega
                  obtain ⟨b, hb, _, hbl, hcs, hfz⟩ := hln.sh.rv k hlt4 (by rw [hn]; omega)
                  have c0 := hcs q (by rw [hn]; exact hqn)
                  have z0 := hfz q
                  obtain ⟨l1, k1⟩ := hln.set (k := q) hlt4 (by rw [hn]; exact hqn) hb (-1 - (k : Int))
                  have HX : Hid (Ln (wr.setCell ⟨b, q, none⟩ (.int .i64 (-1 - (k : Int)))) g w2.heap.size 4 A nn (fun j p => if j < k ∨ (j = k ∧ p < q + 1) then -1 - (j : Int) else ff j p) ∧ Kept No w (wr.setCell ⟨b, q, none⟩ (.int .i64 (-1 - (k : Int))))) := by
                    refine ⟨l1.ext (fun i hi p hp => ?_), hkr.trans k1 (fun j e => .inr (by have := HE.out.2; omega))⟩
                    by_cases e1 : i = k
                    · subst e1
                      by_cases e2 : p = q
                      · subst e2; simp
                      · have : (p < q + 1) ↔ p < q := by omega
                        simp [e2, this]
                    · simp [e1]
                  rw [hb] at cl'
                  clear hln hkr l1 k1 hcs hfz hbl hb
                  generalize (if k < k ∨ (k = k ∧ q < q) then -1 - (k : Int) else ff k q) = old at *
                  go_wp2
                  go_roundw
                  case rel => exact ⟨q + 1, by omega, by go_num, HX.out⟩
                  case measure => simp [intOf]; omega
                · have hqz : ¬ (q : Int) < (n : Int) := by omega
                  have HX : Hid (Ln wr g w2.heap.size 4 A nn (fun j p => if j < k + 1 then -1 - (j : Int) else ff j p) ∧ Kept No w wr) := by
                    refine ⟨hln.ext (fun i hi p hp => ?_), hkr⟩
                    by_cases e1 : i = k
                    · subst e1
                      rw [hn] at hp
                      have : p < q := by omega
                      simp [this]
                    · have : (i < k + 1) ↔ i < k := by omega
                      simp [e1, this]
                  clear hln hkr
                  go_wp2
                  go_roundw
                  case rel => exact ⟨k + 1, by omega, by go_num, HX.out⟩
                  case measure => simp [intOf]; omega
            · obtain rfl : k = 4 := by omega
              have HL5 : Hid (Ln wr g w2.heap.size 4 A nn (fun j q => -1 - (j : Int)) ∧ Kept No w wr) := ⟨HK.out.1.ext (fun i hi q hq => if_pos hi), HK.out.2⟩
              clear HK HL4 hk
              generalize wr = w5 at *
              rw [show ((4 : Nat) : Int) = 4 from rfl]
              go_wp2
              go_loopw [18, 19, 20, 21] (fun x y z z2 wr => ∃ (k : Nat) (T : Int), k ≤ 4 ∧ x = .int .i64 T ∧ 64 * (k : Int) ≤ T ∧ T ≤ 4398046511040 * k ∧ y = .int .i64 k ∧ Kept No w5 wr) (fun _ y _ _ _ => 4 - (intOf y).toNat)
              case atStart => exact ⟨0, 0, by omega, rfl, by omega, by omega, rfl, Kept.refl _ _⟩
              case round =>
                obtain ⟨k, T, hk, rfl, hT1, hT2, rfl, hkr⟩ := hrel
                have HK : Hid (Ln wr g w2.heap.size 4 A nn (fun j q => -1 - (j : Int)) ∧ Kept No w5 wr) := ⟨HL5.out.1.keep hkr, hkr⟩
                clear hkr
                by_cases hlt4 : k < 4
                · have hlz : (k : Int) < 4 := by omega
                  have cl := HK.out.1.cells k hlt4
                  have hnk := HNN.out k
                  have HV : Hid (Rv wr w2.heap.size (A k) (nn k) (fun q => -1 - (k : Int)) ∧ ((A k = none ∧ nn k = 0) ∨ ∃ g, A k = some ⟨g, 0, none⟩)) := ⟨HK.out.1.sh.rv k hlt4, HK.out.1.sh.ad k hlt4⟩
                  generalize wr = wo at *
                  generalize nn k = n at *
                  generalize A k = ak at *
                  go_wp2
                  go_loopw [20, 21] (fun z y wr => ∃ q : Nat, q ≤ 64 ∧ y = .int .i64 q ∧ ((q = 0 ∧ z = .slice ak n n) ∨ (0 < q ∧ ∃ ys bs, wo.heap.size ≤ bs ∧ bs ≤ wr.heap.size ∧ wr.ownsRow bs 3 1 z (n + q) ys)) ∧ Kept No wo wr) (fun _ y _ => 64 - (intOf y).toNat)
                  case atStart => exact ⟨0, Nat.zero_le _, rfl, .inl ⟨rfl, rfl⟩, Kept.refl _ _⟩
                  case round =>
                    obtain ⟨q, hq, rfl, hz, hkr⟩ := hrel
                    by_cases hq64 : q < 64
                    · have hqz : (q : Int) < 64 := by omega
                      rcases hz with ⟨rfl, rfl⟩ | ⟨hq0, ys, bs, hb1, hb2, hown⟩
                      · have HY : Hid (Kept No wo wr) := hkr
                        clear hkr
                        go_wp2_with (at_builtin; refine wpList_append_grows _ rfl _ _ 29 rfl 3 j0 (.int .i64 0) 1 8 Tryz.underlying29 hj hy0 hy1 hy2 rfl (by decide) ak n n ((List.range n).map (fun _ => .int .i64 (-1 - (k : Int)))) rfl (fun e => by
                              rcases HV.out.2 with ⟨_, h0⟩ | ⟨b, h0⟩
                              · exact ⟨h0, h0⟩
                              · rw [e] at h0; cases h0) (by simp) (fun b hb j u hj => by
                              have hjn : j < n := by have := (List.getElem?_eq_some_iff.1 hj).1; simpa using this
                              obtain ⟨b', e', _, _, h3, _⟩ := HV.out.1 (by omega)
                              rw [hb] at e'
                              injection e' with e'
                              subst e'
                              simp [hjn] at hj
                              subst hj
                              rw [add_none, Nat.zero_add]
                              exact ((HY.out).alloc _).cell (h3 j hjn) (fun h => h)) ⟨wr.heap.size, 0, none⟩ 1 1 [.int .i64 (100 + (k : Int))] rfl rfl (cell_one_new _ _ _) (one_one _ _) (by omega) (by unfold maxLen; omega) (by omega) ?_; intro v1 w6 own1 grow1)
                        have HN : Hid (∃ ys bs, wo.heap.size ≤ bs ∧ bs ≤ w6.heap.size ∧ w6.ownsRow bs 3 1 v1 (n + 1) ys) := ⟨_, _, by have := HY.out.size; simp; omega, ((Kept.refl No _).grown grow1 (fun j e => by cases e)).size, own1⟩
                        have HM : Hid (Kept No wo w6) := (HY.out.alloc _).grown grow1 (fun j e => by cases e)
                        clear own1 grow1
                        go_wp2
                        go_roundw
                        case rel => exact ⟨1, by omega, rfl, .inr ⟨by omega, HN.out⟩, HM.out⟩
                        case measure => simp [intOf]
                      · have HY : Hid (Kept No wo wr ∧ wr.ownsRow bs 3 1 u20 (n + q) ys) := ⟨hkr, hown⟩
                        clear hkr hown
                        go_wp2_with (at_builtin; refine wpList_append_own _ rfl _ _ 29 rfl bs 3 j0 (.int .i64 0) 1 8 Tryz.underlying29 hj hy0 hy1 hy2 rfl (by decide) u20 (n + q) ys rfl (HY.out.2.alloc _) ⟨wr.heap.size, 0, none⟩ 1 1 [.int .i64 (100 + (k : Int))] rfl rfl (cell_one_new _ _ _) (one_one _ _) (by unfold maxLen; omega) (by omega) (by simp; omega) ?_; intro v1 w6 own1 grow1 _)
                        have HN : Hid (∃ ys bs, wo.heap.size ≤ bs ∧ bs ≤ w6.heap.size ∧ w6.ownsRow bs 3 1 v1 (n + (q + 1)) ys) := ⟨_, bs, hb1, by have := ((Kept.refl (fun _ => True) (wr.alloc _)).grown grow1 (fun j e => .inl trivial)).size; simp at this; omega, own1⟩
                        have HM : Hid (Kept No wo w6) := (HY.out.1.alloc _).grown grow1 (fun j e => .inr (by have := (HY.out.2.lt j e).1; omega))
                        clear own1 grow1
                        go_wp2
                        go_roundw
                        case rel => exact ⟨q + 1, by omega, by go_num, .inr ⟨by omega, HN.out⟩, HM.out⟩
                        case measure => simp [intOf]; omega
                    · obtain rfl : q = 64 := by omega
                      rcases hz with ⟨h0, _⟩ | ⟨_, ys, bs, _, _, hown⟩
                      · omega
                      rcases owns_cells hown with ⟨_, h0⟩ | ⟨gg, cc, rfl, _, _, hg1, hg2, _, _⟩
                      · omega
                      have hg3 : cc ≤ 9223372036854775807 := hg2
                      have HX : Hid (Kept No w5 wr) := HK.out.2.trans hkr (fun _ h => h.elim)
                      clear hown hkr HK hg2
                      rw [show ((64 : Nat) : Int) = 64 from rfl]
                      go_wp2
                      go_roundw
                      case rel => exact ⟨k + 1, T + ((n : Int) + 64), by omega, by go_num, by omega, by omega, by go_num, HX.out⟩
                      case measure => simp [intOf]; omega
                · obtain rfl : k = 4 := by omega
                  have HL6 : Hid (Ln wr g w2.heap.size 4 A nn (fun j q => -1 - (j : Int)) ∧ Kept No w wr) := ⟨HK.out.1, HL5.out.2.trans HK.out.2 (fun _ h => h.elim)⟩
                  clear HK HL5 hk
                  generalize wr = w6 at *
                  rw [show ((4 : Nat) : Int) = 4 from rfl]
                  have hT3 : (256 : Int) ≤ T := by omega
                  have hT4 : T ≤ 17592186044160 := by omega
                  clear hT1 hT2
                  go_wp2
                  go_loopw [22, 23] (fun x y wr => ∃ k : Nat, k ≤ 4 ∧ x = .int .i64 k ∧ Kept No w6 wr) (fun x _ _ => 4 - (intOf x).toNat)
                  case atStart => exact ⟨0, by omega, rfl, Kept.refl _ _⟩
                  case round =>
                    obtain ⟨k, hk, rfl, hkr⟩ := hrel
                    have HK : Hid (Kept No w6 wr) := hkr
                    clear hkr
                    by_cases hlt4 : k < 4
                    · have hlz : (k : Int) < 4 := by omega
                      have cl := (HL6.out.1.keep HK.out).cells k hlt4
                      have hnk := HNN.out k
                      have HV : Hid (Rv w6 w2.heap.size (A k) (nn k) (fun q => -1 - (k : Int)) ∧ w6.cell? ⟨g, k, none⟩ = some (.slice (A k) (nn k) (nn k))) := ⟨HL6.out.1.sh.rv k hlt4, HL6.out.1.cells k hlt4⟩
                      generalize wr = wo at *
                      generalize nn k = n at *
                      generalize A k = ak at *
                      go_wp2
                      go_loopw [23] (fun y wr => ∃ q : Nat, q ≤ n ∧ y = .int .i64 q ∧ Kept No w6 wr) (fun y _ => n - (intOf y).toNat)
                      case atStart => exact ⟨0, Nat.zero_le _, rfl, HK.out⟩
                      case round =>
                        obtain ⟨q, hq, rfl, hkr⟩ := hrel
                        have HK2 : Hid (Kept No w6 wr) := hkr
                        have cl' := hkr.cell HV.out.2 (fun h => h)
                        clear hkr
                        by_cases hqn : q < n
                        · have hqz : (q : Int) < (n : Int) := by omega
                          obtain ⟨b, rfl, _, _, hcs, _⟩ := HV.out.1 (by omega)
                          have c0 := HK2.out.cell (hcs q hqn) (fun h => h)
                          clear hcs
                          go_wp2
                          go_roundw
                          case rel => exact ⟨q + 1, by omega, by go_num, HK2.out⟩
                          case measure => simp [intOf]; omega
                        · have hqz : ¬ (q : Int) < (n : Int) := by omega
                          go_wp2
                          go_roundw
                          case rel => exact ⟨k + 1, by omega, by go_num, HK2.out⟩
                          case measure => simp [intOf]; omega
                    · obtain rfl : k = 4 := by omega
                      rw [show ((4 : Nat) : Int) = 4 from rfl]
                      go_wp2
                      go_ret
                      exact ⟨rfl, HL6.out.2.trans HK.out (fun _ h => h.elim)⟩
end Go.Proofs.YtahhkkkgaoekcaaGreatDoor

namespace Go.Proofs.YtahhkkkgaoekcaaGreatDoor
open Go.RowKit Plain
set_option linter.unusedVariables false
set_option linter.unusedSimpArgs false
set_option maxRecDepth 100000

set_option maxHeartbeats 16000000 in
theorem ticks_any {F : Nat → Prop} {a : Option Addr} {c : Nat} {xs : List Srv} (t : Int) (w : World) (hg : Gl w) (h : Sv w F a xs.length c xs) (hF : ∀ k, F k → k < w.heap.size) (hn : xs.length * 32 ≤ 140737488351232) :
    Calls Tryz.prog 3 #[.slice a xs.length c, .int .i64 t] w fun e w' => e = .returned (.bool true) ∧ Below w.heap.size w w' := by
  have HS : Hid (Gl w ∧ Sv w F a xs.length c xs ∧ (∀ k, F k → k < w.heap.size) ∧ xs.length * 32 ≤ 140737488351232) := ⟨hg, h, hF, hn⟩
  have c0 := marked_any w h hn
  clear hg h hF hn
  go_enter Tryz.func3, Tryz.ntmps3
  go_upto_region 2 with (go_at_call 4; refine c0.mono ?_; rintro e w1 ⟨g, cm, rfl, g1, g2, mk, k1⟩; have H1 : Hid (w.heap.size ≤ g ∧ g < w1.heap.size ∧ Mk w1 g xs.length cm xs ∧ Kept No w w1) := ⟨g1, g2, mk, k1⟩; clear g1 g2 mk k1 c0)
  have HG : Hid (∀ W, Kept No w1 W → Gl W ∧ Sv W (fun k => k = g) (some ⟨g, 0, none⟩) xs.length cm xs ∧ (∀ k, k = g → k < W.heap.size) ∧ Mk W g xs.length cm xs ∧ Sv W F a xs.length c xs ∧ (∀ k, F k → k < W.heap.size) ∧ Kept No w W) := fun W k => by
    have kw := H1.out.2.2.2.trans k (fun _ h => h.elim)
    have mk := H1.out.2.2.1.kept k (fun h => h)
    exact ⟨HS.out.1.kept kw, mk.sv, fun j e => by rw [e]; exact Nat.lt_of_lt_of_le H1.out.2.1 k.size, mk, HS.out.2.1.keep kw, fun j e => Nat.lt_of_lt_of_le (HS.out.2.2.1 j e) kw.size, kw⟩
  have c1 := at_all t w1 (HG.out w1 (Kept.refl _ _)).1 (HG.out w1 (Kept.refl _ _)).2.1 (HG.out w1 (Kept.refl _ _)).2.2.1
  go_upto_region 3 with (go_at_call 5; refine c1.mono ?_; rintro e w2 ⟨rfl, k2⟩; have K2 : Hid (Kept No w1 w2) := k2; clear k2 c1)
  have c2 := refAt_any t w2 (HG.out w2 K2.out).2.2.2.2.1 (HG.out w2 K2.out).2.2.2.2.2.1
  go_upto_region 4 with (go_at_call 6; refine c2.mono ?_; rintro e w3 ⟨rfl, k3⟩; have K3 : Hid (Kept No w1 w3) := K2.out.trans k3 (fun _ h => h.elim); clear k3 c2 K2)
  go_upto_region 6 with fail
  have c3 := rests_all t w3 (HG.out w3 K3.out).1 (HG.out w3 K3.out).2.1 (HG.out w3 K3.out).2.2.1
  go_upto_region 7 with (go_at_call 7; refine c3.mono ?_; rintro e w4 ⟨la, rfl, rl, k4⟩; have K4 : Hid (Rw9 w4 w3.heap.size la (rsN xs t) (rsV xs t) ∧ Kept No w1 w4 ∧ w1.heap.size ≤ w3.heap.size) := ⟨rl, K3.out.trans k4 (fun _ h => h.elim), K3.out.size⟩; clear k4 rl c3)
  have c4 := refRests_any t w4 (HG.out w4 K4.out.2.1).2.2.2.2.1 (HG.out w4 K4.out.2.1).2.2.2.2.2.1
  go_upto_region 8 with (go_at_call 8; refine c4.mono ?_; rintro e w5 ⟨ma, mc, rfl, nm, k5⟩; have K5 : Hid (Rw9 w5 w3.heap.size la (rsN xs t) (rsV xs t) ∧ (∀ b, Bk9 la b → b < w4.heap.size) ∧ Nm w5 (fun k => w4.heap.size ≤ k ∧ k < w5.heap.size) ma (rsN xs t) mc (rsV xs t) ∧ Kept No w1 w5 ∧ w1.heap.size ≤ w3.heap.size) := ⟨K4.out.1.keep k5, (fun b hb => by
      rcases K4.out.1.sh with ⟨h0, _⟩ | ⟨g', e', _, h2, _⟩
      · rw [h0] at hb; cases hb
      · rw [hb] at e'; injection e' with e'; injection e' with e' _ _; rw [e']; exact h2), nm, K4.out.2.1.trans k5 (fun _ h => h.elim), K4.out.2.2⟩; clear k5 nm c4)
  clear K3 K4
  have HR : Hid (∀ W, Kept No w1 W → Calls Tryz.prog 7 #[.slice (some ⟨g, 0, none⟩) xs.length cm, .int .i64 t] W fun e w' => ∃ ra, e = .returned (.tuple #[.slice ra (rsN xs t) (rsN xs t), .int .i64 (atE xs t)]) ∧ Rw9 w' W.heap.size ra (rsN xs t) (rsV xs t) ∧ Kept No W w') := fun W k => rests_all t W (HG.out W k).1 (HG.out W k).2.1 (HG.out W k).2.2.1
  have HLF : Hid (∀ W, Kept No w1 W → Calls Tryz.prog 10 #[.slice (some ⟨g, 0, none⟩) xs.length cm, .slice a xs.length c] W fun e w' => e = .returned (.bool true) ∧ Kept No W w') := fun W k => left_any W (HG.out W k).2.2.2.2.1 (HG.out W k).2.2.2.1
  have HFW : Hid (∀ W, Kept No w1 W → Calls Tryz.prog 12 #[.slice a xs.length c] W fun e w' => ∃ (ys : List Srv) (ya : Option Addr) (yc : Nat), e = .returned (.slice ya ys.length yc) ∧ (∀ W', Kept No w' W' → Calls Tryz.prog 11 #[.slice ya ys.length yc, .int .i64 t] W' fun e w' => e = .returned (.bool true) ∧ Kept No W' w') ∧ (∀ W', Kept No w' W' → Calls Tryz.prog 13 #[.slice ya ys.length yc, .int .i64 t] W' fun e w' => e = .returned (.bool true) ∧ Kept No W' w') ∧ Kept No W w') := fun W k => (few_any W (HG.out W k).2.2.2.2.1).mono (by
      rintro e w' ⟨ys, ya, yc, rfl, hl, hs, hk⟩
      have gl := (HG.out W k).1.kept hk
      have hF := (HG.out W k).2.2.2.2.2.1
      have hn := HS.out.2.2.2
      have hn2 : ys.length * 32 ≤ 140737488351232 := by omega
      exact ⟨ys, ya, yc, rfl, fun W' k' => placed_any t W' (gl.kept k') (hs.keep k') (fun j e => Nat.lt_of_lt_of_le (hF j e) (Nat.le_trans hk.size k'.size)) hn2, fun W' k' => held_any t W' (gl.kept k') (hs.keep k') (fun j e => Nat.lt_of_lt_of_le (hF j e) (Nat.le_trans hk.size k'.size)) hn2, hk⟩)
  have HKW : Hid (Kept No w w1) := H1.out.2.2.2
  clear H1 HS HG
  have HMX : Hid (rsN xs t ≤ 9223372036854775807) := K5.out.1.max
  generalize rsN xs t = N at *
  generalize rsV xs t = f at *
  generalize atE xs t = E at *
  generalize atV xs t = V at *
  generalize xs.length = n at *
  have s1 := sameI_yes w5 K5.out.1.nm K5.out.2.2.1
  go_upto_region 10 with (first
    | (go_at_call 9; refine s1.mono ?_; rintro e w6 ⟨rfl, k6⟩; have K6 : Hid (Kept No w5 w6) := k6; clear k6 s1; have l1 := HLF.out w6 (K5.out.2.2.2.1.trans K6.out (fun _ h => h.elim)))
    | (go_at_call 10; refine l1.mono ?_; rintro e w7 ⟨rfl, k7⟩; have K7 : Hid (Kept No w5 w7) := K6.out.trans k7 (fun _ h => h.elim); clear k7 l1 K6))
  have K8 : Hid (Rw9 w7 w3.heap.size la N f ∧ (∀ b, Bk9 la b → b < w4.heap.size) ∧ Nm w7 (fun k => w4.heap.size ≤ k ∧ k < w5.heap.size) ma N mc f ∧ Kept No w1 w7 ∧ w1.heap.size ≤ w3.heap.size) := ⟨K5.out.1.keep K7.out, K5.out.2.1, K5.out.2.2.1.keep K7.out, K5.out.2.2.2.1.trans K7.out (fun _ h => h.elim), K5.out.2.2.2.2⟩
  clear K5 K7
  have hNm := HMX.out
  go_wp2
  go_loopw [14] (fun x wr => ∃ (k : Nat) (ff : Nat → Int), k ≤ N ∧ x = .int .i64 k ∧ Rw9 wr w3.heap.size la N ff ∧ Nm wr (fun k => w4.heap.size ≤ k ∧ k < w5.heap.size) ma N mc f ∧ Kept No w1 wr) (fun x _ => N - (intOf x).toNat)
  case atStart => exact ⟨0, f, Nat.zero_le _, rfl, K8.out.1, K8.out.2.2.1, K8.out.2.2.2.1⟩
  case round =>
    obtain ⟨k, ff, hk, rfl, hr, hm, hkr⟩ := hrel
    by_cases hlt : k < N
    · have hltz : (k : Int) < (N : Int) := by omega
      obtain ⟨b, hla, hb1, hb2, hcs, hfz⟩ : ∃ b, la = some ⟨b, 0, none⟩ ∧ w3.heap.size ≤ b ∧ b < wr.heap.size ∧ (∀ i, i < N → wr.cell? ⟨b, i, none⟩ = some (.int .i64 (ff i))) ∧ ∀ k, wr.frozen? ⟨b, k, none⟩ = false := by
        rcases hr.sh with ⟨_, h0⟩ | h1
        · omega
        · exact h1
      have hb4 := K8.out.2.1 b hla
      subst hla
      have c0 := hcs k hlt
      have z0 := hfz k
      have ks : Kept (fun j => j = b) wr (wr.setCell ⟨b, k, none⟩ (.int .i64 (-5))) := Kept.setCell (F := fun j => j = b) (p := ⟨b, k, none⟩) (Kept.refl _ wr) (.inl rfl) _
      have HX : Hid (Rw9 (wr.setCell ⟨b, k, none⟩ (.int .i64 (-5))) w3.heap.size (some ⟨b, 0, none⟩) N (fun i => if i = k then -5 else ff i) ∧ Nm (wr.setCell ⟨b, k, none⟩ (.int .i64 (-5))) (fun k => w4.heap.size ≤ k ∧ k < w5.heap.size) ma N mc f ∧ Kept No w1 (wr.setCell ⟨b, k, none⟩ (.int .i64 (-5)))) := ⟨hr.set k (-5) hlt, hm.kept ks (fun j h1 e => by omega), hkr.trans ks (fun j e => .inr (by have := K8.out.2.2.2.2; omega))⟩
      clear hr hm hkr hcs hfz ks hb1 hb2 hb4
      generalize ff k = old at *
      go_wp2
      go_roundw
      case rel => exact ⟨k + 1, _, by omega, by go_num, HX.out⟩
      case measure => simp [intOf]; omega
    · have hltz : ¬ (k : Int) < (N : Int) := by omega
      have HX : Hid (Nm wr (fun k => w4.heap.size ≤ k ∧ k < w5.heap.size) ma N mc f ∧ Kept No w1 wr) := ⟨hm, hkr⟩
      clear hr hm hkr K8
      have r1 := HR.out wr HX.out.2
      go_upto_region 15 with (go_at_call 7; refine r1.mono ?_; rintro e w9 ⟨ra, rfl, rr, k9⟩; have H9 : Hid (Nm w9 (fun k => wr.heap.size ≤ k ∧ k < w9.heap.size) ra N N f ∧ Nm w9 (fun k => w4.heap.size ≤ k ∧ k < w5.heap.size) ma N mc f ∧ Kept No w1 w9) := ⟨rr.nm, HX.out.1.keep k9, HX.out.2.trans k9 (fun _ h => h.elim)⟩; clear rr k9 r1)
      have s2 := sameI_yes w9 H9.out.1 H9.out.2.1
      go_wp2_with (first
        | (go_at_call 9; refine s2.mono ?_; rintro e wa ⟨rfl, ka⟩; have KA : Hid (Kept No w1 wa) := H9.out.2.2.trans ka (fun _ h => h.elim); clear ka s2; have l2 := HLF.out wa KA.out)
        | (go_at_call 10; refine l2.mono ?_; rintro e wb ⟨rfl, kb⟩; have KB : Hid (Kept No w1 wb) := KA.out.trans kb (fun _ h => h.elim); clear kb l2; have f1 := HFW.out wb KB.out)
        | (go_at_call 12; refine f1.mono ?_; rintro e wc ⟨ys, ya, yc, rfl, hp, _, kc⟩; have KC : Hid (Kept No w1 wc) := KB.out.trans kc (fun _ h => h.elim); clear kc f1; have p1 := hp wc (Kept.refl _ _); clear hp)
        | (go_at_call 11; refine p1.mono ?_; rintro e wd ⟨rfl, kd⟩; have KD : Hid (Kept No w1 wd) := KC.out.trans kd (fun _ h => h.elim); clear kd p1; have f2 := HFW.out wd KD.out)
        | (go_at_call 12; refine f2.mono ?_; rintro e we ⟨zs, za, zc, rfl, _, hh, ke⟩; have KE : Hid (Kept No w1 we) := KD.out.trans ke (fun _ h => h.elim); clear ke f2; have q1 := hh we (Kept.refl _ _); clear hh)
        | (go_at_call 13; refine q1.mono ?_; rintro e wf ⟨rfl, kf⟩; have KF : Hid (Kept No w1 wf) := KE.out.trans kf (fun _ h => h.elim); clear kf q1))
      go_ret
      exact ⟨rfl, (HKW.out.trans KF.out (fun _ h => h.elim)).below0⟩
end Go.Proofs.YtahhkkkgaoekcaaGreatDoor
