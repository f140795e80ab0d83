/-
  proc: Wake, Yield, Wait, Period.
-/
import Derived.Test.YtofkacfchkimiaaPDue
import Derived.Laws.AppendOwnNone
import Derived.OwnWalk
namespace Go.Proofs.Ytofkacfchkimiaa
open Go.RowKit Plain
set_option linter.unusedVariables false
set_option maxRecDepth 100000

theorem own_slice {w : World} {B : Nat} {t : TypeId} {sz : Nat} {v : Value} {n : Nat} {xs : List Value} (h : w.ownsRow B t sz v n xs) : ∃ a m c, v = .slice a m c := by
  obtain ⟨_, ⟨rfl, _⟩ | ⟨g, cap, cur, rfl, _⟩⟩ := h
  · exact ⟨_, _, _, rfl⟩
  · exact ⟨_, _, _, rfl⟩
theorem info_parts {P : Program} {t : TypeId} {z : Option Value} {s b : Nat} (h : (P.info? t).map (fun i => (i.zero, i.size, i.bytes)) = some (z, s, b)) : ∃ i, P.info? t = some i ∧ i.zero = z ∧ i.size = s ∧ i.bytes = b := by
  obtain ⟨i, hi, he⟩ := Option.map_eq_some_iff.1 h
  injection he with h1 h2
  injection h2 with h2 h3
  exact ⟨i, hi, h1, h2, h3⟩
theorem Try.infoW : (Try.prog.info? 2).map (fun i => (i.zero, i.size, i.bytes)) = some (some (.int .i64 0), 1, 8) := by kernel_rfl
theorem Zs.news {w : World} {F : Nat → Prop} {n c : Nat} {xs : List Int} {ad : Addr} (h : Zs w F (some ad) n c xs) : ∀ j u, (xs.map iv)[j]? = some u → w.cell? (ad.add j) = some u := by
  intro j u hj
  by_cases hl : j < n
  · have hl' : j < xs.length := by rw [h.len]; exact hl
    have hg : (xs.map iv)[j]? = some (iv (xs.getD j 0)) := by simp [List.getD, hl']
    rw [hg] at hj
    obtain ⟨b, o, e, _, hc⟩ := h.at' j hl
    simp only [Option.some.injEq] at e
    subst e
    rw [add_none, hc]; exact hj
  · have : (xs.map iv)[j]? = Option.none := by simp [h.len]; omega
    rw [this] at hj; cases hj
theorem iv_one (xs : List Int) : ∀ u ∈ xs.map iv, u.oneCell' = true := by
  intro u hu; rw [List.mem_map] at hu; obtain ⟨i, _, rfl⟩ := hu; rfl
/-- 'append(list, words...)' onto a list with nothing in it -/
theorem wpList_cpw {w : World} {ops : Array Oper} {rest : List Oper} {o : Oper} {a : Act} {Q : Exit → Act → World → Prop} (hgd : o.guard = none) (s x : Operand)
    (ho : o.op = .call { callee := .builtin .append, args := #[s, x], argTypes := #[32, 32] }) (B : Nat) (v : Value) (hs : a.eval s = v) (hv : w.ownsRow B 2 1 v 0 []) (hB : B ≤ w.heap.size) (xa : Option Addr) (n c : Nat) (hx : a.eval x = .slice xa n c)
    (F : Nat → Prop) (xs : List Int) (hz : Zs w F xa n c xs) (hn : n ≤ 1048576)
    (h : ∀ ya yc w', Hid (w'.ownsRow B 2 1 (.slice ya n yc) n (xs.map iv)) → Hid (Kept (fun k => v.ownBlock = some k) w w') → wpList Try.prog ops Q rest (a.put o.dst (.slice ya n yc)) w') : wpList Try.prog ops Q (o :: rest) a w := by
  obtain ⟨i0, hi, hz0, hz1, hz2⟩ := info_parts Try.infoW
  cases xa with
  | none =>
    have hc0 := hz.nil rfl
    have hn0 : n = 0 := by have := hz.cap; omega
    have hx0 : xs = [] := List.eq_nil_of_length_eq_zero (by rw [hz.len]; exact hn0)
    subst hc0 hn0 hx0
    obtain ⟨va, vn, vc, rfl⟩ := own_slice hv
    have hvn : vn = 0 := by
      rcases owns_cells hv with ⟨h1, _⟩ | ⟨g, cap, h1, _⟩
      · injection h1
      · injection h1
    subst hvn
    refine wpList_append_own_none hgd s x 32 ho B 2 i0 1 Try.underlying32 hi _ _ _ hs hv hx ?_
    exact h va vc w hv (Kept.refl _ _)
  | some ad =>
    refine wpList_append_own _ hgd s x 32 ho B 2 i0 (.int .i64 0) 1 8 Try.underlying32 hi hz0 hz1 hz2 rfl (by decide) _ 0 [] hs hv ad n c (xs.map iv) hx (by rw [List.length_map, hz.len]; omega) hz.news (iv_one _) (by unfold maxLen; omega) (by omega) hB ?_
    intro v1 w1 own1 grow1 _
    rw [Nat.zero_add, List.nil_append] at own1
    obtain ⟨ya, yn, yc, rfl⟩ := own_slice own1
    have hyn : yn = n := by
      rcases owns_cells own1 with ⟨h1, h2⟩ | ⟨g, cap, h1, _⟩
      · injection h1 with _ h3 _; omega
      · injection h1
    subst hyn
    exact h ya yc w1 own1 ((Kept.refl (fun k => v.ownBlock = some k) w).grown grow1 (fun k e => .inl e))
theorem Zs.owned {w : World} {B n : Nat} {a : Option Addr} {c : Nat} {xs : List Int} (h : w.ownsRow B 2 1 (.slice a n c) n (xs.map iv)) (hl : xs.length = n) : Zs w (fun k => (Value.slice a n c).ownBlock = some k) a n c xs := by
  subst hl
  obtain ⟨a', c', hv, hz⟩ := Zs.of_owns h
  injection hv with q1 q2 q3
  subst q1 q3
  exact hz
theorem own_at {w : World} {B e : Nat} {v : Value} {n : Nat} {xs : List Value} (h : w.ownsRow B e 1 v n xs) : ∀ k, v.ownBlock = some k → B ≤ k ∧ k < w.heap.size := by
  intro k hk
  rcases owns_cells h with ⟨rfl, _⟩ | ⟨g, cap, rfl, hg, hg2, _⟩
  · cases hk
  · injection hk with hk; subst hk; exact ⟨hg, hg2⟩
theorem words_any {F : Nat → Prop} {a : Option Addr} {n c : Nat} {xs : List Int} (w : World) (hz : Zs w F a n c xs) (hn : n ≤ 1048576) :
    Calls Try.prog 40 #[.slice a n c] w fun e w' => ∃ ya yc, e = .returned (.slice ya n yc) ∧ w'.ownsRow w.heap.size 2 1 (.slice ya n yc) n (xs.map iv) ∧ Kept No w w' := by
  go_enter Try.func40, Try.ntmps40
  go_wp2_with (at_builtin; refine wpList_cpw rfl _ _ rfl w.heap.size _ rfl (World.ownsRow_nil _ _ _ _) (Nat.le_refl _) _ n c rfl _ xs hz hn ?_; intro ya yc w1 o1 k1)
  go_ret
  exact ⟨ya, yc, rfl, o1.out, k1.out.mono (fun k e => by cases e)⟩

section
variable {b g cap : Nat} {T : Tt}
theorem wake_yes (w : World) (h : Tw w b g cap T) {i : Nat} (hi : i < T.n) (hn : T.n ≤ 1048576) (hr : Rm T.pl) (hw : (T.ps i).wk = true) (r : Int) :
    Calls Try.prog 14 #[.pointer (some ⟨b, 0, none⟩), .int .i64 ((i : Int) + 1), .int .i64 r] w fun e w' => e = .returned (.bool true) ∧ Tw w' b g cap (T.rouse i r) ∧ Kept (Bg b g) w w' := by
  have fi := find_yes w h hi hn
  have wa := wakeable_any w h hi
  have ro := rouse_tw w h hi hr r
  rw [hw] at wa
  clear h
  go_enter Try.func14, Try.ntmps14
  go_wp2_with (first
    | (go_at_call 34; refine fi.mono ?_; rintro e w' ⟨rfl, rfl⟩; clear fi)
    | (go_at_call 43; refine wa.mono ?_; rintro e w' ⟨rfl, rfl⟩; clear wa)
    | (go_at_call 44; refine ro.mono ?_; rintro e w' ⟨⟨v, rfl⟩, t1, k1⟩; have T1 := t1; have K1 := k1; clear ro t1 k1))
  go_ret
  exact ⟨rfl, T1, K1⟩
theorem wake_not (w : World) (h : Tw w b g cap T) {i : Nat} (hi : i < T.n) (hn : T.n ≤ 1048576) (hw : (T.ps i).wk = false) (r : Int) :
    Calls Try.prog 14 #[.pointer (some ⟨b, 0, none⟩), .int .i64 ((i : Int) + 1), .int .i64 r] w fun e w' => e = .returned (.bool false) ∧ w' = w := by
  have fi := find_yes w h hi hn
  have wa := wakeable_any w h hi
  rw [hw] at wa
  clear h
  go_enter Try.func14, Try.ntmps14
  go_wp2_with (first
    | (go_at_call 34; refine fi.mono ?_; rintro e w' ⟨rfl, rfl⟩; clear fi)
    | (go_at_call 43; refine wa.mono ?_; rintro e w' ⟨rfl, rfl⟩; clear wa))
  go_ret
  exact ⟨rfl, rfl⟩
theorem wake_no (w : World) (h : Tw w b g cap T) {p : Int} (hp : p < 1 ∨ (T.n : Int) < p) (hn : T.n ≤ 1048576) (r : Int) :
    Calls Try.prog 14 #[.pointer (some ⟨b, 0, none⟩), .int .i64 p, .int .i64 r] w fun e w' => e = .returned (.bool false) ∧ w' = w := by
  have fi := find_no w h hp hn
  clear h
  go_enter Try.func14, Try.ntmps14
  go_wp2_with (go_at_call 34; refine fi.mono ?_; rintro e w' ⟨rfl, rfl⟩; clear fi)
  go_ret
  exact ⟨rfl, rfl⟩
theorem yield_yes (w : World) (h : Tw w b g cap T) {i : Nat} (hi : i < T.n) (hn : T.n ≤ 1048576) (hr : Rm T.pl) (hs : (T.ps i).st = 1) :
    Calls Try.prog 23 #[.pointer (some ⟨b, 0, none⟩), .int .i64 ((i : Int) + 1)] w fun e w' => e = .returned (.bool true) ∧ Tw w' b g cap (T.behind i) ∧ Kept (Bg b g) w w' := by
  have fi := ready_yes w h hi hn hs
  have bh := behind_tw w h hi hr
  clear h
  go_enter Try.func23, Try.ntmps23
  go_wp2_with (first
    | (go_at_call 49; refine fi.mono ?_; rintro e w' ⟨rfl, rfl⟩; clear fi)
    | (go_at_call 51; refine bh.mono ?_; rintro e w' ⟨⟨v, rfl⟩, t1, k1⟩; have T1 := t1; have K1 := k1; clear bh t1 k1))
  go_ret
  exact ⟨rfl, T1, K1⟩
theorem yield_no {v : Value} (w : World) (fi : Calls Try.prog 49 #[.pointer (some ⟨b, 0, none⟩), v] w fun e w' => e = .returned (.pointer none) ∧ w' = w) :
    Calls Try.prog 23 #[.pointer (some ⟨b, 0, none⟩), v] w fun e w' => e = .returned (.bool false) ∧ w' = w := by
  go_enter Try.func23, Try.ntmps23
  go_wp2_with (go_at_call 49; refine fi.mono ?_; rintro e w' ⟨rfl, rfl⟩; clear fi)
  go_ret
  exact ⟨rfl, rfl⟩
end
end Go.Proofs.Ytofkacfchkimiaa
