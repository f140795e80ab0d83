/-
  proc: Wait, Period.
-/
import Derived.Test.YtofkacfchkimiaaPCalls
namespace Go.Proofs.Ytofkacfchkimiaa
open Go.RowKit Plain
set_option linter.unusedVariables false
set_option maxRecDepth 100000

/-- states in which Wait lets a process wait -/
def fw (s : Int) : Bool := decide (s = 2 ∨ (4 ≤ s ∧ s ≤ 9))
theorem forWait_any (s : Int) (w : World) : Calls Try.prog 38 #[.int .i64 s] w fun e w' => e = .returned (.bool (fw s)) ∧ w' = w := by
  by_cases h : fw s = true
  · rw [h]
    have h' : s = 2 ∨ (4 ≤ s ∧ s ≤ 9) := by simpa [fw] using h
    have h2 : s = 2 ∨ s = 4 ∨ s = 5 ∨ s = 6 ∨ s = 7 ∨ s = 8 ∨ s = 9 := by omega
    clear h h'
    rcases h2 with rfl | rfl | rfl | rfl | rfl | rfl | rfl
    all_goals
      go_enter Try.func38, Try.ntmps38
      go_wp2
      go_ret
      exact ⟨rfl, rfl⟩
  · have h0 : fw s = false := by simpa using h
    rw [h0]
    have h' : ¬ (s = 2 ∨ (4 ≤ s ∧ s ≤ 9)) := by simpa [fw] using h
    have e2 : (s == 2) = false := by simp; omega
    have e4 : (s == 4) = false := by simp; omega
    have e5 : (s == 5) = false := by simp; omega
    have e6 : (s == 6) = false := by simp; omega
    have e7 : (s == 7) = false := by simp; omega
    have e8 : (s == 8) = false := by simp; omega
    have e9 : (s == 9) = false := by simp; omega
    clear h h' h0
    go_enter Try.func38, Try.ntmps38
    go_wp2
    go_ret
    exact ⟨rfl, rfl⟩

def isT (t : Int) : Bool := decide (0 ≤ t) && decide (t < 1099511627776)
section
variable {b g cap : Nat} {T : Tt}
/-- it waits -/
def Tt.wait (T : Tt) (i : Nat) (s un ob ad : Int) (v : Value) (l : List Int) : Tt := ((((T.enter i s).at i (Pr.sUn un)).at i (Pr.sOb ob)).at i (Pr.sAd ad)).at i (Pr.sDa v l)
theorem wait_free {v : Value} (w : World) (fi : Calls Try.prog 37 #[.pointer (some ⟨b, 0, none⟩), v] w fun e w' => e = .returned (.pointer none) ∧ w' = w) (s un ob ad : Int) (d : Value) :
    Calls Try.prog 11 #[.pointer (some ⟨b, 0, none⟩), v, .int .i64 s, .int .i64 un, .int .i64 ob, .int .i64 ad, d] w fun e w' => e = .returned (.bool false) ∧ w' = w := by
  go_enter Try.func11, Try.ntmps11
  go_wp2_with (go_at_call 37; refine fi.mono ?_; rintro e w' ⟨rfl, rfl⟩; clear fi)
  go_ret
  exact ⟨rfl, rfl⟩
theorem wait_bad {i : Nat} {v : Value} (w : World) (fi : Calls Try.prog 37 #[.pointer (some ⟨b, 0, none⟩), v] w fun e w' => e = .returned (.pointer (some ⟨g, i * 32, none⟩)) ∧ w' = w) (s un ob ad : Int) (d : Value) (hb : fw s = false ∨ (un ≠ -1 ∧ isT un = false)) :
    Calls Try.prog 11 #[.pointer (some ⟨b, 0, none⟩), v, .int .i64 s, .int .i64 un, .int .i64 ob, .int .i64 ad, d] w fun e w' => e = .returned (.bool false) ∧ w' = w := by
  have fo := forWait_any s w
  cases hf : fw s with
  | false =>
    rw [hf] at fo
    clear hb
    go_enter Try.func11, Try.ntmps11
    go_wp2_with (first
      | (go_at_call 37; refine fi.mono ?_; rintro e w' ⟨rfl, rfl⟩; clear fi)
      | (go_at_call 38; refine fo.mono ?_; rintro e w' ⟨rfl, rfl⟩; clear fo))
    go_ret
    exact ⟨rfl, rfl⟩
  | true =>
    rw [hf] at fo hb
    obtain ⟨h1, h2⟩ : un ≠ -1 ∧ isT un = false := by rcases hb with h | h; cases h; exact h
    have ti : Calls Try.prog 35 #[.int .i64 un] w fun e w' => e = .returned (.bool (isT un)) ∧ w' = w := isTick_any un w
    rw [h2] at ti
    have hx : (un != -1) = true := by simp [h1]
    clear hb h2 hf
    go_enter Try.func11, Try.ntmps11
    go_wp2_with (first
      | (go_at_call 37; refine fi.mono ?_; rintro e w' ⟨rfl, rfl⟩; clear fi)
      | (go_at_call 38; refine fo.mono ?_; rintro e w' ⟨rfl, rfl⟩; clear fo)
      | (go_at_call 35; refine ti.mono ?_; rintro e w' ⟨rfl, rfl⟩; clear ti))
    go_ret
    exact ⟨rfl, rfl⟩
theorem own_down {w : World} {B B' e : Nat} {v : Value} {n : Nat} {xs : List Value} (h : w.ownsRow B e 1 v n xs) (hB : B' ≤ B) : w.ownsRow B' e 1 v n xs := by
  obtain ⟨h0, ⟨rfl, h1⟩ | ⟨g, cap, cur, rfl, h1, h2⟩⟩ := h
  · exact ⟨h0, .inl ⟨rfl, h1⟩⟩
  · exact ⟨h0, .inr ⟨g, cap, cur, rfl, Nat.le_trans hB h1, h2⟩⟩
set_option maxHeartbeats 4000000 in
theorem wait_yes {F : Nat → Prop} {a : Option Addr} {m c : Nat} {xs : List Int} (w : World) (h : Tw w b g cap T) {i : Nat} (hi : i < T.n) (hn : T.n ≤ 1048576) (hr : Rm T.pl) (hs : (T.ps i).st = 1) (hk : T.lk ≠ (i : Int) + 1) (s un ob ad : Int) (hf : fw s = true) (hu : un = -1 ∨ isT un = true)
    (hz : Zs w F a m c xs) (hF : ∀ k, F k → k ≠ b ∧ k ≠ g) (hm : m ≤ 1048576) :
    Calls Try.prog 11 #[.pointer (some ⟨b, 0, none⟩), .int .i64 ((i : Int) + 1), .int .i64 s, .int .i64 un, .int .i64 ob, .int .i64 ad, .slice a m c] w fun e w' => e = .returned (.bool true) ∧ ∃ ya yc, Tw w' b g cap (T.wait i s un ob ad (.slice ya m yc) xs) ∧ w'.ownsRow w.heap.size 2 1 (.slice ya m yc) m (xs.map iv) ∧ Kept (Bg b g) w w' := by
  have fi := free_yes w h hi hn hs hk
  have fo := forWait_any s w
  rw [hf] at fo
  have ti : Calls Try.prog 35 #[.int .i64 un] w fun e w' => e = .returned (.bool (isT un)) ∧ w' = w := isTick_any un w
  have en := enter_tw w h hi hr s
  have hlow := h.low
  have HT : Hid (∀ v l, T.wait i s un ob ad v l = ((((T.enter i s).at i (Pr.sUn un)).at i (Pr.sOb ob)).at i (Pr.sAd ad)).at i (Pr.sDa v l)) := fun _ _ => rfl
  have hn2 : i < (T.enter i s).n := hi
  generalize T.enter i s = U at *
  clear h hs hf
  have HZ : Hid (Zs w F a m c xs ∧ ∀ k, F k → k ≠ b ∧ k ≠ g) := ⟨hz, hF⟩
  clear hz hF
  by_cases hx : un = -1
  · subst hx
    clear ti hu
    go_enter Try.func11, Try.ntmps11
    go_upto_region 5 with (first
      | (go_at_call 37; refine fi.mono ?_; rintro e w' ⟨rfl, rfl⟩; clear fi)
      | (go_at_call 38; refine fo.mono ?_; rintro e w' ⟨rfl, rfl⟩; clear fo)
      | (go_at_call 39; refine en.mono ?_; rintro e w1 ⟨⟨v, rfl⟩, t1, k1⟩; clear en))
    have wo := words_any w1 (HZ.out.1.kept k1 (fun x hx hy => by have := HZ.out.2 x hx; rcases hy with h1 | h1; exact this.1 h1; exact this.2 h1)) hm
    have hsz := k1.size
    have HK1 : Hid (Kept (Bg b g) w' w1) := k1
    clear k1
    go_wp2_with (go_at_call 40; refine wo.mono ?_; rintro e w2 ⟨ya, yc, rfl, o2, k2⟩; have t2 := t1.keep k2; have d22 : w2.cell? ⟨g, i * 32 + 22, none⟩ = some (.int .i64 (U.ps i).un) := t2.at' i hn2 22 (by omega); have d24 : w2.cell? ⟨g, i * 32 + 24, none⟩ = some (.int .i64 (U.ps i).ob) := t2.at' i hn2 24 (by omega); have d25 : w2.cell? ⟨g, i * 32 + 25, none⟩ = some (.int .i64 (U.ps i).ad) := t2.at' i hn2 25 (by omega); have d26 : w2.cell? ⟨g, i * 32 + 26, none⟩ = some (U.ps i).da := t2.at' i hn2 26 (by omega); have f22 := t2.fg (i * 32 + 22); have f24 := t2.fg (i * 32 + 24); have f25 := t2.fg (i * 32 + 25); have f26 := t2.fg (i * 32 + 26); have H2 : Hid (Tw w2 b g cap U ∧ w2.ownsRow w1.heap.size 2 1 (.slice ya m yc) m (xs.map iv) ∧ Kept No w1 w2) := ⟨t2, o2, k2⟩; clear t2 o2 k2 wo t1)
    go_ret
    refine ⟨rfl, ya, yc, ?_, ?_, ?_⟩
    · rw [HT.out]
      have q1 := H2.out.1.sUn hn2 (-1)
      have q2 := q1.sOb (show i < _ from hn2) ob
      have q3 := q2.sAd (show i < _ from hn2) ad
      refine q3.sDa (show i < _ from hn2) ?_
      have hz0 := Zs.owned H2.out.2.1 HZ.out.1.len
      have kq : Kept (Bg b g) w2 (((w2.setCell ⟨g, i * 32 + 22, none⟩ (.int .i64 (-1))).setCell ⟨g, i * 32 + 24, none⟩ (.int .i64 ob)).setCell ⟨g, i * 32 + 25, none⟩ (.int .i64 ad)) := (((Kept.refl _ w2).setCell (.inl (.inr rfl)) _).setCell (.inl (.inr rfl)) _).setCell (.inl (.inr rfl)) _
      have hne : ∀ k, (Value.slice ya m yc).ownBlock = some k → k ≠ b ∧ k ≠ g ∧ k < w2.heap.size := fun k hk => by have := own_at H2.out.2.1 k hk; omega
      refine (hz0.kept kq (fun k hk hy => ?_)).mono (fun k hk => ?_)
      · have := hne k hk
        rcases hy with h1 | h1
        · exact this.1 h1
        · exact this.2.1 h1
      · have := hne k hk
        exact ⟨this.1, this.2.1, Nat.lt_of_lt_of_le this.2.2 kq.size⟩
    · have o3 := H2.out.2.1
      have kq : Kept (Bg b g) w2 ((((w2.setCell ⟨g, i * 32 + 22, none⟩ (.int .i64 (-1))).setCell ⟨g, i * 32 + 24, none⟩ (.int .i64 ob)).setCell ⟨g, i * 32 + 25, none⟩ (.int .i64 ad)).setCell ⟨g, i * 32 + 26, none⟩ (.slice ya m yc)) := ((((Kept.refl _ w2).setCell (.inl (.inr rfl)) _).setCell (.inl (.inr rfl)) _).setCell (.inl (.inr rfl)) _).setCell (.inl (.inr rfl)) _
      have o4 := kq.owns o3 (fun k hk hy => by have := own_at o3 k hk; rcases hy with h1 | h1 <;> omega)
      exact own_down o4 hsz
    · exact ((((HK1.out.trans H2.out.2.2 (fun _ e => e.elim)).setCell (.inl (.inr rfl)) _).setCell (.inl (.inr rfl)) _).setCell (.inl (.inr rfl)) _).setCell (.inl (.inr rfl)) _
  · have hx' : (un != -1) = true := by simp [hx]
    rw [hu.resolve_left hx] at ti
    clear hu
    go_enter Try.func11, Try.ntmps11
    go_upto_region 5 with (first
      | (go_at_call 37; refine fi.mono ?_; rintro e w' ⟨rfl, rfl⟩; clear fi)
      | (go_at_call 38; refine fo.mono ?_; rintro e w' ⟨rfl, rfl⟩; clear fo)
      | (go_at_call 35; refine ti.mono ?_; rintro e w' ⟨rfl, rfl⟩; clear ti)
      | (go_at_call 39; refine en.mono ?_; rintro e w1 ⟨⟨v, rfl⟩, t1, k1⟩; clear en))
    have wo := words_any w1 (HZ.out.1.kept k1 (fun x hx hy => by have := HZ.out.2 x hx; rcases hy with h1 | h1; exact this.1 h1; exact this.2 h1)) hm
    have hsz := k1.size
    have HK1 : Hid (Kept (Bg b g) w' w1) := k1
    clear k1
    go_wp2_with (go_at_call 40; refine wo.mono ?_; rintro e w2 ⟨ya, yc, rfl, o2, k2⟩; have t2 := t1.keep k2; have d22 : w2.cell? ⟨g, i * 32 + 22, none⟩ = some (.int .i64 (U.ps i).un) := t2.at' i hn2 22 (by omega); have d24 : w2.cell? ⟨g, i * 32 + 24, none⟩ = some (.int .i64 (U.ps i).ob) := t2.at' i hn2 24 (by omega); have d25 : w2.cell? ⟨g, i * 32 + 25, none⟩ = some (.int .i64 (U.ps i).ad) := t2.at' i hn2 25 (by omega); have d26 : w2.cell? ⟨g, i * 32 + 26, none⟩ = some (U.ps i).da := t2.at' i hn2 26 (by omega); have f22 := t2.fg (i * 32 + 22); have f24 := t2.fg (i * 32 + 24); have f25 := t2.fg (i * 32 + 25); have f26 := t2.fg (i * 32 + 26); have H2 : Hid (Tw w2 b g cap U ∧ w2.ownsRow w1.heap.size 2 1 (.slice ya m yc) m (xs.map iv) ∧ Kept No w1 w2) := ⟨t2, o2, k2⟩; clear t2 o2 k2 wo t1)
    go_ret
    refine ⟨rfl, ya, yc, ?_, ?_, ?_⟩
    · rw [HT.out]
      have q1 := H2.out.1.sUn hn2 un
      have q2 := q1.sOb (show i < _ from hn2) ob
      have q3 := q2.sAd (show i < _ from hn2) ad
      refine q3.sDa (show i < _ from hn2) ?_
      have hz0 := Zs.owned H2.out.2.1 HZ.out.1.len
      have kq : Kept (Bg b g) w2 (((w2.setCell ⟨g, i * 32 + 22, none⟩ (.int .i64 un)).setCell ⟨g, i * 32 + 24, none⟩ (.int .i64 ob)).setCell ⟨g, i * 32 + 25, none⟩ (.int .i64 ad)) := (((Kept.refl _ w2).setCell (.inl (.inr rfl)) _).setCell (.inl (.inr rfl)) _).setCell (.inl (.inr rfl)) _
      have hne : ∀ k, (Value.slice ya m yc).ownBlock = some k → k ≠ b ∧ k ≠ g ∧ k < w2.heap.size := fun k hk => by have := own_at H2.out.2.1 k hk; omega
      refine (hz0.kept kq (fun k hk hy => ?_)).mono (fun k hk => ?_)
      · have := hne k hk
        rcases hy with h1 | h1
        · exact this.1 h1
        · exact this.2.1 h1
      · have := hne k hk
        exact ⟨this.1, this.2.1, Nat.lt_of_lt_of_le this.2.2 kq.size⟩
    · have o3 := H2.out.2.1
      have kq : Kept (Bg b g) w2 ((((w2.setCell ⟨g, i * 32 + 22, none⟩ (.int .i64 un)).setCell ⟨g, i * 32 + 24, none⟩ (.int .i64 ob)).setCell ⟨g, i * 32 + 25, none⟩ (.int .i64 ad)).setCell ⟨g, i * 32 + 26, none⟩ (.slice ya m yc)) := ((((Kept.refl _ w2).setCell (.inl (.inr rfl)) _).setCell (.inl (.inr rfl)) _).setCell (.inl (.inr rfl)) _).setCell (.inl (.inr rfl)) _
      have o4 := kq.owns o3 (fun k hk hy => by have := own_at o3 k hk; rcases hy with h1 | h1 <;> omega)
      exact own_down o4 hsz
    · exact ((((HK1.out.trans H2.out.2.2 (fun _ e => e.elim)).setCell (.inl (.inr rfl)) _).setCell (.inl (.inr rfl)) _).setCell (.inl (.inr rfl)) _).setCell (.inl (.inr rfl)) _
end
end Go.Proofs.Ytofkacfchkimiaa
