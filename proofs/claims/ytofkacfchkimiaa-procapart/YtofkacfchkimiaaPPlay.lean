/-
  The calls, each as one function of the table: none where it is refused.
-/
import Derived.Test.YtofkacfchkimiaaPSet
import Derived.Test.YtofkacfchkimiaaPPer
import Derived.Test.YtofkacfchkimiaaPFire
import Derived.Test.YtofkacfchkimiaaPWait
namespace Go.Proofs.Ytofkacfchkimiaa
open Go.RowKit Plain
set_option linter.unusedVariables false
set_option maxRecDepth 100000

/-- the place of the process of a number -/
def Tt.ix (T : Tt) (p : Int) : Option Nat := if 1 ≤ p ∧ p ≤ (T.n : Int) then some (p - 1).toNat else none
theorem Tt.ix_in {T : Tt} {i : Nat} (hi : i < T.n) : T.ix ((i : Int) + 1) = some i := by
  unfold Tt.ix
  rw [if_pos (by omega)]
  congr 1
  omega
theorem Tt.ix_out {T : Tt} {p : Int} (hp : p < 1 ∨ (T.n : Int) < p) : T.ix p = none := by
  unfold Tt.ix
  rw [if_neg (by omega)]
theorem Tt.ix_cases (T : Tt) (p : Int) : (p < 1 ∨ (T.n : Int) < p) ∨ ∃ i : Nat, i < T.n ∧ p = (i : Int) + 1 := by
  by_cases h : p < 1 ∨ (T.n : Int) < p
  · exact .inl h
  · exact .inr ⟨(p - 1).toNat, by omega, by omega⟩
/-- what of the process with number p is asked: then the table becomes -/
def Tt.if (T : Tt) (p : Int) (c : Nat → Bool) (f : Nat → Tt) : Option Tt := (T.ix p).bind fun i => if c i = true then some (f i) else none
theorem Tt.if_out {T : Tt} {p : Int} (hp : p < 1 ∨ (T.n : Int) < p) (c : Nat → Bool) (f : Nat → Tt) : T.if p c f = none := by unfold Tt.if; rw [Tt.ix_out hp]; rfl
theorem Tt.if_yes {T : Tt} {i : Nat} (hi : i < T.n) {c : Nat → Bool} (f : Nat → Tt) (hc : c i = true) : T.if ((i : Int) + 1) c f = some (f i) := by unfold Tt.if; rw [Tt.ix_in hi]; show (if c i = true then some (f i) else none) = _; rw [if_pos hc]
theorem Tt.if_not {T : Tt} {i : Nat} (hi : i < T.n) {c : Nat → Bool} (f : Nat → Tt) (hc : ¬ c i = true) : T.if ((i : Int) + 1) c f = none := by unfold Tt.if; rw [Tt.ix_in hi]; show (if c i = true then some (f i) else none) = _; rw [if_neg hc]

/-- what lies in new memory -/
def Nwv (w : World) (v : Value) : Prop := ∀ q, v.ownBlock = some q → w.heap.size ≤ q
theorem Nwv.nil (w : World) : Nwv w (.slice none 0 0) := fun q h => by cases h
theorem Nwv.dn {w w' : World} {v : Value} (h : Nwv w' v) (k : w.heap.size ≤ w'.heap.size) : Nwv w v := fun q hq => Nat.le_trans k (h q hq)
def Does (w : World) (b g cap : Nat) (T : Tt) (R : Option Tt) (e : Ending) (w' : World) : Prop := e = .returned (.bool R.isSome) ∧ Tw w' b g cap (R.getD T) ∧ Kept (Bg b g) w w'
section
variable {b g cap : Nat} {T : Tt} {w : World} {f : FuncId} {args : Array Value}
theorem does_no (h : Tw w b g cap T) (c : Calls Try.prog f args w fun e w' => e = .returned (.bool false) ∧ Kept No w w') : Calls Try.prog f args w (Does w b g cap T none) := by
  refine c.mono ?_
  rintro e w' ⟨rfl, k⟩
  exact ⟨rfl, h.keep k, k.mono (fun _ e => e.elim)⟩
theorem does_same (h : Tw w b g cap T) (c : Calls Try.prog f args w fun e w' => e = .returned (.bool false) ∧ w' = w) : Calls Try.prog f args w (Does w b g cap T none) := by
  refine c.mono ?_
  rintro e w' ⟨rfl, rfl⟩
  exact ⟨rfl, h, Kept.refl _ _⟩
theorem does_yes {T' : Tt} (c : Calls Try.prog f args w fun e w' => e = .returned (.bool true) ∧ Tw w' b g cap T' ∧ Kept (Bg b g) w w') : Calls Try.prog f args w (Does w b g cap T (some T')) := by
  refine c.mono ?_
  rintro e w' ⟨rfl, t, k⟩
  exact ⟨rfl, t, k⟩
end
def Tt.rdy (T : Tt) (i : Nat) : Bool := decide ((T.ps i).st = 1)
def Tt.free (T : Tt) (i : Nat) : Bool := decide ((T.ps i).st = 1 ∧ T.lk ≠ (i : Int) + 1)
def Tt.cStart (T : Tt) (p now x y z : Int) : Option Tt := T.if p (fun i => decide ((T.ps i).st = 0) && isT now) (fun i => T.start i now x y z)
def Tt.cStop (T : Tt) (p : Int) : Option Tt := T.if p (fun i => decide ((T.ps i).st ≠ 0)) T.stop
def Tt.cSuspend (T : Tt) (p : Int) : Option Tt := T.if p (fun i => T.free i && decide (¬ 0 < (T.ps i).per)) (fun i => T.enter i 10)
def Tt.cResume (T : Tt) (p : Int) : Option Tt := T.if p (fun i => decide ((T.ps i).st = 10)) (fun i => T.enter i 1)
def Tt.cLock (T : Tt) (p : Int) : Option Tt := T.if p (fun i => T.rdy i && decide (T.hd ≠ (i : Int) + 1 ∧ T.lk = 0)) (fun i => T.sLk ((i : Int) + 1))
def Tt.cUnlock (T : Tt) (p : Int) : Option Tt := T.if p (fun i => decide (T.lk = (i : Int) + 1)) (fun _ => T.sLk 0)
def Tt.cPrio (T : Tt) (p x : Int) : Option Tt := T.if p (fun i => decide ((T.ps i).st ≠ 0 ∧ 0 ≤ x ∧ x ≤ 255)) (fun i => T.prio i x)
def Tt.cYield (T : Tt) (p : Int) : Option Tt := T.if p T.rdy T.behind
def Tt.cWait (T : Tt) (p s un ob ad : Int) (v : Value) (xs : List Int) : Option Tt := T.if p (fun i => T.free i && fw s && decide (un = -1 ∨ isT un = true)) (fun i => T.wait i s un ob ad v xs)
def Tt.cPeriod (T : Tt) (p now : Int) : Option Tt := T.if p (fun i => T.free i && decide (0 < (T.ps i).per ∧ isT now = true ∧ (T.ps i).rel ≤ now)) (fun i => T.period i now)
def Tt.cWake (T : Tt) (p r : Int) : Option Tt := T.if p (fun i => (T.ps i).wk) (fun i => T.rouse i r)
def Tt.cSet (T : Tt) (p : Int) (f : Nat → Int) (pc : Int) : Option Tt := T.if p (fun i => T.rdy i && decide (0 ≤ pc ∧ pc ≤ T.cd)) (fun i => T.set i f pc)
def Tt.cFire (T : Tt) (p kind now : Int) : Option Tt := T.if p (fun i => (T.ps i).due kind now) (fun i => T.fire i kind now)
section
variable {b g cap : Nat} {T : Tt}
/-- findReady and findFree, whole -/
theorem ready_of (w : World) (h : Tw w b g cap T) (hn : T.n ≤ 1048576) (p : Int) : (∃ i : Nat, i < T.n ∧ p = (i : Int) + 1 ∧ T.rdy i = true) ∨ ((∀ (c : Nat → Bool) (f : Nat → Tt), T.if p (fun i => T.rdy i && c i) f = none) ∧ (∀ (f : Nat → Tt), T.if p T.rdy f = none) ∧ (∀ (c : Nat → Bool) (f : Nat → Tt), T.if p (fun i => T.free i && c i) f = none) ∧ Calls Try.prog 49 #[.pointer (some ⟨b, 0, none⟩), .int .i64 p] w fun e w' => e = .returned (.pointer none) ∧ w' = w) := by
  rcases T.ix_cases p with hp | ⟨i, hi, rfl⟩
  · exact .inr ⟨fun c f => Tt.if_out hp _ _, fun f => Tt.if_out hp _ _, fun c f => Tt.if_out hp _ _, ready_no w h hp hn⟩
  · by_cases hs : (T.ps i).st = 1
    · exact .inl ⟨i, hi, rfl, by simp [Tt.rdy, hs]⟩
    · exact .inr ⟨fun c f => Tt.if_not hi _ (by simp [Tt.rdy, hs]), fun f => Tt.if_not hi _ (by simp [Tt.rdy, hs]), fun c f => Tt.if_not hi _ (by simp [Tt.free, hs]), ready_not w h hi hn hs⟩
theorem free_of (w : World) (h : Tw w b g cap T) (hn : T.n ≤ 1048576) (p : Int) : (∃ i : Nat, i < T.n ∧ p = (i : Int) + 1 ∧ (T.ps i).st = 1 ∧ T.lk ≠ (i : Int) + 1) ∨ ((∀ (c : Nat → Bool) (f : Nat → Tt), T.if p (fun i => T.free i && c i) f = none) ∧ Calls Try.prog 37 #[.pointer (some ⟨b, 0, none⟩), .int .i64 p] w fun e w' => e = .returned (.pointer none) ∧ w' = w) := by
  rcases ready_of w h hn p with ⟨i, hi, rfl, hs⟩ | ⟨_, _, h3, c⟩
  · have hs' : (T.ps i).st = 1 := by simpa [Tt.rdy] using hs
    by_cases hk : T.lk = (i : Int) + 1
    · exact .inr ⟨fun c f => Tt.if_not hi _ (by simp [Tt.free, hk]), free_held w h hi hn hs' hk⟩
    · exact .inl ⟨i, hi, rfl, hs', hk⟩
  · exact .inr ⟨h3, free_no w c⟩

theorem start_does (w : World) (h : Tw w b g cap T) (hn : T.n ≤ 1048576) (hr : Rm T.pl) (p now x y z : Int) :
    Calls Try.prog 10 #[.pointer (some ⟨b, 0, none⟩), .int .i64 p, .int .i64 now, .agg #[.int .i64 x, .int .i64 y, .int .i64 z]] w (Does w b g cap T (T.cStart p now x y z)) := by
  unfold Tt.cStart
  rcases T.ix_cases p with hp | ⟨i, hi, rfl⟩
  · rw [Tt.if_out hp]; exact does_no h (start_no w h hp hn now x y z)
  · by_cases hs : (T.ps i).st = 0
    · by_cases ht : isT now = true
      · rw [Tt.if_yes hi _ (by simp [hs, ht])]; exact does_yes (start_yes w h hi hn hr hs now x y z ht)
      · rw [Tt.if_not hi _ (by simp [ht])]; exact does_no h (start_bad w h hi hn hs now x y z (by simpa using ht))
    · rw [Tt.if_not hi _ (by simp [hs])]; exact does_no h (start_not w h hi hn hs now x y z)
theorem stop_does (w : World) (h : Tw w b g cap T) (hn : T.n ≤ 1048576) (p : Int) :
    Calls Try.prog 54 #[.pointer (some ⟨b, 0, none⟩), .int .i64 p] w (Does w b g cap T (T.cStop p)) := by
  unfold Tt.cStop
  rcases T.ix_cases p with hp | ⟨i, hi, rfl⟩
  · rw [Tt.if_out hp]; exact does_no h (stop_no w h hp hn)
  · by_cases hs : (T.ps i).st = 0
    · rw [Tt.if_not hi _ (by simp [hs])]; exact does_no h (stop_not w h hi hn hs)
    · rw [Tt.if_yes hi _ (by simp [hs])]; exact does_yes (stop_yes w h hi hn hs)
theorem suspend_does (w : World) (h : Tw w b g cap T) (hn : T.n ≤ 1048576) (hr : Rm T.pl) (p : Int) :
    Calls Try.prog 55 #[.pointer (some ⟨b, 0, none⟩), .int .i64 p] w (Does w b g cap T (T.cSuspend p)) := by
  unfold Tt.cSuspend
  rcases free_of w h hn p with ⟨i, hi, rfl, hs, hk⟩ | ⟨hc, fi⟩
  · by_cases hp : 0 < (T.ps i).per
    · rw [Tt.if_not hi _ (by simp [Tt.free, hs, hk, hp])]; exact does_same h (suspend_per w h hi hn hs hk hp)
    · rw [Tt.if_yes hi _ (by simp [Tt.free, hs, hk]; omega)]; exact does_yes (suspend_yes w h hi hn hr hs hk hp)
  · rw [hc]; exact does_same h (suspend_free w fi)
theorem resume_does (w : World) (h : Tw w b g cap T) (hn : T.n ≤ 1048576) (hr : Rm T.pl) (p : Int) :
    Calls Try.prog 56 #[.pointer (some ⟨b, 0, none⟩), .int .i64 p] w (Does w b g cap T (T.cResume p)) := by
  unfold Tt.cResume
  rcases T.ix_cases p with hp | ⟨i, hi, rfl⟩
  · rw [Tt.if_out hp]; exact does_same h (resume_no w h hp hn)
  · by_cases hs : (T.ps i).st = 10
    · rw [Tt.if_yes hi _ (by simp [hs])]; exact does_yes (resume_yes w h hi hn hr hs)
    · rw [Tt.if_not hi _ (by simp [hs])]; exact does_same h (resume_not w h hi hn hs)
theorem lock_does (w : World) (h : Tw w b g cap T) (hn : T.n ≤ 1048576) (p : Int) :
    Calls Try.prog 57 #[.pointer (some ⟨b, 0, none⟩), .int .i64 p] w (Does w b g cap T (T.cLock p)) := by
  unfold Tt.cLock
  rcases ready_of w h hn p with ⟨i, hi, rfl, hs⟩ | ⟨hc, _, _, fi⟩
  · have hs' : (T.ps i).st = 1 := by simpa [Tt.rdy] using hs
    by_cases hb : T.hd = (i : Int) + 1 ∨ T.lk ≠ 0
    · rw [Tt.if_not hi _ (by simp [hs]; intro h1; rcases hb with hb | hb; exact absurd hb h1; exact hb)]; exact does_same h (lock_not w h hi hn hs' hb)
    · have h1 : T.hd ≠ (i : Int) + 1 := fun e => hb (.inl e)
      have h2 : T.lk = 0 := Classical.byContradiction fun e => hb (.inr e)
      rw [Tt.if_yes hi _ (by simp [hs, h1, h2])]; exact does_yes (lock_yes w h hi hn hs' h1 h2)
  · rw [hc]; exact does_same h (lock_no w fi)
theorem unlock_does (w : World) (h : Tw w b g cap T) (hn : T.n ≤ 1048576) (p : Int) :
    Calls Try.prog 58 #[.pointer (some ⟨b, 0, none⟩), .int .i64 p] w (Does w b g cap T (T.cUnlock p)) := by
  unfold Tt.cUnlock
  rcases T.ix_cases p with hp | ⟨i, hi, rfl⟩
  · rw [Tt.if_out hp]; exact does_same h (unlock_no w h hp hn)
  · by_cases hk : T.lk = (i : Int) + 1
    · rw [Tt.if_yes hi _ (by simp [hk])]; exact does_yes (unlock_yes w h hi hn hk)
    · rw [Tt.if_not hi _ (by simp [hk])]; exact does_same h (unlock_not w h hi hn hk)
theorem prio_does (w : World) (h : Tw w b g cap T) (hn : T.n ≤ 1048576) (hr : Rm T.pl) (p x : Int) :
    Calls Try.prog 59 #[.pointer (some ⟨b, 0, none⟩), .int .i64 p, .int .i64 x] w (Does w b g cap T (T.cPrio p x)) := by
  unfold Tt.cPrio
  rcases T.ix_cases p with hp | ⟨i, hi, rfl⟩
  · rw [Tt.if_out hp]; exact does_no h (prio_no w h hp hn x)
  · by_cases hb : (T.ps i).st ≠ 0 ∧ 0 ≤ x ∧ x ≤ 255
    · rw [Tt.if_yes hi _ (decide_eq_true hb)]; exact does_yes (prio_yes w h hi hn hr hb.1 x hb.2.1 hb.2.2)
    · rw [Tt.if_not hi _ (by rw [decide_eq_false hb]; simp)]; exact does_no h (prio_not w h hi hn x (by omega))
theorem yield_does (w : World) (h : Tw w b g cap T) (hn : T.n ≤ 1048576) (hr : Rm T.pl) (p : Int) :
    Calls Try.prog 23 #[.pointer (some ⟨b, 0, none⟩), .int .i64 p] w (Does w b g cap T (T.cYield p)) := by
  unfold Tt.cYield
  rcases ready_of w h hn p with ⟨i, hi, rfl, hs⟩ | ⟨_, hc, _, fi⟩
  · rw [Tt.if_yes hi _ hs]; exact does_yes (yield_yes w h hi hn hr (by simpa [Tt.rdy] using hs))
  · rw [hc]; exact does_same h (yield_no w fi)
theorem wake_does (w : World) (h : Tw w b g cap T) (hn : T.n ≤ 1048576) (hr : Rm T.pl) (p r : Int) :
    Calls Try.prog 14 #[.pointer (some ⟨b, 0, none⟩), .int .i64 p, .int .i64 r] w (Does w b g cap T (T.cWake p r)) := by
  unfold Tt.cWake
  rcases T.ix_cases p with hp | ⟨i, hi, rfl⟩
  · rw [Tt.if_out hp]; exact does_same h (wake_no w h hp hn r)
  · by_cases hk : (T.ps i).wk = true
    · rw [Tt.if_yes hi _ hk]; exact does_yes (wake_yes w h hi hn hr hk r)
    · rw [Tt.if_not hi _ hk]; exact does_same h (wake_not w h hi hn (by simpa using hk) r)
theorem fire_does (w : World) (h : Tw w b g cap T) (hn : T.n ≤ 1048576) (hr : Rm T.pl) (hm : ∀ i, i < T.n → Rm (T.ps i).mis) (p kind now : Int) :
    Calls Try.prog 15 #[.pointer (some ⟨b, 0, none⟩), .int .i64 p, .int .i64 kind, .int .i64 now] w (Does w b g cap T (T.cFire p kind now)) := by
  unfold Tt.cFire
  rcases T.ix_cases p with hp | ⟨i, hi, rfl⟩
  · rw [Tt.if_out hp]; exact does_no h (fire_not w ((due_out w h hp hn kind now).mono (by rintro e w' ⟨rfl, rfl⟩; exact ⟨rfl, Kept.refl _ _⟩)))
  · by_cases hd : (T.ps i).due kind now = true
    · rw [Tt.if_yes hi _ hd]; exact does_yes (fire_yes w h hi hn hr (hm i hi) kind now hd)
    · rw [Tt.if_not hi _ hd]
      have du := due_any w h hi hn kind now
      rw [show (T.ps i).due kind now = false by simpa using hd] at du
      exact does_no h (fire_not w du)
theorem period_does (w : World) (h : Tw w b g cap T) (hn : T.n ≤ 1048576) (hr : Rm T.pl) (h1 : ∀ i, i < T.n → I64 (T.ps i).rel ∧ I64 (T.ps i).per) (p now : Int) :
    Calls Try.prog 21 #[.pointer (some ⟨b, 0, none⟩), .int .i64 p, .int .i64 now] w (Does w b g cap T (T.cPeriod p now)) := by
  unfold Tt.cPeriod
  rcases free_of w h hn p with ⟨i, hi, rfl, hs, hk⟩ | ⟨hc, fi⟩
  · by_cases hb : 0 < (T.ps i).per ∧ isT now = true ∧ (T.ps i).rel ≤ now
    · rw [Tt.if_yes hi _ (by rw [decide_eq_true hb]; simp [Tt.free, hs, hk])]; exact does_yes (period_yes w h hi hn hr hs hk now hb.1 hb.2.1 hb.2.2 (h1 i hi).1 (h1 i hi).2)
    · rw [Tt.if_not hi _ (by rw [decide_eq_false hb]; simp)]
      refine does_same h (period_bad w h hi (free_yes w h hi hn hs hk) now ?_)
      by_cases h2 : 0 < (T.ps i).per
      · by_cases h3 : isT now = true
        · exact .inr (.inr (by by_cases h4 : (T.ps i).rel ≤ now; exact absurd ⟨h2, h3, h4⟩ hb; omega))
        · exact .inr (.inl (by simpa using h3))
      · exact .inl h2
  · rw [hc]; exact does_same h (period_free w fi now)
theorem wait_does {F : Nat → Prop} {a : Option Addr} {m c : Nat} {xs : List Int} (w : World) (h : Tw w b g cap T) (hn : T.n ≤ 1048576) (hr : Rm T.pl) (p s un ob ad : Int) (hz : Zs w F a m c xs) (hF : ∀ k, F k → k ≠ b ∧ k ≠ g) (hm : m ≤ 1048576) :
    Calls Try.prog 11 #[.pointer (some ⟨b, 0, none⟩), .int .i64 p, .int .i64 s, .int .i64 un, .int .i64 ob, .int .i64 ad, .slice a m c] w fun e w' => ∃ v, Nwv w v ∧ Does w b g cap T (T.cWait p s un ob ad v xs) e w' := by
  unfold Tt.cWait
  simp only [Bool.and_assoc]
  rcases free_of w h hn p with ⟨i, hi, rfl, hs, hk⟩ | ⟨hc, fi⟩
  · by_cases hb : fw s = true ∧ (un = -1 ∨ isT un = true)
    · refine (wait_yes w h hi hn hr hs hk s un ob ad hb.1 hb.2 hz hF hm).mono ?_
      rintro e w' ⟨rfl, ya, yc, t, o, k⟩
      refine ⟨.slice ya m yc, fun q hq => (own_at o q hq).1, ?_⟩
      rw [Tt.if_yes hi _ (by rw [decide_eq_true hb.2, hb.1]; simp [Tt.free, hs, hk])]
      exact ⟨rfl, t, k⟩
    · have hb' : fw s = false ∨ (un ≠ -1 ∧ isT un = false) := by
        by_cases h2 : fw s = true
        · refine .inr ⟨fun e => hb ⟨h2, .inl e⟩, ?_⟩
          by_cases h3 : isT un = true
          · exact absurd ⟨h2, .inr h3⟩ hb
          · simpa using h3
        · exact .inl (by simpa using h2)
      refine (does_same h (wait_bad w (free_yes w h hi hn hs hk) s un ob ad (.slice a m c) hb')).mono ?_
      intro e w' d
      refine ⟨.slice none 0 0, Nwv.nil w, ?_⟩
      rw [Tt.if_not hi _ (by
        intro e
        simp only [Bool.and_eq_true, decide_eq_true_eq] at e
        exact hb e.2)]
      exact d
  · refine (does_same h (wait_free w fi s un ob ad (.slice a m c))).mono ?_
    intro e w' d
    refine ⟨.slice none 0 0, Nwv.nil w, ?_⟩
    rw [hc]
    exact d
theorem set_does (w : World) (h : Tw w b g cap T) (hn : T.n ≤ 1048576) (p : Int) (f : Nat → Int) (pc : Int) :
    Calls Try.prog 60 #[.pointer (some ⟨b, 0, none⟩), .int .i64 p, .agg #[.int .i64 (f 0), .int .i64 (f 1), .int .i64 (f 2), .int .i64 (f 3), .int .i64 (f 4), .int .i64 (f 5), .int .i64 (f 6), .int .i64 (f 7), .int .i64 (f 8), .int .i64 (f 9), .int .i64 (f 10), .int .i64 (f 11), .int .i64 (f 12), .int .i64 (f 13), .int .i64 (f 14), .int .i64 (f 15)], .int .i64 pc] w (Does w b g cap T (T.cSet p f pc)) := by
  unfold Tt.cSet
  have k1 : Kept No w (w.alloc (.cells #[.int .i64 (f 0), .int .i64 (f 1), .int .i64 (f 2), .int .i64 (f 3), .int .i64 (f 4), .int .i64 (f 5), .int .i64 (f 6), .int .i64 (f 7), .int .i64 (f 8), .int .i64 (f 9), .int .i64 (f 10), .int .i64 (f 11), .int .i64 (f 12), .int .i64 (f 13), .int .i64 (f 14), .int .i64 (f 15)] 46)) := (Kept.refl No w).alloc _
  rcases ready_of _ (h.keep k1) hn p with ⟨i, hi, rfl, hs⟩ | ⟨hc, _, _, fi⟩
  · have hs' : (T.ps i).st = 1 := by simpa [Tt.rdy] using hs
    by_cases hb : 0 ≤ pc ∧ pc ≤ T.cd
    · rw [Tt.if_yes hi _ (by rw [decide_eq_true hb, hs]; rfl)]; exact does_yes (set_yes w h hi hn hs' f pc hb.1 hb.2)
    · rw [Tt.if_not hi _ (by rw [decide_eq_false hb]; simp)]; exact does_no h (set_bad w h hi hn hs' f pc (by omega))
  · rw [hc]; exact does_no h (set_no w f pc fi)
end
end Go.Proofs.Ytofkacfchkimiaa
