/-
  proc: Start.
-/
import Derived.Test.YtofkacfchkimiaaPPer
namespace Go.Proofs.Ytofkacfchkimiaa
open Go.RowKit Plain
set_option linter.unusedVariables false
set_option maxRecDepth 100000

def Pr.sRgs (f : Nat → Int) (p : Pr) : Pr := { p with rg := f }
/-- registers of a start -/
def rg3 (x y z : Int) (j : Nat) : Int := if j = 1 then x else if j = 2 then y else if j = 3 then z else 0
section
variable {b g cap : Nat} {T : Tt}
theorem Tw.ext {w : World} {i : Nat} {f f' : Pr → Pr} (hc : ∀ j, j < 32 → (f (T.ps i)).cell j = (f' (T.ps i)).cell j) (hd : (f (T.ps i)).da = (f' (T.ps i)).da) (hs : (f (T.ps i)).ws = (f' (T.ps i)).ws) (hw : Tw w b g cap (T.at i f)) : Tw w b g cap (T.at i f') := by
  refine ⟨hw.box, hw.cd, hw.hd, hw.lk, hw.pl, hw.ne, hw.one, hw.hcap, hw.hmax, hw.fb, hw.fg, fun x hx j hj => ?_, fun x hx => ?_⟩
  · have := hw.at' x hx j hj
    by_cases hxi : x = i
    · subst hxi
      rw [Tt.at_same] at this ⊢
      rw [← hc j hj]; exact this
    · rw [Tt.at_other _ _ hxi] at this ⊢
      exact this
  · have := hw.da x hx
    by_cases hxi : x = i
    · subst hxi
      rw [Tt.at_same] at this ⊢
      unfold Da at this ⊢
      rw [← hd, ← hs]; exact this
    · rw [Tt.at_other _ _ hxi] at this ⊢
      exact this
theorem cell_rg (p : Pr) : ∀ j, j < 16 → p.cell (3 + j) = .int .i64 (p.rg j) := by
  intro j hj
  have : j = 0 ∨ j = 1 ∨ j = 2 ∨ j = 3 ∨ j = 4 ∨ j = 5 ∨ j = 6 ∨ j = 7 ∨ j = 8 ∨ j = 9 ∨ j = 10 ∨ j = 11 ∨ j = 12 ∨ j = 13 ∨ j = 14 ∨ j = 15 := by omega
  rcases this with rfl | rfl | rfl | rfl | rfl | rfl | rfl | rfl | rfl | rfl | rfl | rfl | rfl | rfl | rfl | rfl <;> rfl
theorem cell_not (p : Pr) (f : Nat → Int) : ∀ x, x < 32 → (x < 3 ∨ 19 ≤ x) → (p.sRgs f).cell x = p.cell x :=
  cell_cases (by simp [Pr.cell, Pr.sRgs])
theorem Tw.sRgJ {w : World} (h : Tw w b g cap T) {i : Nat} (hi : i < T.n) {j : Nat} (hj : j < 16) (s : Int) : Tw (w.setCell ⟨g, i * 32 + 3 + j, none⟩ (.int .i64 s)) b g cap (T.at i (Pr.sRg j s)) := by
  rw [Nat.add_assoc]
  refine h.put' (j := 3 + j) hi (by omega) _ _ ?_ ?_ rfl rfl
  · rw [cell_rg _ j hj]
    simp [Pr.sRg]
  · intro x hx hne
    by_cases hr : x < 3 ∨ 19 ≤ x
    · exact cell_not _ _ x hx hr
    · obtain ⟨y, rfl⟩ : ∃ y, x = 3 + y := ⟨x - 3, by omega⟩
      rw [cell_rg _ y (by omega), cell_rg _ y (by omega)]
      simp only [Pr.sRg]
      rw [if_neg (by omega)]
/-- the first k registers written -/
def putN (w : World) (g o : Nat) (f : Nat → Int) : Nat → World
  | 0 => w
  | k + 1 => (putN w g o f k).setCell ⟨g, o + 3 + k, none⟩ (.int .i64 (f k))
theorem Tw.putN {w : World} (h : Tw w b g cap T) {i : Nat} (hi : i < T.n) (f : Nat → Int) : ∀ k, k ≤ 16 → Tw (Go.Proofs.Ytofkacfchkimiaa.putN w g (i * 32) f k) b g cap (T.at i (fun p => p.sRgs (fun x => if x < k then f x else p.rg x)))
  | 0, _ => by
    have e : T.at i (fun p => p.sRgs (fun x => if x < 0 then f x else p.rg x)) = T := by
      unfold Tt.at
      cases T with | mk ps n cd hd lk pl =>
      congr 1
      funext y
      by_cases hy : y = i
      · simp only [if_pos hy]; simp [Pr.sRgs]
      · simp only [if_neg hy]
    rw [e]; exact h
  | k + 1, hk => by
    have ih := Tw.putN h hi f k (by omega)
    have q := ih.sRgJ (show i < _ from hi) (j := k) (by omega) (f k)
    have e : (T.at i (fun p => p.sRgs (fun x => if x < k then f x else p.rg x))).at i (Pr.sRg k (f k)) = T.at i (fun p => p.sRgs (fun x => if x < k + 1 then f x else p.rg x)) := by
      unfold Tt.at
      congr 1
      funext y
      by_cases hy : y = i
      · simp only [if_pos hy]
        simp only [Pr.sRgs, Pr.sRg]
        congr 1
        funext x
        by_cases hx : x = k
        · subst hx; simp
        · by_cases hx2 : x < k
          · rw [if_neg hx, if_pos hx2, if_pos (by omega)]
          · rw [if_neg hx, if_neg hx2, if_neg (by omega)]
      · simp only [if_neg hy]
    rw [← e]
    exact q
theorem Tw.sRgs {w : World} (h : Tw w b g cap T) {i : Nat} (hi : i < T.n) (f : Nat → Int) : Tw (Go.Proofs.Ytofkacfchkimiaa.putN w g (i * 32) f 16) b g cap (T.at i (Pr.sRgs f)) := by
  refine Tw.ext (f := fun p => p.sRgs (fun x => if x < 16 then f x else p.rg x)) (fun j hj => ?_) rfl rfl (h.putN hi f 16 (Nat.le_refl _))
  by_cases hr : j < 3 ∨ 19 ≤ j
  · rw [cell_not _ _ j hj hr, cell_not _ _ j hj hr]
  · obtain ⟨y, rfl⟩ : ∃ y, j = 3 + y := ⟨j - 3, by omega⟩
    rw [cell_rg _ y (by omega), cell_rg _ y (by omega)]
    simp only [Pr.sRgs]
    rw [if_pos (by omega)]
theorem putN_kept {F : Nat → Prop} {w0 w : World} (g o : Nat) (f : Nat → Int) (h : Kept F w0 w) (hg : F g) : ∀ k, Kept F w0 (putN w g o f k)
  | 0 => h
  | k + 1 => (putN_kept g o f h hg k).setCell (.inl hg) _
def Tt.start (T : Tt) (i : Nat) (now x y z : Int) : Tt := (((T.at i (fun p => p.sPri p.pp)).at i (fun p => p.sPc p.en)).at i (Pr.sRgs (rg3 x y z))).job i now
set_option maxHeartbeats 4000000 in
theorem start_yes (w : World) (h : Tw w b g cap T) {i : Nat} (hi : i < T.n) (hn : T.n ≤ 1048576) (hr : Rm T.pl) (hs : (T.ps i).st = 0) (now x y z : Int) (hnow : isT now = true) :
    Calls Try.prog 10 #[.pointer (some ⟨b, 0, none⟩), .int .i64 ((i : Int) + 1), .int .i64 now, .agg #[.int .i64 x, .int .i64 y, .int .i64 z]] w fun e w' => e = .returned (.bool true) ∧ Tw w' b g cap (T.start i now x y z) ∧ Kept (Bg b g) w w' := by
  have k1 : Kept No w (w.alloc (.cells #[.int .i64 x, .int .i64 y, .int .i64 z] 41)) := (Kept.refl No w).alloc _
  have hB := alloc_new w (.cells #[.int .i64 x, .int .i64 y, .int .i64 z] 41)
  have t1 := h.keep k1
  have fi := find_yes _ t1 hi hn
  have ti : Hid (∀ W, Calls Try.prog 35 #[.int .i64 now] W fun e w' => e = .returned (.bool true) ∧ w' = W) := fun W => by have := isTick_any now W; rw [show (decide (0 ≤ now) && decide (now < 1099511627776)) = true from hnow] at this; exact this
  have ti1 := ti.out (w.alloc (.cells #[.int .i64 x, .int .i64 y, .int .i64 z] 41))
  have c0 : (w.alloc (.cells #[.int .i64 x, .int .i64 y, .int .i64 z] 41)).cell? ⟨g, i * 32, none⟩ = some (.int .i64 (T.ps i).st) := t1.at' i hi 0 (by omega)
  rw [hs] at c0
  have hl := h.low
  have H : Hid (Tw w b g cap T ∧ Rm T.pl ∧ (w.alloc (.cells #[.int .i64 x, .int .i64 y, .int .i64 z] 41)).heap[w.heap.size]? = some (.cells #[.int .i64 x, .int .i64 y, .int .i64 z] 41) ∧ Kept No w (w.alloc (.cells #[.int .i64 x, .int .i64 y, .int .i64 z] 41)) ∧ Tw (w.alloc (.cells #[.int .i64 x, .int .i64 y, .int .i64 z] 41)) b g cap T) := ⟨h, hr, hB, k1, t1⟩
  clear h hr hB k1 t1 hs hnow
  go_enter Try.func10, Try.ntmps10
  go_upto_region 4 with (first
    | (go_at_call 34; refine fi.mono ?_; rintro e w1 ⟨rfl, e1⟩; subst e1; clear fi)
    | (go_at_call 35; refine ti1.mono ?_; rintro e w1 ⟨rfl, e1⟩; subst e1; clear ti1))
  clear c0
  generalize (w.alloc (.cells #[.int .i64 x, .int .i64 y, .int .i64 z] 41)) = w1 at *
  have t1 := H.out.2.2.2.2
  have c1 : w1.cell? ⟨g, i * 32 + 1, none⟩ = some (.int .i64 (T.ps i).pri) := t1.at' i hi 1 (by omega)
  have c19 : w1.cell? ⟨g, i * 32 + 19, none⟩ = some (.int .i64 (T.ps i).pc) := t1.at' i hi 19 (by omega)
  have c28 : w1.cell? ⟨g, i * 32 + 28, none⟩ = some (.int .i64 (T.ps i).en) := t1.at' i hi 28 (by omega)
  have c29 : w1.cell? ⟨g, i * 32 + 29, none⟩ = some (.int .i64 (T.ps i).pp) := t1.at' i hi 29 (by omega)
  have f1 := t1.fg (i * 32 + 1)
  have f19 := t1.fg (i * 32 + 19)
  clear t1
  generalize (T.ps i).pri = v1 at *
  generalize (T.ps i).pc = v19 at *
  generalize hen : (T.ps i).en = v28 at *
  generalize hpp : (T.ps i).pp = v29 at *
  have HE : Hid ((T.ps i).en = v28 ∧ (T.ps i).pp = v29) := ⟨hen, hpp⟩
  clear hen hpp
  go_region
  go_upto_region 5 with fail
  have tw2 : Tw ((w1.setCell ⟨g, i * 32 + 1, none⟩ (.int .i64 v29)).setCell ⟨g, i * 32 + 19, none⟩ (.int .i64 v28)).drew b g cap ((T.at i (fun p => p.sPri p.pp)).at i (fun p => p.sPc p.en)) := by
    have q1 : Tw (w1.setCell ⟨g, i * 32 + 1, none⟩ (.int .i64 v29)) b g cap (T.at i (fun p => p.sPri p.pp)) :=
      H.out.2.2.2.2.put' (j := 1) hi (by omega) _ _ (by show Value.int .i64 (T.ps i).pp = _; rw [HE.out.2]) (cell_cases (by simp [Pr.cell, Pr.sPri])) rfl rfl
    have q2 : Tw ((w1.setCell ⟨g, i * 32 + 1, none⟩ (.int .i64 v29)).setCell ⟨g, i * 32 + 19, none⟩ (.int .i64 v28)) b g cap ((T.at i (fun p => p.sPri p.pp)).at i (fun p => p.sPc p.en)) :=
      q1.put' (j := 19) (show i < _ from hi) (by omega) _ _ (by rw [Tt.at_same]; show Value.int .i64 (T.ps i).en = _; rw [HE.out.1]) (by rw [Tt.at_same]; exact cell_cases (by simp [Pr.cell, Pr.sPc])) rfl rfl
    exact q2.keep ((Kept.refl No _).drew)
  have kw2 : Kept (Bg b g) w ((w1.setCell ⟨g, i * 32 + 1, none⟩ (.int .i64 v29)).setCell ⟨g, i * 32 + 19, none⟩ (.int .i64 v28)).drew := ((((H.out.2.2.2.1.mono (fun _ e => e.elim))).setCell (.inl (.inr rfl)) _).setCell (.inl (.inr rfl)) _).drew
  have hbx : ((w1.setCell ⟨g, i * 32 + 1, none⟩ (.int .i64 v29)).setCell ⟨g, i * 32 + 19, none⟩ (.int .i64 v28)).drew.heap[w.heap.size]? = some (.cells #[.int .i64 x, .int .i64 y, .int .i64 z] 41) := by
    have kk : Kept (Bg b g) w1 ((w1.setCell ⟨g, i * 32 + 1, none⟩ (.int .i64 v29)).setCell ⟨g, i * 32 + 19, none⟩ (.int .i64 v28)).drew := (((Kept.refl _ w1).setCell (.inl (.inr rfl)) _).setCell (.inl (.inr rfl)) _).drew
    exact kk.at' H.out.2.2.1 (fun e => by rcases e with e | e <;> omega)
  have HT : Hid (T.start i now x y z = (((T.at i (fun p => p.sPri p.pp)).at i (fun p => p.sPc p.en)).at i (Pr.sRgs (rg3 x y z))).job i now) := rfl
  have hn2 : i < ((T.at i (fun p => p.sPri p.pp)).at i (fun p => p.sPc p.en)).n := hi
  have hpl : ((T.at i (fun p => p.sPri p.pp)).at i (fun p => p.sPc p.en)).pl = T.pl := rfl
  generalize (T.at i (fun p => p.sPri p.pp)).at i (fun p => p.sPc p.en) = U at *
  clear c1 c19 c28 c29 f1 f19
  generalize ((w1.setCell ⟨g, i * 32 + 1, none⟩ (.int .i64 v29)).setCell ⟨g, i * 32 + 19, none⟩ (.int .i64 v28)).drew = w2 at *
  obtain ⟨a0, a1, a2⟩ := bx3 hbx
  have r3 : w2.cell? ⟨g, i * 32 + 3, none⟩ = some (.int .i64 ((U.ps i).rg 0)) := tw2.at' i hn2 3 (by omega)
  have f3 := tw2.fg (i * 32 + 3)
  have r4 : w2.cell? ⟨g, i * 32 + 4, none⟩ = some (.int .i64 ((U.ps i).rg 1)) := tw2.at' i hn2 4 (by omega)
  have f4 := tw2.fg (i * 32 + 4)
  have r5 : w2.cell? ⟨g, i * 32 + 5, none⟩ = some (.int .i64 ((U.ps i).rg 2)) := tw2.at' i hn2 5 (by omega)
  have f5 := tw2.fg (i * 32 + 5)
  have r6 : w2.cell? ⟨g, i * 32 + 6, none⟩ = some (.int .i64 ((U.ps i).rg 3)) := tw2.at' i hn2 6 (by omega)
  have f6 := tw2.fg (i * 32 + 6)
  have r7 : w2.cell? ⟨g, i * 32 + 7, none⟩ = some (.int .i64 ((U.ps i).rg 4)) := tw2.at' i hn2 7 (by omega)
  have f7 := tw2.fg (i * 32 + 7)
  have r8 : w2.cell? ⟨g, i * 32 + 8, none⟩ = some (.int .i64 ((U.ps i).rg 5)) := tw2.at' i hn2 8 (by omega)
  have f8 := tw2.fg (i * 32 + 8)
  have r9 : w2.cell? ⟨g, i * 32 + 9, none⟩ = some (.int .i64 ((U.ps i).rg 6)) := tw2.at' i hn2 9 (by omega)
  have f9 := tw2.fg (i * 32 + 9)
  have r10 : w2.cell? ⟨g, i * 32 + 10, none⟩ = some (.int .i64 ((U.ps i).rg 7)) := tw2.at' i hn2 10 (by omega)
  have f10 := tw2.fg (i * 32 + 10)
  have r11 : w2.cell? ⟨g, i * 32 + 11, none⟩ = some (.int .i64 ((U.ps i).rg 8)) := tw2.at' i hn2 11 (by omega)
  have f11 := tw2.fg (i * 32 + 11)
  have r12 : w2.cell? ⟨g, i * 32 + 12, none⟩ = some (.int .i64 ((U.ps i).rg 9)) := tw2.at' i hn2 12 (by omega)
  have f12 := tw2.fg (i * 32 + 12)
  have r13 : w2.cell? ⟨g, i * 32 + 13, none⟩ = some (.int .i64 ((U.ps i).rg 10)) := tw2.at' i hn2 13 (by omega)
  have f13 := tw2.fg (i * 32 + 13)
  have r14 : w2.cell? ⟨g, i * 32 + 14, none⟩ = some (.int .i64 ((U.ps i).rg 11)) := tw2.at' i hn2 14 (by omega)
  have f14 := tw2.fg (i * 32 + 14)
  have r15 : w2.cell? ⟨g, i * 32 + 15, none⟩ = some (.int .i64 ((U.ps i).rg 12)) := tw2.at' i hn2 15 (by omega)
  have f15 := tw2.fg (i * 32 + 15)
  have r16 : w2.cell? ⟨g, i * 32 + 16, none⟩ = some (.int .i64 ((U.ps i).rg 13)) := tw2.at' i hn2 16 (by omega)
  have f16 := tw2.fg (i * 32 + 16)
  have r17 : w2.cell? ⟨g, i * 32 + 17, none⟩ = some (.int .i64 ((U.ps i).rg 14)) := tw2.at' i hn2 17 (by omega)
  have f17 := tw2.fg (i * 32 + 17)
  have r18 : w2.cell? ⟨g, i * 32 + 18, none⟩ = some (.int .i64 ((U.ps i).rg 15)) := tw2.at' i hn2 18 (by omega)
  have f18 := tw2.fg (i * 32 + 18)
  have H2 : Hid (Tw w2 b g cap U ∧ Kept (Bg b g) w w2 ∧ U.pl = T.pl) := ⟨tw2, kw2, hpl⟩
  clear tw2 kw2 hbx hpl
  go_upto_region 6 with fail
  have tq := H2.out.1.sRgs hn2 (rg3 x y z)
  have kq := putN_kept g (i * 32) (rg3 x y z) H2.out.2.1 (show Bg b g g from .inr rfl) 16
  have jb := job_tw _ tq (show i < _ from hn2) (show Rm (U.at i (Pr.sRgs (rg3 x y z))).pl by rw [show (U.at i (Pr.sRgs (rg3 x y z))).pl = U.pl from rfl, H2.out.2.2]; exact H.out.2.1) now
  rw [← HT.out] at jb
  have HQ : Hid (Kept (Bg b g) w (putN w2 g (i * 32) (rg3 x y z) 16)) := kq
  clear tq kq a0 a1 a2 r3 f3 r4 f4 r5 f5 r6 f6 r7 f7 r8 f8 r9 f9 r10 f10 r11 f11 r12 f12 r13 f13 r14 f14 r15 f15 r16 f16 r17 f17 r18 f18
  have ew : putN w2 g (i * 32) (rg3 x y z) 16 = (((((((((((((((w2.setCell ⟨g, i * 32 + 3, none⟩ (.int .i64 0)).setCell ⟨g, i * 32 + 3 + 1, none⟩ (.int .i64 x)).setCell ⟨g, i * 32 + 3 + 2, none⟩ (.int .i64 y)).setCell ⟨g, i * 32 + 3 + 3, none⟩ (.int .i64 z)).setCell ⟨g, i * 32 + 3 + 4, none⟩ (.int .i64 0)).setCell ⟨g, i * 32 + 3 + 5, none⟩ (.int .i64 0)).setCell ⟨g, i * 32 + 3 + 6, none⟩ (.int .i64 0)).setCell ⟨g, i * 32 + 3 + 7, none⟩ (.int .i64 0)).setCell ⟨g, i * 32 + 3 + 8, none⟩ (.int .i64 0)).setCell ⟨g, i * 32 + 3 + 9, none⟩ (.int .i64 0)).setCell ⟨g, i * 32 + 3 + 10, none⟩ (.int .i64 0)).setCell ⟨g, i * 32 + 3 + 11, none⟩ (.int .i64 0)).setCell ⟨g, i * 32 + 3 + 12, none⟩ (.int .i64 0)).setCell ⟨g, i * 32 + 3 + 13, none⟩ (.int .i64 0)).setCell ⟨g, i * 32 + 3 + 14, none⟩ (.int .i64 0)).setCell ⟨g, i * 32 + 3 + 15, none⟩ (.int .i64 0) := rfl
  rw [← ew]
  clear ew
  generalize putN w2 g (i * 32) (rg3 x y z) 16 = w3 at *
  go_wp2_with (go_at_call 36; refine jb.mono ?_; rintro e w4 ⟨⟨v, rfl⟩, t4, k4⟩; have H4 : Hid (Tw w4 b g cap (T.start i now x y z) ∧ Kept (Bg b g) w w4) := ⟨t4, HQ.out.trans k4 (fun _ e => .inl e)⟩; clear t4 k4 jb)
  go_ret
  exact ⟨rfl, H4.out⟩
end
end Go.Proofs.Ytofkacfchkimiaa
