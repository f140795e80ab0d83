/-
  'back': one call on a Reader, held against an operation.
-/
import Derived.Test.YtakdfpenpodplaaSameInts
import Derived.Test.YtakdfpenpodplaaAgainWalk
import Derived.Deep.RegionWith
namespace Go.Proofs.Ytakdfpenpodplaa
open Go.RowKit
set_option linter.unusedVariables false

/-- the answer, what is left, the fault -/
def bkV (xs : List Nat) (e K N Wd : Int) (Fl : Bool) (bs : List Nat) (zs : List Int) (M : Int) : Bool :=
  if K = 1 then rdN xs e 1 == N else if K = 2 then rdN xs e 2 == N else if K = 3 then rdN xs e 4 == N else if K = 4 then rdI xs e == Wd else if K = 5 then rbV xs e == Fl
  else if K = 6 then decide (tkXs xs e bs.length = bs) else if K = 7 then decide (glX xs e M = zs) else true
def bkR (xs : List Nat) (e K : Int) (bs : List Nat) (M : Int) : List Nat :=
  if K = 1 then tkRest xs e 1 else if K = 2 then tkRest xs e 2 else if K = 3 then tkRest xs e 4 else if K = 4 then tkRest xs e 8 else if K = 5 then rbRest xs e
  else if K = 6 then tkRest xs e bs.length else if K = 7 then glRest xs e M else xs
def bkE (xs : List Nat) (e K : Int) (bs : List Nat) (M : Int) : Int :=
  if K = 1 then tkE xs e 1 else if K = 2 then tkE xs e 2 else if K = 3 then tkE xs e 4 else if K = 4 then tkE xs e 8 else if K = 5 then rbE xs e
  else if K = 6 then tkE xs e bs.length else if K = 7 then glE xs e M else e

theorem RdDid.alloc0 {F : Nat → Prop} {p : Nat} {xs : List Nat} {e : Int} {w w' : World} {o : Obj} (h : RdDid F p xs e (w.alloc o) w') : RdDid F p xs e w w' := h.ahead ((Kept.refl (fun k => k = p) w).alloc o)
theorem RdDid.drewN {F : Nat → Prop} {p : Nat} {xs : List Nat} {e : Int} {w w' : World} (h : RdDid F p xs e w w') (n : Nat) : RdDid F p xs e w (w'.drewN n) := ⟨h.1.drewN n, h.2.drewN n⟩
theorem RdDid.drew {F : Nat → Prop} {p : Nat} {xs : List Nat} {e : Int} {w w' : World} (h : RdDid F p xs e w w') : RdDid F p xs e w w'.drew := h.drewN 1
theorem Rd.drew {w : World} {F : Nat → Prop} {p : Nat} {xs : List Nat} {e : Int} (h : Rd w F p xs e) : Rd w.drew F p xs e := h.drewN 1

set_option maxHeartbeats 4000000 in
theorem back_any (F G G' : Nat → Prop) (p : Nat) (xs : List Nat) (e K N Wd : Int) (Fl : Bool) (ba : Option Addr) (bn bc : Nat) (la : Option Addr) (ln lc : Nat) (M : Int) (bs : List Nat) (zs : List Int) (w : World)
    (h : Rd w F p xs e) (hsz : xs.length ≤ 1000000000) (hB : K = 6 → Bs w G ba bn bc bs ∧ ¬ G p) (hZ : K = 7 → Zs w G' la ln lc zs ∧ ¬ G' p) :
    Calls Try.prog 37 #[.pointer (some ⟨p, 0, none⟩), opV K N Wd Fl ba bn bc la ln lc M] w fun ex w' => ex = .returned (.bool (bkV xs e K N Wd Fl bs zs M)) ∧ RdDid F p (bkR xs e K bs M) (bkE xs e K bs M) w w' := by
  unfold opV
  have hqp : p < w.heap.size := h.flt p h.fp
  have hpq : p ≠ w.heap.size := by omega
  have HPQ : Hid (p ≠ w.heap.size) := hpq
  have HQ : Hid (OpBlk (w.alloc (.cells #[.int .i64 K, .int .i64 N, .int .i64 Wd, .bool Fl, .slice ba bn bc, .slice la ln lc, .int .i64 M] 43)) w.heap.size K N Wd Fl ba bn bc la ln lc M) := heap_alloc_new _ _
  have hR : Rd (w.alloc (.cells #[.int .i64 K, .int .i64 N, .int .i64 Wd, .bool Fl, .slice ba bn bc, .slice la ln lc, .int .i64 M] 43)) F p xs e := h.kept ((Kept.refl No w).alloc _) (fun _ _ h => h)
  have HR : Hid (Rd (w.alloc (.cells #[.int .i64 K, .int .i64 N, .int .i64 Wd, .bool Fl, .slice ba bn bc, .slice la ln lc, .int .i64 M] 43)) F p xs e) := hR
  have hxl : Hid (∀ x ∈ xs, x < 256) := h.lt
  have H0 : Hid (Rd w F p xs e) := h
  clear hR h hqp hpq
  by_cases h1 : K = 1
  · subst h1
    have ev : bkV xs e 1 N Wd Fl bs zs M = (rdN xs e 1 == N) := by unfold bkV; simp
    have er : bkR xs e 1 bs M = tkRest xs e 1 := by unfold bkR; simp
    have ee : bkE xs e 1 bs M = tkE xs e 1 := by unfold bkE; simp
    rw [ev, er, ee]
    have cc := ru8_any F p xs e _ HR.out.drew
    clear ev er ee hB hZ
    obtain ⟨p0, p1, p2, p3, p4, p5, p6⟩ := HQ.out.at'
    go_enter Try.func37, Try.ntmps37
    go_wp2
    go_region_with (go_at_call 24; refine cc.mono ?_; rintro ex w2 ⟨rfl, hd⟩; obtain ⟨s0, s1, s2, s3, s4, s5, s6⟩ := (show OpBlk w2 w.heap.size 1 N Wd Fl ba bn bc la ln lc M from hd.2.at' HQ.out (fun h => HPQ.out h.symm)).at')
    all_goals
      go_wp2
      go_ret
      exact ⟨rfl, RdDid.alloc0 (hd.ahead ((Kept.refl (fun k => k = p) _).drew))⟩
  by_cases h2 : K = 2
  · subst h2
    have ev : bkV xs e 2 N Wd Fl bs zs M = (rdN xs e 2 == N) := by unfold bkV; simp
    have er : bkR xs e 2 bs M = tkRest xs e 2 := by unfold bkR; simp
    have ee : bkE xs e 2 bs M = tkE xs e 2 := by unfold bkE; simp
    rw [ev, er, ee]
    have cc := ru16_any F p xs e _ HR.out.drew
    clear ev er ee hB hZ
    obtain ⟨p0, p1, p2, p3, p4, p5, p6⟩ := HQ.out.at'
    go_enter Try.func37, Try.ntmps37
    go_wp2
    go_region_with (go_at_call 25; refine cc.mono ?_; rintro ex w2 ⟨rfl, hd⟩; obtain ⟨s0, s1, s2, s3, s4, s5, s6⟩ := (show OpBlk w2 w.heap.size 2 N Wd Fl ba bn bc la ln lc M from hd.2.at' HQ.out (fun h => HPQ.out h.symm)).at')
    all_goals
      go_wp2
      go_ret
      exact ⟨rfl, RdDid.alloc0 (hd.ahead ((Kept.refl (fun k => k = p) _).drew))⟩
  by_cases h3 : K = 3
  · subst h3
    have ev : bkV xs e 3 N Wd Fl bs zs M = (rdN xs e 4 == N) := by unfold bkV; simp
    have er : bkR xs e 3 bs M = tkRest xs e 4 := by unfold bkR; simp
    have ee : bkE xs e 3 bs M = tkE xs e 4 := by unfold bkE; simp
    rw [ev, er, ee]
    have cc := ru32_any F p xs e _ HR.out.drew
    clear ev er ee hB hZ
    obtain ⟨p0, p1, p2, p3, p4, p5, p6⟩ := HQ.out.at'
    go_enter Try.func37, Try.ntmps37
    go_wp2
    go_region_with (go_at_call 26; refine cc.mono ?_; rintro ex w2 ⟨rfl, hd⟩; obtain ⟨s0, s1, s2, s3, s4, s5, s6⟩ := (show OpBlk w2 w.heap.size 3 N Wd Fl ba bn bc la ln lc M from hd.2.at' HQ.out (fun h => HPQ.out h.symm)).at')
    all_goals
      go_wp2
      go_ret
      exact ⟨rfl, RdDid.alloc0 (hd.ahead ((Kept.refl (fun k => k = p) _).drew))⟩
  by_cases h4 : K = 4
  · subst h4
    have ev : bkV xs e 4 N Wd Fl bs zs M = (rdI xs e == Wd) := by unfold bkV; simp
    have er : bkR xs e 4 bs M = tkRest xs e 8 := by unfold bkR; simp
    have ee : bkE xs e 4 bs M = tkE xs e 8 := by unfold bkE; simp
    rw [ev, er, ee]
    have cc := ri64_any F p xs e _ HR.out.drew
    clear ev er ee hB hZ
    obtain ⟨p0, p1, p2, p3, p4, p5, p6⟩ := HQ.out.at'
    go_enter Try.func37, Try.ntmps37
    go_wp2
    go_region_with (go_at_call 27; refine cc.mono ?_; rintro ex w2 ⟨rfl, hd⟩; obtain ⟨s0, s1, s2, s3, s4, s5, s6⟩ := (show OpBlk w2 w.heap.size 4 N Wd Fl ba bn bc la ln lc M from hd.2.at' HQ.out (fun h => HPQ.out h.symm)).at')
    all_goals
      go_wp2
      go_ret
      exact ⟨rfl, RdDid.alloc0 (hd.ahead ((Kept.refl (fun k => k = p) _).drew))⟩
  by_cases h5 : K = 5
  · subst h5
    have ev : bkV xs e 5 N Wd Fl bs zs M = (rbV xs e == Fl) := by unfold bkV; simp
    have er : bkR xs e 5 bs M = rbRest xs e := by unfold bkR; simp
    have ee : bkE xs e 5 bs M = rbE xs e := by unfold bkE; simp
    rw [ev, er, ee]
    have cc := rbool_any F p xs e _ HR.out.drew
    clear ev er ee hB hZ
    obtain ⟨p0, p1, p2, p3, p4, p5, p6⟩ := HQ.out.at'
    go_enter Try.func37, Try.ntmps37
    go_wp2
    go_region_with (go_at_call 28; refine cc.mono ?_; rintro ex w2 ⟨rfl, hd⟩; obtain ⟨s0, s1, s2, s3, s4, s5, s6⟩ := (show OpBlk w2 w.heap.size 5 N Wd Fl ba bn bc la ln lc M from hd.2.at' HQ.out (fun h => HPQ.out h.symm)).at')
    all_goals
      go_wp2
      go_ret
      exact ⟨rfl, RdDid.alloc0 (hd.ahead ((Kept.refl (fun k => k = p) _).drew))⟩
  by_cases h6 : K = 6
  · subst h6
    obtain ⟨hBb, hGp⟩ := hB rfl
    have ev : bkV xs e 6 N Wd Fl bs zs M = decide (tkXs xs e bn = bs) := by unfold bkV; rw [hBb.len]; simp
    have er : bkR xs e 6 bs M = tkRest xs e bn := by unfold bkR; rw [hBb.len]; simp
    have ee : bkE xs e 6 bs M = tkE xs e bn := by unfold bkE; rw [hBb.len]; simp
    rw [ev, er, ee]
    have cc := rbytes_any F p xs e bn _ HR.out.drew (by omega)
    have HBB : Hid (Bs (w.alloc (.cells #[.int .i64 6, .int .i64 N, .int .i64 Wd, .bool Fl, .slice ba bn bc, .slice la ln lc, .int .i64 M] 43)).drew G ba bn bc bs) := hBb.kept ((((Kept.refl No w).alloc _)).drew) (fun _ _ h => h)
    have hyl : Hid (∀ x ∈ tkXs xs e bn, x < 256) := tkXs_lt e bn hxl.out
    obtain ⟨ys, hys⟩ : ∃ ys, ys = tkXs xs e bn := ⟨_, rfl⟩
    rw [← hys] at cc hyl ⊢
    have HGP : Hid (¬ G p) := hGp
    clear ev er ee hB hZ hBb hys hGp
    obtain ⟨p0, p1, p2, p3, p4, p5, p6⟩ := HQ.out.at'
    go_enter Try.func37, Try.ntmps37
    go_wp2
    go_region_with (first | (go_at_call 29; refine cc.mono ?_; rintro ex w2 ⟨v5, rfl, own5, hd⟩; obtain ⟨s0, s1, s2, s3, s4, s5, s6⟩ := (show OpBlk w2 w.heap.size 6 N Wd Fl ba bn bc la ln lc M from hd.2.at' HQ.out (fun h => HPQ.out h.symm)).at'; obtain ⟨a5, k5, rfl, hB5⟩ := Bs.of_owns own5 hyl.out; have c12 := same_any _ _ _ _ _ _ _ _ ys bs w2 hB5 (HBB.out.kept hd.2 (fun b hb e => HGP.out (e ▸ hb))); clear own5 hB5) | (go_at_call 12; refine c12.mono ?_; rintro ex w3 ⟨rfl, nd, rfl⟩))
    all_goals
      go_wp2
      go_ret
      exact ⟨rfl, (RdDid.alloc0 (hd.ahead ((Kept.refl (fun k => k = p) _).drew))).drewN _⟩
  by_cases h7 : K = 7
  · subst h7
    obtain ⟨hZz, hGp⟩ := hZ rfl
    have ev : bkV xs e 7 N Wd Fl bs zs M = decide (glX xs e M = zs) := by unfold bkV; simp
    have er : bkR xs e 7 bs M = glRest xs e M := by unfold bkR; simp
    have ee : bkE xs e 7 bs M = glE xs e M := by unfold bkE; simp
    rw [ev, er, ee]
    have cc := getList67_any F p xs e M _ HR.out.drew (by omega)
    have HBB : Hid (Zs (w.alloc (.cells #[.int .i64 7, .int .i64 N, .int .i64 Wd, .bool Fl, .slice ba bn bc, .slice la ln lc, .int .i64 M] 43)).drew G' la ln lc zs) := hZz.kept ((((Kept.refl No w).alloc _)).drew) (fun _ _ h => h)
    obtain ⟨ys, hys⟩ : ∃ ys, ys = glX xs e M := ⟨_, rfl⟩
    rw [← hys] at cc ⊢
    have HGP : Hid (¬ G' p) := hGp
    clear ev er ee hB hZ hZz hys hGp
    obtain ⟨p0, p1, p2, p3, p4, p5, p6⟩ := HQ.out.at'
    go_enter Try.func37, Try.ntmps37
    go_wp2
    go_region_with (first | (go_at_call 30; refine cc.mono ?_; rintro ex w2 ⟨v5, rfl, own5, hd⟩; obtain ⟨s0, s1, s2, s3, s4, s5, s6⟩ := (show OpBlk w2 w.heap.size 7 N Wd Fl ba bn bc la ln lc M from hd.2.at' HQ.out (fun h => HPQ.out h.symm)).at'; obtain ⟨a5, k5, rfl, hB5⟩ := Zs.of_owns own5; have c66 := sameInts_any _ _ _ _ _ _ _ _ ys zs w2 hB5 (HBB.out.kept hd.2 (fun b hb e => HGP.out (e ▸ hb))); clear own5 hB5) | (go_at_call 66; refine c66.mono ?_; rintro ex w3 ⟨rfl, nd, rfl⟩))
    all_goals
      go_wp2
      go_ret
      exact ⟨rfl, (RdDid.alloc0 (hd.ahead ((Kept.refl (fun k => k = p) _).drew))).drewN _⟩
  have q1 : (K == 1) = false := by simpa using h1
  have q2 : (K == 2) = false := by simpa using h2
  have q3 : (K == 3) = false := by simpa using h3
  have q4 : (K == 4) = false := by simpa using h4
  have q5 : (K == 5) = false := by simpa using h5
  have q6 : (K == 6) = false := by simpa using h6
  have q7 : (K == 7) = false := by simpa using h7
  have ev : bkV xs e K N Wd Fl bs zs M = true := by unfold bkV; simp [h1, h2, h3, h4, h5, h6, h7]
  have er : bkR xs e K bs M = xs := by unfold bkR; simp [h1, h2, h3, h4, h5, h6, h7]
  have ee : bkE xs e K bs M = e := by unfold bkE; simp [h1, h2, h3, h4, h5, h6, h7]
  rw [ev, er, ee]
  clear ev er ee hB hZ h1 h2 h3 h4 h5 h6 h7
  go_enter Try.func37, Try.ntmps37
  go_wp2
  go_ret
  exact ⟨rfl, HR.out, (Kept.refl (fun k => k = p) w).alloc _⟩

end Go.Proofs.Ytakdfpenpodplaa
