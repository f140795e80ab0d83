/-
  At: the occupant of a tick.
-/
import Derived.Test.YtahhkkkgaoekcaaGreatDoorOCycle
namespace Go.Proofs.YtahhkkkgaoekcaaGreatDoor
open Go.RowKit Go.Shelf Plain
set_option linter.unusedVariables false
set_option maxRecDepth 100000

/-- a box that holds the occupant of t, once it has been told -/
def Tel (f : Nat → Nat) (t bx : Nat) : St := fun q W S => S = (fun k => k = bx) ∧ q = t ∧ W.heap[bx]? = some (.cells #[.int .i64 0] 3)
def Teld (f : Nat → Nat) (t bx : Nat) : St := fun q W S => S = (fun k => k = bx) ∧ W.heap[bx]? = some (.cells #[.int .i64 (f t)] 3)
theorem Tel.hangs (f : Nat → Nat) (t bx : Nat) : Hangs (Tel f t bx) := by
  refine ⟨?_, ?_⟩
  · rintro q W S ⟨rfl, hq, hb⟩ k hk
    have hk' : k = bx := hk
    subst hk'; exact heap_lt hb
  · rintro q W W' S ⟨rfl, hq, hb⟩ hs hk
    exact ⟨rfl, hq, (hk _ rfl).trans hb⟩
theorem Teld.hangs (f : Nat → Nat) (t bx : Nat) : Hangs (Teld f t bx) := by
  refine ⟨?_, ?_⟩
  · rintro q W S ⟨rfl, hb⟩ k hk
    have hk' : k = bx := hk
    subst hk'; exact heap_lt hb
  · rintro q W W' S ⟨rfl, hb⟩ hs hk
    exact ⟨rfl, (hk _ rfl).trans hb⟩

theorem at1_does (f : Nat → Nat) (t bx : Nat) : Does Tryz.prog 18 #[.pointer (some ⟨bx, 0, none⟩)] f (t + 1) (Tel f t bx) (Teld f t bx) := by
  intro q len W S hI h1 h2 h3
  obtain ⟨rfl, rfl, hb⟩ := hI
  have hka : Kept No W (W.alloc (.cells #[.int .i64 len, .int .i64 (f q)] 48)) := (Kept.refl No W).alloc _
  have hb1 := hka.at' hb (fun h => h)
  have c0 := cell_box hb1
  have fz : (W.alloc (.cells #[.int .i64 len, .int .i64 (f q)] 48)).frozen? ⟨bx, 0, none⟩ = false := Boxed.frozen (t := 3) (v := .int .i64 0) hb1
  have HF : Hid (Took (Tel f q bx) (Teld f q bx) (q + len) W (fun k => k = bx) (.returned (.bool false)) ((W.alloc (.cells #[.int .i64 len, .int .i64 (f q)] 48)).setCell ⟨bx, 0, none⟩ (.int .i64 (f q)))) := by
    refine ⟨fun k => k = bx, (hka.mono (G := fun k => k = bx) (fun _ h => h.elim)).setCell (p := ⟨bx, 0, none⟩) (.inl rfl) _, More.refl _ _, .inr ⟨rfl, rfl, ?_⟩⟩
    exact Boxed.set (t := 3) (v := .int .i64 0) _ hb1
  unfold sv
  clear hka hb hb1 h3
  go_enter Tryz.func18, Tryz.ntmps18
  go_wp2
  go_ret
  exact HF.out

theorem at_or {f : Nat → Nat} {t bx : Nat} {w : World} {S : Nat → Prop} (h : Tel f t bx (t + 1) w S ∨ ∃ q, Teld f t bx q w S) : w.heap[bx]? = some (.cells #[.int .i64 (f t)] 3) := by
  rcases h with ⟨_, h, _⟩ | ⟨q, _, h⟩
  · omega
  · exact h
theorem tim_yes {xs : List Srv} (h : timF xs xs.length = none) : hyV xs xs.length = (hyp xs : Int) ∧ hyE xs xs.length = 0 := by
  have hv := vd_of h
  constructor
  · unfold hyV
    rw [h]
    show lcmV (zP xs) xs.length 1048576 = (hyp xs : Int)
    unfold hyp
    have := hv.hyp1
    unfold hyp at this
    omega
  · unfold hyE
    rw [h]
theorem tim_no {xs : List Srv} {p : Int × Int} (h : timF xs xs.length = some p) : hyV xs xs.length = 0 ∧ hyE xs xs.length = p.1 := by
  constructor
  · unfold hyV; rw [h]
  · unfold hyE; rw [h]

/-- the occupant of t where the servers may be and t is a tick -/
def atV (xs : List Srv) (t : Int) : Int := if timF xs xs.length = none ∧ 0 ≤ t ∧ t < 1099511627776 then (Rule.occ (sys xs) t.toNat : Int) else 0
def atE (xs : List Srv) (t : Int) : Int := match timF xs xs.length with
  | some p => p.1
  | none => if 0 ≤ t ∧ t < 1099511627776 then 0 else 2

set_option maxHeartbeats 2000000 in
theorem at_yes {F : Nat → Prop} {a : Option Addr} {c : Nat} {xs : List Srv} (t : Nat) (w : World) (hg : Gl w) (h : Sv w F a xs.length c xs) (hF : ∀ k, F k → k < w.heap.size) (ht : timF xs xs.length = none) (htt : t < 1099511627776) :
    Calls Tryz.prog 5 #[.slice a xs.length c, .int .i64 t] w fun e w' => e = .returned (.tuple #[.int .i64 (Rule.occ (sys xs) t), .int .i64 0]) ∧ Kept No w w' := by
  have hv := vd_of ht
  have hc := hyper_any F a xs.length c xs w hg h
  rw [(tim_yes ht).1, (tim_yes ht).2] at hc
  have hti := fun W => isTick_any t W
  rw [show (decide ((0 : Int) ≤ (t : Int)) && decide ((t : Int) < 1099511627776)) = true by simp; omega] at hti
  have HS : Hid (Sv w F a xs.length c xs ∧ (∀ k, F k → k < w.heap.size)) := ⟨h, hF⟩
  have HV : Hid (Vd xs) := hv
  clear h hF hg ht hv
  go_enter Tryz.func5, Tryz.ntmps5
  go_upto_region 6 with (first
    | (go_at_call 14; refine hc.mono ?_; rintro e w1 ⟨rfl, hk1⟩; have HK1 : Hid (Kept No w w1) := hk1; clear hk1 hc)
    | (go_at_call 15; refine (hti _).mono ?_; rintro e w2 ⟨rfl, hw2⟩; obtain rfl := hw2.symm))
  go_upto_region 7 with fail
  have k3 : Kept No w1 (w1.alloc (.cells #[.int .i64 0] 3)) := (Kept.refl No w1).alloc _
  have kw3 : Kept No w (w1.alloc (.cells #[.int .i64 0] 3)) := HK1.out.trans k3 (fun _ h => h.elim)
  have hs3 := HS.out.1.keep kw3
  have hF3 : ∀ k, F k → k < (w1.alloc (.cells #[.int .i64 0] 3)).heap.size := fun k hk => by have := HS.out.2 k hk; have := kw3.size; omega
  have sz3 : (w1.alloc (.cells #[.int .i64 0] 3)).heap.size = w1.heap.size + 1 := by simp
  have b3 : (w1.alloc (.cells #[.int .i64 0] 3)).heap[w1.heap.size]? = some (.cells #[.int .i64 0] 3) := World.alloc_heap_new _ _
  have HF1 : Hid (∀ k, F k → k < w1.heap.size) := fun k hk => by have := HS.out.2 k hk; have := HK1.out.size; omega
  clear k3
  generalize w1.alloc (.cells #[.int .i64 0] 3) = w3 at *
  have hg := within_all HV.out hs3 hF3 t (t + 1) (by omega) (by omega)
  have ksz := wW_size w3 a xs.length c (hyp xs) t ((t + 1 : Nat) : Int)
  have kk := wW_kept w3 a xs.length c (hyp xs) t ((t + 1 : Nat) : Int)
  have hcall := each_any (enters_of Tryz.func30 (by kernel_rfl) rfl) (enters_of Tryz.func18 (by kernel_rfl) rfl) hg (Nat.le_refl _) (fun k hk => ⟨by rcases hk with hk | hk | hk | hk; have := hF3 k hk; omega; omega; omega; omega, rfl⟩) (Tel.hangs (Rule.occ (sys xs)) t w1.heap.size) (Teld.hangs (Rule.occ (sys xs)) t w1.heap.size) (S0 := fun k => k = w1.heap.size) ⟨rfl, rfl, kk.at' b3 (fun h => h)⟩ (fun k hk hs => by
    have hs' : k = w1.heap.size := hs
    rcases hk with hk | hk | hk | hk
    · have := HF1.out k hk; omega
    · omega
    · omega
    · omega) (at1_does (Rule.occ (sys xs)) t w1.heap.size)
  have hw2 := within_new a xs.length c (hyp xs) t ((t + 1 : Nat) : Int) w3
  have HKK : Hid (Kept No w (wW w3 a xs.length c (hyp xs) t ((t + 1 : Nat) : Int))) := kw3.trans kk (fun _ h => h.elim)
  rw [show ((t + 1 : Nat) : Int) = (t : Int) + 1 by omega] at hcall hw2 HKK
  unfold wlb at hcall
  clear hs3 hF3 sz3 b3 hg ksz kk kw3
  go_wp2_with (first
    | (go_at_call 17; refine hw2.mono ?_; rintro e w4 ⟨rfl, hw4e⟩; have HW4 : Hid (w4 = wW w3 a xs.length c (hyp xs) t ((t : Int) + 1)) := hw4e; have hcall2 := hcall; rw [← HW4.out] at hcall2; clear hw4e hcall hw2)
    | (go_at_call 16; refine hcall2.mono ?_; rintro e w5 ⟨⟨v3, rfl⟩, S', hk5, hm5, hor⟩; clear hcall2; have hb5 := at_or hor; have c5 := cell_box hb5; have HF : Hid (Kept No w w5) := (by have k4 := HKK.out; rw [← HW4.out] at k4; exact k4.trans hk5 (fun k h => .inr (by have h' : k = w1.heap.size := h; have := HK1.out.size; omega))); clear hk5 hm5 hor hb5))
  go_ret2
  exact ⟨rfl, HF.out⟩
end Go.Proofs.YtahhkkkgaoekcaaGreatDoor
