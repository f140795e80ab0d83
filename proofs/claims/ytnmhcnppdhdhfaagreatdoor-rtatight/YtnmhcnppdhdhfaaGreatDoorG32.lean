/-
  One text: OCycle, OAt, ORuns.
-/
import Derived.Test.YtnmhcnppdhdhfaaGreatDoorHOWith
namespace Go.Proofs.YtnmhcnppdhdhfaaGreatDoor
open Go.RowKit Go.Shelf Plain
set_option linter.unusedVariables false
set_option maxRecDepth 100000

/-- what cycle tells -/
def CycleSpec (F : Nat → Prop) (a : Option Addr) (c : Nat) (xs : List Srv) : Prop :=
  ∀ w', Sv w' F a xs.length c xs → (∀ k, F k → k < w'.heap.size) → Calls Tryz.prog 41 #[.slice a xs.length c, .int .i64 (hyp xs)] w' fun e w'' => ∃ g cap, e = .returned (.slice (some ⟨g, 0, none⟩) (Rule.runsOf (Rule.occ (sys xs)) (hyp xs) (hyp xs)).length cap) ∧ Ow w'' w'.heap.size (.slice (some ⟨g, 0, none⟩) (Rule.runsOf (Rule.occ (sys xs)) (hyp xs) (hyp xs)).length cap) (Rule.runsOf (Rule.occ (sys xs)) (hyp xs) (hyp xs)) ∧ Kept No w' w''

/-- the world behind within's call -/
def wW (w : World) (a : Option Addr) (n c : Nat) (t u v : Int) : World := ((w.alloc (.cells #[.slice a n c] 36)).alloc (.cells #[.int .i64 t] 3)).alloc (.cells #[.int .i64 u, .int .i64 v] 73)
def wlb (w : World) : Array Value := #[.pointer (some ⟨w.heap.size + 2, 0, none⟩), .pointer (some ⟨w.heap.size + 1, 0, none⟩), .pointer (some ⟨w.heap.size, 0, none⟩)]
theorem wW_kept (w : World) (a : Option Addr) (n c : Nat) (t u v : Int) : Kept No w (wW w a n c t u v) := (((Kept.refl No w).alloc _).alloc _).alloc _
theorem wW_size (w : World) (a : Option Addr) (n c : Nat) (t u v : Int) : (wW w a n c t u v).heap.size = w.heap.size + 3 := by simp [wW]
theorem wW_at (w : World) (a : Option Addr) (n c : Nat) (t u v : Int) : (wW w a n c t u v).heap[w.heap.size]? = some (.cells #[.slice a n c] 36) ∧ (wW w a n c t u v).heap[w.heap.size + 1]? = some (.cells #[.int .i64 t] 3) ∧ (wW w a n c t u v).heap[w.heap.size + 2]? = some (.cells #[.int .i64 u, .int .i64 v] 73) := by
  obtain ⟨e1, e2⟩ := heap_alloc2 (w := w) (o1 := .cells #[.slice a n c] 36) (o2 := .cells #[.int .i64 t] 3)
  refine ⟨(Below.heap_alloc _ _ _ (by simp <;> omega)).trans e1, (Below.heap_alloc _ _ _ (by simp <;> omega)).trans e2, ?_⟩
  have := World.alloc_heap_new ((w.alloc (.cells #[.slice a n c] 36)).alloc (.cells #[.int .i64 t] 3)) (.cells #[.int .i64 u, .int .i64 v] 73)
  simp only [World.size_alloc] at this
  exact this

theorem within_gives {F : Nat → Prop} {a : Option Addr} {c : Nat} {xs : List Srv} {w : World} (hv : Vd xs) (h : Sv w F a xs.length c xs) (hF : ∀ k, F k → k < w.heap.size) (fr below : Nat) (hfb : fr ≤ below) (hb : below ≤ 1099511627776) (hcy : 2 * hyp xs < below - mv (hyp xs) fr → CycleSpec F a c xs) :
    Gives Tryz.prog 37 (wlb w) (Rule.occ (sys xs)) fr below (wW w a xs.length c (hyp xs) fr below) (fun k => F k ∨ k = w.heap.size ∨ k = w.heap.size + 1 ∨ k = w.heap.size + 2) := by
  intro l J Jx W S hsz hsame hGS hJ hJx hT h0
  obtain ⟨e1, e2, e3⟩ := wW_at w a xs.length c (hyp xs) fr below
  have hk := wW_kept w a xs.length c (hyp xs) fr below
  have hs := wW_size w a xs.length c (hyp xs) fr below
  have h' : Sv W F a xs.length c xs := h.same (fun k hk' => (hsame k (.inl hk')).trans (hk.block k (hF k hk') (fun h => h)))
  have f1 := (hsame _ (.inr (.inl rfl))).trans e1
  have f2 := (hsame _ (.inr (.inr (.inl rfl)))).trans e2
  have f3 := (hsame _ (.inr (.inr (.inr rfl)))).trans e3
  exact within_in hv w.heap.size (w.heap.size + 1) (w.heap.size + 2) fr below hfb hb l J Jx W S h' (fun k hk' => by have := hF k hk'; omega) (fun k hk' => hGS k (.inl hk'))
    ⟨cell_box f1, cell_box f2, (cells2' f3).1, (cells2' f3).2⟩ (hGS _ (.inr (.inl rfl))) (hGS _ (.inr (.inr (.inl rfl)))) (hGS _ (.inr (.inr (.inr rfl)))) hJ hJx hT h0 hcy

theorem ow_same {w W : World} {base : Nat} {v : Value} {L : List (Nat × Nat)} (h : Ow w base v L) (hk : ∀ g, v.ownBlock = some g → W.heap[g]? = w.heap[g]?) : Ow W base v L := by
  obtain ⟨hl, h1 | ⟨g, cap, cur, hv, hb, hg, r⟩⟩ := h
  · exact ⟨hl, .inl h1⟩
  · exact ⟨hl, .inr ⟨g, cap, cur, hv, hb, (hk g (by rw [hv]; rfl)).trans hg, r⟩⟩
/-- a box that holds an owned list of the runs of f from a0 on -/
def Lst (f : Nat → Nat) (a0 base bx : Nat) : St := fun q W S => ∃ v, S = (fun k => k = bx ∨ v.ownBlock = some k) ∧ a0 ≤ q ∧ W.heap[bx]? = some (.cells #[v] 33) ∧ Ow W base v (Rule.runsOf f a0 (q - a0)) ∧ base ≤ W.heap.size ∧ v.ownBlock ≠ some bx
theorem Lst.hangs (f : Nat → Nat) (a0 base bx : Nat) : Hangs (Lst f a0 base bx) := by
  refine ⟨?_, ?_⟩
  · rintro q W S ⟨v, rfl, hq, hb, ho, hbs, hne⟩ k (hk | hk)
    · subst hk; exact heap_lt hb
    · exact (ho.lt k hk).2
  · rintro q W W' S ⟨v, rfl, hq, hb, ho, hbs, hne⟩ hs hk
    refine ⟨v, rfl, hq, (hk _ (.inl rfl)).trans hb, ?_, by omega, hne⟩
    exact ow_same ho (fun g hg => hk g (.inr hg))

theorem runs_bound (f : Nat → Nat) (a0 m x : Nat) (hm : m ≤ 1099511627776) (hx : x ≤ 1099511627776) : ∀ y ∈ Rule.runsOf f a0 m, y.1 + x ≤ 4611686018427387904 := fun y hy => by
  have := (Rule.runsOf_tile f a0 m).elt hy
  omega

/-- the list behind one slot more -/
theorem Lst.next {f : Nat → Nat} {a0 base bx q len : Nat} {w w1 : World} {v v' : Value} (hq : a0 ≤ q) (h1 : 1 ≤ len) (hc : ∀ u, q ≤ u → u < q + len → f u = f q) (hb : w.heap[bx]? = some (.cells #[v] 33)) (hbs : base ≤ w.heap.size) (hne : v.ownBlock ≠ some bx)
    (ho : Ow w1 base v' (Rule.joinL (Rule.runsOf f a0 (q - a0)) (len, f q))) (hk : Kept (fun k => v.ownBlock = some k) w w1) (hn : ∀ k, v'.ownBlock = some k → v.ownBlock = some k ∨ w.heap.size ≤ k) :
    ∃ S', Kept (fun k => k = bx ∨ v.ownBlock = some k) w (w1.setCell ⟨bx, 0, none⟩ v') ∧ More (fun k => k = bx ∨ v.ownBlock = some k) w S' ∧ Lst f a0 base bx (q + len) (w1.setCell ⟨bx, 0, none⟩ v') S' := by
  have hb1 := hk.at' hb hne
  have hne' : v'.ownBlock ≠ some bx := fun e => by
    rcases hn bx e with h | h
    · exact hne h
    · have := heap_lt hb; omega
  refine ⟨fun k => k = bx ∨ v'.ownBlock = some k, ?_, ?_, v', rfl, by omega, ?_, ?_, ?_, hne'⟩
  · exact (hk.mono (G := fun k => k = bx ∨ v.ownBlock = some k) (fun k h => .inr h)).setCell (p := ⟨bx, 0, none⟩) (.inl (.inl rfl)) _
  · rintro k (h | h)
    · exact .inl (.inl h)
    · rcases hn k h with h' | h'
      · exact .inl (.inr h')
      · exact .inr h'
  · exact Boxed.set (t := 33) (v := v) _ hb1
  · have e : q + len - a0 = (q - a0) + len := by omega
    rw [e, Rule.runsOf_join f a0 (q - a0) len (f q) h1 (fun u x y => by rw [show a0 + (q - a0) = q by omega] at x y; exact hc u x y)]
    exact ow_same ho (fun g hg => Below.heap_setCell _ _ _ _ (fun e => hne' (by rw [← show g = bx from e]; exact hg)))
  · have := hk.size; simp [World.setCell]; omega

theorem ow_slice {w : World} {base : Nat} {v : Value} {L : List (Nat × Nat)} (h : Ow w base v L) : ∃ a n c, v = .slice a n c := by
  obtain ⟨_, ⟨h, _⟩ | ⟨g, cap, cur, h, _⟩⟩ := h
  · exact ⟨_, _, _, h⟩
  · exact ⟨_, _, _, h⟩
theorem joined_kept {w w0 w1 : World} {F : Nat → Prop} (h : Kept No w w0) (k : Kept F w0 w1) : Kept F w w1 := (h.mono (fun _ h => h.elim)).trans k (fun _ h => .inl h)

set_option maxHeartbeats 1000000 in
theorem cycle1_does (f : Nat → Nat) (a0 b base bx : Nat) (hb : b ≤ 4000000) : Does Tryz.prog 62 #[.pointer (some ⟨bx, 0, none⟩)] f b (Lst f a0 base bx) (fun _ _ _ => False) := by
  intro q len W S hI h1 h2 h3
  obtain ⟨v, rfl, hq, hbx, ho, hbs, hne⟩ := hI
  have c0 := cell_box hbx
  have fz : W.frozen? ⟨bx, 0, none⟩ = false := by simp [World.frozen?, hbx]
  have HB : Hid (W.heap[bx]? = some (.cells #[v] 33) ∧ Ow W base v (Rule.runsOf f a0 (q - a0)) ∧ base ≤ W.heap.size ∧ v.ownBlock ≠ some bx) := ⟨hbx, ho, hbs, hne⟩
  have HL : Hid (∀ W', Kept No W W' → Calls Tryz.prog 22 #[v, .agg #[.int .i64 len, .int .i64 (f q)]] W' (Joined W' base v (Rule.runsOf f a0 (q - a0)) (len, f q))) := fun W' hk => join_any base v _ len (f q) W' (hk.owns ho (fun _ _ h => h)) (by have := hk.size; omega) (by have := (Rule.runsOf_tile f a0 (q - a0)).len; omega) (runs_bound _ _ _ _ (by omega) (by omega))
  have HV : Hid (∃ a n c, v = .slice a n c) := ow_slice ho
  obtain ⟨va, vn, vc, hvv⟩ := HV.out
  unfold sv
  have hka : Kept No W (W.alloc (.cells #[.int .i64 len, .int .i64 (f q)] 75)) := (Kept.refl No W).alloc _
  have c1 := hka.cell c0 (fun h => h)
  have hc := HL.out _ hka
  have HKA : Hid (Kept No W (W.alloc (.cells #[.int .i64 len, .int .i64 (f q)] 75))) := hka
  clear hbx ho hbs hne HV c0 HL hka
  subst hvv
  go_enter Tryz.func62, Tryz.ntmps62
  go_wp2_with (go_at_call 22; refine hc.mono ?_; rintro e w1 ⟨v', rfl, ho1, hk1, hn1⟩; obtain ⟨va', vn', vc', hvv'⟩ := ow_slice ho1; subst hvv'; obtain ⟨hbx, ho, hbs, hne⟩ := HB.out; have hb1 := hk1.at' (HKA.out.at' hbx (fun h => h)) hne; have c2 := cell_box hb1; have fz1 : w1.frozen? ⟨bx, 0, none⟩ = false := (by simp [World.frozen?, hb1]); have hkk := joined_kept HKA.out hk1; have HF : Hid (Took (Lst f a0 base bx) (fun _ _ _ => False) (q + len) W (fun k => k = bx ∨ (Value.slice va vn vc).ownBlock = some k) (.returned (.bool true)) (w1.setCell ⟨bx, 0, none⟩ (.slice va' vn' vc'))) := (by obtain ⟨S', z1, z2, z3⟩ := Lst.next hq h1 h3 hbx hbs hne ho1 hkk (fun k hk => by rcases hn1 k hk with h | h; exact .inl h; exact .inr (by have := HKA.out.size; omega)); exact ⟨S', z1, z2, .inl ⟨rfl, z3⟩⟩); clear ho1 hk1 hn1 hbx ho hbs hne hb1 hkk hc)
  go_ret
  exact HF.out

theorem or_false3 {p : Prop} (h : p ∨ ∃ q : Nat, False) : p := by
  rcases h with h | ⟨q, h⟩
  · exact h
  · exact h.elim
theorem hangs_false : Hangs (fun _ _ _ => False) := ⟨fun _ _ _ h => h.elim, fun _ _ _ _ h => h.elim⟩
theorem lst_start (f : Nat → Nat) (a0 : Nat) (w : World) : Lst f a0 w.heap.size w.heap.size a0 (w.alloc (.cells #[.slice none 0 0] 33)) (fun k => k = w.heap.size ∨ (Value.slice none 0 0).ownBlock = some k) := by
  refine ⟨.slice none 0 0, rfl, Nat.le_refl _, World.alloc_heap_new _ _, ?_, by simp, by simp [Value.ownBlock]⟩
  rw [Nat.sub_self]
  exact ⟨rfl, .inl ⟨rfl, rfl⟩⟩
theorem Lst.keep {f : Nat → Nat} {a0 base bx q : Nat} {w w' : World} {S : Nat → Prop} (h : Lst f a0 base bx q w S) (hk : Kept No w w') : Lst f a0 base bx q w' S :=
  (Lst.hangs f a0 base bx).kept _ w w' S h hk.size (fun k hs => hk.block k ((Lst.hangs f a0 base bx).old _ _ _ h k hs) (fun h => h))

set_option maxHeartbeats 1000000 in
theorem cycle_spec {F : Nat → Prop} {a : Option Addr} {c : Nat} {xs : List Srv} (hv : Vd xs) : CycleSpec F a c xs := by
  intro w h hF
  have hH1 := hv.hyp1
  have hH2 := hv.hyp2
  have k0 : Kept No w (w.alloc (.cells #[.slice none 0 0] 33)) := (Kept.refl No w).alloc _
  have hs1 : Sv (w.alloc (.cells #[.slice none 0 0] 33)) F a xs.length c xs := h.keep k0
  have hF1 : ∀ k, F k → k < (w.alloc (.cells #[.slice none 0 0] 33)).heap.size := fun k hk => by have := hF k hk; simp; omega
  have sz1 : (w.alloc (.cells #[.slice none 0 0] 33)).heap.size = w.heap.size + 1 := by simp
  have hst := lst_start (Rule.occ (sys xs)) (hyp xs) w
  have HK0 : Hid (Kept No w (w.alloc (.cells #[.slice none 0 0] 33)) ∧ (w.alloc (.cells #[.slice none 0 0] 33)).heap.size = w.heap.size + 1) := ⟨k0, sz1⟩
  have hmv : ¬ (2 * hyp xs < 2 * hyp xs - mv (hyp xs) (hyp xs)) := by omega
  have hg := within_gives hv hs1 hF1 (hyp xs) (2 * hyp xs) (by omega) (by omega) (fun hh => (hmv hh).elim)
  have hlst := hst.keep (wW_kept (w.alloc (.cells #[.slice none 0 0] 33)) a xs.length c (hyp xs) (hyp xs) ((2 * hyp xs : Nat) : Int))
  have ksz := wW_size (w.alloc (.cells #[.slice none 0 0] 33)) a xs.length c (hyp xs) (hyp xs) ((2 * hyp xs : Nat) : Int)
  have hcall := each_any (enters_of Tryz.func37 (by kernel_rfl) rfl) (enters_of Tryz.func62 (by kernel_rfl) rfl) hg (Nat.le_refl _) (fun k hk => ⟨by rcases hk with hk | hk | hk | hk; have := hF1 k hk; omega; omega; omega; omega, rfl⟩) (Lst.hangs _ _ _ _) hangs_false hlst (fun k hk hs => by
    have hs' : k = w.heap.size := by rcases hs with h | h; exact h; simp [Value.ownBlock] at h
    rcases hk with hk | hk | hk | hk
    · have := hF k hk; omega
    · omega
    · omega
    · omega) (cycle1_does (Rule.occ (sys xs)) (hyp xs) (2 * hyp xs) w.heap.size w.heap.size (by omega))
  have HN : Hid (2 * hyp xs - hyp xs = hyp xs) := (show 2 * hyp xs - hyp xs = hyp xs by omega)
  have HKW : Hid (Kept No (w.alloc (.cells #[.slice none 0 0] 33)) (wW (w.alloc (.cells #[.slice none 0 0] 33)) a xs.length c (hyp xs) (hyp xs) ((2 * hyp xs : Nat) : Int))) := wW_kept _ _ _ _ _ _ _
  have hw2 := within_new a xs.length c (hyp xs) (hyp xs) ((2 * hyp xs : Nat) : Int) (w.alloc (.cells #[.slice none 0 0] 33))
  rw [show ((2 * hyp xs : Nat) : Int) = 2 * (hyp xs : Int) by omega] at hcall hw2 HKW
  clear h hF hs1 hF1 hst hmv hg hlst k0 sz1 ksz
  unfold wlb at hcall
  generalize hyp xs = H at *
  have hruns : ∀ (v : Value) (w' : World), Ow w' w.heap.size v (Rule.runsOf (Rule.occ (sys xs)) H (2 * H - H)) → ∃ g cap, v = .slice (some ⟨g, 0, none⟩) (Rule.runsOf (Rule.occ (sys xs)) H H).length cap ∧ Ow w' w.heap.size v (Rule.runsOf (Rule.occ (sys xs)) H H) := fun v w' ho => by
    rw [HN.out] at ho
    have hl : 1 ≤ (Rule.runsOf (Rule.occ (sys xs)) H H).length := by
      apply Decidable.byContradiction
      intro hn
      have e : Rule.runsOf (Rule.occ (sys xs)) H H = [] := List.eq_nil_of_length_eq_zero (by omega)
      have := (Rule.runsOf_tile (Rule.occ (sys xs)) H H).sum
      rw [e] at this
      simp at this
      omega
    obtain ⟨_, ⟨_, h0⟩ | ⟨g, cap, cur, rfl, _⟩⟩ := id ho
    · omega
    · exact ⟨g, cap, rfl, ho⟩
  have HR : Hid (∀ (v : Value) (w' : World), Ow w' w.heap.size v (Rule.runsOf (Rule.occ (sys xs)) H (2 * H - H)) → ∃ g cap, v = .slice (some ⟨g, 0, none⟩) (Rule.runsOf (Rule.occ (sys xs)) H H).length cap ∧ Ow w' w.heap.size v (Rule.runsOf (Rule.occ (sys xs)) H H)) := hruns
  clear hruns
  have HC : Hid (Calls Tryz.prog 19 _ _ _) := hcall
  have HW : Hid (Calls Tryz.prog 20 _ _ _) := hw2
  clear hcall hw2
  go_enter Tryz.func41, Tryz.ntmps41
  go_upto_region 2 with fail
  have hcall := HC.out
  have hw2 := HW.out
  clear HC HW
  generalize w.alloc (.cells #[.slice none 0 0] 33) = w1 at *
  go_wp2_with (first
    | (go_at_call 20; refine hw2.mono ?_; rintro e w2 ⟨rfl, hw2e⟩; have HW2 : Hid (w2 = wW w1 a xs.length c H H (2 * (H : Int))) := hw2e; have hcall2 := hcall; rw [← HW2.out] at hcall2; clear hw2e hcall hw2)
    | (go_at_call 19; refine hcall2.mono ?_; rintro e w3 ⟨⟨v3, rfl⟩, S', hk3, hm3, hor⟩; clear hcall2; obtain ⟨v, rfl, hq, hbx, ho, hbs, hne⟩ := or_false3 hor; have c3 := cell_box hbx; have HF : Hid (Ow w3 w.heap.size v (Rule.runsOf (Rule.occ (sys xs)) H (2 * H - H)) ∧ Kept (fun k => k = w.heap.size ∨ (Value.slice none 0 0).ownBlock = some k) w2 w3) := ⟨ho, hk3⟩; clear hk3 hm3 hor hq hbx ho hbs hne))
  go_ret
  obtain ⟨g, cap, rfl, ho⟩ := HR.out _ _ HF.out.1
  refine ⟨g, cap, rfl, ho, ?_⟩
  have k2 := HKW.out
  rw [← HW2.out] at k2
  refine (HK0.out.1.trans k2 (fun _ h => h.elim)).trans HF.out.2 (fun k h => .inr ?_)
  rcases h with h | h
  · omega
  · simp [Value.ownBlock] at h
theorem within_all {F : Nat → Prop} {a : Option Addr} {c : Nat} {xs : List Srv} {w : World} (hv : Vd xs) (h : Sv w F a xs.length c xs) (hF : ∀ k, F k → k < w.heap.size) (fr below : Nat) (hfb : fr ≤ below) (hb : below ≤ 1099511627776) :
    Gives Tryz.prog 37 (wlb w) (Rule.occ (sys xs)) fr below (wW w a xs.length c (hyp xs) fr below) (fun k => F k ∨ k = w.heap.size ∨ k = w.heap.size + 1 ∨ k = w.heap.size + 2) :=
  within_gives hv h hF fr below hfb hb (fun _ => cycle_spec hv)
end Go.Proofs.YtnmhcnppdhdhfaaGreatDoor

namespace Go.Proofs.YtnmhcnppdhdhfaaGreatDoor
open Go.RowKit Go.Shelf Plain
set_option linter.unusedVariables false
set_option maxRecDepth 100000

theorem tim_yes {xs : List Srv} (h : timF xs xs.length = none) : hyV xs xs.length = (hyp xs : Int) ∧ hyE xs xs.length = 0 := by
  have hv := vd_of h
  constructor
  · unfold hyV
    rw [h]
    show lcmV (zP xs) xs.length 1048576 = (hyp xs : Int)
    unfold hyp
    have := hv.hyp1
    unfold hyp at this
    omega
  · unfold hyE
    rw [h]
theorem tim_no {xs : List Srv} {p : Int × Int} (h : timF xs xs.length = some p) : hyV xs xs.length = 0 ∧ hyE xs xs.length = p.1 := by
  constructor
  · unfold hyV; rw [h]
  · unfold hyE; rw [h]

end Go.Proofs.YtnmhcnppdhdhfaaGreatDoor

namespace Go.Proofs.YtnmhcnppdhdhfaaGreatDoor
open Go.RowKit Go.Shelf Plain
set_option linter.unusedVariables false
set_option maxRecDepth 100000

theorem isSpan_yes (f b : Nat) (w : World) (h1 : f ≤ b) (h2 : b ≤ 1099511627776) : Calls Tryz.prog 18 #[.int .i64 f, .int .i64 b] w fun e w' => e = .returned (.bool true) ∧ w' = w := by
  have h0' : (0 : Int) ≤ f := by omega
  have h1' : (f : Int) ≤ b := by omega
  have h2' : (b : Int) ≤ 1099511627776 := by omega
  go_enter Tryz.func18, Tryz.ntmps18
  go_wp2
  go_ret
  exact ⟨by simp <;> omega, rfl⟩
namespace Rule
theorem joinL_len (L : List (Nat × Nat)) (x : Nat × Nat) : L.length ≤ (joinL L x).length ∧ (joinL L x).length ≤ L.length + 1 := by
  rcases List.eq_nil_or_concat L with rfl | ⟨K, y, rfl⟩
  · rw [joinL_nil]; simp
  · rw [List.concat_eq_append, joinL_snoc]
    split <;> simp
theorem runsOf_len (f : Nat → Nat) (a m k : Nat) : (runsOf f a m).length ≤ (runsOf f a (m + k)).length := by
  induction k with
  | zero => exact Nat.le_refl _
  | succ k ih =>
    have := (joinL_len (runsOf f a (m + k)) (1, f (a + (m + k)))).1
    show _ ≤ (joinL (runsOf f a (m + k)) (1, f (a + (m + k)))).length
    omega
end Rule

/-- a list that is not too long yet; one that is -/
def Few (f : Nat → Nat) (a0 base bx : Nat) : St := fun q W S => Lst f a0 base bx q W S ∧ (Rule.runsOf f a0 (q - a0)).length ≤ 65536
def Many (f : Nat → Nat) (a0 b base bx : Nat) : St := fun q W S => Lst f a0 base bx q W S ∧ q ≤ b ∧ 65536 < (Rule.runsOf f a0 (q - a0)).length ∧ (Rule.runsOf f a0 (q - a0)).length ≤ 65537
theorem Few.hangs (f : Nat → Nat) (a0 base bx : Nat) : Hangs (Few f a0 base bx) :=
  ⟨fun q W S h => (Lst.hangs f a0 base bx).old q W S h.1, fun q W W' S h h1 h2 => ⟨(Lst.hangs f a0 base bx).kept q W W' S h.1 h1 h2, h.2⟩⟩
theorem Many.hangs (f : Nat → Nat) (a0 b base bx : Nat) : Hangs (Many f a0 b base bx) :=
  ⟨fun q W S h => (Lst.hangs f a0 base bx).old q W S h.1, fun q W W' S h h1 h2 => ⟨(Lst.hangs f a0 base bx).kept q W W' S h.1 h1 h2, h.2⟩⟩
theorem Few.keep {f : Nat → Nat} {a0 base bx q : Nat} {w w' : World} {S : Nat → Prop} (h : Few f a0 base bx q w S) (hk : Kept No w w') : Few f a0 base bx q w' S := ⟨h.1.keep hk, h.2⟩
theorem ow_len {w : World} {base : Nat} {a : Option Addr} {n c : Nat} {L : List (Nat × Nat)} (h : Ow w base (.slice a n c) L) : n = L.length := by
  obtain ⟨_, ⟨h, h0⟩ | ⟨g, cap, cur, h, _⟩⟩ := h
  · injection h with _ h _; omega
  · injection h with _ h _

set_option maxHeartbeats 1000000 in
theorem runs1_does (f : Nat → Nat) (a0 b base bx : Nat) (hb : b ≤ 1099511627776) : Does Tryz.prog 21 #[.pointer (some ⟨bx, 0, none⟩)] f b (Few f a0 base bx) (Many f a0 b base bx) := by
  intro q len W S hI h1 h2 h3
  obtain ⟨⟨v, rfl, hq, hbx, ho, hbs, hne⟩, hfew⟩ := hI
  have c0 := cell_box hbx
  have HB : Hid (W.heap[bx]? = some (.cells #[v] 33) ∧ Ow W base v (Rule.runsOf f a0 (q - a0)) ∧ base ≤ W.heap.size ∧ v.ownBlock ≠ some bx) := ⟨hbx, ho, hbs, hne⟩
  have HL : Hid (∀ W', Kept No W W' → Calls Tryz.prog 22 #[v, .agg #[.int .i64 len, .int .i64 (f q)]] W' (Joined W' base v (Rule.runsOf f a0 (q - a0)) (len, f q))) := fun W' hk => join_any base v _ len (f q) W' (hk.owns ho (fun _ _ h => h)) (by have := hk.size; omega) (by omega) (runs_bound _ _ _ _ (by omega) (by omega))
  have HV : Hid (∃ a n c, v = .slice a n c) := ow_slice ho
  have HJ : Hid (Rule.runsOf f a0 (q + len - a0) = Rule.joinL (Rule.runsOf f a0 (q - a0)) (len, f q)) := by
    have e : q + len - a0 = (q - a0) + len := by omega
    show Rule.runsOf f a0 (q + len - a0) = _
    rw [e, Rule.runsOf_join f a0 (q - a0) len (f q) h1 (fun u x y => by rw [show a0 + (q - a0) = q by omega] at x y; exact h3 u x y)]
  have hjl := (Rule.joinL_len (Rule.runsOf f a0 (q - a0)) (len, f q)).2
  have hjl2 : (Rule.joinL (Rule.runsOf f a0 (q - a0)) (len, f q)).length ≤ 65537 := by omega
  obtain ⟨va, vn, vc, hvv⟩ := HV.out
  unfold sv
  have hka : Kept No W (W.alloc (.cells #[.int .i64 len, .int .i64 (f q)] 75)) := (Kept.refl No W).alloc _
  have c1 := hka.cell c0 (fun h => h)
  have hc := HL.out _ hka
  have HKA : Hid (Kept No W (W.alloc (.cells #[.int .i64 len, .int .i64 (f q)] 75))) := hka
  clear hbx ho hbs hne HV c0 HL hka hjl hfew
  subst hvv
  by_cases hlong : 65536 < (Rule.joinL (Rule.runsOf f a0 (q - a0)) (len, f q)).length
  · have HLG : Hid (65536 < (Rule.joinL (Rule.runsOf f a0 (q - a0)) (len, f q)).length) := hlong
    go_enter Tryz.func21, Tryz.ntmps21
    go_wp2_with (go_at_call 22; refine hc.mono ?_; rintro e w1 ⟨v', rfl, ho1, hk1, hn1⟩; obtain ⟨va', vn', vc', hvv'⟩ := ow_slice ho1; subst hvv'; have hvn := ow_len ho1; have hl1 : (65536 : Int) < vn' := (by omega); have hl2 : vn' ≤ 65537 := (by omega); obtain ⟨hbx, ho, hbs, hne⟩ := HB.out; have hb1 := hk1.at' (HKA.out.at' hbx (fun h => h)) hne; have c2 := cell_box hb1; have fz1 : w1.frozen? ⟨bx, 0, none⟩ = false := (by simp [World.frozen?, hb1]); have hkk := joined_kept HKA.out hk1; have HF : Hid (Took (Few f a0 base bx) (Many f a0 b base bx) (q + len) W (fun k => k = bx ∨ (Value.slice va vn vc).ownBlock = some k) (.returned (.bool false)) (w1.setCell ⟨bx, 0, none⟩ (.slice va' vn' vc'))) := (by obtain ⟨S', z1, z2, z3⟩ := Lst.next hq h1 h3 hbx hbs hne ho1 hkk (fun k hk => by rcases hn1 k hk with h | h; exact .inl h; exact .inr (by have := HKA.out.size; omega)); exact ⟨S', z1, z2, .inr ⟨rfl, z3, h2, by rw [HJ.out]; exact HLG.out, by rw [HJ.out]; exact hjl2⟩⟩); clear ho1 hk1 hn1 hbx ho hbs hne hb1 hkk hc hvn hlong)
    go_ret
    show Took _ _ _ _ _ (.returned (.bool (decide ((vn' : Int) ≤ 65536)))) _
    rw [decide_eq_false (by omega)]
    exact HF.out
  · have HLG : Hid (¬ 65536 < (Rule.joinL (Rule.runsOf f a0 (q - a0)) (len, f q)).length) := hlong
    go_enter Tryz.func21, Tryz.ntmps21
    go_wp2_with (go_at_call 22; refine hc.mono ?_; rintro e w1 ⟨v', rfl, ho1, hk1, hn1⟩; obtain ⟨va', vn', vc', hvv'⟩ := ow_slice ho1; subst hvv'; have hvn := ow_len ho1; have hl1 : (vn' : Int) ≤ 65536 := (by omega); obtain ⟨hbx, ho, hbs, hne⟩ := HB.out; have hb1 := hk1.at' (HKA.out.at' hbx (fun h => h)) hne; have c2 := cell_box hb1; have fz1 : w1.frozen? ⟨bx, 0, none⟩ = false := (by simp [World.frozen?, hb1]); have hkk := joined_kept HKA.out hk1; have HF : Hid (Took (Few f a0 base bx) (Many f a0 b base bx) (q + len) W (fun k => k = bx ∨ (Value.slice va vn vc).ownBlock = some k) (.returned (.bool true)) (w1.setCell ⟨bx, 0, none⟩ (.slice va' vn' vc'))) := (by obtain ⟨S', z1, z2, z3⟩ := Lst.next hq h1 h3 hbx hbs hne ho1 hkk (fun k hk => by rcases hn1 k hk with h | h; exact .inl h; exact .inr (by have := HKA.out.size; omega)); exact ⟨S', z1, z2, .inl ⟨rfl, z3, by rw [HJ.out]; have := HLG.out; omega⟩⟩); clear ho1 hk1 hn1 hbx ho hbs hne hb1 hkk hc hvn hlong)
    go_ret
    exact HF.out

/-- what is told in the end -/
theorem few_many {f : Nat → Nat} {a0 b base bx : Nat} {W : World} {S : Nat → Prop} (hab : a0 ≤ b) (h : Few f a0 base bx b W S ∨ ∃ q, Many f a0 b base bx q W S) :
    ∃ v L, W.heap[bx]? = some (.cells #[v] 33) ∧ Ow W base v L ∧ L.length ≤ 65537 ∧ (L.length ≤ 65536 → L = Rule.runsOf f a0 (b - a0)) ∧ (65536 < L.length → 65536 < (Rule.runsOf f a0 (b - a0)).length) := by
  rcases h with ⟨⟨v, rfl, hq, hbx, ho, hbs, hne⟩, hf⟩ | ⟨q, ⟨v, rfl, hq, hbx, ho, hbs, hne⟩, hqb, hm, hm2⟩
  · exact ⟨v, _, hbx, ho, by omega, fun _ => rfl, fun h => h⟩
  · refine ⟨v, _, hbx, ho, hm2, fun h => by omega, fun _ => ?_⟩
    have := Rule.runsOf_len f a0 (q - a0) (b - q)
    rw [show q - a0 + (b - q) = b - a0 by omega] at this
    omega

set_option maxHeartbeats 2000000 in
theorem runs_yes {F : Nat → Prop} {a : Option Addr} {c : Nat} {xs : List Srv} (fr below : Nat) (w : World) (hg : Gl w) (h : Sv w F a xs.length c xs) (hF : ∀ k, F k → k < w.heap.size) (ht : timF xs xs.length = none) (hfb : fr ≤ below) (hb : below ≤ 1099511627776) :
    Calls Tryz.prog 8 #[.slice a xs.length c, .int .i64 fr, .int .i64 below] w fun e w' => Kept No w w' ∧ ((∃ v, (Rule.runsOf (Rule.occ (sys xs)) fr (below - fr)).length ≤ 65536 ∧ e = .returned (.tuple #[v, .int .i64 0]) ∧ Ow w' w.heap.size v (Rule.runsOf (Rule.occ (sys xs)) fr (below - fr))) ∨ (65536 < (Rule.runsOf (Rule.occ (sys xs)) fr (below - fr)).length ∧ e = .returned (.tuple #[.slice none 0 0, .int .i64 1]))) := by
  have hv := vd_of ht
  have hc := hyper_any F a xs.length c xs w hg h
  rw [(tim_yes ht).1, (tim_yes ht).2] at hc
  have hti := fun W => isSpan_yes fr below W hfb hb
  have HS : Hid (Sv w F a xs.length c xs ∧ (∀ k, F k → k < w.heap.size)) := ⟨h, hF⟩
  have HV : Hid (Vd xs) := hv
  clear h hF hg ht hv
  go_enter Tryz.func8, Tryz.ntmps8
  go_upto_region 6 with (first
    | (go_at_call 17; refine hc.mono ?_; rintro e w1 ⟨rfl, hk1⟩; have HK1 : Hid (Kept No w w1) := hk1; clear hk1 hc)
    | (go_at_call 18; refine (hti _).mono ?_; rintro e w2 ⟨rfl, hw2⟩; obtain rfl := hw2.symm))
  go_upto_region 7 with fail
  have k3 : Kept No w1 (w1.alloc (.cells #[.slice none 0 0] 33)) := (Kept.refl No w1).alloc _
  have kw3 : Kept No w (w1.alloc (.cells #[.slice none 0 0] 33)) := HK1.out.trans k3 (fun _ h => h.elim)
  have hs3 := HS.out.1.keep kw3
  have hF3 : ∀ k, F k → k < (w1.alloc (.cells #[.slice none 0 0] 33)).heap.size := fun k hk => by have := HS.out.2 k hk; have := kw3.size; omega
  have sz3 : (w1.alloc (.cells #[.slice none 0 0] 33)).heap.size = w1.heap.size + 1 := by simp
  have hst := lst_start (Rule.occ (sys xs)) fr w1
  have HF1 : Hid (∀ k, F k → k < w1.heap.size) := fun k hk => by have := HS.out.2 k hk; have := HK1.out.size; omega
  clear k3
  generalize w1.alloc (.cells #[.slice none 0 0] 33) = w3 at *
  have hgv := within_all HV.out hs3 hF3 fr below hfb hb
  have ksz := wW_size w3 a xs.length c (hyp xs) fr (below : Int)
  have kk := wW_kept w3 a xs.length c (hyp xs) fr (below : Int)
  have hfew : Few (Rule.occ (sys xs)) fr w1.heap.size w1.heap.size fr (wW w3 a xs.length c (hyp xs) fr (below : Int)) (fun k => k = w1.heap.size ∨ (Value.slice none 0 0).ownBlock = some k) := ⟨hst.keep kk, by rw [Nat.sub_self]; exact Nat.zero_le _⟩
  have hcall := each_any (enters_of Tryz.func37 (by kernel_rfl) rfl) (enters_of Tryz.func21 (by kernel_rfl) rfl) hgv (Nat.le_refl _) (fun k hk => ⟨by rcases hk with hk | hk | hk | hk; have := hF3 k hk; omega; omega; omega; omega, rfl⟩) (Few.hangs (Rule.occ (sys xs)) fr w1.heap.size w1.heap.size) (Many.hangs (Rule.occ (sys xs)) fr below w1.heap.size w1.heap.size) hfew (fun k hk hs => by
    have hs' : k = w1.heap.size := by rcases hs with h | h; exact h; simp [Value.ownBlock] at h
    rcases hk with hk | hk | hk | hk
    · have := HF1.out k hk; omega
    · omega
    · omega
    · omega) (runs1_does (Rule.occ (sys xs)) fr below w1.heap.size w1.heap.size hb)
  have hw2 := within_new a xs.length c (hyp xs) fr (below : Int) w3
  have HKK : Hid (Kept No w (wW w3 a xs.length c (hyp xs) fr (below : Int)) ∧ w.heap.size ≤ w1.heap.size) := ⟨kw3.trans kk (fun _ h => h.elim), HK1.out.size⟩
  unfold wlb at hcall
  clear hs3 hF3 sz3 hst hgv ksz kk kw3 hfew
  go_upto_region 8 with (first
    | (go_at_call 20; refine hw2.mono ?_; rintro e w4 ⟨rfl, hw4e⟩; have HW4 : Hid (w4 = wW w3 a xs.length c (hyp xs) fr (below : Int)) := hw4e; have hcall2 := hcall; rw [← HW4.out] at hcall2; clear hw4e hcall hw2)
    | (go_at_call 19; refine hcall2.mono ?_; rintro e w5 ⟨⟨v3, rfl⟩, S', hk5, hm5, hor⟩; clear hcall2; have hfm := few_many hfb hor; have HF : Hid (Kept No w w5 ∧ w.heap.size ≤ w1.heap.size) := (by have k4 := HKK.out.1; rw [← HW4.out] at k4; exact ⟨k4.trans hk5 (fun k h => .inr (by have := HKK.out.2; rcases h with h | h; omega; simp [Value.ownBlock] at h)), HKK.out.2⟩); clear hk5 hm5 hor))
  obtain ⟨v, L, hbx, ho, hl1, hl2, hl3⟩ := hfm
  have hl1' := hl1
  have hown : Ow w5 w.heap.size v L := by
    obtain ⟨e1, e2 | ⟨g, cap, cur, e2, e3, r⟩⟩ := ho
    · exact ⟨e1, .inl e2⟩
    · exact ⟨e1, .inr ⟨g, cap, cur, e2, Nat.le_trans HF.out.2 e3, r⟩⟩
  have HO : Hid (Ow w5 w.heap.size v L) := hown
  obtain ⟨va, vn, vc, hvv⟩ := ow_slice ho
  subst hvv
  have hvn := ow_len ho
  have c5 := cell_box hbx
  clear hbx ho hown
  by_cases hlong : 65536 < L.length
  · have HR : Hid (65536 < (Rule.runsOf (Rule.occ (sys xs)) fr (below - fr)).length) := hl3 hlong
    have hl4 : (65536 : Int) < vn := by omega
    clear hl1 hl2 hl3 hvn hlong
    go_wp2
    go_ret2
    exact ⟨HF.out.1, .inr ⟨HR.out, rfl⟩⟩
  · have e := hl2 (by omega)
    have HR : Hid ((Rule.runsOf (Rule.occ (sys xs)) fr (below - fr)).length ≤ 65536 ∧ Ow w5 w.heap.size (.slice va vn vc) (Rule.runsOf (Rule.occ (sys xs)) fr (below - fr))) := by
      rw [← e]
      exact ⟨by omega, HO.out⟩
    have hl4 : ¬ (65536 : Int) < vn := by omega
    clear hl1 hl2 hl3 hvn hlong e
    go_wp2
    go_ret2
    exact ⟨HF.out.1, .inl ⟨HR.out.1, _, rfl, HR.out.2⟩⟩
end Go.Proofs.YtnmhcnppdhdhfaaGreatDoor
