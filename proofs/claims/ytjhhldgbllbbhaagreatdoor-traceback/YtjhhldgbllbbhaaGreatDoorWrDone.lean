/-
  The Writer's Done and Len.
-/
import Derived.Test.YtjhhldgbllbbhaaGreatDoorWrBytes
namespace Go.Proofs.YtjhhldgbllbbhaaGreatDoor
open Go.RowKit
set_option linter.unusedVariables false
set_option maxRecDepth 100000

theorem frozen_new (w : World) (c : Array Value) (t : TypeId) (b i : Nat) (hb : b = w.heap.size) : (w.alloc (.cells c t)).frozen? ⟨b, i, none⟩ = false := by
  subst hb
  have h := heap_alloc_new w (.cells c t)
  unfold World.frozen?
  simp only [h]
  simp
/-- ownsRow from a lower base on -/
theorem owns_baseB {w : World} {b b' : Nat} {e : TypeId} {size : Nat} {v : Value} {n : Nat} {xs : List Value} (h : w.ownsRow b e size v n xs) (hb : b' ≤ b) : w.ownsRow b' e size v n xs := by
  refine ⟨h.1, ?_⟩
  rcases h.2 with h1 | ⟨g, cap, cur, hv, hg, r⟩
  · exact .inl h1
  · exact .inr ⟨g, cap, cur, hv, by omega, r⟩

/-- what Done's closure leaves: the told bytes in block b2 -/
def Told (b2 : Nat) (bs : List Nat) (w w' : World) : Prop := ∃ a n c, w'.cell? ⟨b2, 0, none⟩ = some (.slice a n c) ∧ w'.frozen? ⟨b2, 0, none⟩ = false ∧ w'.ownsRow w.heap.size 5 1 (.slice a n c) bs.length (bs.map bv) ∧ Kept (fun k => k = b2) w w'

set_option maxHeartbeats 1000000 in
theorem done1_any (F : Nat → Prop) (p : Nat) (bs : List Nat) (w : World) (b1 b2 : Nat) (u : Value) (h : Wr w F p bs 0) (hsz : bs.length ≤ 140737488355328)
    (d1 : w.cell? ⟨b1, 0, none⟩ = some (.pointer (some ⟨p, 0, none⟩))) (d2 : w.cell? ⟨b2, 0, none⟩ = some u) (f2 : w.frozen? ⟨b2, 0, none⟩ = false) :
    Calls Tryz.prog 44 #[.pointer (some ⟨b1, 0, none⟩), .pointer (some ⟨b2, 0, none⟩)] w fun ex w' => ex = .returned (.int .i64 0) ∧ Told b2 bs w w' := by
  obtain ⟨v, hv⟩ := h
  have c0 := hv.c0
  obtain ⟨a, c, rfl, hB⟩ := Bs.of_owns hv.own hv.lt
  have cc := clone_any _ a bs.length c bs w hB hsz
  have hb2 := cell_lt d2
  clear hv hB
  go_enter Tryz.func44, Tryz.ntmps44
  go_wp2_with (go_at_call 45; refine cc.mono ?_; rintro ex w1 ⟨v1, rfl, own1, bel1⟩; have d21 := (bel1.cell hb2).trans d2; have f21 := (bel1.frozen (p := ⟨b2, 0, none⟩) hb2).trans f2; obtain ⟨a1, c1, rfl⟩ : ∃ a c, v1 = .slice a bs.length c := (by rcases owns_cells own1 with ⟨rfl, h0⟩ | ⟨g, cap, rfl, _⟩; exact ⟨none, 0, by rw [h0]⟩; exact ⟨_, _, rfl⟩))
  go_ret
  have hk : Kept (fun k => k = b2) w1 (w1.setCell ⟨b2, 0, none⟩ (.slice a1 bs.length c1)) := (Kept.refl (fun k => k = b2) w1).setCell (p := ⟨b2, 0, none⟩) (.inl rfl) _
  refine ⟨rfl, a1, bs.length, c1, World.cell?_setCell_same _ _ _ d21, by simpa using f21, hk.owns own1 (fun g hg e => ?_), (Kept.of_below bel1).trans hk (fun k hk => .inl hk)⟩
  have := (own1.lt g hg).1
  rw [e] at this
  exact absurd hb2 (by show ¬ b2 < _; omega)

set_option maxHeartbeats 1000000 in
theorem done_any (F : Nat → Prop) (p : Nat) (bs : List Nat) (e : Int) (w : World) (h : Wr w F p bs e) (hsz : bs.length ≤ 140737488355328) :
    Calls Tryz.prog 23 #[.pointer (some ⟨p, 0, none⟩)] w fun ex w' => ∃ a n c, ex = .returned (.tuple #[.slice a n c, .int .i64 e]) ∧ Wr w' F p bs e ∧ Kept F w w' ∧ w'.ownsRow w.heap.size 5 1 (.slice a n c) (if e = 0 then bs else []).length ((if e = 0 then bs else []).map bv) := by
  have hmf : ∀ (fn : Fn) (first cap : Array Value) (w : World), (Instr.makeFunc fn first cap).run Tryz.prog w = .ok (.func fn first cap) w := fun _ _ _ _ => rfl
  have H : Hid (Wr w F p bs e) := h
  obtain ⟨v, hv⟩ := h
  have hp := hv.plt
  have hpF := hv.fp
  have hflt := hv.flt
  clear hv
  by_cases he : e = 0
  · subst he
    rw [if_pos rfl]
    obtain ⟨W, hW⟩ : ∃ W, W = ((w.alloc (.cells #[.pointer (some ⟨p, 0, none⟩)] 49)).alloc (.cells #[.slice none 0 0] 35)) := ⟨_, rfl⟩
    have d2 : W.cell? ⟨w.heap.size + 1, 0, none⟩ = some (.slice none 0 0) := by rw [hW]; exact cell_new _ _ _ _ (by simp)
    have d1 : W.cell? ⟨w.heap.size, 0, none⟩ = some (.pointer (some ⟨p, 0, none⟩)) := by rw [hW, cell_old _ _ _ (by simp)]; exact cell_new _ _ _ _ rfl
    have f2 : W.frozen? ⟨w.heap.size + 1, 0, none⟩ = false := by rw [hW]; exact frozen_new _ _ _ _ _ (by simp)
    have hWr : Wr W F p bs 0 := by rw [hW]; exact H.out.box2 _ _
    have hkW : Kept No w W := by rw [hW]; exact ((Kept.refl No w).alloc _).alloc _
    have hsW : W.heap.size = w.heap.size + 1 + 1 := by rw [hW]; simp
    have hR : ∀ w1, Told (w.heap.size + 1) bs W w1 → Wr w1 F p bs 0 := fun w1 ⟨a, n, c, _, _, _, hk⟩ => hWr.kept hk (fun b hb e => by have := hflt b hb; omega)
    have cc := gate_Done _ _ p _ (Told (w.heap.size + 1) bs W) 0 hWr.c1 (done1_any F p bs _ _ _ _ hWr hsz d1 d2 f2) (fun w1 h => ⟨⟨_, (hR w1 h).c1⟩, by obtain ⟨v, hv⟩ := hR w1 h; exact hv.fz 1⟩)
    have mid : ∀ w2, Told (w.heap.size + 1) bs W w2 → ∃ a n c, (w2.setCell ⟨p, 1, none⟩ (.int .i64 0)).cell? ⟨w.heap.size, 0, none⟩ = some (.pointer (some ⟨p, 0, none⟩)) ∧ (w2.setCell ⟨p, 1, none⟩ (.int .i64 0)).cell? ⟨w.heap.size + 1, 0, none⟩ = some (.slice a n c) ∧
        (w2.setCell ⟨p, 1, none⟩ (.int .i64 0)).cell? ⟨p, 1, none⟩ = some (.int .i64 0) ∧ Hid (Wr (w2.setCell ⟨p, 1, none⟩ (.int .i64 0)) F p bs 0 ∧ Kept F w (w2.setCell ⟨p, 1, none⟩ (.int .i64 0)) ∧ (w2.setCell ⟨p, 1, none⟩ (.int .i64 0)).ownsRow w.heap.size 5 1 (.slice a n c) bs.length (bs.map bv)) := by
      intro w2 ht
      have hr2 := hR w2 ht
      obtain ⟨a, n, c, t1, t2, t3, t4⟩ := ht
      obtain ⟨v2, hv2⟩ := hr2
      have hk : Kept (fun k => k = p) w2 (w2.setCell ⟨p, 1, none⟩ (.int .i64 0)) := (Kept.refl (fun k => k = p) w2).setCell (p := ⟨p, 1, none⟩) (.inl rfl) _
      have h1 := hv2.put1 0
      refine ⟨a, n, c, hk.cell (t4.cell d1 (by show ¬ (w.heap.size = w.heap.size + 1); omega)) (by show ¬ (w.heap.size = p); omega), hk.cell t1 (by show ¬ (w.heap.size + 1 = p); omega), h1.c1, ⟨v2, h1⟩, ?_, ?_⟩
      · refine Kept.trans (G := fun k => k = w.heap.size + 1) (hkW.mono (fun _ h => h.elim)) t4 (fun k hk => .inr (by omega)) |>.trans hk (fun k hk => .inl (by rw [hk]; exact hpF))
      · refine owns_baseB (b := W.heap.size) (hk.owns t3 (fun g hg e => ?_)) (by omega)
        have := (t3.lt g hg).1
        omega
    rw [hW] at cc mid
    clear d1 d2 hWr hR hkW f2 hsW
    clear hW hflt
    go_enter Tryz.func23, Tryz.ntmps23
    go_wp2_with (go_at_call 39; refine cc.mono ?_; rintro ex w1 ⟨rfl, w2, hd, hw1⟩; obtain ⟨a, n, c, k1, k2, k3, K4⟩ := mid w2 hd; rw [← hw1] at k1 k2 k3 K4; clear hw1 hd)
    clear cc mid
    go_quiet (fail)
    go_wp2
    go_ret2
    exact ⟨a, n, c, rfl, K4.out.1.drewN _, K4.out.2.1.drewN _, K4.out.2.2⟩
  · have he2 : (e == 0) = false := by simpa using he
    rw [if_neg he]
    have c1 : ∀ a b, ((w.alloc a).alloc b).cell? ⟨p, 1, none⟩ = some (.int .i64 e) := fun a b => (H.out.box2 a b).c1
    clear hflt
    go_enter Tryz.func23, Tryz.ntmps23
    go_wp2_with (go_at_call 39; refine (gate_no _ p e _ (c1 _ _) he2).mono ?_; rintro ex w1 ⟨rfl, rfl⟩)
    go_quiet (fail)
    go_wp2
    go_ret2
    exact ⟨none, 0, 0, rfl, (H.out.box2 _ _).drewN _, ((((Kept.refl F w).alloc _).alloc _)).drewN _, World.ownsRow_nil _ _ _ _⟩

end Go.Proofs.YtjhhldgbllbbhaaGreatDoor
