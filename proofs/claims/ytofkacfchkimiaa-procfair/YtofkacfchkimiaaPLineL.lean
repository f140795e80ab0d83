/-
  proc: Line, its walk.
-/
import Derived.Test.YtofkacfchkimiaaPLineS
import Derived.Shelf.SlSortCmp.NoneTotal
namespace Go.Proofs.Ytofkacfchkimiaa
open Go.Shelf Go.RowKit
set_option linter.unusedVariables false
set_option maxRecDepth 100000

theorem sort_nil (fv : Value) (w : World) : Calls Try.prog 52 #[.slice none 0 0, fv] w fun e w' => e = .returned (.tuple #[]) ∧ w' = w :=
  AnyF.slices_SortFunc_none { Try.sortF with } none 0 fv w

section
variable {b g cap : Nat} {T : Tt}
set_option maxHeartbeats 4000000 in
theorem line_any {ls wl : List Nat} (w : World) (h : Tw w b g cap T) (hn : T.n ≤ 1048576) (ob : Int) (hq : (ob = 3 ∧ wl ≠ [] ∧ Fm T T.n ls wl) ∨ wq T 7 ob T.n = []) :
    Calls Try.prog 25 #[.pointer (some ⟨b, 0, none⟩), .int .i64 7, .int .i64 ob] w fun e w' => Kept No w w' ∧ ((wq T 7 ob T.n = [] ∧ e = .returned (.slice none 0 0)) ∨ (∃ blk c, e = .returned (.slice (some ⟨blk, 0, none⟩) wl.length c) ∧ wl.length ≤ c ∧ c ≤ 9223372036854775807 ∧ w.heap.size ≤ blk ∧ blk < w'.heap.size ∧ ∀ j, j < wl.length → w'.cell? ⟨blk, j, none⟩ = some (.int .i64 ((wl.getD j 0 : Int) + 1)))) := by
  have hc := h.hcap
  have hm := h.hmax
  have k0 : Kept No w (w.alloc (.cells #[.pointer (some ⟨b, 0, none⟩)] 22)) := (Kept.refl No w).alloc _
  have hB := alloc_new w (.cells #[.pointer (some ⟨b, 0, none⟩)] 22)
  have hsz : (w.alloc (.cells #[.pointer (some ⟨b, 0, none⟩)] 22)).heap.size = w.heap.size + 1 := by simp
  have H := hid h
  have HQ := hid hq
  have b1 := (h.keep k0).box
  have z1 := one hB
  clear h hq
  go_enter Try.func25, Try.ntmps25
  go_upto_region 4 with fail
  generalize w.alloc (.cells #[.pointer (some ⟨b, 0, none⟩)] 22) = w1 at *
  obtain ⟨B, hBe⟩ : ∃ B, w.heap.size = B := ⟨_, rfl⟩
  rw [hBe] at hB hsz z1 ⊢
  have HBE := hid hBe
  clear hBe
  go_wp2
  have H1 : Hid (Kept No w w1 ∧ w1.heap[B]? = some (.cells #[.pointer (some ⟨b, 0, none⟩)] 22) ∧ w1.heap.size = B + 1) := ⟨k0, hB, hsz⟩
  clear k0 hB hsz b1 z1
  go_loopw [7, 25] (fun v x wr => ∃ (k : Nat) (va : Option Addr) (vc : Nat), k ≤ T.n ∧ x = .int .i64 k ∧ v = .slice va (wq T 7 ob k).length vc ∧ wr.ownsRow (B + 1) 3 1 (.slice va (wq T 7 ob k).length vc) (wq T 7 ob k).length ((wq T 7 ob k).map (fun i : Nat => iv ((i : Int) + 1))) ∧ (wq T 7 ob k = [] → va = none ∧ vc = 0) ∧ wr.heap[B]? = some (.cells #[.pointer (some ⟨b, 0, none⟩)] 22) ∧ Kept No w wr ∧ B + 1 ≤ wr.heap.size) (fun _ x _ => T.n - (intOf x).toNat)
  case atStart => exact ⟨0, none, 0, Nat.zero_le _, rfl, rfl, World.ownsRow_nil _ _ _ _, fun _ => ⟨rfl, rfl⟩, H1.out.2.1, H1.out.1, by have := H1.out.2.2; omega⟩
  case round =>
    obtain ⟨k, va, vc, hk, rfl, rfl, own, hnil, hbB, K, hsz⟩ := hrel
    have hwl : (wq T 7 ob k).length ≤ k := by
      unfold wq
      have := List.length_filter_le (fun i => decide ((T.ps i).st = 7 ∧ (T.ps i).ob = ob)) (List.range k)
      simpa using this
    by_cases hlt : k < T.n
    · have hltz : (k : Int) < (T.n : Int) := by omega
      have tr := H.out.keep K
      have hb := tr.box
      have z1 := one hbB
      have c0 : wr.cell? ⟨g, k * 32, none⟩ = some (.int .i64 (T.ps k).st) := tr.at' k hlt 0 (by omega)
      have c24 : wr.cell? ⟨g, k * 32 + 24, none⟩ = some (.int .i64 (T.ps k).ob) := tr.at' k hlt 24 (by omega)
      have hsu := wq_succ T 7 ob k
      clear tr
      by_cases hs : (T.ps k).st = 7 ∧ (T.ps k).ob = ob
      · rw [if_pos hs] at hsu
        rw [hs.1] at c0
        rw [hs.2] at c24
        have AP : Hid ((wr.alloc (.cells #[.int .i64 ((k : Int) + 1)] 3)).ownsRow (B + 1) 3 1 (.slice va (wq T 7 ob k).length vc) (wq T 7 ob k).length ((wq T 7 ob k).map (fun i : Nat => iv ((i : Int) + 1))) ∧ B + 1 ≤ (wr.alloc (.cells #[.int .i64 ((k : Int) + 1)] 3)).heap.size ∧ (wr.alloc (.cells #[.int .i64 ((k : Int) + 1)] 3)).cell? ⟨wr.heap.size, 0, none⟩ = some (.int .i64 ((k : Int) + 1)) ∧ Kept No wr (wr.alloc (.cells #[.int .i64 ((k : Int) + 1)] 3))) := ⟨own.alloc _, by rw [World.size_alloc]; omega, one (alloc_new wr _), (Kept.refl No wr).alloc _⟩
        have HO : Hid (wr.heap[B]? = some (.cells #[.pointer (some ⟨b, 0, none⟩)] 22) ∧ Kept No w wr ∧ B + 1 ≤ wr.heap.size ∧ wq T 7 ob (k + 1) = wq T 7 ob k ++ [k]) := ⟨hbB, K, hsz, hsu⟩
        clear own hbB K hsu hs hnil
        obtain ⟨us, hus⟩ : ∃ us, wq T 7 ob k = us := ⟨_, rfl⟩
        rw [hus] at AP HO hwl ⊢
        clear hus
        go_wp2_with (at_builtin; refine wpList_app1 rfl _ _ 65 3 rfl _ 8 Try.underlying65 Try.infoI rfl (B + 1) (.slice va us.length vc) us.length _ rfl AP.out.1 AP.out.2.1 ⟨wr.heap.size, 0, none⟩ 1 (.int .i64 ((k : Int) + 1)) rfl AP.out.2.2.1 rfl (by omega) (by unfold maxLen; omega) ?_; intro ya yc wa own1 gr1 lo1)
        go_roundw
        case rel =>
          have KA : Kept No w wa := (HO.out.2.1.trans AP.out.2.2.2 (fun _ h => h.elim)).grown gr1.out (fun q hq => .inr (by have := (owns_at AP.out.1 hq).1; have := HBE.out; omega))
          have KW : Kept (fun q => (Value.slice va us.length vc).ownBlock = some q) wr wa := (AP.out.2.2.2.mono (fun _ h => h.elim)).grown gr1.out (fun q hq => .inl hq)
          have far : ¬ (Value.slice va us.length vc).ownBlock = some B := fun e => by have := (owns_at AP.out.1 e).1; omega
          have hl1 : (us ++ [k]).length = us.length + 1 := by simp
          refine ⟨k + 1, ya, yc, by omega, by go_num, ?_, ?_, ?_, KW.at' HO.out.1 far, KA, by have := KW.size; have := HO.out.2.2.1; omega⟩
          · rw [HO.out.2.2.2, hl1]
          · rw [HO.out.2.2.2, hl1, List.map_append]; exact own1.out
          · rw [HO.out.2.2.2]; intro e; simp at e
        case measure => simp [intOf]; omega
      · rw [if_neg hs, List.append_nil] at hsu
        have HO : Hid (wr.ownsRow (B + 1) 3 1 (.slice va (wq T 7 ob k).length vc) (wq T 7 ob k).length ((wq T 7 ob k).map (fun i : Nat => iv ((i : Int) + 1))) ∧ (wq T 7 ob k = [] → va = none ∧ vc = 0) ∧ wr.heap[B]? = some (.cells #[.pointer (some ⟨b, 0, none⟩)] 22) ∧ Kept No w wr ∧ B + 1 ≤ wr.heap.size ∧ wq T 7 ob (k + 1) = wq T 7 ob k) := ⟨own, hnil, hbB, K, hsz, hsu⟩
        have hs2 : (T.ps k).st = 7 → ¬ (T.ps k).ob = ob := fun h1 h2 => hs ⟨h1, h2⟩
        clear own hbB K hsu hs hnil
        generalize (T.ps k).st = s at *
        generalize (T.ps k).ob = q at *
        by_cases h7 : s = 7
        · have hq' : (q == ob) = false := by simp [hs2 h7]
          subst h7
          clear hs2
          go_wp2
          go_roundw
          case rel => exact ⟨k + 1, va, vc, by omega, by go_num, by rw [HO.out.2.2.2.2.2], by rw [HO.out.2.2.2.2.2]; exact HO.out.1, by rw [HO.out.2.2.2.2.2]; exact HO.out.2.1, HO.out.2.2.1, HO.out.2.2.2.1, HO.out.2.2.2.2.1⟩
          case measure => simp [intOf]; omega
        · have h7' : (s == 7) = false := by simp [h7]
          clear hs2
          go_wp2
          go_roundw
          case rel => exact ⟨k + 1, va, vc, by omega, by go_num, by rw [HO.out.2.2.2.2.2], by rw [HO.out.2.2.2.2.2]; exact HO.out.1, by rw [HO.out.2.2.2.2.2]; exact HO.out.2.1, HO.out.2.2.1, HO.out.2.2.2.1, HO.out.2.2.2.2.1⟩
          case measure => simp [intOf]; omega
    · have hltz : ¬ (k : Int) < (T.n : Int) := by omega
      have hkn : k = T.n := by omega
      subst hkn
      by_cases he : wq T 7 ob T.n = []
      · obtain ⟨rfl, rfl⟩ := hnil he
        have hl0 : (wq T 7 ob T.n).length = 0 := by rw [he]; rfl
        have HF : Hid (Kept No w wr ∧ wq T 7 ob T.n = []) := ⟨K, he⟩
        rw [hl0]
        clear own hnil hbB K he hl0 hwl
        go_wp2_with (go_at_call 52; refine (sort_nil _ _).mono ?_; rintro e w5 ⟨rfl, e5⟩; subst e5)
        go_ret
        exact ⟨HF.out.1, .inl ⟨HF.out.2, rfl⟩⟩
      · obtain ⟨rfl, hne, F⟩ : ob = 3 ∧ wl ≠ [] ∧ Fm T T.n ls wl := HQ.out.resolve_right he
        have own2 := own
        obtain ⟨hl, ⟨_, h2⟩ | ⟨blk, cc, cur, hv, hb1, hg1, hm1, hx1, hs1, ht1⟩⟩ := own
        · exfalso
          exact he (List.eq_nil_of_length_eq_zero h2)
        · injection hv with e1 e2 e3
          subst e1 e3
          have hbl := heap_lt hg1
          have fzz : ∀ j, wr.frozen? ⟨blk, j, none⟩ = false := fun j => by simp [World.frozen?, hg1]
          have hcc : ∀ j, j < (wq T 7 3 T.n).length → wr.cell? ⟨blk, j, none⟩ = some (.int .i64 (((wq T 7 3 T.n).getD j 0 : Int) + 1)) ∧ wr.frozen? ⟨blk, j, none⟩ = false := fun j hj => by
            refine ⟨?_, fzz j⟩
            have h9 := own2.cells (g := blk) rfl j (iv ((((wq T 7 3 T.n).getD j 0 : Nat) : Int) + 1)) (by simp [List.getD, hj])
            rw [add_none, Nat.zero_add] at h9
            exact h9
          have cS := sortW w wr H.out hn F K (B := B) (blk := blk) (c := vc) hbB (by have := HBE.out; omega) (by omega) hbl hne hcc
          have hlw : (wq T 7 3 T.n).length = wl.length := F.wq_perm.length_eq
          have HF : Hid (Kept No w wr ∧ B + 1 ≤ blk ∧ blk < wr.heap.size ∧ (wq T 7 3 T.n).length = wl.length ∧ (wq T 7 3 T.n).length ≤ vc ∧ vc ≤ 9223372036854775807) := ⟨K, hb1, hbl, hlw, hm1, hx1⟩
          clear own2 hnil hbB K he hg1 ht1 hs1 fzz hcc hlw hl F HQ
          generalize (wq T 7 3 T.n).length = m at *
          go_wp2_with (go_at_call 52; refine cS.mono ?_; rintro e w5 ⟨rfl, k5, hc5⟩)
          go_ret
          refine ⟨HF.out.1.trans k5 (fun q e => .inr (by have := HF.out.2.1; have := HBE.out; omega)), .inr ⟨blk, vc, ?_, by have := HF.out; omega, HF.out.2.2.2.2.2, by have := HF.out.2.1; have := HBE.out; omega, by have := k5.size; have := HF.out.2.2.1; omega, hc5⟩⟩
          rw [← HF.out.2.2.2.1]; rfl
end
end Go.Proofs.Ytofkacfchkimiaa
