/-
  play, within and again make iterators.
-/
import Derived.Test.YthdmbikmjimmkaaGreatDoorOPlayI
import Derived.Test.YthdmbikmjimmkaaGreatDoorOEach
namespace Go.Proofs.YthdmbikmjimmkaaGreatDoor
open Go.RowKit Go.Shelf Plain
set_option linter.unusedVariables false
set_option maxRecDepth 100000

theorem Sv.same {w W : World} {F : Nat → Prop} {a : Option Addr} {n c : Nat} {xs : List Srv} (h : Sv w F a n c xs) (hk : ∀ k, F k → W.heap[k]? = w.heap[k]?) : Sv W F a n c xs :=
  ⟨h.len, h.cap, h.max, h.nil, fun i x hx => by
    obtain ⟨ok, b, o, e, hb, h0, h1, h2, h3⟩ := h.at' i x hx
    have e2 : ∀ j, W.cell? ⟨b, j, none⟩ = w.cell? ⟨b, j, none⟩ := fun j => World.cell?_of_block (hk b hb)
    exact ⟨ok, b, o, e, hb, (e2 _).trans h0, (e2 _).trans h1, (e2 _).trans h2, (e2 _).trans h3⟩⟩

theorem heap_alloc2 {w : World} {o1 o2 : Obj} : ((w.alloc o1).alloc o2).heap[w.heap.size]? = some o1 ∧ ((w.alloc o1).alloc o2).heap[w.heap.size + 1]? = some o2 := by
  constructor
  · exact (Below.heap_alloc _ _ _ (by simp)).trans (World.alloc_heap_new w o1)
  · have := World.alloc_heap_new (w.alloc o1) o2; rwa [World.size_alloc] at this

theorem play_any (a : Option Addr) (n c : Nat) (t : Int) (w : World) :
    Calls Tryz.prog 34 #[.slice a n c, .int .i64 t] w fun e w' => e = .returned (.func (.func 56) #[] #[.pointer (some ⟨w.heap.size, 0, none⟩), .pointer (some ⟨w.heap.size + 1, 0, none⟩)]) ∧ w' = (w.alloc (.cells #[.slice a n c] 22)).alloc (.cells #[.int .i64 t] 3) := by
  go_enter Tryz.func34, Tryz.ntmps34
  go_wp2
  go_ret
  exact ⟨rfl, rfl⟩

theorem play_gives {F : Nat → Prop} {a : Option Addr} {c : Nat} {xs : List Srv} {w : World} (hv : Vd xs) (h : Sv w F a xs.length c xs) (hF : ∀ k, F k → k < w.heap.size) (below : Nat) (hb : below ≤ 1099511627776) :
    Gives Tryz.prog 56 #[.pointer (some ⟨w.heap.size, 0, none⟩), .pointer (some ⟨w.heap.size + 1, 0, none⟩)] (Rule.occ (sys xs)) 0 below ((w.alloc (.cells #[.slice a xs.length c] 22)).alloc (.cells #[.int .i64 below] 3)) (fun k => F k ∨ k = w.heap.size ∨ k = w.heap.size + 1) := by
  intro l J Jx W S hsz hsame hGS hJ hJx hT h0
  obtain ⟨e1, e2⟩ := heap_alloc2 (w := w) (o1 := .cells #[.slice a xs.length c] 22) (o2 := .cells #[.int .i64 below] 3)
  have h' : Sv W F a xs.length c xs := h.same (fun k hk => (hsame k (.inl hk)).trans ((Below.heap_alloc _ _ _ (by have := hF k hk; simp; omega)).trans (Below.heap_alloc _ _ _ (hF k hk))))
  exact play_in hv w.heap.size (w.heap.size + 1) below hb l J Jx W S h' (fun k hk => hGS k (.inl hk)) (cell_box ((hsame _ (.inr (.inl rfl))).trans e1)) (cell_box ((hsame _ (.inr (.inr rfl))).trans e2)) (hGS _ (.inr (.inl rfl))) (hGS _ (.inr (.inr rfl))) hJ hJx hT h0

theorem within_new (a : Option Addr) (n c : Nat) (t u v : Int) (w : World) :
    Calls Tryz.prog 20 #[.slice a n c, .int .i64 t, .agg #[.int .i64 u, .int .i64 v]] w fun e w' => e = .returned (.func (.func 32) #[] #[.pointer (some ⟨w.heap.size + 2, 0, none⟩), .pointer (some ⟨w.heap.size + 1, 0, none⟩), .pointer (some ⟨w.heap.size, 0, none⟩)]) ∧ w' = ((w.alloc (.cells #[.slice a n c] 22)).alloc (.cells #[.int .i64 t] 3)).alloc (.cells #[.int .i64 u, .int .i64 v] 64) := by
  go_enter Tryz.func20, Tryz.ntmps20
  go_wp2
  go_ret
  exact ⟨rfl, rfl⟩
theorem again_new (a : Option Addr) (n c : Nat) (u v : Int) (w : World) :
    Calls Tryz.prog 35 #[.slice a n c, .agg #[.int .i64 u, .int .i64 v]] w fun e w' => e = .returned (.func (.func 59) #[] #[.pointer (some ⟨w.heap.size, 0, none⟩), .pointer (some ⟨w.heap.size + 1, 0, none⟩)]) ∧ w' = (w.alloc (.cells #[.slice a n c] 29)).alloc (.cells #[.int .i64 u, .int .i64 v] 64) := by
  go_enter Tryz.func35, Tryz.ntmps35
  go_wp2
  go_ret
  exact ⟨rfl, rfl⟩
end Go.Proofs.YthdmbikmjimmkaaGreatDoor
