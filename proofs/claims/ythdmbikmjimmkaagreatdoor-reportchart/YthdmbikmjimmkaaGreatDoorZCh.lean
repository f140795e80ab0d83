/-
  Letters; Chart.
-/
import Derived.Test.YthdmbikmjimmkaaGreatDoorZBld
import Derived.Test.YthdmbikmjimmkaaGreatDoorZWk
import Derived.Test.YthdmbikmjimmkaaGreatDoorORuns
namespace Go.Proofs.YthdmbikmjimmkaaGreatDoor
open Go.RowKit Go.Shelf Plain
set_option linter.unusedVariables false
set_option linter.unusedSimpArgs false
set_option maxRecDepth 100000

/-- a partition's letter -/
def ltB (p : Nat) : UInt8 := if p = 0 then 46 else if p ≤ 26 then UInt8.ofNat (64 + p) else UInt8.ofNat (70 + p)
theorem ltB_ascii : ∀ p, p < 33 → (ltB p).toNat < 128 := by decide
/-- runs as letters -/
def lsB (L : List (Nat × Nat)) : List UInt8 := L.flatMap fun x => List.replicate x.1 (ltB x.2)
theorem lsB_app (L M : List (Nat × Nat)) : lsB (L ++ M) = lsB L ++ lsB M := by simp [lsB]
theorem lsB_one (x : Nat × Nat) : lsB [x] = List.replicate x.1 (ltB x.2) := by simp [lsB]
theorem lsB_take {L : List (Nat × Nat)} {i : Nat} {x : Nat × Nat} (h : L[i]? = some x) : lsB (L.take (i + 1)) = lsB (L.take i) ++ List.replicate x.1 (ltB x.2) := by
  rw [List.take_add_one, h, lsB_app, Option.toList_some, lsB_one]
theorem letr_any : ∀ (p : Nat), p < 33 → ∀ w : World, Calls Tryz.prog 16 #[.int .i64 (p : Int)] w fun e w' => e = .returned (.int .i32 ((ltB p).toNat : Int)) ∧ w' = w
  | 0, _ => fun w => by
    show Calls Tryz.prog 16 #[.int .i64 0] w _
    go_enter Tryz.func16, Tryz.ntmps16
    go_wp2
    go_ret
    exact ⟨rfl, rfl⟩
  | 1, _ => fun w => by
    show Calls Tryz.prog 16 #[.int .i64 1] w _
    go_enter Tryz.func16, Tryz.ntmps16
    go_wp2
    go_ret
    exact ⟨rfl, rfl⟩
  | 2, _ => fun w => by
    show Calls Tryz.prog 16 #[.int .i64 2] w _
    go_enter Tryz.func16, Tryz.ntmps16
    go_wp2
    go_ret
    exact ⟨rfl, rfl⟩
  | 3, _ => fun w => by
    show Calls Tryz.prog 16 #[.int .i64 3] w _
    go_enter Tryz.func16, Tryz.ntmps16
    go_wp2
    go_ret
    exact ⟨rfl, rfl⟩
  | 4, _ => fun w => by
    show Calls Tryz.prog 16 #[.int .i64 4] w _
    go_enter Tryz.func16, Tryz.ntmps16
    go_wp2
    go_ret
    exact ⟨rfl, rfl⟩
  | 5, _ => fun w => by
    show Calls Tryz.prog 16 #[.int .i64 5] w _
    go_enter Tryz.func16, Tryz.ntmps16
    go_wp2
    go_ret
    exact ⟨rfl, rfl⟩
  | 6, _ => fun w => by
    show Calls Tryz.prog 16 #[.int .i64 6] w _
    go_enter Tryz.func16, Tryz.ntmps16
    go_wp2
    go_ret
    exact ⟨rfl, rfl⟩
  | 7, _ => fun w => by
    show Calls Tryz.prog 16 #[.int .i64 7] w _
    go_enter Tryz.func16, Tryz.ntmps16
    go_wp2
    go_ret
    exact ⟨rfl, rfl⟩
  | 8, _ => fun w => by
    show Calls Tryz.prog 16 #[.int .i64 8] w _
    go_enter Tryz.func16, Tryz.ntmps16
    go_wp2
    go_ret
    exact ⟨rfl, rfl⟩
  | 9, _ => fun w => by
    show Calls Tryz.prog 16 #[.int .i64 9] w _
    go_enter Tryz.func16, Tryz.ntmps16
    go_wp2
    go_ret
    exact ⟨rfl, rfl⟩
  | 10, _ => fun w => by
    show Calls Tryz.prog 16 #[.int .i64 10] w _
    go_enter Tryz.func16, Tryz.ntmps16
    go_wp2
    go_ret
    exact ⟨rfl, rfl⟩
  | 11, _ => fun w => by
    show Calls Tryz.prog 16 #[.int .i64 11] w _
    go_enter Tryz.func16, Tryz.ntmps16
    go_wp2
    go_ret
    exact ⟨rfl, rfl⟩
  | 12, _ => fun w => by
    show Calls Tryz.prog 16 #[.int .i64 12] w _
    go_enter Tryz.func16, Tryz.ntmps16
    go_wp2
    go_ret
    exact ⟨rfl, rfl⟩
  | 13, _ => fun w => by
    show Calls Tryz.prog 16 #[.int .i64 13] w _
    go_enter Tryz.func16, Tryz.ntmps16
    go_wp2
    go_ret
    exact ⟨rfl, rfl⟩
  | 14, _ => fun w => by
    show Calls Tryz.prog 16 #[.int .i64 14] w _
    go_enter Tryz.func16, Tryz.ntmps16
    go_wp2
    go_ret
    exact ⟨rfl, rfl⟩
  | 15, _ => fun w => by
    show Calls Tryz.prog 16 #[.int .i64 15] w _
    go_enter Tryz.func16, Tryz.ntmps16
    go_wp2
    go_ret
    exact ⟨rfl, rfl⟩
  | 16, _ => fun w => by
    show Calls Tryz.prog 16 #[.int .i64 16] w _
    go_enter Tryz.func16, Tryz.ntmps16
    go_wp2
    go_ret
    exact ⟨rfl, rfl⟩
  | 17, _ => fun w => by
    show Calls Tryz.prog 16 #[.int .i64 17] w _
    go_enter Tryz.func16, Tryz.ntmps16
    go_wp2
    go_ret
    exact ⟨rfl, rfl⟩
  | 18, _ => fun w => by
    show Calls Tryz.prog 16 #[.int .i64 18] w _
    go_enter Tryz.func16, Tryz.ntmps16
    go_wp2
    go_ret
    exact ⟨rfl, rfl⟩
  | 19, _ => fun w => by
    show Calls Tryz.prog 16 #[.int .i64 19] w _
    go_enter Tryz.func16, Tryz.ntmps16
    go_wp2
    go_ret
    exact ⟨rfl, rfl⟩
  | 20, _ => fun w => by
    show Calls Tryz.prog 16 #[.int .i64 20] w _
    go_enter Tryz.func16, Tryz.ntmps16
    go_wp2
    go_ret
    exact ⟨rfl, rfl⟩
  | 21, _ => fun w => by
    show Calls Tryz.prog 16 #[.int .i64 21] w _
    go_enter Tryz.func16, Tryz.ntmps16
    go_wp2
    go_ret
    exact ⟨rfl, rfl⟩
  | 22, _ => fun w => by
    show Calls Tryz.prog 16 #[.int .i64 22] w _
    go_enter Tryz.func16, Tryz.ntmps16
    go_wp2
    go_ret
    exact ⟨rfl, rfl⟩
  | 23, _ => fun w => by
    show Calls Tryz.prog 16 #[.int .i64 23] w _
    go_enter Tryz.func16, Tryz.ntmps16
    go_wp2
    go_ret
    exact ⟨rfl, rfl⟩
  | 24, _ => fun w => by
    show Calls Tryz.prog 16 #[.int .i64 24] w _
    go_enter Tryz.func16, Tryz.ntmps16
    go_wp2
    go_ret
    exact ⟨rfl, rfl⟩
  | 25, _ => fun w => by
    show Calls Tryz.prog 16 #[.int .i64 25] w _
    go_enter Tryz.func16, Tryz.ntmps16
    go_wp2
    go_ret
    exact ⟨rfl, rfl⟩
  | 26, _ => fun w => by
    show Calls Tryz.prog 16 #[.int .i64 26] w _
    go_enter Tryz.func16, Tryz.ntmps16
    go_wp2
    go_ret
    exact ⟨rfl, rfl⟩
  | 27, _ => fun w => by
    show Calls Tryz.prog 16 #[.int .i64 27] w _
    go_enter Tryz.func16, Tryz.ntmps16
    go_wp2
    go_ret
    exact ⟨rfl, rfl⟩
  | 28, _ => fun w => by
    show Calls Tryz.prog 16 #[.int .i64 28] w _
    go_enter Tryz.func16, Tryz.ntmps16
    go_wp2
    go_ret
    exact ⟨rfl, rfl⟩
  | 29, _ => fun w => by
    show Calls Tryz.prog 16 #[.int .i64 29] w _
    go_enter Tryz.func16, Tryz.ntmps16
    go_wp2
    go_ret
    exact ⟨rfl, rfl⟩
  | 30, _ => fun w => by
    show Calls Tryz.prog 16 #[.int .i64 30] w _
    go_enter Tryz.func16, Tryz.ntmps16
    go_wp2
    go_ret
    exact ⟨rfl, rfl⟩
  | 31, _ => fun w => by
    show Calls Tryz.prog 16 #[.int .i64 31] w _
    go_enter Tryz.func16, Tryz.ntmps16
    go_wp2
    go_ret
    exact ⟨rfl, rfl⟩
  | 32, _ => fun w => by
    show Calls Tryz.prog 16 #[.int .i64 32] w _
    go_enter Tryz.func16, Tryz.ntmps16
    go_wp2
    go_ret
    exact ⟨rfl, rfl⟩
  | p + 33, h => by omega
theorem letl_any : ∀ (p : Nat), p < 33 → ∀ w : World, Calls Tryz.prog 8 #[.int .i64 (p : Int)] w fun e w' => e = .returned (.int .u8 ((ltB p).toNat : Int)) ∧ w' = w
  | 0, _ => fun w => by
    show Calls Tryz.prog 8 #[.int .i64 0] w _
    go_enter Tryz.func8, Tryz.ntmps8
    go_wp2
    go_ret
    exact ⟨rfl, rfl⟩
  | 1, _ => fun w => by
    show Calls Tryz.prog 8 #[.int .i64 1] w _
    go_enter Tryz.func8, Tryz.ntmps8
    go_wp2
    go_ret
    exact ⟨rfl, rfl⟩
  | 2, _ => fun w => by
    show Calls Tryz.prog 8 #[.int .i64 2] w _
    go_enter Tryz.func8, Tryz.ntmps8
    go_wp2
    go_ret
    exact ⟨rfl, rfl⟩
  | 3, _ => fun w => by
    show Calls Tryz.prog 8 #[.int .i64 3] w _
    go_enter Tryz.func8, Tryz.ntmps8
    go_wp2
    go_ret
    exact ⟨rfl, rfl⟩
  | 4, _ => fun w => by
    show Calls Tryz.prog 8 #[.int .i64 4] w _
    go_enter Tryz.func8, Tryz.ntmps8
    go_wp2
    go_ret
    exact ⟨rfl, rfl⟩
  | 5, _ => fun w => by
    show Calls Tryz.prog 8 #[.int .i64 5] w _
    go_enter Tryz.func8, Tryz.ntmps8
    go_wp2
    go_ret
    exact ⟨rfl, rfl⟩
  | 6, _ => fun w => by
    show Calls Tryz.prog 8 #[.int .i64 6] w _
    go_enter Tryz.func8, Tryz.ntmps8
    go_wp2
    go_ret
    exact ⟨rfl, rfl⟩
  | 7, _ => fun w => by
    show Calls Tryz.prog 8 #[.int .i64 7] w _
    go_enter Tryz.func8, Tryz.ntmps8
    go_wp2
    go_ret
    exact ⟨rfl, rfl⟩
  | 8, _ => fun w => by
    show Calls Tryz.prog 8 #[.int .i64 8] w _
    go_enter Tryz.func8, Tryz.ntmps8
    go_wp2
    go_ret
    exact ⟨rfl, rfl⟩
  | 9, _ => fun w => by
    show Calls Tryz.prog 8 #[.int .i64 9] w _
    go_enter Tryz.func8, Tryz.ntmps8
    go_wp2
    go_ret
    exact ⟨rfl, rfl⟩
  | 10, _ => fun w => by
    show Calls Tryz.prog 8 #[.int .i64 10] w _
    go_enter Tryz.func8, Tryz.ntmps8
    go_wp2
    go_ret
    exact ⟨rfl, rfl⟩
  | 11, _ => fun w => by
    show Calls Tryz.prog 8 #[.int .i64 11] w _
    go_enter Tryz.func8, Tryz.ntmps8
    go_wp2
    go_ret
    exact ⟨rfl, rfl⟩
  | 12, _ => fun w => by
    show Calls Tryz.prog 8 #[.int .i64 12] w _
    go_enter Tryz.func8, Tryz.ntmps8
    go_wp2
    go_ret
    exact ⟨rfl, rfl⟩
  | 13, _ => fun w => by
    show Calls Tryz.prog 8 #[.int .i64 13] w _
    go_enter Tryz.func8, Tryz.ntmps8
    go_wp2
    go_ret
    exact ⟨rfl, rfl⟩
  | 14, _ => fun w => by
    show Calls Tryz.prog 8 #[.int .i64 14] w _
    go_enter Tryz.func8, Tryz.ntmps8
    go_wp2
    go_ret
    exact ⟨rfl, rfl⟩
  | 15, _ => fun w => by
    show Calls Tryz.prog 8 #[.int .i64 15] w _
    go_enter Tryz.func8, Tryz.ntmps8
    go_wp2
    go_ret
    exact ⟨rfl, rfl⟩
  | 16, _ => fun w => by
    show Calls Tryz.prog 8 #[.int .i64 16] w _
    go_enter Tryz.func8, Tryz.ntmps8
    go_wp2
    go_ret
    exact ⟨rfl, rfl⟩
  | 17, _ => fun w => by
    show Calls Tryz.prog 8 #[.int .i64 17] w _
    go_enter Tryz.func8, Tryz.ntmps8
    go_wp2
    go_ret
    exact ⟨rfl, rfl⟩
  | 18, _ => fun w => by
    show Calls Tryz.prog 8 #[.int .i64 18] w _
    go_enter Tryz.func8, Tryz.ntmps8
    go_wp2
    go_ret
    exact ⟨rfl, rfl⟩
  | 19, _ => fun w => by
    show Calls Tryz.prog 8 #[.int .i64 19] w _
    go_enter Tryz.func8, Tryz.ntmps8
    go_wp2
    go_ret
    exact ⟨rfl, rfl⟩
  | 20, _ => fun w => by
    show Calls Tryz.prog 8 #[.int .i64 20] w _
    go_enter Tryz.func8, Tryz.ntmps8
    go_wp2
    go_ret
    exact ⟨rfl, rfl⟩
  | 21, _ => fun w => by
    show Calls Tryz.prog 8 #[.int .i64 21] w _
    go_enter Tryz.func8, Tryz.ntmps8
    go_wp2
    go_ret
    exact ⟨rfl, rfl⟩
  | 22, _ => fun w => by
    show Calls Tryz.prog 8 #[.int .i64 22] w _
    go_enter Tryz.func8, Tryz.ntmps8
    go_wp2
    go_ret
    exact ⟨rfl, rfl⟩
  | 23, _ => fun w => by
    show Calls Tryz.prog 8 #[.int .i64 23] w _
    go_enter Tryz.func8, Tryz.ntmps8
    go_wp2
    go_ret
    exact ⟨rfl, rfl⟩
  | 24, _ => fun w => by
    show Calls Tryz.prog 8 #[.int .i64 24] w _
    go_enter Tryz.func8, Tryz.ntmps8
    go_wp2
    go_ret
    exact ⟨rfl, rfl⟩
  | 25, _ => fun w => by
    show Calls Tryz.prog 8 #[.int .i64 25] w _
    go_enter Tryz.func8, Tryz.ntmps8
    go_wp2
    go_ret
    exact ⟨rfl, rfl⟩
  | 26, _ => fun w => by
    show Calls Tryz.prog 8 #[.int .i64 26] w _
    go_enter Tryz.func8, Tryz.ntmps8
    go_wp2
    go_ret
    exact ⟨rfl, rfl⟩
  | 27, _ => fun w => by
    show Calls Tryz.prog 8 #[.int .i64 27] w _
    go_enter Tryz.func8, Tryz.ntmps8
    go_wp2
    go_ret
    exact ⟨rfl, rfl⟩
  | 28, _ => fun w => by
    show Calls Tryz.prog 8 #[.int .i64 28] w _
    go_enter Tryz.func8, Tryz.ntmps8
    go_wp2
    go_ret
    exact ⟨rfl, rfl⟩
  | 29, _ => fun w => by
    show Calls Tryz.prog 8 #[.int .i64 29] w _
    go_enter Tryz.func8, Tryz.ntmps8
    go_wp2
    go_ret
    exact ⟨rfl, rfl⟩
  | 30, _ => fun w => by
    show Calls Tryz.prog 8 #[.int .i64 30] w _
    go_enter Tryz.func8, Tryz.ntmps8
    go_wp2
    go_ret
    exact ⟨rfl, rfl⟩
  | 31, _ => fun w => by
    show Calls Tryz.prog 8 #[.int .i64 31] w _
    go_enter Tryz.func8, Tryz.ntmps8
    go_wp2
    go_ret
    exact ⟨rfl, rfl⟩
  | 32, _ => fun w => by
    show Calls Tryz.prog 8 #[.int .i64 32] w _
    go_enter Tryz.func8, Tryz.ntmps8
    go_wp2
    go_ret
    exact ⟨rfl, rfl⟩
  | p + 33, h => by omega
theorem Bwr.kept {B b : Nat} {w w' : World} (h : Bwr B b w w') : Kept (fun k => B ≤ k) w w' := Kept.of_belowN h.1 (fun k h _ => h)
theorem Bwr.box {B b : Nat} {w w' : World} {g : Nat} {cs : Array Value} (h : Bwr B b w w') (hz : w.heap[g]? = some (.cells cs 33)) (hg : g ≠ b) : w'.heap[g]? = some (.cells cs 33) :=
  h.2 g _ hz (fun e => hg (by injection e)) (fun c fz e => by injection e with _ e _; cases e)
theorem ow_at2 {w : World} {base g n c : Nat} {L : List (Nat × Nat)} (h : Ow w base (.slice (some ⟨g, 0, none⟩) n c) L) {i : Nat} {x : Nat × Nat} (hx : L[i]? = some x) : w.cell? ⟨g, i * 2, none⟩ = some (.int .i64 (x.1 : Int)) ∧ w.cell? ⟨g, i * 2 + 1, none⟩ = some (.int .i64 (x.2 : Int)) := by
  obtain ⟨h1, h2⟩ := slL_at L i x hx
  have k1 := World.ownsRow.cells h (g := g) rfl _ _ h1
  have k2 := World.ownsRow.cells h (g := g) rfl _ _ h2
  rw [add_none, Nat.zero_add] at k1 k2
  exact ⟨k1, k2⟩
theorem ow_some {w : World} {base : Nat} {v : Value} {L : List (Nat × Nat)} (h : Ow w base v L) : ∃ a c, v = .slice a L.length c ∧ L.length ≤ c ∧ c ≤ 9223372036854775807 ∧ (1 ≤ L.length → ∃ g, a = some ⟨g, 0, none⟩ ∧ g < w.heap.size) := by
  obtain ⟨h1, ⟨h2, h3⟩ | ⟨g, cap, cur, h2, h3, h4, h5, h6, h7, h8⟩⟩ := h
  · exact ⟨none, 0, by rw [h2, h3], by omega, by omega, fun hl => by omega⟩
  · refine ⟨_, cap, h2, h5, by unfold maxLen at h6; omega, fun _ => ⟨g, rfl, heap_lt h4⟩⟩
theorem lsB_len : ∀ L : List (Nat × Nat), (lsB L).length = (L.map (·.1)).sum
  | [] => rfl
  | x :: r => by
    have := lsB_len r
    simp only [lsB, List.flatMap_cons, List.length_append, List.length_replicate, List.map_cons, List.sum_cons] at this ⊢
    omega
theorem part_le {xs : List Srv} {a m : Nat} {L : List (Nat × Nat)} (h : Rule.Tile (Rule.occ (sys xs)) a m L) {i : Nat} {x : Nat × Nat} (hx : L[i]? = some x) : x.2 ≤ xs.length := by
  have hp := h.pos x (List.mem_of_getElem? hx)
  rw [← h.at' i x hx (Rule.pre L i) (Nat.le_refl _) (by omega)]
  exact Rule.occ_le (sys xs) _
theorem lsB_pre (L : List (Nat × Nat)) (i : Nat) : (lsB (L.take i)).length = Rule.pre L i := lsB_len _

set_option maxHeartbeats 16000000 in
theorem chart_yes {F : Nat → Prop} {a : Option Addr} {c : Nat} {xs : List Srv} (fr be : Nat) (w : World) (hg : Gl w) (h : Sv w F a xs.length c xs) (hF : ∀ k, F k → k < w.heap.size) (ht : timF xs xs.length = none) (h1 : fr ≤ be) (h2 : be ≤ 1099511627776) (h3 : be - fr ≤ 65536) :
    Calls Tryz.prog 6 #[.slice a xs.length c, .int .i64 (fr : Int), .int .i64 (be : Int)] w fun e w' => e = .returned (.tuple #[.string ⟨(lsB (Rule.runsOf (Rule.occ (sys xs)) fr (be - fr))).toArray⟩, .int .i64 0]) ∧ Kept No w w' := by
  have hsp := spanE_yes fr be w hg h ht h1 h2
  have HR : Hid (∀ W, Kept No w W → Calls Tryz.prog 7 #[.slice a xs.length c, .int .i64 fr, .int .i64 be] W fun e w' => Kept No W w' ∧ ∃ v, e = .returned (.tuple #[v, .int .i64 0]) ∧ Ow w' W.heap.size v (Rule.runsOf (Rule.occ (sys xs)) fr (be - fr))) := fun W k => by
    refine (runs_yes fr be W (hg.kept k) (h.keep k) (fun q hq => Nat.lt_of_lt_of_le (hF q hq) k.size) ht h1 h2).mono ?_
    rintro e w' ⟨k2, ⟨v, _, e1, e2⟩ | ⟨q, _⟩⟩
    · exact ⟨k2, v, e1, e2⟩
    · have := (Rule.runsOf_tile (Rule.occ (sys xs)) fr (be - fr)).len
      omega
  have hT := Rule.runsOf_tile (Rule.occ (sys xs)) fr (be - fr)
  have hP : ∀ (i : Nat) (x : Nat × Nat), (Rule.runsOf (Rule.occ (sys xs)) fr (be - fr))[i]? = some x → x.2 < 33 ∧ x.1 ≤ 65536 := fun i x hx => by
    have := part_le hT hx
    have := (vd_of ht).num
    have := hT.elt (List.mem_of_getElem? hx)
    omega
  have hS := hT.sum
  have hLn := hT.len
  have hpre : ∀ i, Rule.pre (Rule.runsOf (Rule.occ (sys xs)) fr (be - fr)) i ≤ 65536 := fun i => Nat.le_trans (Rule.pre_le hT i) h3
  obtain ⟨L, hL⟩ : ∃ L, L = Rule.runsOf (Rule.occ (sys xs)) fr (be - fr) := ⟨_, rfl⟩
  rw [← hL] at HR hP hS hLn hpre
  rw [← hL]
  have HP := hid (And.intro hP hpre)
  obtain ⟨d, hd⟩ : ∃ d : Nat, d = be - fr := ⟨_, rfl⟩
  have e1 : (be : Int) - (fr : Int) = (d : Int) := by omega
  have e2 : (d : Int) ≤ 65536 := by omega
  have e3 : ¬ (65536 : Int) < (d : Int) := by omega
  have hLL : L.length ≤ 65536 := by omega
  have HLL := hid hLL
  have hfr2 : (be : Int) ≤ 1099511627776 := by omega
  clear h hg hF ht h1 h2 h3 hT hP hS hLn hpre hL hd
  go_enter Tryz.func6, Tryz.ntmps6
  go_upto_region 6 with (go_at_call 14; refine hsp.mono ?_; rintro e w1 ⟨rfl, k1⟩; have HK1 := hid k1; clear hsp k1)
  clear e1 e2 e3
  have hr := HR.out w1 HK1.out
  go_upto_region 8 with (go_at_call 7; refine hr.mono ?_; rintro e w2 ⟨k2, v, rfl, ho⟩; have H2 := hid (And.intro k2 ho); obtain ⟨sa, sc, rfl, hs1, hs2, hs3⟩ := ow_some ho; clear hr k2 ho)
  have hBd := Bdr.new w2
  have HK3 : Hid (Kept No w2 (w2.alloc (.cells #[.pointer none, .slice none 0 0] 53)) ∧ (w2.alloc (.cells #[.pointer none, .slice none 0 0] 53)).heap.size = w2.heap.size + 1) := ⟨(Kept.refl No w2).alloc _, by simp⟩
  generalize w2.alloc (.cells #[.pointer none, .slice none 0 0] 53) = w3 at *
  obtain ⟨B, hB⟩ : ∃ B, B = w2.heap.size := ⟨_, rfl⟩
  rw [← hB] at hBd
  rw [← hB]
  have HBB := hid (And.intro hB hBd)
  have hLi : (L.length : Int) ≤ 65536 := by omega
  clear hBd hB
  go_wp2
  go_loopw [34] (fun x wr => ∃ i : Nat, x = .int .i64 i ∧ i ≤ L.length ∧ Bdr wr B B (lsB (L.take i)) ∧ Kept (fun k => B ≤ k) w3 wr) (fun x _ => L.length - (intOf x).toNat)
  case atStart => exact ⟨0, rfl, Nat.zero_le _, HBB.out.2, Kept.refl _ _⟩
  case round =>
    obtain ⟨i, rfl, hi, hbd, K⟩ := hrel
    have HL := hid (And.intro hbd K)
    clear hbd K
    by_cases hlt : i < L.length
    · have hin : (i : Int) < (L.length : Int) := by omega
      obtain ⟨g, rfl, hgl⟩ := hs3 (by omega)
      have hx : L[i]? = some L[i] := List.getElem?_eq_getElem hlt
      have kA : Kept (fun k => B ≤ k) w2 wr := (HK3.out.1.mono (fun _ h => h.elim)).trans HL.out.2 (fun _ h => .inl h)
      obtain ⟨c0, c1⟩ := ow_at2 H2.out.2 hx
      have d0 := kA.cell c0 (by have := HBB.out.1; show ¬ B ≤ g; omega)
      have d1 := kA.cell c1 (by have := HBB.out.1; show ¬ B ≤ g; omega)
      have HTK : Hid (lsB (L.take (i + 1)) = lsB (L.take i) ++ List.replicate L[i].1 (ltB L[i].2)) := lsB_take hx
      have hpx := HP.out.1 i _ hx
      have hln : (lsB (L.take i)).length ≤ 65536 := by rw [lsB_pre]; exact HP.out.2 i
      generalize L[i] = x at *
      obtain ⟨xl, xp⟩ := x
      simp only at d0 d1 HTK hpx
      have HXP := hid (And.intro hpx hln)
      have HI := hid hlt
      have hxl : (xl : Int) ≤ 65536 := by omega
      have HW5 : Hid (Bdr (wr.alloc (.cells #[.int .i64 (xl : Int), .int .i64 (xp : Int)] 33)) B B (lsB (L.take i)) ∧ (wr.alloc (.cells #[.int .i64 (xl : Int), .int .i64 (xp : Int)] 33)).heap[wr.heap.size]? = some (.cells #[.int .i64 (xl : Int), .int .i64 (xp : Int)] 33) ∧ Kept (fun k => B ≤ k) w3 (wr.alloc (.cells #[.int .i64 (xl : Int), .int .i64 (xp : Int)] 33))) := ⟨HL.out.1.kept ((Kept.refl No wr).alloc _), alloc_new _ _, HL.out.2.alloc _⟩
      have HBX : Hid (B < wr.heap.size) := by have := HL.out.2.size; have := HK3.out.2; have := HBB.out.1; show B < _; omega
      clear c0 c1 hx hpx hln hlt kA
      go_upto_region 11 with fail
      generalize wr.alloc (.cells #[.int .i64 (xl : Int), .int .i64 (xp : Int)] 33) = w5 at *
      generalize wr.heap.size = bx at *
      have f0 : w5.cell? ⟨bx, 0, none⟩ = some (.int .i64 (xl : Int)) := by simp only [World.cell?, HW5.out.2.1]; rfl
      clear d0 d1
      go_wp2
      clear f0
      go_loopw [40] (fun y wr => ∃ k : Nat, y = .int .i64 k ∧ k ≤ xl ∧ Bdr wr B B (lsB (L.take i) ++ List.replicate k (ltB xp)) ∧ wr.heap[bx]? = some (.cells #[.int .i64 (xl : Int), .int .i64 (xp : Int)] 33) ∧ Kept (fun k => B ≤ k) w3 wr) (fun y _ => xl - (intOf y).toNat)
      case atStart => exact ⟨0, rfl, Nat.zero_le _, by simpa using HW5.out.1, HW5.out.2.1, HW5.out.2.2⟩
      case round =>
        obtain ⟨k, rfl, hk, hbd, hbx, K⟩ := hrel
        have HM := hid (And.intro hbd (And.intro hbx K))
        by_cases hkl : k < xl
        · have hkl2 : (k : Int) < (xl : Int) := by omega
          have f1 : wr.cell? ⟨bx, 1, none⟩ = some (.int .i64 (xp : Int)) := by simp only [World.cell?, hbx]; rfl
          have hle := letr_any xp HXP.out.1.1 wr
          have hwr := wrune_any (ltB xp) (ltB_ascii xp HXP.out.1.1) hbd (by have := HXP.out; simp; omega) (by have := HBX.out; have := K.size; have := HK3.out.2; have := HBB.out.1; omega)
          have HKK := hid hkl
          clear hbd hbx K hk hkl
          go_wp2_with (first
            | (go_at_call 16; refine hle.mono ?_; rintro e w6 ⟨rfl, hw6⟩; obtain rfl := hw6.symm; clear hw6 hle)
            | (go_at_call 15; refine hwr.mono ?_; rintro e w6 ⟨⟨v6, rfl⟩, b6, q6⟩; have H6 := hid (And.intro b6 q6); clear hwr b6 q6))
          go_roundw
          case rel =>
            refine ⟨k + 1, by go_num, by have := HKK.out; omega, ?_, H6.out.2.box HM.out.2.1 (by have := HBX.out; omega), HM.out.2.2.trans H6.out.2.kept (fun _ h => .inl h)⟩
            rw [List.replicate_succ', ← List.append_assoc]
            exact H6.out.1
          case measure => have := HKK.out; simp [intOf]; omega
        · have e : xl = k := by omega
          subst e
          clear hbd hbx K
          go_wp2
          go_roundw
          case rel => exact ⟨i + 1, by go_num, by have := HI.out; omega, by rw [HTK.out]; exact HM.out.1, HM.out.2.2⟩
          case measure => have := HI.out; simp [intOf]; omega
    · have e : i = L.length := by omega
      subst e
      have hbs := bstr_any HL.out.1 (by have := HL.out.2.size; have := HK3.out.2; have := HBB.out.1; omega)
      rw [List.take_length] at hbs
      have HKW := hid HL.out.2
      clear HL hlt hi hs3
      go_wp2_with (go_at_call 17; refine hbs.mono ?_; rintro e w6 ⟨rfl, q6⟩; have H6 := hid q6; clear hbs q6)
      go_ret2
      have k6 : Kept (fun k => B ≤ k) wr w6 := Kept.of_belowN H6.out (fun k h _ => h)
      have kz : Kept No w w2 := HK1.out.trans H2.out.1 (fun _ h => h.elim)
      exact ⟨rfl, kz.trans (((HK3.out.1.mono (fun _ h => h.elim)).trans HKW.out (fun _ h => .inl h)).trans k6 (fun _ h => .inl h)) (fun k hk => .inr (by have := kz.size; have := HBB.out.1; have : B ≤ k := hk; omega))⟩
end Go.Proofs.YthdmbikmjimmkaaGreatDoor
