/-
  objects: the small calls.
-/
import Derived.Test.YtggkajopfbokjaaProg
import Derived.Test.YtggkajopfbokjaaOSet
import Derived.WalkMore
import Derived.BigRegion
import Derived.BigQuiet
import Derived.OwnWalk
import Derived.Laws.Rows
import Derived.Deep.DeepCutAuto
import Derived.Deep.RegionWith
namespace Go.Proofs.Ytggkajopfbokjaa
open Go.RowKit
set_option linter.unusedVariables false
set_option maxRecDepth 100000

theorem hid {p : Prop} (h : p) : Hid p := h
theorem alloc_new (w : World) (o : Obj) : (w.alloc o).heap[w.heap.size]? = some o := by simp only [World.alloc]; simp
theorem set3 {w : World} {q : Nat} {u v z : Value} {t : TypeId} (h : w.heap[q]? = some (.cells #[u, v, z] t)) (u' v' z' : Value) : (((w.setCell ⟨q, 0, none⟩ u').setCell ⟨q, 1, none⟩ v').setCell ⟨q, 2, none⟩ z').heap[q]? = some (.cells #[u', v', z'] t) := by
  simp [World.setCell, Array.getElem?_modify, h]
theorem info_parts {P : Program} {t : TypeId} {z : Option Value} {s b : Nat} (h : (P.info? t).map (fun i => (i.zero, i.size, i.bytes)) = some (z, s, b)) : ∃ i, P.info? t = some i ∧ i.zero = z ∧ i.size = s ∧ i.bytes = b := by
  obtain ⟨i, hi, he⟩ := Option.map_eq_some_iff.1 h
  injection he with h1 h2
  injection h2 with h2 h3
  exact ⟨i, hi, h1, h2, h3⟩
theorem Try.infoSet : (Try.prog.info? 82).map (·.size) = some 3 := by kernel_rfl

section
variable {B b : Nat} {sv ev bv : Value} {S : So}
theorem lists_any (w : World) (h : St w B b sv ev bv S) : Calls Try.prog 31 #[.pointer (some ⟨b, 0, none⟩)] w fun e w' => e = .returned (.agg #[sv, ev, bv]) ∧ Kept No w w' := by
  have K1 : Kept No w (w.alloc (.cells #[.slice none 0 0, .slice none 0 0, .slice none 0 0] 82)) := (Kept.refl No w).alloc _
  obtain ⟨c0, c1, c2⟩ := (h.keep K1).cells
  obtain ⟨sa, sc, rfl, _⟩ := h.sems.shape
  obtain ⟨ea, ec, rfl, _⟩ := h.evs.shape
  obtain ⟨ba, bc, rfl, _⟩ := h.bufs.shape
  clear h K1
  go_enter Try.func31, Try.ntmps31
  go_wp2
  refine bodyPost_ret (results_cell_row rfl _ _ w.heap.size 82 #[.slice sa S.ns sc, .slice ea S.ne ec, .slice ba S.nb bc] (0, 0) _ rfl (alloc_new _ _) Try.underlying82 rfl Try.infoSet) rfl ?_
  exact ⟨rfl, (Kept.refl No w).alloc _⟩
end

section
variable (a0 a1 a2 : Option Addr) (n0 c0 n1 c1 n2 c2 : Nat) (w : World)
theorem field0 : (Instr.field 82 (.agg #[.slice a0 n0 c0, .slice a1 n1 c1, .slice a2 n2 c2]) 0).run Try.prog w = .ok (.slice a0 n0 c0) w := by kernel_rfl
theorem field1 : (Instr.field 82 (.agg #[.slice a0 n0 c0, .slice a1 n1 c1, .slice a2 n2 c2]) 1).run Try.prog w = .ok (.slice a1 n1 c1) w := by kernel_rfl
theorem field2 : (Instr.field 82 (.agg #[.slice a0 n0 c0, .slice a1 n1 c1, .slice a2 n2 c2]) 2).run Try.prog w = .ok (.slice a2 n2 c2) w := by kernel_rfl
end

section
variable (w : World) (a : Option Addr) (n c : Nat) (x : Int) (hx : x < 1 ∨ (n : Int) < x)
include hx
/-- a number that is none of n -/
theorem finds_no : Calls Try.prog 30 #[.slice a n c, .int .i64 x] w fun e w' => e = .returned (.pointer none) ∧ w' = w := by
  by_cases h1 : x < 1
  · go_enter Try.func30, Try.ntmps30
    go_wp2
    go_ret
    exact ⟨rfl, rfl⟩
  · have h2 : (n : Int) < x := by omega
    go_enter Try.func30, Try.ntmps30
    go_wp2
    go_ret
    exact ⟨rfl, rfl⟩
theorem findb_no : Calls Try.prog 32 #[.slice a n c, .int .i64 x] w fun e w' => e = .returned (.pointer none) ∧ w' = w := by
  by_cases h1 : x < 1
  · go_enter Try.func32, Try.ntmps32
    go_wp2
    go_ret
    exact ⟨rfl, rfl⟩
  · have h2 : (n : Int) < x := by omega
    go_enter Try.func32, Try.ntmps32
    go_wp2
    go_ret
    exact ⟨rfl, rfl⟩
theorem finde_no : Calls Try.prog 47 #[.slice a n c, .int .i64 x] w fun e w' => e = .returned (.pointer none) ∧ w' = w := by
  by_cases h1 : x < 1
  · go_enter Try.func47, Try.ntmps47
    go_wp2
    go_ret
    exact ⟨rfl, rfl⟩
  · have h2 : (n : Int) < x := by omega
    go_enter Try.func47, Try.ntmps47
    go_wp2
    go_ret
    exact ⟨rfl, rfl⟩
end
section
variable (w : World) (g n c : Nat) (hn : n ≤ 1048576) (i : Nat) (hi : i < n)
include hn hi
theorem finds_yes : Calls Try.prog 30 #[.slice (some ⟨g, 0, none⟩) n c, .int .i64 ((i : Int) + 1)] w fun e w' => e = .returned (.pointer (some ⟨g, i * 2, none⟩)) ∧ w' = w := by
  have h1 : ¬ (i : Int) + 1 < 1 := by omega
  have h2 : ¬ (n : Int) < (i : Int) + 1 := by omega
  go_enter Try.func30, Try.ntmps30
  go_wp2
  go_ret
  exact ⟨rfl, rfl⟩
theorem findb_yes : Calls Try.prog 32 #[.slice (some ⟨g, 0, none⟩) n c, .int .i64 ((i : Int) + 1)] w fun e w' => e = .returned (.pointer (some ⟨g, i * 3, none⟩)) ∧ w' = w := by
  have h1 : ¬ (i : Int) + 1 < 1 := by omega
  have h2 : ¬ (n : Int) < (i : Int) + 1 := by omega
  go_enter Try.func32, Try.ntmps32
  go_wp2
  go_ret
  exact ⟨rfl, rfl⟩
theorem finde_yes : Calls Try.prog 47 #[.slice (some ⟨g, 0, none⟩) n c, .int .i64 ((i : Int) + 1)] w fun e w' => e = .returned (.pointer (some ⟨g, i, none⟩)) ∧ w' = w := by
  have h1 : ¬ (i : Int) + 1 < 1 := by omega
  have h2 : ¬ (n : Int) < (i : Int) + 1 := by omega
  go_enter Try.func47, Try.ntmps47
  go_wp2
  go_ret
  exact ⟨rfl, rfl⟩
end

section
variable {B b : Nat} {sv ev bv : Value} {S S' : So} {w w1 w' : World}
theorem Did.pre (K : Kept No w w1) (d : Did w1 w' B b sv ev bv S S') : Did w w' B b sv ev bv S S' := by
  have hs := K.size
  refine ⟨d.1, (K.mono (fun _ e => e.elim)).trans d.2.1 (fun _ h => .inl h), fun k hk => ?_, fun k hk => ?_⟩
  · rcases d.2.2.1 k hk with h | h
    · exact .inl h
    · exact .inr (by omega)
  · rcases d.2.2.2 k hk with h | h
    · exact .inl h
    · exact .inr (by omega)
theorem Did.post (d : Did w w1 B b sv ev bv S S') (K : Kept No w1 w') : Did w w' B b sv ev bv S S' :=
  ⟨d.1.keep K, d.2.1.trans K (fun _ e => e.elim), d.2.2⟩
end

section
variable {B b : Nat} {sv ev bv : Value} {S : So}
/-- a call about a semaphore that is not there -/
theorem sem_no (w : World) (h : St w B b sv ev bv S) (x : Int) (hx : x < 1 ∨ (S.ns : Int) < x) :
    (Calls Try.prog 14 #[.pointer (some ⟨b, 0, none⟩), .int .i64 x] w fun e w' => e = .returned (.tuple #[.int .i64 0, .int .i64 2]) ∧ Kept No w w') ∧ (Calls Try.prog 7 #[.pointer (some ⟨b, 0, none⟩), .int .i64 x] w fun e w' => e = .returned (.tuple #[.bool false, .int .i64 2]) ∧ Kept No w w') ∧ (Calls Try.prog 8 #[.pointer (some ⟨b, 0, none⟩), .int .i64 x] w fun e w' => e = .returned (.tuple #[.bool false, .int .i64 2]) ∧ Kept No w w') := by
  have li := lists_any w h
  obtain ⟨sa, sc, rfl, _⟩ := h.sems.shape
  obtain ⟨ea, ec, rfl, _⟩ := h.evs.shape
  obtain ⟨ba, bc, rfl, _⟩ := h.bufs.shape
  have fd := field0 sa ea ba S.ns sc S.ne ec S.nb bc
  have fi := fun W => finds_no W sa S.ns sc x hx
  clear h hx
  refine ⟨?_, ?_, ?_⟩
  · go_enter Try.func14, Try.ntmps14
    go_wp2_with (first
      | (go_at_call 31; refine li.mono ?_; rintro e w1 ⟨rfl, k1⟩; have K1 := k1; clear li k1)
      | (go_at_call 30; refine (fi _).mono ?_; rintro e w' ⟨rfl, rfl⟩))
    go_ret2
    exact ⟨rfl, K1⟩
  · go_enter Try.func7, Try.ntmps7
    go_wp2_with (first
      | (go_at_call 31; refine li.mono ?_; rintro e w1 ⟨rfl, k1⟩; have K1 := k1; clear li k1)
      | (go_at_call 30; refine (fi _).mono ?_; rintro e w' ⟨rfl, rfl⟩))
    go_ret2
    exact ⟨rfl, K1⟩
  · go_enter Try.func8, Try.ntmps8
    go_wp2_with (first
      | (go_at_call 31; refine li.mono ?_; rintro e w1 ⟨rfl, k1⟩; have K1 := k1; clear li k1)
      | (go_at_call 30; refine (fi _).mono ?_; rintro e w' ⟨rfl, rfl⟩))
    go_ret2
    exact ⟨rfl, K1⟩
theorem count_any (w : World) (h : St w B b sv ev bv S) {i : Nat} (hi : i < S.ns) (hn : S.ns ≤ 1048576) :
    Calls Try.prog 14 #[.pointer (some ⟨b, 0, none⟩), .int .i64 ((i : Int) + 1)] w fun e w' => e = .returned (.tuple #[.int .i64 (S.cnt i), .int .i64 0]) ∧ Kept No w w' := by
  have li := lists_any w h
  obtain ⟨g, cap, rfl, _, _, hg, hc, hf⟩ := h.sems.look hi
  obtain ⟨ea, ec, rfl, _⟩ := h.evs.shape
  obtain ⟨ba, bc, rfl, _⟩ := h.bufs.shape
  have fd := field0 (some ⟨g, 0, none⟩) ea ba S.ns cap S.ne ec S.nb bc
  have fi := fun W => finds_yes W g S.ns cap hn i hi
  have c0 : w.cell? ⟨g, i * 2, none⟩ = some (.int .i64 (S.cnt i)) := hc 0 (by decide)
  clear h hc hf
  go_enter Try.func14, Try.ntmps14
  go_wp2_with (first
    | (go_at_call 31; refine li.mono ?_; rintro e w1 ⟨rfl, k1⟩; have c1 := k1.cell c0 (fun e => e); have K1 := k1; clear li k1 c0)
    | (go_at_call 30; refine (fi _).mono ?_; rintro e w' ⟨rfl, rfl⟩))
  go_ret2
  exact ⟨rfl, K1⟩
theorem upd_self {α : Type} (f : Nat → α) (i : Nat) : upd f i (f i) = f := by
  funext j
  by_cases e : j = i
  · subst e; exact upd_same _ _ _
  · exact upd_oth _ _ e
theorem So.semTo_same (S : So) (i : Nat) : S.semTo i (S.cnt i) = S := by
  unfold So.semTo
  rw [upd_self]
/-- Down, Up: what becomes of the number -/
def downI (c : Int) : Int := if 0 < c then c - 1 else c
def upI (c m : Int) : Int := if c < m then c + 1 else c
theorem down_any (w : World) (h : St w B b sv ev bv S) {i : Nat} (hi : i < S.ns) (hn : S.ns ≤ 1048576) (hm : S.cnt i ≤ 9223372036854775807) :
    Calls Try.prog 7 #[.pointer (some ⟨b, 0, none⟩), .int .i64 ((i : Int) + 1)] w fun e w' => e = .returned (.tuple #[.bool (decide (0 < S.cnt i)), .int .i64 0]) ∧ Did w w' B b sv ev bv S (S.semTo i (downI (S.cnt i))) := by
  have li := lists_any w h
  have hh := h
  obtain ⟨g, cap, rfl, _, _, hg, hc, hf⟩ := h.sems.look hi
  obtain ⟨ea, ec, rfl, _⟩ := h.evs.shape
  obtain ⟨ba, bc, rfl, _⟩ := h.bufs.shape
  have fd := field0 (some ⟨g, 0, none⟩) ea ba S.ns cap S.ne ec S.nb bc
  have fi := fun W => finds_yes W g S.ns cap hn i hi
  have c0 : w.cell? ⟨g, i * 2, none⟩ = some (.int .i64 (S.cnt i)) := hc 0 (by decide)
  have HH : Hid (∀ w1, Kept No w w1 → w1.cell? ⟨g, i * 2, none⟩ = some (.int .i64 (S.cnt i)) ∧ w1.frozen? ⟨g, i * 2, none⟩ = false ∧ Did w w1 B b _ _ _ S S ∧ ∀ x, Did w (w1.setCell ⟨g, i * 2, none⟩ (.int .i64 x)) B b _ _ _ S (S.semTo i x)) := fun w1 k1 => by
    have h1 := hh.keep k1
    obtain ⟨_, cs, hb⟩ := h1.sems.blk hg
    exact ⟨k1.cell c0 (fun e => e), fz_blk hb _, Did.same hh k1, fun x => Did.pre k1 (h1.sem_put hg x)⟩
  have e0 := S.semTo_same i
  by_cases hp : 0 < S.cnt i
  · have hle : ¬ S.cnt i ≤ 0 := by omega
    rw [show decide (0 < S.cnt i) = true by simp [hp], show downI (S.cnt i) = S.cnt i - 1 from if_pos hp]
    clear h hc hf c0 hh e0
    generalize S.cnt i = x at *
    go_enter Try.func7, Try.ntmps7
    go_wp2_with (first
      | (go_at_call 31; refine li.mono ?_; rintro e w1 ⟨rfl, k1⟩; obtain ⟨c1, f1, _, d1⟩ := HH.out w1 k1; have D1 := hid (d1 (x - 1)); clear li k1 d1 HH)
      | (go_at_call 30; refine (fi _).mono ?_; rintro e w' ⟨rfl, rfl⟩))
    go_ret2
    exact ⟨rfl, D1.out⟩
  · have hle : S.cnt i ≤ 0 := by omega
    rw [show decide (0 < S.cnt i) = false by simp [hp], show downI (S.cnt i) = S.cnt i from if_neg hp, e0]
    clear h hc hf c0 hh e0
    generalize S.cnt i = x at *
    go_enter Try.func7, Try.ntmps7
    go_wp2_with (first
      | (go_at_call 31; refine li.mono ?_; rintro e w1 ⟨rfl, k1⟩; obtain ⟨c1, f1, d1, _⟩ := HH.out w1 k1; have D1 := hid d1; clear li k1 d1 HH)
      | (go_at_call 30; refine (fi _).mono ?_; rintro e w' ⟨rfl, rfl⟩))
    go_ret2
    exact ⟨rfl, D1.out⟩
theorem up_any (w : World) (h : St w B b sv ev bv S) {i : Nat} (hi : i < S.ns) (hn : S.ns ≤ 1048576) (hm : -9223372036854775808 ≤ S.cnt i) (hm2 : S.mx i ≤ 9223372036854775807) :
    Calls Try.prog 8 #[.pointer (some ⟨b, 0, none⟩), .int .i64 ((i : Int) + 1)] w fun e w' => e = .returned (.tuple #[.bool (decide (S.cnt i < S.mx i)), .int .i64 0]) ∧ Did w w' B b sv ev bv S (S.semTo i (upI (S.cnt i) (S.mx i))) := by
  have li := lists_any w h
  have hh := h
  obtain ⟨g, cap, rfl, _, _, hg, hc, hf⟩ := h.sems.look hi
  obtain ⟨ea, ec, rfl, _⟩ := h.evs.shape
  obtain ⟨ba, bc, rfl, _⟩ := h.bufs.shape
  have fd := field0 (some ⟨g, 0, none⟩) ea ba S.ns cap S.ne ec S.nb bc
  have fi := fun W => finds_yes W g S.ns cap hn i hi
  have c0 : w.cell? ⟨g, i * 2, none⟩ = some (.int .i64 (S.cnt i)) := hc 0 (by decide)
  have cm : w.cell? ⟨g, i * 2 + 1, none⟩ = some (.int .i64 (S.mx i)) := hc 1 (by decide)
  have HH : Hid (∀ w1, Kept No w w1 → w1.cell? ⟨g, i * 2, none⟩ = some (.int .i64 (S.cnt i)) ∧ w1.frozen? ⟨g, i * 2, none⟩ = false ∧ w1.cell? ⟨g, i * 2 + 1, none⟩ = some (.int .i64 (S.mx i)) ∧ Did w w1 B b _ _ _ S S ∧ ∀ x, Did w (w1.setCell ⟨g, i * 2, none⟩ (.int .i64 x)) B b _ _ _ S (S.semTo i x)) := fun w1 k1 => by
    have h1 := hh.keep k1
    obtain ⟨_, cs, hb⟩ := h1.sems.blk hg
    exact ⟨k1.cell c0 (fun e => e), fz_blk hb _, k1.cell cm (fun e => e), Did.same hh k1, fun x => Did.pre k1 (h1.sem_put hg x)⟩
  have e0 := S.semTo_same i
  by_cases hp : S.cnt i < S.mx i
  · have hle : ¬ S.mx i ≤ S.cnt i := by omega
    rw [show decide (S.cnt i < S.mx i) = true by simp [hp], show upI (S.cnt i) (S.mx i) = S.cnt i + 1 from if_pos hp]
    clear h hc hf c0 hh e0 cm
    generalize S.cnt i = x at *
    generalize S.mx i = y at *
    go_enter Try.func8, Try.ntmps8
    go_upto_region 4 with (first
      | (go_at_call 31; refine li.mono ?_; rintro e w1 ⟨rfl, k1⟩; have K1 := hid k1; clear li k1)
      | (go_at_call 30; refine (fi _).mono ?_; rintro e w2 ⟨rfl, hw2⟩; obtain rfl := hw2.symm))
    obtain ⟨c1, f1, c2, _, _⟩ := HH.out w1 K1.out
    go_region
    clear c1 f1 c2
    obtain ⟨c1, f1, c2, _, d1⟩ := HH.out w1.drew K1.out.drew
    have D1 := hid (d1 (x + 1))
    clear d1 HH
    go_wp2
    go_ret2
    exact ⟨rfl, D1.out⟩
  · have hle : S.mx i ≤ S.cnt i := by omega
    rw [show decide (S.cnt i < S.mx i) = false by simp [hp], show upI (S.cnt i) (S.mx i) = S.cnt i from if_neg hp, e0]
    clear h hc hf c0 hh e0 cm
    generalize S.cnt i = x at *
    generalize S.mx i = y at *
    go_enter Try.func8, Try.ntmps8
    go_upto_region 4 with (first
      | (go_at_call 31; refine li.mono ?_; rintro e w1 ⟨rfl, k1⟩; have K1 := hid k1; clear li k1)
      | (go_at_call 30; refine (fi _).mono ?_; rintro e w2 ⟨rfl, hw2⟩; obtain rfl := hw2.symm))
    obtain ⟨c1, f1, c2, _, _⟩ := HH.out w1 K1.out
    go_region
    obtain ⟨_, _, _, d1, _⟩ := HH.out w1.drew K1.out.drew
    have D1 := hid d1
    clear d1 HH c1 f1 c2
    go_wp2
    go_ret2
    exact ⟨rfl, D1.out⟩
end
end Go.Proofs.Ytggkajopfbokjaa
