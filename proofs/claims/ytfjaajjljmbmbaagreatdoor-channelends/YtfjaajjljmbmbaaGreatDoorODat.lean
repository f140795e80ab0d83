/-
  Semaphores, events and buffers of a partition in memory: no dump.
-/
import Derived.Test.YtfjaajjljmbmbaaGreatDoorHeap
import Derived.ArgAppend
namespace Go.Proofs.YtfjaajjljmbmbaaGreatDoor
open Go.RowKit
set_option linter.unusedVariables false
set_option maxRecDepth 100000

def iv (x : Int) : Value := .int .i64 x
theorem iv_one (xs : List Int) : ∀ u ∈ xs.map iv, u.oneCell' = true := by
  intro u hu; rw [List.mem_map] at hu; obtain ⟨i, _, rfl⟩ := hu; rfl

/-- a list of numbers that is read -/
structure Zs (w : World) (F : Nat → Prop) (a : Option Addr) (n c : Nat) (xs : List Int) : Prop where
  len : xs.length = n
  cap : n ≤ c
  max : c ≤ 9223372036854775807
  nil : a = none → c = 0
  at' : ∀ i, i < n → ∃ b o, a = some ⟨b, o, none⟩ ∧ F b ∧ w.cell? ⟨b, o + i, none⟩ = some (iv (xs.getD i 0))
theorem Zs.kept {w w' : World} {F G : Nat → Prop} {a : Option Addr} {n c : Nat} {xs : List Int} (h : Zs w F a n c xs) (k : Kept G w w') (hd : ∀ b, F b → ¬ G b) : Zs w' F a n c xs :=
  ⟨h.len, h.cap, h.max, h.nil, fun i hi => by obtain ⟨b, o, e, hb, hc⟩ := h.at' i hi; exact ⟨b, o, e, hb, k.cell hc (hd b hb)⟩⟩
theorem Zs.mono {w : World} {F G : Nat → Prop} {a : Option Addr} {n c : Nat} {xs : List Int} (h : Zs w F a n c xs) (hF : ∀ k, F k → G k) : Zs w G a n c xs :=
  ⟨h.len, h.cap, h.max, h.nil, fun i hi => by obtain ⟨b, o, e, hb, hc⟩ := h.at' i hi; exact ⟨b, o, e, hF b hb, hc⟩⟩
theorem Zs.none (w : World) (F : Nat → Prop) : Zs w F none 0 0 [] := ⟨rfl, Nat.le_refl _, by omega, fun _ => rfl, fun i hi => by omega⟩
theorem Zs.of_owns {w : World} {base : Nat} {e : TypeId} {v : Value} {xs : List Int} (h : w.ownsRow base e 1 v xs.length (xs.map iv)) :
    ∃ a c, v = .slice a xs.length c ∧ Zs w (fun g => v.ownBlock = some g) a xs.length c xs := by
  rcases owns_cells h with ⟨rfl, h0⟩ | ⟨g, cap, rfl, hb, hg, hn, hm, hc, hf⟩
  · refine ⟨Option.none, 0, by rw [h0], ⟨rfl, by omega, by omega, fun _ => rfl, fun i hi => by omega⟩⟩
  · refine ⟨_, cap, rfl, ⟨rfl, hn, hm, fun h => (by cases h), fun i hi => ⟨g, 0, rfl, rfl, ?_⟩⟩⟩
    rw [Nat.zero_add]
    exact hc i _ (by simp [List.getD, hi])
theorem Zs.news {w : World} {F : Nat → Prop} {n c : Nat} {xs : List Int} {ad : Addr} (h : Zs w F (some ad) n c xs) : ∀ j u, (xs.map iv)[j]? = some u → w.cell? (ad.add j) = some u := by
  intro j u hj
  by_cases hl : j < n
  · have hl' : j < xs.length := by rw [h.len]; exact hl
    have hg : (xs.map iv)[j]? = some (iv (xs.getD j 0)) := by simp [List.getD, hl']
    rw [hg] at hj
    obtain ⟨b, o, e, _, hc⟩ := h.at' j hl
    simp only [Option.some.injEq] at e
    subst e
    rw [add_none, hc]; exact hj
  · have : (xs.map iv)[j]? = Option.none := by simp [h.len]; omega
    rw [this] at hj; cases hj

theorem cell_set {w : World} {g i j : Nat} {v u : Value} (h : w.cell? ⟨g, i, none⟩ = some u) : (w.setCell ⟨g, j, none⟩ v).cell? ⟨g, i, none⟩ = some (if i = j then v else u) := by
  by_cases e : i = j
  · subst e
    rw [if_pos rfl]
    exact World.cell?_setCell_same' _ _ _ (by rw [h]; rfl)
  · rw [if_neg e]
    have hne : (⟨g, j, none⟩ : Addr) ≠ ⟨g, i, none⟩ := fun h' => e (by injection h' with _ h1 _; exact h1.symm)
    rw [World.cell?_setCell_other _ _ _ _ hne]
    exact h
theorem cell_blk {w : World} {g : Nat} {cs : Array Value} {t : TypeId} {fr : Nat × Nat} (h : w.heap[g]? = some (.cells cs t fr)) (i : Nat) : w.cell? ⟨g, i, none⟩ = cs[i]? := by
  simp [World.cell?, h]
theorem fz_blk {w : World} {g : Nat} {cs : Array Value} {t : TypeId} (h : w.heap[g]? = some (.cells cs t (0, 0))) (i : Nat) : w.frozen? ⟨g, i, none⟩ = false := by
  simp [World.frozen?, h]
theorem set_blk {w : World} {g : Nat} {cs : Array Value} {t : TypeId} {fr : Nat × Nat} (h : w.heap[g]? = some (.cells cs t fr)) (j : Nat) (v : Value) : (w.setCell ⟨g, j, none⟩ v).heap[g]? = some (.cells (cs.setIfInBounds j v) t fr) := by
  have hl := heap_lt h
  simp [World.setCell, h, Array.getElem?_modify]

/-- no block of one is a block of the other -/
def Far (u v : Value) : Prop := ∀ k, u.ownBlock = some k → v.ownBlock ≠ some k
theorem Far.symm {u v : Value} (h : Far u v) : Far v u := fun k h1 h2 => h k h2 h1

theorem own_slice {w : World} {B : Nat} {t : TypeId} {sz : Nat} {v : Value} {n : Nat} {xs : List Value} (h : w.ownsRow B t sz v n xs) : ∃ a m c, v = .slice a m c := by
  obtain ⟨_, ⟨rfl, _⟩ | ⟨g, cap, cur, rfl, _⟩⟩ := h
  · exact ⟨_, _, _, rfl⟩
  · exact ⟨_, _, _, rfl⟩
theorem owns_blk {w : World} {B t sz n : Nat} {v : Value} {ys : List Value} (h : w.ownsRow B t sz v n ys) {g : Nat} (hg : v.ownBlock = some g) : B ≤ g ∧ ∃ cs, w.heap[g]? = some (.cells cs t (0, 0)) := by
  obtain ⟨_, ⟨rfl, _⟩ | ⟨g', cap, cur, rfl, hb, hgg, _⟩⟩ := h
  · simp [Value.ownBlock] at hg
  · simp [Value.ownBlock] at hg
    subst hg
    exact ⟨hb, cur, hgg⟩
theorem two_tags {w : World} {g : Nat} {cs cs' : Array Value} {t t' : TypeId} {fr fr' : Nat × Nat} (h : w.heap[g]? = some (.cells cs t fr)) (h' : w.heap[g]? = some (.cells cs' t' fr')) : t = t' := by
  rw [h] at h'
  injection h' with h'
  injection h' with _ h' _

theorem pair_eq {k a b i j : Nat} (hb : b < k) (hj : j < k) (h : a * k + b = i * k + j) : a = i ∧ b = j := by
  have h1 : (a * k + b) / k = a := by rw [Nat.mul_comm, Nat.mul_add_div (by omega), Nat.div_eq_of_lt hb]; omega
  have h2 : (i * k + j) / k = i := by rw [Nat.mul_comm, Nat.mul_add_div (by omega), Nat.div_eq_of_lt hj]; omega
  have : a = i := by rw [← h1, h, h2]
  subst this
  omega

/-- v is a list of n records of k cells; cell j of record i is f i j -/
def Rc (w : World) (B : Nat) (t : TypeId) (k : Nat) (v : Value) (n : Nat) (f : Nat → Nat → Value) : Prop :=
  (v = .slice none 0 0 ∧ n = 0) ∨ ∃ g cap cs, v = .slice (some ⟨g, 0, none⟩) n cap ∧ B ≤ g ∧ w.heap[g]? = some (.cells cs t (0, 0)) ∧ n ≤ cap ∧ cap ≤ 9223372036854775807 ∧ ∀ i j, i < n → j < k → w.cell? ⟨g, i * k + j, none⟩ = some (f i j)
namespace Rc
variable {w w' : World} {B : Nat} {t : TypeId} {k : Nat} {v : Value} {n : Nat} {f f' : Nat → Nat → Value}
theorem congr (h : Rc w B t k v n f) (hf : ∀ i j, i < n → j < k → f i j = f' i j) : Rc w B t k v n f' := by
  rcases h with h | ⟨g, cap, cs, h1, h2, h3, h4, h5, h6⟩
  · exact .inl h
  · exact .inr ⟨g, cap, cs, h1, h2, h3, h4, h5, fun i j hi hj => by rw [← hf i j hi hj]; exact h6 i j hi hj⟩
theorem kept {F : Nat → Prop} (h : Rc w B t k v n f) (K : Kept F w w') (hF : ∀ g, v.ownBlock = some g → ¬ F g) : Rc w' B t k v n f := by
  rcases h with h | ⟨g, cap, cs, h1, h2, h3, h4, h5, h6⟩
  · exact .inl h
  · have hg := hF g (by rw [h1]; rfl)
    exact .inr ⟨g, cap, cs, h1, h2, K.at' h3 hg, h4, h5, fun i j hi hj => K.cell (h6 i j hi hj) hg⟩
theorem blk (h : Rc w B t k v n f) {g : Nat} (hg : v.ownBlock = some g) : B ≤ g ∧ ∃ cs, w.heap[g]? = some (.cells cs t (0, 0)) := by
  rcases h with ⟨rfl, _⟩ | ⟨g', cap, cs, rfl, h2, h3, _⟩
  · cases hg
  · injection hg with hg
    subst hg
    exact ⟨h2, cs, h3⟩
theorem shape (h : Rc w B t k v n f) : ∃ a c, v = .slice a n c ∧ n ≤ c ∧ c ≤ 9223372036854775807 := by
  rcases h with ⟨rfl, rfl⟩ | ⟨g', cap, cs, rfl, h2, h3, h4, h5, _⟩
  · exact ⟨none, 0, rfl, Nat.le_refl _, by omega⟩
  · exact ⟨_, cap, rfl, h4, h5⟩
theorem look (h : Rc w B t k v n f) {i : Nat} (hi : i < n) : ∃ g cap, v = .slice (some ⟨g, 0, none⟩) n cap ∧ n ≤ cap ∧ cap ≤ 9223372036854775807 ∧ v.ownBlock = some g ∧ (∀ j, j < k → w.cell? ⟨g, i * k + j, none⟩ = some (f i j)) ∧ ∀ x, w.frozen? ⟨g, x, none⟩ = false := by
  rcases h with ⟨_, rfl⟩ | ⟨g, cap, cs, rfl, h2, h3, h4, h5, h6⟩
  · omega
  · exact ⟨g, cap, rfl, h4, h5, rfl, fun j hj => h6 i j hi hj, fun x => fz_blk h3 x⟩
theorem put (h : Rc w B t k v n f) {g : Nat} (hg : v.ownBlock = some g) {i j : Nat} (hj : j < k) (u : Value) : Rc (w.setCell ⟨g, i * k + j, none⟩ u) B t k v n (fun a b => if a = i ∧ b = j then u else f a b) := by
  rcases h with h | ⟨g', cap, cs, rfl, h2, h3, h4, h5, h6⟩
  · exact .inl h
  · injection hg with hg
    subst hg
    refine .inr ⟨_, cap, _, rfl, h2, set_blk h3 _ _, h4, h5, fun a b ha hb => ?_⟩
    rw [cell_set (h6 a b ha hb)]
    show _ = some (if a = i ∧ b = j then u else f a b)
    by_cases e : a * k + b = i * k + j
    · rw [if_pos e, if_pos (pair_eq hb hj e)]
    · rw [if_neg e, if_neg (fun q => e (by rw [q.1, q.2]))]
theorem of_owns {xs : List Value} (h : w.ownsRow B t k v n xs) (hx : ∀ i j, i < n → j < k → xs[i * k + j]? = some (f i j)) : Rc w B t k v n f := by
  have hc := h
  obtain ⟨_, h1 | ⟨g, cap, cur, rfl, hb, hg, hn, hm, _, _⟩⟩ := h
  · exact .inl h1
  · refine .inr ⟨g, cap, cur, rfl, hb, hg, hn, by unfold maxLen at hm; omega, fun i j hi hj => ?_⟩
    have := hc.cells (g := g) rfl _ _ (hx i j hi hj)
    rw [add_none, Nat.zero_add] at this
    exact this
end Rc

/-- v is a line: its things xs, from somewhere in a block of its own on; what is behind them is its spare room -/
def Qr (w : World) (B : Nat) (t : TypeId) (v : Value) (xs : List Value) : Prop :=
  (v = .slice none 0 0 ∧ xs = []) ∨ ∃ g o cap cs, v = .slice (some ⟨g, o, none⟩) xs.length cap ∧ B ≤ g ∧ w.heap[g]? = some (.cells cs t (0, 0)) ∧ xs.length ≤ cap ∧ cap ≤ 9223372036854775807 ∧ (0 < cap → cs.size = o + cap) ∧ ∀ i u, xs[i]? = some u → cs[o + i]? = some u
namespace Qr
variable {w w' : World} {B : Nat} {t : TypeId} {v : Value} {xs : List Value}
theorem kept {F : Nat → Prop} (h : Qr w B t v xs) (K : Kept F w w') (hF : ∀ g, v.ownBlock = some g → ¬ F g) : Qr w' B t v xs := by
  rcases h with h | ⟨g, o, cap, cs, h1, h2, h3, h4⟩
  · exact .inl h
  · exact .inr ⟨g, o, cap, cs, h1, h2, K.at' h3 (hF g (by rw [h1]; rfl)), h4⟩
theorem blk (h : Qr w B t v xs) {g : Nat} (hg : v.ownBlock = some g) : B ≤ g ∧ ∃ cs, w.heap[g]? = some (.cells cs t (0, 0)) := by
  rcases h with ⟨rfl, _⟩ | ⟨g', o, cap, cs, rfl, h2, h3, _⟩
  · cases hg
  · injection hg with hg
    subst hg
    exact ⟨h2, cs, h3⟩
theorem shape (h : Qr w B t v xs) : ∃ a c, v = .slice a xs.length c ∧ xs.length ≤ c ∧ c ≤ 9223372036854775807 := by
  rcases h with ⟨rfl, rfl⟩ | ⟨g', o, cap, cs, rfl, h2, h3, h4, h5, _⟩
  · exact ⟨none, 0, rfl, Nat.le_refl _, by omega⟩
  · exact ⟨_, cap, rfl, h4, h5⟩
theorem look (h : Qr w B t v xs) {i : Nat} {u : Value} (hu : xs[i]? = some u) : ∃ g o cap, v = .slice (some ⟨g, o, none⟩) xs.length cap ∧ xs.length ≤ cap ∧ cap ≤ 9223372036854775807 ∧ v.ownBlock = some g ∧ w.cell? ⟨g, o + i, none⟩ = some u ∧ ∀ x, w.frozen? ⟨g, x, none⟩ = false := by
  rcases h with ⟨_, rfl⟩ | ⟨g, o, cap, cs, rfl, h2, h3, h4, h5, h6, h7⟩
  · cases hu
  · exact ⟨g, o, cap, rfl, h4, h5, rfl, by rw [cell_blk h3]; exact h7 i u hu, fun x => fz_blk h3 x⟩
theorem of_owns (h : w.ownsRow B t 1 v xs.length xs) : Qr w B t v xs := by
  have hc := h
  obtain ⟨_, ⟨h1, h2⟩ | ⟨g, cap, cur, rfl, hb, hg, hn, hm, hs, ht⟩⟩ := h
  · exact .inl ⟨h1, List.eq_nil_of_length_eq_zero h2⟩
  · refine .inr ⟨g, 0, cap, cur, rfl, hb, hg, hn, by unfold maxLen at hm; omega, fun _ => by omega, fun i u hu => ?_⟩
    have := hc.cells (g := g) rfl i u hu
    rw [add_none, Nat.zero_add, cell_blk hg] at this
    rw [Nat.zero_add]
    exact this
/-- the first thing is taken out -/
theorem tail {x : Value} {g o cap : Nat} (h : Qr w B t (.slice (some ⟨g, o, none⟩) (x :: xs).length cap) (x :: xs)) (u : Value) : Qr (w.setCell ⟨g, o, none⟩ u) B t (.slice (if cap = 1 then some ⟨g, o, none⟩ else some ⟨g, o + 1, none⟩) xs.length (cap - 1)) xs := by
  rcases h with ⟨h, _⟩ | ⟨g', o', cap', cs, h1, h2, h3, h4, h5, h6, h7⟩
  · simp at h
  · injection h1 with h1 _ h8
    injection h1 with h1
    injection h1 with h1 h9 _
    subst h1 h8 h9
    rw [List.length_cons] at h4
    refine .inr ⟨g, if cap = 1 then o else o + 1, cap - 1, _, ?_, h2, set_blk h3 _ _, by omega, by omega, fun h0 => ?_, fun i y hy => ?_⟩
    · split <;> rfl
    · have := h6 (by omega)
      rw [Array.size_setIfInBounds]
      split <;> omega
    · have h8 := h7 (i + 1) y (by simpa using hy)
      have hi := (List.getElem?_eq_some_iff.1 hy).1
      rw [if_neg (by omega), Array.getElem?_setIfInBounds_ne (by omega), ← h8]
      congr 1
      omega
end Qr

section
variable {P : Program} {w : World} {B : Nat}
/-- one thing more -/
theorem run_append_q (t ty e : TypeId) (i : TypeInfo) (z : Value) (bytes : Nat) (ht : P.underlying t = some (.slice e)) (hi : P.info? e = some i) (hz : i.zero = some z) (hsize : i.size = 1) (hby : i.bytes = bytes) (hzs : z.cells.size = 1)
    {v : Value} {xs : List Value} (h : Qr w B e v xs) (a : Addr) (c : Nat) (u : Value) (hu : w.cell? a = some u) (h1 : u.oneCell' = true) (h63 : xs.length + 1 ≤ maxLen) (hb : (xs.length + 1) * bytes ≤ 140737488355328) (hB : B ≤ w.heap.size) :
    ∃ v' w', (Builtin.append_ #[t, t] ty #[v, .slice (some a) 1 c]).run P w = .ok v' w' ∧ Qr w' B e v' (xs ++ [u]) ∧ Kept (fun k => v.ownBlock = some k) w w' ∧ (v'.ownBlock = v.ownBlock ∨ ∃ k, v'.ownBlock = some k ∧ w.heap.size ≤ k) := by
  have news : ∀ j x, [u][j]? = some x → w.cell? (a.add j) = some x := by
    intro j x hx
    have hj : j = 0 := by
      have := (List.getElem?_eq_some_iff.1 hx).1
      simp at this
      exact this
    subst hj
    simp at hx
    subst hx
    simpa [Addr.add] using hu
  have fin : ∀ v' w', w'.ownsRow w.heap.size e 1 v' (xs.length + 1) (xs ++ [u]) → w.grownBy w' none → Qr w' B e v' (xs ++ [u]) ∧ Kept (fun k => v.ownBlock = some k) w w' ∧ (v'.ownBlock = v.ownBlock ∨ ∃ k, v'.ownBlock = some k ∧ w.heap.size ≤ k) := by
    intro v' w' ho hg
    refine ⟨?_, (Kept.refl _ w).grown hg (fun k e => by cases e), .inr ?_⟩
    · refine Qr.of_owns (xs := xs ++ [u]) ?_
      rw [List.length_append]
      obtain ⟨q1, q2 | ⟨g, cap, cur, r1, r2, r3⟩⟩ := ho
      · exact ⟨q1, .inl q2⟩
      · exact ⟨q1, .inr ⟨g, cap, cur, r1, by omega, r3⟩⟩
    · obtain ⟨q1, ⟨_, q2⟩ | ⟨g, cap, cur, rfl, r2, r3⟩⟩ := ho
      · omega
      · exact ⟨g, rfl, r2⟩
  rcases h with ⟨rfl, rfl⟩ | ⟨g, o, cap, cs, rfl, h2, h3, h4, h5, h6, h7⟩
  · obtain ⟨v', w', hr, ho, hg, _⟩ := run_append_own (P := P) w w.heap.size t ty e i z 1 bytes ht hi hz hsize hby hzs (by decide) (.slice none 0 0) 0 [] (World.ownsRow_nil w _ e 1) a 1 c [u] rfl news (by simpa using h1) (by simpa using h63) (by simpa using hb) (Nat.le_refl _)
    exact ⟨v', w', hr, fin v' w' ho hg⟩
  · by_cases hroom : xs.length + 1 ≤ cap
    · have hs := h6 (by omega)
      have hcell : (w.cell? ⟨g, o + xs.length * i.size + 0, none⟩).isSome = true := by
        rw [hsize, cell_blk h3]
        simp
        omega
      have hr := run_append_room_cells (P := P) w t ty e i ht hi g o xs.length cap a 1 c [u] (by rw [hsize]; rfl) news (by simpa using h1) hroom (fun j hj => by have h0 : j = 0 := (by simpa using hj); subst h0; exact hcell) (fun j hj => fz_blk h3 _)
      refine ⟨_, _, hr, ?_⟩
      rw [hsize, Nat.mul_one]
      have hset : w.setCells g (o + xs.length) [u] = w.setCell ⟨g, o + xs.length, none⟩ u := rfl
      rw [hset]
      refine ⟨.inr ⟨g, o, cap, _, by rw [List.length_append]; rfl, h2, set_blk h3 _ _, by rw [List.length_append]; exact hroom, h5, fun _ => by rw [Array.size_setIfInBounds]; exact hs, fun j x hx => ?_⟩, (Kept.refl (fun k => (Value.slice (some ⟨g, o, none⟩) xs.length cap).ownBlock = some k) w).setCell (p := ⟨g, o + xs.length, none⟩) (.inl rfl) _, .inl rfl⟩
      by_cases hj : j < xs.length
      · rw [List.getElem?_append_left hj] at hx
        rw [Array.getElem?_setIfInBounds_ne (by omega)]
        exact h7 j x hx
      · rw [List.getElem?_append_right (by omega)] at hx
        have hj2 := (List.getElem?_eq_some_iff.1 hx).1
        simp at hj2
        have hj3 : j = xs.length := by omega
        subst hj3
        simp at hx
        subst hx
        rw [Array.getElem?_setIfInBounds_self_of_lt (by omega)]
    · obtain ⟨v', w', hr, ho, hg⟩ := run_append_arg_grows (P := P) w t ty e i z 1 bytes ht hi hz hsize hby hzs (by decide) ⟨g, o, none⟩ xs.length cap xs (by omega) (fun j x hx => by rw [add_none, cell_blk h3]; exact h7 j x hx) a 1 c [u] rfl news (by omega) h63 hb
      exact ⟨v', w', hr, fin v' w' ho hg⟩
end
end Go.Proofs.YtfjaajjljmbmbaaGreatDoor
