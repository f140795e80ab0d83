/-
  The law's own list of partitions: rows of 21 cells in a block of one's own; the append of the image's rows, a row set.
-/
import Derived.Test.YtdohjhhflfnncaaDoorFAl
import Derived.Deep.CutBlock
namespace Go.Proofs.YtdohjhhflfnncaaDoor
open Go.RowKit
set_option linter.unusedVariables false
set_option maxRecDepth 100000

theorem flat_getN {sz : Nat} {cs : List Value} : ∀ {CS : List (List Value)} {i k : Nat} {v : Value}, (∀ c ∈ CS, c.length = sz) → CS[i]? = some cs → cs[k]? = some v → CS.flatten[i * sz + k]? = some v
  | [], i, k, v, _, h, _ => by simp at h
  | c :: CS, 0, k, v, hl, h, hv => by
    simp at h
    subst h
    have : k < c.length := (List.getElem?_eq_some_iff.1 hv).1
    rw [List.flatten_cons, List.getElem?_append_left (by omega), Nat.zero_mul, Nat.zero_add]
    exact hv
  | c :: CS, i + 1, k, v, hl, h, hv => by
    have h5 := hl c (by simp)
    have e : (i + 1) * sz = i * sz + sz := Nat.succ_mul i sz
    rw [List.flatten_cons, List.getElem?_append_right (by omega), show (i + 1) * sz + k - c.length = i * sz + k by omega]
    exact flat_getN (fun c hc => hl c (by simp [hc])) (by simpa using h) hv
theorem flat_len {sz : Nat} : ∀ {CS : List (List Value)}, (∀ c ∈ CS, c.length = sz) → CS.flatten.length = CS.length * sz
  | [], _ => by simp
  | c :: CS, h => by
    rw [List.flatten_cons, List.length_append, List.length_cons, Nat.succ_mul, h c (by simp), flat_len (fun c hc => h c (by simp [hc]))]
    omega
theorem flat_of {sz : Nat} : ∀ {CS : List (List Value)} {j : Nat} {u : Value}, (∀ c ∈ CS, c.length = sz) → 0 < sz → CS.flatten[j]? = some u → ∃ i k cs, j = i * sz + k ∧ CS[i]? = some cs ∧ cs[k]? = some u
  | [], j, u, _, _, h => by simp at h
  | c :: CS, j, u, hl, h0, h => by
    have h5 := hl c (by simp)
    rw [List.flatten_cons] at h
    by_cases hj : j < c.length
    · rw [List.getElem?_append_left hj] at h
      exact ⟨0, j, c, by simp, rfl, h⟩
    · rw [List.getElem?_append_right (by omega)] at h
      obtain ⟨i, k, cs, e, h1, h2⟩ := flat_of (fun c hc => hl c (by simp [hc])) h0 h
      refine ⟨i + 1, k, cs, ?_, by simpa using h1, h2⟩
      rw [Nat.succ_mul]
      omega

/-- rows in a block of one's own -/
structure Rws (w : World) (g : Nat) (AS : List (Array Value)) : Prop where
  row : ∀ (i : Nat) (A : Array Value), AS[i]? = some A → w.rangeAt g (i * 21) A.toList ∧ A.size = 21 ∧ A.all (·.oneCell') = true
  there : w.there g 0 (AS.length * 21)
theorem there_kept {G : Nat → Prop} {w w' : World} {b o n : Nat} (h : w.there b o n) (k : Kept G w w') (hb : ¬ G b) : w'.there b o n := fun j hj => by
  obtain ⟨u, hu⟩ := Option.isSome_iff_exists.1 (h j hj).1
  have hlt := World.block_lt_of_cell? w _ hu
  have he := k.block b hlt hb
  refine ⟨by rw [k.cell hu hb]; rfl, ?_⟩
  have := (h j hj).2
  unfold World.frozen? at this ⊢
  rw [he]
  exact this
theorem Rws.kept {G : Nat → Prop} {w w' : World} {g : Nat} {AS : List (Array Value)} (h : Rws w g AS) (k : Kept G w w') (hg : ¬ G g) : Rws w' g AS :=
  ⟨fun i A hA => ⟨rangeAt_kept (h.row i A hA).1 k hg, (h.row i A hA).2⟩, there_kept h.there k hg⟩
theorem Rws.ls {w : World} {g c : Nat} {AS : List (Array Value)} (h : Rws w g AS) (hc : AS.length ≤ c) (hm : c ≤ 9223372036854775807) : Ls 21 elA w (fun k => k = g) (some ⟨g, 0, none⟩) AS.length c AS :=
  ⟨rfl, hc, hm, (fun e => (by cases e)), fun i A hA => ⟨g, 0, A.toList, rfl, rfl, by rw [Array.length_toList]; exact (h.row i A hA).2.1, by rw [Nat.zero_add]; exact (h.row i A hA).1, rfl, (h.row i A hA).2.1, (h.row i A hA).2.2⟩⟩
theorem setCells_keptB (b : Nat) : ∀ (vs : List Value) (o : Nat) (w : World), Kept (fun k => k = b) w (w.setCells b o vs)
  | [], _, w => Kept.refl _ w
  | v :: vs, o, w => ((Kept.refl (fun k => k = b) w).setCell (p := ⟨b, o, none⟩) (.inl rfl) v).trans (setCells_keptB b vs (o + 1) _) (fun _ h => .inl h)
theorem Rws.thereAt {w : World} {g j : Nat} {AS : List (Array Value)} (h : Rws w g AS) (hj : j < AS.length) : w.there g (j * 21) 21 := fun k hk => by
  have := h.there (j * 21 + k) (by omega)
  rw [Nat.zero_add] at this
  exact this
theorem Rws.set {w : World} {g j : Nat} {AS : List (Array Value)} {A : Array Value} (h : Rws w g AS) (hj : j < AS.length) (hs : A.size = 21) (ho : A.all (·.oneCell') = true) : Rws (w.setCells g (j * 21) A.toList) g (AS.set j A) := by
  refine ⟨fun i B hB => ?_, by rw [List.length_set]; exact World.there_setCells h.there _ _ _⟩
  by_cases e : i = j
  · subst e
    rw [List.getElem?_set_self hj] at hB
    injection hB with hB
    subst hB
    exact ⟨World.rangeAt_setCells_same _ _ _ _ (by rw [Array.length_toList, hs]; exact h.thereAt hj), hs, ho⟩
  · rw [List.getElem?_set_ne (Ne.symm e)] at hB
    obtain ⟨h1, h2, h3⟩ := h.row i B hB
    refine ⟨World.rangeAt_setCells_apart h1 _ _ _ (.inr ?_), h2, h3⟩
    rw [Array.length_toList, Array.length_toList, hs, h2]
    omega

theorem Tryd.infoP21 : (Tryd.prog.info? 37).map (fun i => (i.zero, i.size, i.bytes)) = some (some (.agg Z21), 21, 264) := by kernel_rfl
theorem Rws.of {w : World} {B g n cap : Nat} {CS : List (Array Value)} (h : w.ownsRow B 37 21 (.slice (some ⟨g, 0, none⟩) n cap) n (CS.map Array.toList).flatten) (hs : ∀ A ∈ CS, A.size = 21 ∧ A.all (·.oneCell') = true) : Rws w g CS ∧ B ≤ g ∧ n ≤ cap ∧ cap ≤ 9223372036854775807 := by
  have hl : ∀ c ∈ CS.map Array.toList, c.length = 21 := fun c hc => by
    obtain ⟨A, hA, rfl⟩ := List.mem_map.1 hc
    rw [Array.length_toList]
    exact (hs A hA).1
  have hc := h
  obtain ⟨h0, ⟨e, _⟩ | ⟨g', cap', cur, hv, hb, hg, hm, hx, hz, ht⟩⟩ := h
  · cases e
  · injection hv with e1 e2 e3
    injection e1 with e1
    injection e1 with e1
    subst e1 e3
    refine ⟨⟨fun i A hA => ⟨fun j v hj => ?_, hs A (List.mem_of_getElem? hA)⟩, fun j hj => ?_⟩, hb, hm, by unfold maxLen at hx; omega⟩
    · have := hc.cells (g := g) rfl _ _ (flat_getN hl (by rw [List.getElem?_map, hA]; rfl) hj)
      rw [add_none, Nat.zero_add] at this
      exact this
    · rw [Nat.zero_add]
      have hlen : (CS.map Array.toList).flatten.length = CS.length * 21 := by rw [flat_len hl, List.length_map]
      have h2 : j < cur.size := by
        have := congrArg List.length ht
        rw [List.length_take, hlen, Array.length_toList] at this
        omega
      refine ⟨by rw [cell_of_row w g j cur _ _ hg, Array.getElem?_eq_getElem h2]; rfl, ?_⟩
      simp [World.frozen?, hg]
theorem wpList_appP {F : Nat → Prop} {w : World} {ops : Array Oper} {rest : List Oper} {o : Oper} {a : Act} {Q : Exit → Act → World → Prop} (hgd : o.guard = none) (s x : Operand)
    (ho : o.op = .call { callee := .builtin .append, args := #[s, x], argTypes := #[22, 22] }) (hs : a.eval s = .slice none 0 0) (pa : Option Addr) (n c : Nat) (AS : List (Array Value)) (hx : a.eval x = .slice pa n c) (hL : Ls 21 elA w F pa n c AS) (h0 : 0 < n) (hn : n ≤ 1048576)
    (h : ∀ g cap w', Hid (Rws w' g AS) → w.heap.size ≤ g → n ≤ cap → cap ≤ 9223372036854775807 → Hid (Kept No w w') → wpList Tryd.prog ops Q rest (a.put o.dst (.slice (some ⟨g, 0, none⟩) n cap)) w') : wpList Tryd.prog ops Q (o :: rest) a w := by
  obtain ⟨i0, hi, hz0, hz1, hz2⟩ := info_parts Tryd.infoP21
  have hAS : ∀ A ∈ AS, A.size = 21 ∧ A.all (·.oneCell') = true := fun A hA => by
    obtain ⟨i, hi⟩ := List.getElem?_of_mem hA
    obtain ⟨b, o, cs, _, _, _, _, ⟨_, h2, h3⟩⟩ := hL.at' i A hi
    exact ⟨h2, h3⟩
  have hl : ∀ c ∈ AS.map Array.toList, c.length = 21 := fun c hc => by
    obtain ⟨A, hA, rfl⟩ := List.mem_map.1 hc
    rw [Array.length_toList]
    exact (hAS A hA).1
  have hlen := hL.len
  obtain ⟨ad, rfl⟩ : ∃ ad, pa = some ad := by
    cases pa with
    | none => have := hL.nil rfl; have := hL.cap; omega
    | some ad => exact ⟨ad, rfl⟩
  have hnews : ∀ j u, (AS.map Array.toList).flatten[j]? = some u → w.cell? (ad.add j) = some u := fun j u hu => by
    obtain ⟨i, k, cs, rfl, h1, h2⟩ := flat_of hl (by decide) hu
    rw [List.getElem?_map] at h1
    obtain ⟨A, hA, rfl⟩ := Option.map_eq_some_iff.1 h1
    obtain ⟨b, o, cs, e, _, _, hr, ⟨rfl, _, _⟩⟩ := hL.at' i A hA
    injection e with e
    subst e
    rw [add_none]
    have := hr k u h2
    rw [Nat.add_assoc] at this
    exact this
  have h1 : ∀ u ∈ (AS.map Array.toList).flatten, u.oneCell' = true := fun u hu => by
    obtain ⟨cs, hc, hu⟩ := List.mem_flatten.1 hu
    obtain ⟨A, hA, rfl⟩ := List.mem_map.1 hc
    exact Array.all_eq_true_iff_forall_mem.1 (hAS A hA).2 u (by simpa using hu)
  obtain ⟨v', w', hr, own1, grow1, _⟩ := run_append_own (P := Tryd.prog) w w.heap.size 22 o.type 37 i0 _ 21 264 Tryd.underlying22 hi hz0 hz1 hz2 rfl (by decide) (.slice none 0 0) 0 [] (World.ownsRow_nil _ _ _ _) ad n c (AS.map Array.toList).flatten (by rw [flat_len hl, List.length_map, hlen]) hnews h1 (by unfold maxLen; omega) (by omega) (Nat.le_refl _)
  rw [Nat.zero_add, List.nil_append] at own1
  obtain ⟨g, cap, rfl⟩ : ∃ g cap, v' = .slice (some ⟨g, 0, none⟩) n cap := by
    obtain ⟨_, ⟨_, h2⟩ | ⟨g, cap, cur, h2, _⟩⟩ := own1
    · omega
    · exact ⟨g, cap, h2⟩
  obtain ⟨hR, hg, hc1, hc2⟩ := Rws.of own1 hAS
  refine BigFrame.wpList_want (by simp [Region.wanted, hgd]) fun K hK => ?_
  unfold Oper.wp
  have he : (execOp a.eval o).run Tryd.prog w = .ok (.value (.slice (some ⟨g, 0, none⟩) n cap)) w' := by
    unfold execOp
    simp only [ho, resolve, invoke, builtin, Sem.run_bind, Sem.run_pure, Result.andThen_ok, List.map_toArray, List.map_cons, List.map_nil, hs, hx, hr]
  rw [he]
  exact hK _ _ (h g cap w' hR hg hc1 hc2 ((Kept.refl No w).grown grow1 (fun k e => (by cases e))))
end Go.Proofs.YtdohjhhflfnncaaDoor
