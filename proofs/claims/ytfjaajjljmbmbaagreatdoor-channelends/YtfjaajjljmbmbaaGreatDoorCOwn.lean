/-
  Lists of one's own: append of one thing; rows that are sorted and cut.
-/
import Derived.Test.YtfjaajjljmbmbaaGreatDoorODat
import Derived.Test.YtfjaajjljmbmbaaGreatDoorCHeld
import Derived.Maps.AppendAt
import Derived.Sort.Grow
namespace Go.Proofs.YtfjaajjljmbmbaaGreatDoor
open Go.RowKit
set_option linter.unusedVariables false
set_option maxRecDepth 100000

theorem owns_at {w : World} {B t sz n : Nat} {v : Value} {ys : List Value} (h : w.ownsRow B t sz v n ys) {k : Nat} (hk : v.ownBlock = some k) : B ≤ k ∧ k < w.heap.size := by
  obtain ⟨h1, cs, h2⟩ := owns_blk h hk
  exact ⟨h1, heap_lt h2⟩
theorem info_parts {P : Program} {t : TypeId} {z : Option Value} {s b : Nat} (h : (P.info? t).map (fun i => (i.zero, i.size, i.bytes)) = some (z, s, b)) : ∃ i, P.info? t = some i ∧ i.zero = z ∧ i.size = s ∧ i.bytes = b := by
  obtain ⟨i, hi, he⟩ := Option.map_eq_some_iff.1 h
  injection he with h1 h2
  injection h2 with h2 h3
  exact ⟨i, hi, h1, h2, h3⟩
/-- append of one thing onto a list of one's own -/
theorem wpList_app1 {P : Program} {w : World} {ops : Array Oper} {rest : List Oper} {o : Oper} {a : Act} {Q : Exit → Act → World → Prop} (hgd : o.guard = none) (s x : Operand) (t e : TypeId)
    (ho : o.op = .call { callee := .builtin .append, args := #[s, x], argTypes := #[t, t] }) (z : Value) (bytes : Nat) (ht : P.underlying t = some (.slice e)) (hi : (P.info? e).map (fun i => (i.zero, i.size, i.bytes)) = some (some z, 1, bytes)) (hzs : z.cells.size = 1)
    (B : Nat) (v : Value) (n : Nat) (us : List Value) (hs : a.eval s = v) (hv : w.ownsRow B e 1 v n us) (hB : B ≤ w.heap.size) (ad : Addr) (c : Nat) (u : Value) (hx : a.eval x = .slice (some ad) 1 c) (hu : w.cell? ad = some u) (h1 : u.oneCell' = true) (hb : (n + 1) * bytes ≤ 140737488355328) (h63 : n + 1 ≤ maxLen)
    (h : ∀ ya yc w', Hid (w'.ownsRow B e 1 (.slice ya (n + 1) yc) (n + 1) (us ++ [u])) → Hid (w.grownBy w' v.ownBlock) → Hid ((Value.slice ya (n + 1) yc).ownBlock = v.ownBlock ∨ (Value.slice ya (n + 1) yc).ownBlock = some w.heap.size) → wpList P ops Q rest (a.put o.dst (.slice ya (n + 1) yc)) w') : wpList P ops Q (o :: rest) a w := by
  obtain ⟨i0, hi, hz0, hz1, hz2⟩ := info_parts hi
  have news : ∀ j y, [u][j]? = some y → w.cell? (ad.add j) = some y := by
    intro j y hy
    have hj : j = 0 := by
      have := (List.getElem?_eq_some_iff.1 hy).1
      simp at this
      exact this
    subst hj
    simp at hy
    subst hy
    simpa [Addr.add] using hu
  obtain ⟨v', w', hr, ho', hg, _, hl⟩ := run_append_own_at (P := P) w B t o.type e i0 z 1 bytes ht hi hz0 hz1 hz2 hzs (by decide) v n us hv ad 1 c [u] rfl news (by simpa using h1) h63 hb hB
  obtain ⟨ya, yn, yc, rfl⟩ := own_slice ho'
  have hyn : yn = n + 1 := by
    obtain ⟨_, ⟨_, h2⟩ | ⟨g, cap, cur, h2, _⟩⟩ := ho'
    · omega
    · injection h2
  subst hyn
  refine BigFrame.wpList_want (by simp [Region.wanted, hgd]) fun K hK => ?_
  unfold Oper.wp
  have he : (execOp a.eval o).run P w = .ok (.value (.slice ya (n + 1) yc)) w' := by
    unfold execOp
    simp only [ho, resolve, invoke, builtin, Sem.run_bind, Sem.run_pure, Result.andThen_ok, List.map_toArray, List.map_cons, List.map_nil, hs, hx, hr]
  rw [he]
  exact hK _ _ (h ya yc w' ho' hg hl)
theorem Tryz.infoI : (Tryz.prog.info? 3).map (fun i => (i.zero, i.size, i.bytes)) = some (some (.int .i64 0), 1, 8) := by kernel_rfl

/-- block g begins with these numbers -/
abbrev Hd (w : World) (g : Nat) (zs : List Int) : Prop := Sort.Holds (Value.int .i64) w g 0 zs.toArray
theorem Hd.of_owns {w : World} {B : Nat} {v : Value} {n : Nat} {zs : List Int} (h : w.ownsRow B 3 1 v n (zs.map iv)) (hn : zs ≠ []) : ∃ g cap, v = .slice (some ⟨g, 0, none⟩) zs.length cap ∧ B ≤ g ∧ g < w.heap.size ∧ zs.length ≤ cap ∧ cap ≤ 9223372036854775807 ∧ Hd w g zs := by
  have hc := h
  obtain ⟨hl, ⟨h1, h2⟩ | ⟨g, cap, cur, hv, hb, hg, hm, hx, hs, ht⟩⟩ := h
  · subst h2
    have : zs = [] := by
      have e : (zs.map iv).length = 0 := by simpa using hl
      simpa using e
    exact absurd this hn
  · have hlen : zs.length = n := by simpa using hl
    subst hv
    refine ⟨g, cap, by rw [hlen], hb, heap_lt hg, by omega, hx, fun j hj => ?_⟩
    have hj' : j < zs.length := by simpa using hj
    have := hc.cells (g := g) rfl j (iv zs[j]) (by simp [hj'])
    rw [add_none] at this
    refine ⟨?_, by simp [World.frozen?, hg]⟩
    rw [this]
    simp [iv, hj']
theorem Hd.kept {w w' : World} {g : Nat} {zs : List Int} {F : Nat → Prop} (h : Hd w g zs) (k : Kept F w w') (hF : ¬ F g) (hlt : g < w.heap.size) : Hd w' g zs := fun j hj => by
  obtain ⟨h1, h2⟩ := h j hj
  have hb := k.block g hlt hF
  refine ⟨k.cell h1 hF, ?_⟩
  simp only [World.frozen?, hb] at h2 ⊢
  exact h2
theorem Hd.cell {w : World} {g : Nat} {zs : List Int} (h : Hd w g zs) {j : Nat} (hj : j < zs.length) : w.cell? ⟨g, j, none⟩ = some (.int .i64 (zs.getD j 0)) := by
  have := (h j (by simpa using hj)).1
  rw [Nat.zero_add] at this
  rw [this]
  simp [List.getD, hj]
theorem Hd.take {w : World} {g : Nat} {zs ys : List Int} (h : Hd w g (zs ++ ys)) : Hd w g zs := fun j hj => by
  have hj' : j < zs.length := by simpa using hj
  have := h j (by simp; omega)
  simpa [List.getElem?_append_left hj', hj'] using this
theorem kept_grow {w : World} {g n : Nat} {d : Array Int} {os : Array Obj} : Kept (fun j => j = g) w (Sort.grow (Sort.putRow (Value.int .i64) (Sort.ahead w n) g 0 d) os) := by
  refine ⟨rfl, rfl, rfl, ?_, fun j hj hn => ?_⟩
  · simp [Sort.grow, Sort.ahead]
  · simp only [Sort.grow, Sort.putRow, Sort.mapBlock, Sort.ahead]
    rw [Array.getElem?_append_left (by simpa using hj), Array.getElem?_modify, if_neg (fun e => hn e.symm)]
theorem kept_row {w : World} {g n : Nat} {d : Array Int} : Kept (fun j => j = g) w (Sort.putRow (Value.int .i64) (Sort.ahead w n) g 0 d) := by
  refine ⟨rfl, rfl, rfl, ?_, fun j hj hn => ?_⟩
  · simp [Sort.ahead]
  · simp only [Sort.putRow, Sort.mapBlock, Sort.ahead]
    rw [Array.getElem?_modify, if_neg (fun e => hn e.symm)]
end Go.Proofs.YtfjaajjljmbmbaaGreatDoor
