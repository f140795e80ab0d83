/-
  proc: Line of those that wait at an event.
-/
import Derived.Test.YtofkacfchkimiaaPLine
import Derived.Test.YtofkacfchkimiaaPCalls
import Derived.Deep.LoopGhost
namespace Go.Proofs.Ytofkacfchkimiaa
open Go.Shelf Go.RowKit Go.Lib Go.Sort
set_option linter.unusedVariables false
set_option maxRecDepth 100000

theorem owns_at {w : World} {B e : Nat} {v : Value} {n : Nat} {ys : List Value} (h : w.ownsRow B e 1 v n ys) {k : Nat} (hk : v.ownBlock = some k) : B ≤ k ∧ k < w.heap.size := own_at h k hk
/-- append of one thing onto a list of one's own -/
theorem wpList_app1 {P : Program} {w : World} {ops : Array Oper} {rest : List Oper} {o : Oper} {a : Act} {Q : Exit → Act → World → Prop} (hgd : o.guard = none) (s x : Operand) (t e : TypeId)
    (ho : o.op = .call { callee := .builtin .append, args := #[s, x], argTypes := #[t, t] }) (z : Value) (bytes : Nat) (ht : P.underlying t = some (.slice e)) (hi : (P.info? e).map (fun i => (i.zero, i.size, i.bytes)) = some (some z, 1, bytes)) (hzs : z.cells.size = 1)
    (B : Nat) (v : Value) (n : Nat) (us : List Value) (hs : a.eval s = v) (hv : w.ownsRow B e 1 v n us) (hB : B ≤ w.heap.size) (ad : Addr) (c : Nat) (u : Value) (hx : a.eval x = .slice (some ad) 1 c) (hu : w.cell? ad = some u) (h1 : u.oneCell' = true) (hb : (n + 1) * bytes ≤ 140737488355328) (h63 : n + 1 ≤ maxLen)
    (h : ∀ ya yc w', Hid (w'.ownsRow B e 1 (.slice ya (n + 1) yc) (n + 1) (us ++ [u])) → Hid (w.grownBy w' v.ownBlock) → Hid ((Value.slice ya (n + 1) yc).ownBlock = v.ownBlock ∨ (Value.slice ya (n + 1) yc).ownBlock = some w.heap.size) → wpList P ops Q rest (a.put o.dst (.slice ya (n + 1) yc)) w') : wpList P ops Q (o :: rest) a w := by
  obtain ⟨i0, hi, hz0, hz1, hz2⟩ := info_parts hi
  have news : ∀ j y, [u][j]? = some y → w.cell? (ad.add j) = some y := by
    intro j y hy
    have hj : j = 0 := by
      have := (List.getElem?_eq_some_iff.1 hy).1
      simp at this
      exact this
    subst hj
    simp at hy
    subst hy
    simpa [Addr.add] using hu
  obtain ⟨v', w', hr, ho', hg, _, hl⟩ := run_append_own_at (P := P) w B t o.type e i0 z 1 bytes ht hi hz0 hz1 hz2 hzs (by decide) v n us hv ad 1 c [u] rfl news (by simpa using h1) h63 hb hB
  obtain ⟨ya, yn, yc, rfl⟩ := own_slice ho'
  have hyn : yn = n + 1 := by
    obtain ⟨_, ⟨_, h2⟩ | ⟨g, cap, cur, h2, _⟩⟩ := ho'
    · omega
    · injection h2
  subst hyn
  refine BigFrame.wpList_want (by simp [Region.wanted, hgd]) fun K hK => ?_
  unfold Oper.wp
  have he : (execOp a.eval o).run P w = .ok (.value (.slice ya (n + 1) yc)) w' := by
    unfold execOp
    simp only [ho, resolve, invoke, builtin, Sem.run_bind, Sem.run_pure, Result.andThen_ok, List.map_toArray, List.map_cons, List.map_nil, hs, hx, hr]
  rw [he]
  exact hK _ _ (h ya yc w' ho' hg hl)
theorem Try.infoI : (Try.prog.info? 3).map (fun i => (i.zero, i.size, i.bytes)) = some (some (.int .i64 0), 1, 8) := by kernel_rfl
theorem one {W : World} {b : Nat} {v0 : Value} {t : TypeId} (h : W.heap[b]? = some (.cells #[v0] t)) : W.cell? ⟨b, 0, none⟩ = some v0 := by
  simp [World.cell?, h]

/-- those that wait, as elements that are sorted -/
def encW (wl : List Nat) (x : {i : Nat // i ∈ wl}) : Value := .int .i64 ((x.1 : Int) + 1)
def cfW (T : Tt) (wl : List Nat) (x y : {i : Nat // i ∈ wl}) : Int := cmpP (T.ps x.1) (T.ps y.1)
theorem ltW {T : Tt} {n : Nat} {ls wl : List Nat} (F : Fm T n ls wl) (x y : {i : Nat // i ∈ wl}) : ltOf (cfW T wl) x y = decide ((T.ps x.1).pl < (T.ps y.1).pl) := by
  unfold ltOf cfW
  rw [F.cm x.2 y.2]
  unfold sgn
  by_cases h1 : (T.ps x.1).pl < (T.ps y.1).pl
  · simp [h1]
  · by_cases h2 : (T.ps y.1).pl < (T.ps x.1).pl <;> simp [h1, h2]
theorem swoW {T : Tt} {n : Nat} {ls wl : List Nat} (F : Fm T n ls wl) : SWO (ltOf (cfW T wl)) where
  irrefl x := by rw [ltW F]; simp
  trans x y z h1 h2 := by rw [ltW F] at *; simp at *; omega
  ntrans x y z h1 h2 := by rw [ltW F] at *; simp at *; omega
theorem pmap_val {wl : List Nat} : ∀ (l : List Nat) (H : ∀ a ∈ l, a ∈ wl), (l.pmap (fun i hi => (⟨i, hi⟩ : {i : Nat // i ∈ wl})) H).map (·.1) = l
  | [], _ => rfl
  | x :: r, H => by
    simp only [List.pmap, List.map_cons]
    rw [pmap_val r]
theorem kept_sortW {α : Type} [Inhabited α] {enc : α → Value} {w : World} {g n : Nat} {d : Array α} {os : Array Obj} : Kept (fun j => j = g) w (sortWorld enc w g 0 n d os) := by
  refine ⟨rfl, rfl, rfl, ?_, fun j hj hn => ?_⟩
  · simp [sortWorld, Sort.grow, Sort.ahead]
  · simp only [sortWorld, Sort.grow, Sort.putRow, Sort.mapBlock, Sort.ahead]
    rw [Array.getElem?_append_left (by simpa using hj), Array.getElem?_modify, if_neg (fun e => hn e.symm)]

/-- the sort of the line -/
theorem sortW {b g cap : Nat} {T : Tt} {ls wl : List Nat} (w0 w : World) (h : Tw w0 b g cap T) (hn : T.n ≤ 1048576) (F : Fm T T.n ls wl) (K : Kept No w0 w) {B blk c : Nat} (hB : w.heap[B]? = some (.cells #[.pointer (some ⟨b, 0, none⟩)] 22)) (hb0 : w0.heap.size ≤ blk) (hbB : blk ≠ B) (hbl : blk < w.heap.size) (hne : wl ≠ [])
    (hc : ∀ j, j < (wq T 7 3 T.n).length → w.cell? ⟨blk, j, none⟩ = some (.int .i64 (((wq T 7 3 T.n).getD j 0 : Int) + 1)) ∧ w.frozen? ⟨blk, j, none⟩ = false) :
    Calls Try.prog 52 #[.slice (some ⟨blk, 0, none⟩) (wq T 7 3 T.n).length c, .func (.func 53) #[] #[.pointer (some ⟨B, 0, none⟩)]] w fun e w' => e = .returned (.tuple #[]) ∧ Kept (fun j => j = blk) w w' ∧ ∀ j, j < wl.length → w'.cell? ⟨blk, j, none⟩ = some (.int .i64 ((wl.getD j 0 : Int) + 1)) := by
  obtain ⟨x0, hx0⟩ : ∃ x0, x0 ∈ wl := List.exists_mem_of_ne_nil _ hne
  have inh : Inhabited {i : Nat // i ∈ wl} := ⟨⟨x0, hx0⟩⟩
  have Hm : ∀ a ∈ wq T 7 3 T.n, a ∈ wl := fun a ha => (F.wq_mem a).1 ha
  obtain ⟨D, hD⟩ : ∃ D : List {i : Nat // i ∈ wl}, D = (wq T 7 3 T.n).pmap (fun i hi => (⟨i, hi⟩ : {i : Nat // i ∈ wl})) Hm := ⟨_, rfl⟩
  have hDv : D.map (·.1) = wq T 7 3 T.n := by rw [hD]; exact pmap_val _ _
  have hDl : D.length = (wq T 7 3 T.n).length := by rw [← hDv, List.length_map]
  have hDj : ∀ j (hj : j < D.length), (wq T 7 3 T.n).getD j 0 = D[j].1 := fun j hj => by
    rw [← hDv]; simp [List.getD, hj]
  have hH : Sort.Holds (encW wl) w blk 0 D.toArray := fun j hj => by
    have hj' : j < D.length := by simpa using hj
    obtain ⟨h1, h2⟩ := hc j (by omega)
    rw [Nat.zero_add]
    refine ⟨?_, h2⟩
    rw [h1, hDj j hj']
    simp [encW, hj']
  have hcmp : CmpReads Try.prog 53 #[.pointer (some ⟨B, 0, none⟩)] (encW wl) (cfW T wl) blk 0 D.toArray.size w := fun m os dk hdk x y => by
    have k1 : Kept (fun j => j = blk) w (sortWorld (encW wl) w blk 0 m dk os) := kept_sortW
    have k2 : Kept No w0 (sortWorld (encW wl) w blk 0 m dk os) := K.trans k1 (fun j e => .inr (by omega))
    exact cmpF_any _ (h.keep k2) hn (F.lt x.1 (by simp [x.2])) (F.lt y.1 (by simp [y.2])) (one (k1.at' hB (fun e => hbB e.symm)))
  have sz : D.toArray.size = (wq T 7 3 T.n).length := by simpa using hDl
  have hlen : (wq T 7 3 T.n).length ≤ T.n := by
    unfold wq
    have := List.length_filter_le (fun i => decide ((T.ps i).st = 7 ∧ (T.ps i).ob = 3)) (List.range T.n)
    simpa using this
  have hS := Any.slices_SortFunc Try.sortF (encW wl) (fun x => rfl) (cfW T wl) (swoW F) 53 #[.pointer (some ⟨B, 0, none⟩)] blk 0 c D.toArray w (enters_of Try.func53 (by kernel_rfl) rfl) hcmp.lays hH hbl (by rw [sz]; omega)
  rw [sz] at hS
  refine hS.mono ?_
  rintro e w' ⟨rfl, d', m, os, hp, hs, rfl⟩
  obtain ⟨hp1, _, hp3⟩ := hp
  have e1 : d'.extract 0 (wq T 7 3 T.n).length = d' := by rw [← sz, ← hp1]; exact Array.extract_size
  have e2 : D.toArray.extract 0 (wq T 7 3 T.n).length = D.toArray := by rw [← sz]; exact Array.extract_size
  rw [e1, e2] at hp3
  have hl : d'.toList.map (·.1) = wl := by
    refine F.sorted ?_ ?_
    · have := hp3.map (fun x : {i : Nat // i ∈ wl} => x.1)
      rw [show (D.toArray.toList.map (fun x : {i : Nat // i ∈ wl} => x.1)) = wq T 7 3 T.n from hDv] at this
      exact this
    · rw [List.pairwise_map, List.pairwise_iff_getElem]
      intro i j hi hj hij
      have hi' : i < d'.size := by simpa using hi
      have hj' : j < d'.size := by simpa using hj
      have h9 := hs i j (Nat.zero_le _) hij (by rw [← sz, ← hp1]; exact hj')
      unfold ltOf cfW at h9
      simp [hi', hj'] at h9
      simpa using h9
  have hdl : d'.size = wl.length := by have := congrArg List.length hl; simpa using this
  refine ⟨rfl, kept_sortW, fun j hj => ?_⟩
  have hh : Sort.Holds (encW wl) (sortWorld (encW wl) w blk 0 m d' os) blk 0 d' := Sort.holds_grow _ _ _ _ _ _ (by simp [Sort.ahead]; exact hbl) (Sort.holds_putRow _ _ _ _ _ _ (Sort.holds_ahead _ _ _ _ _ _ hH) hp1)
  have h1 := (hh j (by omega)).1
  rw [Nat.zero_add] at h1
  rw [h1]
  have hj' : j < d'.size := by omega
  have hw : wl.getD j 0 = (d'[j]).1 := by
    have h8 := congrArg (fun l => l.getD j 0) hl
    simp [List.getD, hj'] at h8
    simp [List.getD, ← h8]
  rw [hw]
  simp [encW, hj']
end Go.Proofs.Ytofkacfchkimiaa
