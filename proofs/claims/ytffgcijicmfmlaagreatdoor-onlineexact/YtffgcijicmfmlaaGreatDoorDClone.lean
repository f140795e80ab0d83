/-
  slices.Clone; rows of numbers.
-/
import Derived.Test.YtffgcijicmfmlaaGreatDoorOSrvs
import Derived.Test.YtffgcijicmfmlaaGreatDoorOVal
import Derived.RangeFuncRecord
import Derived.Laws.AppendOwnNone
namespace Go.Proofs.YtffgcijicmfmlaaGreatDoor
open Go.RowKit Plain
set_option linter.unusedVariables false
set_option linter.unusedSimpArgs false
set_option maxRecDepth 100000

/-- 'append([]api.Server{}, list...)' -/
theorem wpList_cp {w : World} {ops : Array Oper} {rest : List Oper} {o : Oper} {a : Act} {Q : Exit → Act → World → Prop} (hgd : o.guard = none) (s x : Operand)
    (ho : o.op = .call { callee := .builtin .append, args := #[s, x], argTypes := #[22, 22] }) (B : Nat) (v : Value) (hs : a.eval s = v) (hv : w.ownsRow B 36 4 v 0 []) (hB : B ≤ w.heap.size) (xa : Option Addr) (n c : Nat) (hx : a.eval x = .slice xa n c)
    (F : Nat → Prop) (xs : List Srv) (hz : Sv w F xa n c xs) (hn : n ≤ 70000)
    (h : ∀ v1 w', Hid (w'.ownsRow B 36 4 v1 n (fl xs)) → Hid (Kept (fun k => v.ownBlock = some k) w w') → wpList Tryz.prog ops Q rest (a.put o.dst v1) w') : wpList Tryz.prog ops Q (o :: rest) a w := by
  obtain ⟨i0, hi, hz0, hz1, hz2⟩ := info_parts Tryz.infoS
  cases xa with
  | none =>
    have hc0 := hz.nil rfl
    have hn0 : n = 0 := by have := hz.cap; omega
    have hx0 : xs = [] := List.eq_nil_of_length_eq_zero (by rw [hz.len]; exact hn0)
    subst hc0 hn0 hx0
    refine wpList_append_own_none hgd s x 22 ho B 36 i0 4 Tryz.underlying22 hi _ _ _ hs hv hx ?_
    exact h v w hv (Kept.refl _ _)
  | some ad =>
    refine wpList_append_own _ hgd s x 22 ho B 36 i0 (.agg #[.int .i64 0, .int .i64 0, .int .i64 0, .int .i64 0]) 4 32 Tryz.underlying22 hi hz0 hz1 hz2 rfl (by decide) _ 0 [] hs hv ad n c (fl xs) hx (by rw [fl_len, hz.len]) hz.news (fl_one _) (by unfold maxLen; omega) (by omega) hB ?_
    intro v1 w1 own1 grow1 _
    rw [Nat.zero_add, List.nil_append] at own1
    exact h v1 w1 own1 ((Kept.refl (fun k => v.ownBlock = some k) w).grown grow1 (fun k e => .inl e))

/-- a row of counts -/
structure Ct (w : World) (g n : Nat) (cv : Nat → Int) : Prop where
  at' : ∀ i, i < n → w.cell? ⟨g, i, none⟩ = some (.int .i64 (cv i))
  fz : ∀ i, w.frozen? ⟨g, i, none⟩ = false
  lt : g < w.heap.size
theorem Ct.keep {w w' : World} {g n : Nat} {cv : Nat → Int} (h : Ct w g n cv) (hk : Kept No w w') : Ct w' g n cv :=
  ⟨fun i hi => hk.cell (h.at' i hi) (fun h => h), fun i => by
    have e := hk.block g h.lt (fun h => h)
    have := h.fz i
    simp only [World.frozen?] at this ⊢
    rw [e]; exact this, Nat.lt_of_lt_of_le h.lt hk.size⟩
theorem Ct.put {w : World} {g n : Nat} {cv : Nat → Int} (h : Ct w g n cv) (k : Nat) (x : Int) : Ct (w.setCell ⟨g, k, none⟩ (.int .i64 x)) g n (fun i => if i = k then x else cv i) := by
  refine ⟨fun i hi => ?_, fun i => by rw [World.frozen?_setCell]; exact h.fz i, by simpa [World.setCell] using h.lt⟩
  rw [cell_set (h.at' i hi)]
  by_cases e : i = k
  · rw [if_pos e, if_pos e]
  · rw [if_neg e, if_neg e]
theorem Ct.over {w w' : World} {G : Nat → Prop} {g n : Nat} {cv : Nat → Int} (h : Ct w g n cv) (hk : Kept G w w') (hG : ¬ G g) : Ct w' g n cv :=
  ⟨fun i hi => hk.cell (h.at' i hi) hG, fun i => by
    have e := hk.block g h.lt hG
    have := h.fz i
    simp only [World.frozen?] at this ⊢
    rw [e]; exact this, Nat.lt_of_lt_of_le h.lt hk.size⟩
theorem Ct.like {w : World} {g n : Nat} {cv cv' : Nat → Int} (h : Ct w g n cv) (he : ∀ i, i < n → cv i = cv' i) : Ct w g n cv' :=
  ⟨fun i hi => by rw [← he i hi]; exact h.at' i hi, h.fz, h.lt⟩
theorem Tryz.infoI3 : (Tryz.prog.info? 3).map (fun i => (i.zero, i.size, i.bytes)) = some (some (.int .i64 0), 1, 8) := by kernel_rfl
theorem make_ints (w : World) (n : Nat) (hn : n ≤ 32) : ∃ w1, (Instr.makeSlice 23 (.int .i64 n) (.int .i64 n)).run Tryz.prog w = .ok (.slice (some ⟨w.heap.size, 0, none⟩) n n) w1 ∧ Ct w1 w.heap.size n (fun _ => 0) ∧ Kept No w w1 ∧ w1.heap.size = w.heap.size + 1 := by
  obtain ⟨i0, hi, hz0, hz1, hz2⟩ := info_parts Tryz.infoI3
  have hr := run_make (P := Tryz.prog) w 23 3 i0 _ Tryz.underlying23 hi hz0 .i64 .i64 n n (by omega) (Int.le_refl _) (by rw [hz2]; omega) (by omega)
  simp only [Int.toNat_natCast] at hr
  rw [hz1, Nat.mul_one] at hr
  refine ⟨_, hr, ⟨fun i hi => ?_, fun i => ?_, by simp⟩, (Kept.refl No w).alloc _, by simp⟩
  · have hb := World.alloc_heap_new w (.cells (madeCells (Value.int .i64 0).cells n) 3)
    have e : (madeCells (Value.int .i64 0).cells n)[i]? = some (.int .i64 0) := by
      rw [show (Value.int .i64 0).cells = #[Value.int .i64 0] from rfl, ← Array.getElem?_toList, toList_madeCells_one, List.getElem?_replicate, if_pos hi]
    simp only [World.cell?]
    rw [hb]
    simpa using e
  · have hb := World.alloc_heap_new w (.cells (madeCells (Value.int .i64 0).cells n) 3)
    simp only [World.frozen?]
    rw [hb]
    rfl

theorem own0 {b k n c : Nat} (h : (Value.slice (some ⟨b, 0, none⟩) n c).ownBlock = some k) : b ≤ k := by
  injection h with h; exact Nat.le_of_eq h
theorem clone_srv {F : Nat → Prop} {a : Option Addr} {c : Nat} {xs : List Srv} (w : World) (h : Sv w F a xs.length c xs) (hn : xs.length ≤ 32) :
    Calls Tryz.prog 44 #[.slice a xs.length c] w fun e w' => ∃ a' c', e = .returned (.slice a' xs.length c') ∧ Sv w' (fun k => w.heap.size ≤ k ∧ k < w'.heap.size) a' xs.length c' xs ∧ Kept No w w' := by
  have qT : ∀ (w : World) (a : Option Addr) (n c n' c' : Nat), (binOp .eql 22 (.slice a n c) (.slice none n' c')).run Tryz.prog w = .ok (.bool a.isNone) w := fun w a n c n' c' => Lib.run_eql_slice_nil w _ _ a n c n' c' Tryz.underlying22
  have HS : Hid (Sv w F a xs.length c xs) := h
  cases a with
  | none =>
    have h0 : xs.length = 0 := by have := h.nil rfl; have := h.cap; omega
    have hxs : xs = [] := List.eq_nil_of_length_eq_zero h0
    subst hxs
    clear h
    go_enter Tryz.func44, Tryz.ntmps44
    go_wp2
    go_ret
    exact ⟨none, 0, rfl, ⟨rfl, by simp, by omega, fun _ => rfl, fun i x hx => by simp at hx⟩, Kept.refl No w⟩
  | some ad =>
    clear h
    go_enter Tryz.func44, Tryz.ntmps44
    go_wp2_with (at_builtin; refine wpList_cp rfl _ _ rfl w.heap.size _ rfl (made0 w) (by simp) (some ad) xs.length c rfl F xs (HS.out.keep ((Kept.refl No w).alloc _)) (by omega) ?_; intro v1 w2 OW2 KW2)
    obtain ⟨a', c', rfl, hS2⟩ := own_sv OW2.out rfl (fun i hi => HS.out.ok i hi)
    go_ret
    refine ⟨a', c', rfl, ?_, ?_⟩
    · exact ⟨hS2.len, hS2.cap, hS2.max, hS2.nil, fun i x hx => by
        obtain ⟨ok, b, o, e, hb, r⟩ := hS2.at' i x hx
        exact ⟨ok, b, o, e, OW2.out.lt b hb, r⟩⟩
    · exact ((Kept.refl No w).alloc _).trans KW2.out (fun k e => .inr (own0 e))

theorem made0i (w : World) : (w.alloc (.cells #[] 3)).ownsRow w.heap.size 3 1 (.slice (some ⟨w.heap.size, 0, none⟩) 0 0) 0 [] := World.ownsRow_made w #[] 0 (Nat.le_refl _) (by unfold maxLen; omega) rfl
theorem clone_int {g : Nat} {n : Nat} {r : Nat → Int} (w : World) (h : Ct w g n r) (hn : n ≤ 32) :
    Calls Tryz.prog 30 #[.slice (some ⟨g, 0, none⟩) n n] w fun e w' => ∃ g' c', e = .returned (.slice (some ⟨g', 0, none⟩) n c') ∧ w.heap.size ≤ g' ∧ n ≤ c' ∧ c' ≤ 9223372036854775807 ∧ Ct w' g' n r ∧ w'.ownsRow w.heap.size 3 1 (.slice (some ⟨g', 0, none⟩) n c') n ((List.range n).map fun i => .int .i64 (r i)) ∧ Kept No w w' := by
  have qT : ∀ (w : World) (a : Option Addr) (n c n' c' : Nat), (binOp .eql 23 (.slice a n c) (.slice none n' c')).run Tryz.prog w = .ok (.bool a.isNone) w := fun w a n c n' c' => Lib.run_eql_slice_nil w _ _ a n c n' c' Tryz.underlying23
  obtain ⟨i0, hi, hz0, hz1, hz2⟩ := info_parts Tryz.infoI3
  have HC : Hid (Ct (w.alloc (.cells #[] 3)) g n r) := h.keep ((Kept.refl No w).alloc _)
  have hnews : ∀ j u, ((List.range n).map fun i => Value.int .i64 (r i))[j]? = some u → (w.alloc (.cells #[] 3)).cell? (Addr.add ⟨g, 0, none⟩ j) = some u := fun j u hj => by
    have hl : j < n := by have := (List.getElem?_eq_some_iff.1 hj).1; simpa using this
    rw [List.getElem?_map, List.getElem?_range hl] at hj
    simp at hj
    subst hj
    rw [add_none, Nat.zero_add]
    exact HC.out.at' j hl
  have hone : ∀ u ∈ (List.range n).map (fun i => Value.int .i64 (r i)), u.oneCell' = true := fun u hu => by
    rw [List.mem_map] at hu
    obtain ⟨i, _, rfl⟩ := hu
    rfl
  clear h
  go_enter Tryz.func30, Tryz.ntmps30
  go_wp2_with (at_builtin; refine wpList_append_own_at _ rfl _ _ 23 rfl w.heap.size 3 i0 (.int .i64 0) 1 8 Tryz.underlying23 hi hz0 hz1 hz2 rfl (by decide) _ _ _ rfl (made0i w) ⟨g, 0, none⟩ n n ((List.range n).map fun i => .int .i64 (r i)) rfl (by simp) hnews hone (by unfold maxLen; omega) (by omega) (by simp) ?_; intro v9 w10 own10 grow10 hnil at10)
  rw [Nat.zero_add, List.nil_append] at own10
  rcases owns_cells own10 with ⟨h1, h2⟩ | ⟨g', cap, rfl, hb, hg, hcn, hcm, hc, hf⟩
  · exfalso
    have := hnil.1 h1
    cases this.1
  · have hk : Kept No w w10 := ((Kept.refl No w).alloc _).grown grow10 (fun k e => .inr (own0 e))
    go_ret
    refine ⟨g', cap, rfl, hb, hcn, by unfold maxLen at hcm; omega, ⟨fun i hi => hc i _ ?_, hf, hg⟩, own10, hk⟩
    rw [List.getElem?_map, List.getElem?_range hi]
    rfl
end Go.Proofs.YtffgcijicmfmlaaGreatDoor
