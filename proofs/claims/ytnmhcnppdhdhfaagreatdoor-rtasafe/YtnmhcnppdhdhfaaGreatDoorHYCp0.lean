/-
  One text: YCp0.
-/
import Derived.Test.YtnmhcnppdhdhfaaGreatDoorG40
namespace Go.Proofs.YtnmhcnppdhdhfaaGreatDoor
open Go.RowKit
set_option linter.unusedVariables false
set_option maxRecDepth 100000

/-- the cells of a list's elements, one behind the other -/
theorem Ls.flat {α : Type} {sz : Nat} {cl : α → List Value} {El : World → (Nat → Prop) → List Value → α → Prop} {w : World} {F : Nat → Prop} {b o off n c : Nat} {sp : Option Nat} {l : List α} (hz : 0 < sz) (h : Ls sz El w F (some ⟨b, off, sp⟩) n c l) (hE : ∀ cs x, El w F cs x → cs = cl x) (hl : ∀ x, (cl x).length = sz) :
    ∀ j u, ((l.map cl).flatten)[j]? = some u → w.cell? ((⟨b, off, sp⟩ : Addr).add j) = some u := by
  intro j u hj
  have hjl : j < ((l.map cl).flatten).length := (List.getElem?_eq_some_iff.1 hj).1
  have hlen : ((l.map cl).flatten).length = l.length * sz := by
    clear hj hjl h
    induction l with
    | nil => simp
    | cons x l ih => rw [List.map_cons, List.flatten_cons, List.length_append, ih, hl, List.length_cons, Nat.add_mul]; omega
  rw [hlen] at hjl
  have hi : j / sz < l.length := Nat.div_lt_of_lt_mul (by rw [Nat.mul_comm]; exact hjl)
  have hr : j % sz < sz := Nat.mod_lt _ hz
  have e : j = j / sz * sz + j % sz := by rw [Nat.mul_comm]; exact (Nat.div_add_mod j sz).symm
  obtain ⟨x, hx⟩ : ∃ x, l[j / sz]? = some x := ⟨_, List.getElem?_eq_getElem hi⟩
  obtain ⟨b', o', cs, ha, hb, hcl, hrg, hEl⟩ := h.at' _ x hx
  have := hE cs x hEl
  subst this
  injection ha with ha
  injection ha with e1 e2 e3
  subst e1 e2 e3
  have hc : (l.map cl)[j / sz]? = some (cl x) := by rw [List.getElem?_map, hx]; rfl
  have hf := flat_get sz (l.map cl) (fun cs hm => by rw [List.mem_map] at hm; obtain ⟨y, _, rfl⟩ := hm; exact hl y) (j / sz) (j % sz) (cl x) hc hr
  rw [← e, hj] at hf
  rw [add_none]
  have := hrg (j % sz) u hf.symm
  rw [show off + j = off + j / sz * sz + j % sz by omega]
  exact this

theorem own_fz {w : World} {B sz n : Nat} {t : TypeId} {v : Value} {xs : List Value} (h : w.ownsRow B t sz v n xs) (g : Nat) (hg : v.ownBlock = some g) (j : Nat) : w.frozen? ⟨g, j, none⟩ = false := by
  obtain ⟨_, ⟨e1, e2⟩ | ⟨q, cap, cur, e1, hb, hq, _⟩⟩ := h
  · subst e1; cases hg
  · subst e1
    injection hg with hg
    subst hg
    simp only [World.frozen?, hq]
    simp

theorem infCI : (Tryz.prog.info? 2).map (fun i => (i.zero, i.size, i.bytes)) = some (some (.int .i64 0), 1, 8) := by kernel_rfl
theorem copyI {w : World} {ops : Array Oper} {rest : List Oper} {o : Oper} {a : Act} {Q : Exit → Act → World → Prop} (hgd : o.guard = none) (s x : Operand)
    (ho : o.op = .call { callee := .builtin .append, args := #[s, x], argTypes := #[40, 40] }) (b : Nat) (hs : a.eval s = .slice (some ⟨b, 0, none⟩) 0 0) (hv : w.ownsRow b 2 1 (.slice (some ⟨b, 0, none⟩) 0 0) 0 []) (hB : b ≤ w.heap.size) (xa : Option Addr) (n c : Nat) (hx : a.eval x = .slice xa n c)
    (F : Nat → Prop) (l : List Int) (hz : Ls 1 elI w F xa n c l) (hn : n * 8 ≤ 140737488355328)
    (h : ∀ ya yc w', Hid (Ls 1 elI w' (fun g => b ≤ g ∧ (Value.slice ya n yc).ownBlock = some g) ya n yc l ∧ (∀ g, (Value.slice ya n yc).ownBlock = some g → g < w'.heap.size) ∧ (∀ g, (Value.slice ya n yc).ownBlock = some g → ∀ j, w'.frozen? ⟨g, j, none⟩ = false) ∧ ∀ g, (Value.slice ya n yc).ownBlock = some g → b ≤ g) → Hid (Kept (fun k => k = b) w w') → wpList Tryz.prog ops Q rest (a.put o.dst (.slice ya n yc)) w') : wpList Tryz.prog ops Q (o :: rest) a w := by
  obtain ⟨i0, hi, hz0, hz1, hz2⟩ := info_parts infCI
  have hok : okL I6 l := hz.all (fun _ _ h => h.2)
  have hl := hz.len
  have fin : ∀ ya yc w', w'.ownsRow b 2 1 (.slice ya n yc) n ((l.map clI).flatten) → Ls 1 elI w' (fun g => b ≤ g ∧ (Value.slice ya n yc).ownBlock = some g) ya n yc l ∧ (∀ g, (Value.slice ya n yc).ownBlock = some g → g < w'.heap.size) ∧ (∀ g, (Value.slice ya n yc).ownBlock = some g → ∀ j, w'.frozen? ⟨g, j, none⟩ = false) ∧ ∀ g, (Value.slice ya n yc).ownBlock = some g → b ≤ g := fun ya yc w' ho => by
    refine ⟨?_, fun g hg => (ho.lt g hg).2, fun g hg => own_fz ho g hg, fun g hg => (ho.lt g hg).1⟩
    have h1 := ho
    rw [← hl] at h1
    have h2 : Ls 1 elI w' (fun g => b ≤ g ∧ g < w'.heap.size) ya l.length yc l := by
      rw [← hl] at ho
      exact flat_ls (by decide) ho (fun _ => rfl) hok (fun g hg hlt => ⟨hg, hlt⟩) (fun x hx => ⟨rfl, hx⟩)
    rw [hl] at h2
    refine ⟨h2.len, h2.cap, h2.max, h2.nil, fun i x hx => ?_⟩
    obtain ⟨b', o', cs, ha, hb, hcl, hr, hE⟩ := h2.at' i x hx
    refine ⟨b', o', cs, ha, ⟨hb.1, ?_⟩, hcl, hr, hE⟩
    obtain ⟨_, ⟨q1, _⟩ | ⟨g, cap, cur, q1, _⟩⟩ := ho
    · injection q1 with q2 _ _; rw [q2] at ha; cases ha
    · injection q1 with q2 _ _
      rw [q2] at ha
      injection ha with ha
      injection ha with e1 _ _
      rw [q2, e1]; rfl
  cases xa with
  | none =>
    have hc0 := hz.nil rfl
    have hn0 : n = 0 := by have := hz.cap; omega
    have hx0 : l = [] := List.eq_nil_of_length_eq_zero (by rw [hl]; exact hn0)
    subst hc0 hn0 hx0
    refine wpList_append_own_none hgd s x 40 ho b 2 i0 1 Tryz.underlying40 hi _ _ _ hs hv hx ?_
    exact h (some ⟨b, 0, none⟩) 0 w (fin _ _ _ hv) (Kept.refl _ _)
  | some ad =>
    obtain ⟨b', o', sp⟩ := ad
    have hlen : ((l.map clI).flatten).length = n * 1 := by
      rw [← hl]
      clear fin hok hl hz hx h
      induction l with
      | nil => simp
      | cons x l ih => rw [List.map_cons, List.flatten_cons, List.length_append, ih, List.length_cons, show (clI x).length = 1 from rfl, Nat.add_mul]; omega
    refine wpList_append_own _ hgd s x 40 ho b 2 i0 (.int .i64 0) 1 8 Tryz.underlying40 hi hz0 hz1 hz2 rfl (by decide) _ 0 [] hs hv ⟨b', o', sp⟩ n c ((l.map clI).flatten) hx hlen (Ls.flat (o := 0) (by decide) hz (fun cs x h => h.1) (fun _ => rfl)) (fun u hu => ?_) (by unfold maxLen; omega) (by omega) hB ?_
    · rw [List.mem_flatten] at hu
      obtain ⟨y, hy, hu⟩ := hu
      rw [List.mem_map] at hy
      obtain ⟨z, _, rfl⟩ := hy
      exact clI_one z u hu
    · intro v1 w1 own1 grow1 _
      rw [Nat.zero_add, List.nil_append] at own1
      obtain ⟨ya, yn, yc, rfl⟩ := own_slice own1
      have hyn : yn = n := by
        obtain ⟨_, ⟨q1, q2⟩ | ⟨g, cap, cur, q1, _⟩⟩ := own1
        · injection q1 with _ q3 _; omega
        · injection q1
      subst hyn
      exact h ya yc w1 (fin _ _ _ own1) ((Kept.refl (fun k => k = b) w).grown grow1 (fun k e => .inl (by injection e with e; exact e.symm)))

theorem infCTo : (Tryz.prog.info? 3).map (fun i => (i.zero, i.size, i.bytes)) = some (some (.int .i64 0), 1, 8) := by kernel_rfl
theorem copyTo {w : World} {ops : Array Oper} {rest : List Oper} {o : Oper} {a : Act} {Q : Exit → Act → World → Prop} (hgd : o.guard = none) (s x : Operand)
    (ho : o.op = .call { callee := .builtin .append, args := #[s, x], argTypes := #[27, 27] }) (b : Nat) (hs : a.eval s = .slice (some ⟨b, 0, none⟩) 0 0) (hv : w.ownsRow b 3 1 (.slice (some ⟨b, 0, none⟩) 0 0) 0 []) (hB : b ≤ w.heap.size) (xa : Option Addr) (n c : Nat) (hx : a.eval x = .slice xa n c)
    (F : Nat → Prop) (l : List Int) (hz : Ls 1 elI w F xa n c l) (hn : n * 8 ≤ 140737488355328)
    (h : ∀ ya yc w', Hid (Ls 1 elI w' (fun g => b ≤ g ∧ (Value.slice ya n yc).ownBlock = some g) ya n yc l ∧ (∀ g, (Value.slice ya n yc).ownBlock = some g → g < w'.heap.size) ∧ (∀ g, (Value.slice ya n yc).ownBlock = some g → ∀ j, w'.frozen? ⟨g, j, none⟩ = false) ∧ ∀ g, (Value.slice ya n yc).ownBlock = some g → b ≤ g) → Hid (Kept (fun k => k = b) w w') → wpList Tryz.prog ops Q rest (a.put o.dst (.slice ya n yc)) w') : wpList Tryz.prog ops Q (o :: rest) a w := by
  obtain ⟨i0, hi, hz0, hz1, hz2⟩ := info_parts infCTo
  have hok : okL I6 l := hz.all (fun _ _ h => h.2)
  have hl := hz.len
  have fin : ∀ ya yc w', w'.ownsRow b 3 1 (.slice ya n yc) n ((l.map clI).flatten) → Ls 1 elI w' (fun g => b ≤ g ∧ (Value.slice ya n yc).ownBlock = some g) ya n yc l ∧ (∀ g, (Value.slice ya n yc).ownBlock = some g → g < w'.heap.size) ∧ (∀ g, (Value.slice ya n yc).ownBlock = some g → ∀ j, w'.frozen? ⟨g, j, none⟩ = false) ∧ ∀ g, (Value.slice ya n yc).ownBlock = some g → b ≤ g := fun ya yc w' ho => by
    refine ⟨?_, fun g hg => (ho.lt g hg).2, fun g hg => own_fz ho g hg, fun g hg => (ho.lt g hg).1⟩
    have h1 := ho
    rw [← hl] at h1
    have h2 : Ls 1 elI w' (fun g => b ≤ g ∧ g < w'.heap.size) ya l.length yc l := by
      rw [← hl] at ho
      exact flat_ls (by decide) ho (fun _ => rfl) hok (fun g hg hlt => ⟨hg, hlt⟩) (fun x hx => ⟨rfl, hx⟩)
    rw [hl] at h2
    refine ⟨h2.len, h2.cap, h2.max, h2.nil, fun i x hx => ?_⟩
    obtain ⟨b', o', cs, ha, hb, hcl, hr, hE⟩ := h2.at' i x hx
    refine ⟨b', o', cs, ha, ⟨hb.1, ?_⟩, hcl, hr, hE⟩
    obtain ⟨_, ⟨q1, _⟩ | ⟨g, cap, cur, q1, _⟩⟩ := ho
    · injection q1 with q2 _ _; rw [q2] at ha; cases ha
    · injection q1 with q2 _ _
      rw [q2] at ha
      injection ha with ha
      injection ha with e1 _ _
      rw [q2, e1]; rfl
  cases xa with
  | none =>
    have hc0 := hz.nil rfl
    have hn0 : n = 0 := by have := hz.cap; omega
    have hx0 : l = [] := List.eq_nil_of_length_eq_zero (by rw [hl]; exact hn0)
    subst hc0 hn0 hx0
    refine wpList_append_own_none hgd s x 27 ho b 3 i0 1 Tryz.underlying27 hi _ _ _ hs hv hx ?_
    exact h (some ⟨b, 0, none⟩) 0 w (fin _ _ _ hv) (Kept.refl _ _)
  | some ad =>
    obtain ⟨b', o', sp⟩ := ad
    have hlen : ((l.map clI).flatten).length = n * 1 := by
      rw [← hl]
      clear fin hok hl hz hx h
      induction l with
      | nil => simp
      | cons x l ih => rw [List.map_cons, List.flatten_cons, List.length_append, ih, List.length_cons, show (clI x).length = 1 from rfl, Nat.add_mul]; omega
    refine wpList_append_own _ hgd s x 27 ho b 3 i0 (.int .i64 0) 1 8 Tryz.underlying27 hi hz0 hz1 hz2 rfl (by decide) _ 0 [] hs hv ⟨b', o', sp⟩ n c ((l.map clI).flatten) hx hlen (Ls.flat (o := 0) (by decide) hz (fun cs x h => h.1) (fun _ => rfl)) (fun u hu => ?_) (by unfold maxLen; omega) (by omega) hB ?_
    · rw [List.mem_flatten] at hu
      obtain ⟨y, hy, hu⟩ := hu
      rw [List.mem_map] at hy
      obtain ⟨z, _, rfl⟩ := hy
      exact clI_one z u hu
    · intro v1 w1 own1 grow1 _
      rw [Nat.zero_add, List.nil_append] at own1
      obtain ⟨ya, yn, yc, rfl⟩ := own_slice own1
      have hyn : yn = n := by
        obtain ⟨_, ⟨q1, q2⟩ | ⟨g, cap, cur, q1, _⟩⟩ := own1
        · injection q1 with _ q3 _; omega
        · injection q1
      subst hyn
      exact h ya yc w1 (fin _ _ _ own1) ((Kept.refl (fun k => k = b) w).grown grow1 (fun k e => .inl (by injection e with e; exact e.symm)))

theorem infCB : (Tryz.prog.info? 4).map (fun i => (i.zero, i.size, i.bytes)) = some (some (.bool false), 1, 1) := by kernel_rfl
theorem copyB {w : World} {ops : Array Oper} {rest : List Oper} {o : Oper} {a : Act} {Q : Exit → Act → World → Prop} (hgd : o.guard = none) (s x : Operand)
    (ho : o.op = .call { callee := .builtin .append, args := #[s, x], argTypes := #[45, 45] }) (b : Nat) (hs : a.eval s = .slice (some ⟨b, 0, none⟩) 0 0) (hv : w.ownsRow b 4 1 (.slice (some ⟨b, 0, none⟩) 0 0) 0 []) (hB : b ≤ w.heap.size) (xa : Option Addr) (n c : Nat) (hx : a.eval x = .slice xa n c)
    (F : Nat → Prop) (l : List Bool) (hz : Ls 1 elB w F xa n c l) (hn : n * 1 ≤ 140737488355328)
    (h : ∀ ya yc w', Hid (Ls 1 elB w' (fun g => b ≤ g ∧ (Value.slice ya n yc).ownBlock = some g) ya n yc l ∧ (∀ g, (Value.slice ya n yc).ownBlock = some g → g < w'.heap.size) ∧ (∀ g, (Value.slice ya n yc).ownBlock = some g → ∀ j, w'.frozen? ⟨g, j, none⟩ = false) ∧ ∀ g, (Value.slice ya n yc).ownBlock = some g → b ≤ g) → Hid (Kept (fun k => k = b) w w') → wpList Tryz.prog ops Q rest (a.put o.dst (.slice ya n yc)) w') : wpList Tryz.prog ops Q (o :: rest) a w := by
  obtain ⟨i0, hi, hz0, hz1, hz2⟩ := info_parts infCB
  have hok : okL (fun _ : Bool => True) l := (fun _ _ => trivial)
  have hl := hz.len
  have fin : ∀ ya yc w', w'.ownsRow b 4 1 (.slice ya n yc) n ((l.map clB).flatten) → Ls 1 elB w' (fun g => b ≤ g ∧ (Value.slice ya n yc).ownBlock = some g) ya n yc l ∧ (∀ g, (Value.slice ya n yc).ownBlock = some g → g < w'.heap.size) ∧ (∀ g, (Value.slice ya n yc).ownBlock = some g → ∀ j, w'.frozen? ⟨g, j, none⟩ = false) ∧ ∀ g, (Value.slice ya n yc).ownBlock = some g → b ≤ g := fun ya yc w' ho => by
    refine ⟨?_, fun g hg => (ho.lt g hg).2, fun g hg => own_fz ho g hg, fun g hg => (ho.lt g hg).1⟩
    have h1 := ho
    rw [← hl] at h1
    have h2 : Ls 1 elB w' (fun g => b ≤ g ∧ g < w'.heap.size) ya l.length yc l := by
      rw [← hl] at ho
      exact flat_ls (by decide) ho (fun _ => rfl) hok (fun g hg hlt => ⟨hg, hlt⟩) (fun x hx => rfl)
    rw [hl] at h2
    refine ⟨h2.len, h2.cap, h2.max, h2.nil, fun i x hx => ?_⟩
    obtain ⟨b', o', cs, ha, hb, hcl, hr, hE⟩ := h2.at' i x hx
    refine ⟨b', o', cs, ha, ⟨hb.1, ?_⟩, hcl, hr, hE⟩
    obtain ⟨_, ⟨q1, _⟩ | ⟨g, cap, cur, q1, _⟩⟩ := ho
    · injection q1 with q2 _ _; rw [q2] at ha; cases ha
    · injection q1 with q2 _ _
      rw [q2] at ha
      injection ha with ha
      injection ha with e1 _ _
      rw [q2, e1]; rfl
  cases xa with
  | none =>
    have hc0 := hz.nil rfl
    have hn0 : n = 0 := by have := hz.cap; omega
    have hx0 : l = [] := List.eq_nil_of_length_eq_zero (by rw [hl]; exact hn0)
    subst hc0 hn0 hx0
    refine wpList_append_own_none hgd s x 45 ho b 4 i0 1 Tryz.underlying45 hi _ _ _ hs hv hx ?_
    exact h (some ⟨b, 0, none⟩) 0 w (fin _ _ _ hv) (Kept.refl _ _)
  | some ad =>
    obtain ⟨b', o', sp⟩ := ad
    have hlen : ((l.map clB).flatten).length = n * 1 := by
      rw [← hl]
      clear fin hok hl hz hx h
      induction l with
      | nil => simp
      | cons x l ih => rw [List.map_cons, List.flatten_cons, List.length_append, ih, List.length_cons, show (clB x).length = 1 from rfl, Nat.add_mul]; omega
    refine wpList_append_own _ hgd s x 45 ho b 4 i0 (.bool false) 1 1 Tryz.underlying45 hi hz0 hz1 hz2 rfl (by decide) _ 0 [] hs hv ⟨b', o', sp⟩ n c ((l.map clB).flatten) hx hlen (Ls.flat (o := 0) (by decide) hz (fun cs x h => h) (fun _ => rfl)) (fun u hu => ?_) (by unfold maxLen; omega) (by omega) hB ?_
    · rw [List.mem_flatten] at hu
      obtain ⟨y, hy, hu⟩ := hu
      rw [List.mem_map] at hy
      obtain ⟨z, _, rfl⟩ := hy
      exact clB_one z u hu
    · intro v1 w1 own1 grow1 _
      rw [Nat.zero_add, List.nil_append] at own1
      obtain ⟨ya, yn, yc, rfl⟩ := own_slice own1
      have hyn : yn = n := by
        obtain ⟨_, ⟨q1, q2⟩ | ⟨g, cap, cur, q1, _⟩⟩ := own1
        · injection q1 with _ q3 _; omega
        · injection q1
      subst hyn
      exact h ya yc w1 (fin _ _ _ own1) ((Kept.refl (fun k => k = b) w).grown grow1 (fun k e => .inl (by injection e with e; exact e.symm)))

theorem infCIns : (Tryz.prog.info? 84).map (fun i => (i.zero, i.size, i.bytes)) = some (some (.agg #[.int .u8 0, .int .u8 0, .int .u8 0, .int .u8 0, .int .i32 0]), 5, 8) := by kernel_rfl
theorem copyIns {w : World} {ops : Array Oper} {rest : List Oper} {o : Oper} {a : Act} {Q : Exit → Act → World → Prop} (hgd : o.guard = none) (s x : Operand)
    (ho : o.op = .call { callee := .builtin .append, args := #[s, x], argTypes := #[41, 41] }) (b : Nat) (hs : a.eval s = .slice (some ⟨b, 0, none⟩) 0 0) (hv : w.ownsRow b 84 5 (.slice (some ⟨b, 0, none⟩) 0 0) 0 []) (hB : b ≤ w.heap.size) (xa : Option Addr) (n c : Nat) (hx : a.eval x = .slice xa n c)
    (F : Nat → Prop) (l : List Ins) (hz : Ls 5 elIns w F xa n c l) (hn : n * 8 ≤ 140737488355328)
    (h : ∀ ya yc w', Hid (Ls 5 elIns w' (fun g => b ≤ g ∧ (Value.slice ya n yc).ownBlock = some g) ya n yc l ∧ (∀ g, (Value.slice ya n yc).ownBlock = some g → g < w'.heap.size) ∧ (∀ g, (Value.slice ya n yc).ownBlock = some g → ∀ j, w'.frozen? ⟨g, j, none⟩ = false) ∧ ∀ g, (Value.slice ya n yc).ownBlock = some g → b ≤ g) → Hid (Kept (fun k => k = b) w w') → wpList Tryz.prog ops Q rest (a.put o.dst (.slice ya n yc)) w') : wpList Tryz.prog ops Q (o :: rest) a w := by
  obtain ⟨i0, hi, hz0, hz1, hz2⟩ := info_parts infCIns
  have hok : okL okIns l := hz.all (fun _ _ h => h.2)
  have hl := hz.len
  have fin : ∀ ya yc w', w'.ownsRow b 84 5 (.slice ya n yc) n ((l.map clIns).flatten) → Ls 5 elIns w' (fun g => b ≤ g ∧ (Value.slice ya n yc).ownBlock = some g) ya n yc l ∧ (∀ g, (Value.slice ya n yc).ownBlock = some g → g < w'.heap.size) ∧ (∀ g, (Value.slice ya n yc).ownBlock = some g → ∀ j, w'.frozen? ⟨g, j, none⟩ = false) ∧ ∀ g, (Value.slice ya n yc).ownBlock = some g → b ≤ g := fun ya yc w' ho => by
    refine ⟨?_, fun g hg => (ho.lt g hg).2, fun g hg => own_fz ho g hg, fun g hg => (ho.lt g hg).1⟩
    have h1 := ho
    rw [← hl] at h1
    have h2 : Ls 5 elIns w' (fun g => b ≤ g ∧ g < w'.heap.size) ya l.length yc l := by
      rw [← hl] at ho
      exact flat_ls (by decide) ho (fun _ => rfl) hok (fun g hg hlt => ⟨hg, hlt⟩) (fun x hx => ⟨rfl, hx⟩)
    rw [hl] at h2
    refine ⟨h2.len, h2.cap, h2.max, h2.nil, fun i x hx => ?_⟩
    obtain ⟨b', o', cs, ha, hb, hcl, hr, hE⟩ := h2.at' i x hx
    refine ⟨b', o', cs, ha, ⟨hb.1, ?_⟩, hcl, hr, hE⟩
    obtain ⟨_, ⟨q1, _⟩ | ⟨g, cap, cur, q1, _⟩⟩ := ho
    · injection q1 with q2 _ _; rw [q2] at ha; cases ha
    · injection q1 with q2 _ _
      rw [q2] at ha
      injection ha with ha
      injection ha with e1 _ _
      rw [q2, e1]; rfl
  cases xa with
  | none =>
    have hc0 := hz.nil rfl
    have hn0 : n = 0 := by have := hz.cap; omega
    have hx0 : l = [] := List.eq_nil_of_length_eq_zero (by rw [hl]; exact hn0)
    subst hc0 hn0 hx0
    refine wpList_append_own_none hgd s x 41 ho b 84 i0 5 Tryz.underlying41 hi _ _ _ hs hv hx ?_
    exact h (some ⟨b, 0, none⟩) 0 w (fin _ _ _ hv) (Kept.refl _ _)
  | some ad =>
    obtain ⟨b', o', sp⟩ := ad
    have hlen : ((l.map clIns).flatten).length = n * 5 := by
      rw [← hl]
      clear fin hok hl hz hx h
      induction l with
      | nil => simp
      | cons x l ih => rw [List.map_cons, List.flatten_cons, List.length_append, ih, List.length_cons, show (clIns x).length = 5 from rfl, Nat.add_mul]; omega
    refine wpList_append_own _ hgd s x 41 ho b 84 i0 (.agg #[.int .u8 0, .int .u8 0, .int .u8 0, .int .u8 0, .int .i32 0]) 5 8 Tryz.underlying41 hi hz0 hz1 hz2 rfl (by decide) _ 0 [] hs hv ⟨b', o', sp⟩ n c ((l.map clIns).flatten) hx hlen (Ls.flat (o := 0) (by decide) hz (fun cs x h => h.1) (fun _ => rfl)) (fun u hu => ?_) (by unfold maxLen; omega) (by omega) hB ?_
    · rw [List.mem_flatten] at hu
      obtain ⟨y, hy, hu⟩ := hu
      rw [List.mem_map] at hy
      obtain ⟨z, _, rfl⟩ := hy
      exact clIns_one z u hu
    · intro v1 w1 own1 grow1 _
      rw [Nat.zero_add, List.nil_append] at own1
      obtain ⟨ya, yn, yc, rfl⟩ := own_slice own1
      have hyn : yn = n := by
        obtain ⟨_, ⟨q1, q2⟩ | ⟨g, cap, cur, q1, _⟩⟩ := own1
        · injection q1 with _ q3 _; omega
        · injection q1
      subst hyn
      exact h ya yc w1 (fin _ _ _ own1) ((Kept.refl (fun k => k = b) w).grown grow1 (fun k e => .inl (by injection e with e; exact e.symm)))

theorem infCPrc : (Tryz.prog.info? 54).map (fun i => (i.zero, i.size, i.bytes)) = some (some (.agg #[.int .i64 0, .int .i64 0, .int .i64 0, .int .i64 0, .int .i64 0, .bool false]), 6, 48) := by kernel_rfl
theorem copyPrc {w : World} {ops : Array Oper} {rest : List Oper} {o : Oper} {a : Act} {Q : Exit → Act → World → Prop} (hgd : o.guard = none) (s x : Operand)
    (ho : o.op = .call { callee := .builtin .append, args := #[s, x], argTypes := #[42, 42] }) (b : Nat) (hs : a.eval s = .slice (some ⟨b, 0, none⟩) 0 0) (hv : w.ownsRow b 54 6 (.slice (some ⟨b, 0, none⟩) 0 0) 0 []) (hB : b ≤ w.heap.size) (xa : Option Addr) (n c : Nat) (hx : a.eval x = .slice xa n c)
    (F : Nat → Prop) (l : List Prc) (hz : Ls 6 elPrc w F xa n c l) (hn : n * 48 ≤ 140737488355328)
    (h : ∀ ya yc w', Hid (Ls 6 elPrc w' (fun g => b ≤ g ∧ (Value.slice ya n yc).ownBlock = some g) ya n yc l ∧ (∀ g, (Value.slice ya n yc).ownBlock = some g → g < w'.heap.size) ∧ (∀ g, (Value.slice ya n yc).ownBlock = some g → ∀ j, w'.frozen? ⟨g, j, none⟩ = false) ∧ ∀ g, (Value.slice ya n yc).ownBlock = some g → b ≤ g) → Hid (Kept (fun k => k = b) w w') → wpList Tryz.prog ops Q rest (a.put o.dst (.slice ya n yc)) w') : wpList Tryz.prog ops Q (o :: rest) a w := by
  obtain ⟨i0, hi, hz0, hz1, hz2⟩ := info_parts infCPrc
  have hok : okL okPrc l := hz.all (fun _ _ h => h.2)
  have hl := hz.len
  have fin : ∀ ya yc w', w'.ownsRow b 54 6 (.slice ya n yc) n ((l.map clPrc).flatten) → Ls 6 elPrc w' (fun g => b ≤ g ∧ (Value.slice ya n yc).ownBlock = some g) ya n yc l ∧ (∀ g, (Value.slice ya n yc).ownBlock = some g → g < w'.heap.size) ∧ (∀ g, (Value.slice ya n yc).ownBlock = some g → ∀ j, w'.frozen? ⟨g, j, none⟩ = false) ∧ ∀ g, (Value.slice ya n yc).ownBlock = some g → b ≤ g := fun ya yc w' ho => by
    refine ⟨?_, fun g hg => (ho.lt g hg).2, fun g hg => own_fz ho g hg, fun g hg => (ho.lt g hg).1⟩
    have h1 := ho
    rw [← hl] at h1
    have h2 : Ls 6 elPrc w' (fun g => b ≤ g ∧ g < w'.heap.size) ya l.length yc l := by
      rw [← hl] at ho
      exact flat_ls (by decide) ho (fun _ => rfl) hok (fun g hg hlt => ⟨hg, hlt⟩) (fun x hx => ⟨rfl, hx⟩)
    rw [hl] at h2
    refine ⟨h2.len, h2.cap, h2.max, h2.nil, fun i x hx => ?_⟩
    obtain ⟨b', o', cs, ha, hb, hcl, hr, hE⟩ := h2.at' i x hx
    refine ⟨b', o', cs, ha, ⟨hb.1, ?_⟩, hcl, hr, hE⟩
    obtain ⟨_, ⟨q1, _⟩ | ⟨g, cap, cur, q1, _⟩⟩ := ho
    · injection q1 with q2 _ _; rw [q2] at ha; cases ha
    · injection q1 with q2 _ _
      rw [q2] at ha
      injection ha with ha
      injection ha with e1 _ _
      rw [q2, e1]; rfl
  cases xa with
  | none =>
    have hc0 := hz.nil rfl
    have hn0 : n = 0 := by have := hz.cap; omega
    have hx0 : l = [] := List.eq_nil_of_length_eq_zero (by rw [hl]; exact hn0)
    subst hc0 hn0 hx0
    refine wpList_append_own_none hgd s x 42 ho b 54 i0 6 Tryz.underlying42 hi _ _ _ hs hv hx ?_
    exact h (some ⟨b, 0, none⟩) 0 w (fin _ _ _ hv) (Kept.refl _ _)
  | some ad =>
    obtain ⟨b', o', sp⟩ := ad
    have hlen : ((l.map clPrc).flatten).length = n * 6 := by
      rw [← hl]
      clear fin hok hl hz hx h
      induction l with
      | nil => simp
      | cons x l ih => rw [List.map_cons, List.flatten_cons, List.length_append, ih, List.length_cons, show (clPrc x).length = 6 from rfl, Nat.add_mul]; omega
    refine wpList_append_own _ hgd s x 42 ho b 54 i0 (.agg #[.int .i64 0, .int .i64 0, .int .i64 0, .int .i64 0, .int .i64 0, .bool false]) 6 48 Tryz.underlying42 hi hz0 hz1 hz2 rfl (by decide) _ 0 [] hs hv ⟨b', o', sp⟩ n c ((l.map clPrc).flatten) hx hlen (Ls.flat (o := 0) (by decide) hz (fun cs x h => h.1) (fun _ => rfl)) (fun u hu => ?_) (by unfold maxLen; omega) (by omega) hB ?_
    · rw [List.mem_flatten] at hu
      obtain ⟨y, hy, hu⟩ := hu
      rw [List.mem_map] at hy
      obtain ⟨z, _, rfl⟩ := hy
      exact clPrc_one z u hu
    · intro v1 w1 own1 grow1 _
      rw [Nat.zero_add, List.nil_append] at own1
      obtain ⟨ya, yn, yc, rfl⟩ := own_slice own1
      have hyn : yn = n := by
        obtain ⟨_, ⟨q1, q2⟩ | ⟨g, cap, cur, q1, _⟩⟩ := own1
        · injection q1 with _ q3 _; omega
        · injection q1
      subst hyn
      exact h ya yc w1 (fin _ _ _ own1) ((Kept.refl (fun k => k = b) w).grown grow1 (fun k e => .inl (by injection e with e; exact e.symm)))

theorem infCSm : (Tryz.prog.info? 195).map (fun i => (i.zero, i.size, i.bytes)) = some (some (.agg #[.int .i64 0, .int .i64 0]), 2, 16) := by kernel_rfl
theorem copySm {w : World} {ops : Array Oper} {rest : List Oper} {o : Oper} {a : Act} {Q : Exit → Act → World → Prop} (hgd : o.guard = none) (s x : Operand)
    (ho : o.op = .call { callee := .builtin .append, args := #[s, x], argTypes := #[44, 44] }) (b : Nat) (hs : a.eval s = .slice (some ⟨b, 0, none⟩) 0 0) (hv : w.ownsRow b 195 2 (.slice (some ⟨b, 0, none⟩) 0 0) 0 []) (hB : b ≤ w.heap.size) (xa : Option Addr) (n c : Nat) (hx : a.eval x = .slice xa n c)
    (F : Nat → Prop) (l : List Sm) (hz : Ls 2 elSm w F xa n c l) (hn : n * 16 ≤ 140737488355328)
    (h : ∀ ya yc w', Hid (Ls 2 elSm w' (fun g => b ≤ g ∧ (Value.slice ya n yc).ownBlock = some g) ya n yc l ∧ (∀ g, (Value.slice ya n yc).ownBlock = some g → g < w'.heap.size) ∧ (∀ g, (Value.slice ya n yc).ownBlock = some g → ∀ j, w'.frozen? ⟨g, j, none⟩ = false) ∧ ∀ g, (Value.slice ya n yc).ownBlock = some g → b ≤ g) → Hid (Kept (fun k => k = b) w w') → wpList Tryz.prog ops Q rest (a.put o.dst (.slice ya n yc)) w') : wpList Tryz.prog ops Q (o :: rest) a w := by
  obtain ⟨i0, hi, hz0, hz1, hz2⟩ := info_parts infCSm
  have hok : okL okSm l := hz.all (fun _ _ h => h.2)
  have hl := hz.len
  have fin : ∀ ya yc w', w'.ownsRow b 195 2 (.slice ya n yc) n ((l.map clSm).flatten) → Ls 2 elSm w' (fun g => b ≤ g ∧ (Value.slice ya n yc).ownBlock = some g) ya n yc l ∧ (∀ g, (Value.slice ya n yc).ownBlock = some g → g < w'.heap.size) ∧ (∀ g, (Value.slice ya n yc).ownBlock = some g → ∀ j, w'.frozen? ⟨g, j, none⟩ = false) ∧ ∀ g, (Value.slice ya n yc).ownBlock = some g → b ≤ g := fun ya yc w' ho => by
    refine ⟨?_, fun g hg => (ho.lt g hg).2, fun g hg => own_fz ho g hg, fun g hg => (ho.lt g hg).1⟩
    have h1 := ho
    rw [← hl] at h1
    have h2 : Ls 2 elSm w' (fun g => b ≤ g ∧ g < w'.heap.size) ya l.length yc l := by
      rw [← hl] at ho
      exact flat_ls (by decide) ho (fun _ => rfl) hok (fun g hg hlt => ⟨hg, hlt⟩) (fun x hx => ⟨rfl, hx⟩)
    rw [hl] at h2
    refine ⟨h2.len, h2.cap, h2.max, h2.nil, fun i x hx => ?_⟩
    obtain ⟨b', o', cs, ha, hb, hcl, hr, hE⟩ := h2.at' i x hx
    refine ⟨b', o', cs, ha, ⟨hb.1, ?_⟩, hcl, hr, hE⟩
    obtain ⟨_, ⟨q1, _⟩ | ⟨g, cap, cur, q1, _⟩⟩ := ho
    · injection q1 with q2 _ _; rw [q2] at ha; cases ha
    · injection q1 with q2 _ _
      rw [q2] at ha
      injection ha with ha
      injection ha with e1 _ _
      rw [q2, e1]; rfl
  cases xa with
  | none =>
    have hc0 := hz.nil rfl
    have hn0 : n = 0 := by have := hz.cap; omega
    have hx0 : l = [] := List.eq_nil_of_length_eq_zero (by rw [hl]; exact hn0)
    subst hc0 hn0 hx0
    refine wpList_append_own_none hgd s x 44 ho b 195 i0 2 Tryz.underlying44 hi _ _ _ hs hv hx ?_
    exact h (some ⟨b, 0, none⟩) 0 w (fin _ _ _ hv) (Kept.refl _ _)
  | some ad =>
    obtain ⟨b', o', sp⟩ := ad
    have hlen : ((l.map clSm).flatten).length = n * 2 := by
      rw [← hl]
      clear fin hok hl hz hx h
      induction l with
      | nil => simp
      | cons x l ih => rw [List.map_cons, List.flatten_cons, List.length_append, ih, List.length_cons, show (clSm x).length = 2 from rfl, Nat.add_mul]; omega
    refine wpList_append_own _ hgd s x 44 ho b 195 i0 (.agg #[.int .i64 0, .int .i64 0]) 2 16 Tryz.underlying44 hi hz0 hz1 hz2 rfl (by decide) _ 0 [] hs hv ⟨b', o', sp⟩ n c ((l.map clSm).flatten) hx hlen (Ls.flat (o := 0) (by decide) hz (fun cs x h => h.1) (fun _ => rfl)) (fun u hu => ?_) (by unfold maxLen; omega) (by omega) hB ?_
    · rw [List.mem_flatten] at hu
      obtain ⟨y, hy, hu⟩ := hu
      rw [List.mem_map] at hy
      obtain ⟨z, _, rfl⟩ := hy
      exact clSm_one z u hu
    · intro v1 w1 own1 grow1 _
      rw [Nat.zero_add, List.nil_append] at own1
      obtain ⟨ya, yn, yc, rfl⟩ := own_slice own1
      have hyn : yn = n := by
        obtain ⟨_, ⟨q1, q2⟩ | ⟨g, cap, cur, q1, _⟩⟩ := own1
        · injection q1 with _ q3 _; omega
        · injection q1
      subst hyn
      exact h ya yc w1 (fin _ _ _ own1) ((Kept.refl (fun k => k = b) w).grown grow1 (fun k e => .inl (by injection e with e; exact e.symm)))

theorem infCBf : (Tryz.prog.info? 200).map (fun i => (i.zero, i.size, i.bytes)) = some (some (.agg #[.int .i64 0, .int .i64 0]), 2, 16) := by kernel_rfl
theorem copyBf {w : World} {ops : Array Oper} {rest : List Oper} {o : Oper} {a : Act} {Q : Exit → Act → World → Prop} (hgd : o.guard = none) (s x : Operand)
    (ho : o.op = .call { callee := .builtin .append, args := #[s, x], argTypes := #[46, 46] }) (b : Nat) (hs : a.eval s = .slice (some ⟨b, 0, none⟩) 0 0) (hv : w.ownsRow b 200 2 (.slice (some ⟨b, 0, none⟩) 0 0) 0 []) (hB : b ≤ w.heap.size) (xa : Option Addr) (n c : Nat) (hx : a.eval x = .slice xa n c)
    (F : Nat → Prop) (l : List Bf) (hz : Ls 2 elBf w F xa n c l) (hn : n * 16 ≤ 140737488355328)
    (h : ∀ ya yc w', Hid (Ls 2 elBf w' (fun g => b ≤ g ∧ (Value.slice ya n yc).ownBlock = some g) ya n yc l ∧ (∀ g, (Value.slice ya n yc).ownBlock = some g → g < w'.heap.size) ∧ (∀ g, (Value.slice ya n yc).ownBlock = some g → ∀ j, w'.frozen? ⟨g, j, none⟩ = false) ∧ ∀ g, (Value.slice ya n yc).ownBlock = some g → b ≤ g) → Hid (Kept (fun k => k = b) w w') → wpList Tryz.prog ops Q rest (a.put o.dst (.slice ya n yc)) w') : wpList Tryz.prog ops Q (o :: rest) a w := by
  obtain ⟨i0, hi, hz0, hz1, hz2⟩ := info_parts infCBf
  have hok : okL okBf l := hz.all (fun _ _ h => h.2)
  have hl := hz.len
  have fin : ∀ ya yc w', w'.ownsRow b 200 2 (.slice ya n yc) n ((l.map clBf).flatten) → Ls 2 elBf w' (fun g => b ≤ g ∧ (Value.slice ya n yc).ownBlock = some g) ya n yc l ∧ (∀ g, (Value.slice ya n yc).ownBlock = some g → g < w'.heap.size) ∧ (∀ g, (Value.slice ya n yc).ownBlock = some g → ∀ j, w'.frozen? ⟨g, j, none⟩ = false) ∧ ∀ g, (Value.slice ya n yc).ownBlock = some g → b ≤ g := fun ya yc w' ho => by
    refine ⟨?_, fun g hg => (ho.lt g hg).2, fun g hg => own_fz ho g hg, fun g hg => (ho.lt g hg).1⟩
    have h1 := ho
    rw [← hl] at h1
    have h2 : Ls 2 elBf w' (fun g => b ≤ g ∧ g < w'.heap.size) ya l.length yc l := by
      rw [← hl] at ho
      exact flat_ls (by decide) ho (fun _ => rfl) hok (fun g hg hlt => ⟨hg, hlt⟩) (fun x hx => ⟨rfl, hx⟩)
    rw [hl] at h2
    refine ⟨h2.len, h2.cap, h2.max, h2.nil, fun i x hx => ?_⟩
    obtain ⟨b', o', cs, ha, hb, hcl, hr, hE⟩ := h2.at' i x hx
    refine ⟨b', o', cs, ha, ⟨hb.1, ?_⟩, hcl, hr, hE⟩
    obtain ⟨_, ⟨q1, _⟩ | ⟨g, cap, cur, q1, _⟩⟩ := ho
    · injection q1 with q2 _ _; rw [q2] at ha; cases ha
    · injection q1 with q2 _ _
      rw [q2] at ha
      injection ha with ha
      injection ha with e1 _ _
      rw [q2, e1]; rfl
  cases xa with
  | none =>
    have hc0 := hz.nil rfl
    have hn0 : n = 0 := by have := hz.cap; omega
    have hx0 : l = [] := List.eq_nil_of_length_eq_zero (by rw [hl]; exact hn0)
    subst hc0 hn0 hx0
    refine wpList_append_own_none hgd s x 46 ho b 200 i0 2 Tryz.underlying46 hi _ _ _ hs hv hx ?_
    exact h (some ⟨b, 0, none⟩) 0 w (fin _ _ _ hv) (Kept.refl _ _)
  | some ad =>
    obtain ⟨b', o', sp⟩ := ad
    have hlen : ((l.map clBf).flatten).length = n * 2 := by
      rw [← hl]
      clear fin hok hl hz hx h
      induction l with
      | nil => simp
      | cons x l ih => rw [List.map_cons, List.flatten_cons, List.length_append, ih, List.length_cons, show (clBf x).length = 2 from rfl, Nat.add_mul]; omega
    refine wpList_append_own _ hgd s x 46 ho b 200 i0 (.agg #[.int .i64 0, .int .i64 0]) 2 16 Tryz.underlying46 hi hz0 hz1 hz2 rfl (by decide) _ 0 [] hs hv ⟨b', o', sp⟩ n c ((l.map clBf).flatten) hx hlen (Ls.flat (o := 0) (by decide) hz (fun cs x h => h.1) (fun _ => rfl)) (fun u hu => ?_) (by unfold maxLen; omega) (by omega) hB ?_
    · rw [List.mem_flatten] at hu
      obtain ⟨y, hy, hu⟩ := hu
      rw [List.mem_map] at hy
      obtain ⟨z, _, rfl⟩ := hy
      exact clBf_one z u hu
    · intro v1 w1 own1 grow1 _
      rw [Nat.zero_add, List.nil_append] at own1
      obtain ⟨ya, yn, yc, rfl⟩ := own_slice own1
      have hyn : yn = n := by
        obtain ⟨_, ⟨q1, q2⟩ | ⟨g, cap, cur, q1, _⟩⟩ := own1
        · injection q1 with _ q3 _; omega
        · injection q1
      subst hyn
      exact h ya yc w1 (fin _ _ _ own1) ((Kept.refl (fun k => k = b) w).grown grow1 (fun k e => .inl (by injection e with e; exact e.symm)))

theorem infCPo : (Tryz.prog.info? 138).map (fun i => (i.zero, i.size, i.bytes)) = some (some (.agg #[.int .i64 0, .int .i64 0, .bool false, .int .i64 0, .int .i64 0, .int .i64 0]), 6, 48) := by kernel_rfl
theorem copyPo {w : World} {ops : Array Oper} {rest : List Oper} {o : Oper} {a : Act} {Q : Exit → Act → World → Prop} (hgd : o.guard = none) (s x : Operand)
    (ho : o.op = .call { callee := .builtin .append, args := #[s, x], argTypes := #[23, 23] }) (b : Nat) (hs : a.eval s = .slice (some ⟨b, 0, none⟩) 0 0) (hv : w.ownsRow b 138 6 (.slice (some ⟨b, 0, none⟩) 0 0) 0 []) (hB : b ≤ w.heap.size) (xa : Option Addr) (n c : Nat) (hx : a.eval x = .slice xa n c)
    (F : Nat → Prop) (l : List Po) (hz : Ls 6 elPo w F xa n c l) (hn : n * 48 ≤ 140737488355328)
    (h : ∀ ya yc w', Hid (Ls 6 elPo w' (fun g => b ≤ g ∧ (Value.slice ya n yc).ownBlock = some g) ya n yc l ∧ (∀ g, (Value.slice ya n yc).ownBlock = some g → g < w'.heap.size) ∧ (∀ g, (Value.slice ya n yc).ownBlock = some g → ∀ j, w'.frozen? ⟨g, j, none⟩ = false) ∧ ∀ g, (Value.slice ya n yc).ownBlock = some g → b ≤ g) → Hid (Kept (fun k => k = b) w w') → wpList Tryz.prog ops Q rest (a.put o.dst (.slice ya n yc)) w') : wpList Tryz.prog ops Q (o :: rest) a w := by
  obtain ⟨i0, hi, hz0, hz1, hz2⟩ := info_parts infCPo
  have hok : okL okPo l := hz.all (fun _ _ h => h.2)
  have hl := hz.len
  have fin : ∀ ya yc w', w'.ownsRow b 138 6 (.slice ya n yc) n ((l.map clPo).flatten) → Ls 6 elPo w' (fun g => b ≤ g ∧ (Value.slice ya n yc).ownBlock = some g) ya n yc l ∧ (∀ g, (Value.slice ya n yc).ownBlock = some g → g < w'.heap.size) ∧ (∀ g, (Value.slice ya n yc).ownBlock = some g → ∀ j, w'.frozen? ⟨g, j, none⟩ = false) ∧ ∀ g, (Value.slice ya n yc).ownBlock = some g → b ≤ g := fun ya yc w' ho => by
    refine ⟨?_, fun g hg => (ho.lt g hg).2, fun g hg => own_fz ho g hg, fun g hg => (ho.lt g hg).1⟩
    have h1 := ho
    rw [← hl] at h1
    have h2 : Ls 6 elPo w' (fun g => b ≤ g ∧ g < w'.heap.size) ya l.length yc l := by
      rw [← hl] at ho
      exact flat_ls (by decide) ho (fun _ => rfl) hok (fun g hg hlt => ⟨hg, hlt⟩) (fun x hx => ⟨rfl, hx⟩)
    rw [hl] at h2
    refine ⟨h2.len, h2.cap, h2.max, h2.nil, fun i x hx => ?_⟩
    obtain ⟨b', o', cs, ha, hb, hcl, hr, hE⟩ := h2.at' i x hx
    refine ⟨b', o', cs, ha, ⟨hb.1, ?_⟩, hcl, hr, hE⟩
    obtain ⟨_, ⟨q1, _⟩ | ⟨g, cap, cur, q1, _⟩⟩ := ho
    · injection q1 with q2 _ _; rw [q2] at ha; cases ha
    · injection q1 with q2 _ _
      rw [q2] at ha
      injection ha with ha
      injection ha with e1 _ _
      rw [q2, e1]; rfl
  cases xa with
  | none =>
    have hc0 := hz.nil rfl
    have hn0 : n = 0 := by have := hz.cap; omega
    have hx0 : l = [] := List.eq_nil_of_length_eq_zero (by rw [hl]; exact hn0)
    subst hc0 hn0 hx0
    refine wpList_append_own_none hgd s x 23 ho b 138 i0 6 Tryz.underlying23 hi _ _ _ hs hv hx ?_
    exact h (some ⟨b, 0, none⟩) 0 w (fin _ _ _ hv) (Kept.refl _ _)
  | some ad =>
    obtain ⟨b', o', sp⟩ := ad
    have hlen : ((l.map clPo).flatten).length = n * 6 := by
      rw [← hl]
      clear fin hok hl hz hx h
      induction l with
      | nil => simp
      | cons x l ih => rw [List.map_cons, List.flatten_cons, List.length_append, ih, List.length_cons, show (clPo x).length = 6 from rfl, Nat.add_mul]; omega
    refine wpList_append_own _ hgd s x 23 ho b 138 i0 (.agg #[.int .i64 0, .int .i64 0, .bool false, .int .i64 0, .int .i64 0, .int .i64 0]) 6 48 Tryz.underlying23 hi hz0 hz1 hz2 rfl (by decide) _ 0 [] hs hv ⟨b', o', sp⟩ n c ((l.map clPo).flatten) hx hlen (Ls.flat (o := 0) (by decide) hz (fun cs x h => h.1) (fun _ => rfl)) (fun u hu => ?_) (by unfold maxLen; omega) (by omega) hB ?_
    · rw [List.mem_flatten] at hu
      obtain ⟨y, hy, hu⟩ := hu
      rw [List.mem_map] at hy
      obtain ⟨z, _, rfl⟩ := hy
      exact clPo_one z u hu
    · intro v1 w1 own1 grow1 _
      rw [Nat.zero_add, List.nil_append] at own1
      obtain ⟨ya, yn, yc, rfl⟩ := own_slice own1
      have hyn : yn = n := by
        obtain ⟨_, ⟨q1, q2⟩ | ⟨g, cap, cur, q1, _⟩⟩ := own1
        · injection q1 with _ q3 _; omega
        · injection q1
      subst hyn
      exact h ya yc w1 (fin _ _ _ own1) ((Kept.refl (fun k => k = b) w).grown grow1 (fun k e => .inl (by injection e with e; exact e.symm)))

end Go.Proofs.YtnmhcnppdhdhfaaGreatDoor
