/-
  lent: the image in new memory, a mark behind each list.
-/
import Derived.Test.YthebokkogeigoaaSTold
import Derived.Deep.DeepCutAuto
namespace Go.Proofs.Ythebokkogeigoaa
open Go.RowKit
set_option linter.unusedVariables false
set_option linter.unusedSimpArgs false
set_option maxRecDepth 100000

/-- append of some, whatever they are -/
theorem wpList_apK {w : World} {ops : Array Oper} {rest : List Oper} {o : Oper} {a : Act} {Q : Exit → Act → World → Prop} (hgd : o.guard = none) (s x : Operand) (t e : TypeId)
    (ho : o.op = .call { callee := .builtin .append, args := #[s, x], argTypes := #[t, t] }) (B : Nat) (z : Value) (size bytes : Nat) (ht : Try.prog.underlying t = some (.slice e)) (hi : (Try.prog.info? e).map (fun i => (i.zero, i.size, i.bytes)) = some (some z, size, bytes)) (hzs : z.cells.size = size) (hsz : 0 < size)
    (v : Value) (n : Nat) (us : List Value) (hs : a.eval s = v) (hv : w.ownsRow B e size v n us) (hB : B ≤ w.heap.size) (ad : Addr) (m c : Nat) (news : List Value) (hx : a.eval x = .slice (some ad) m c) (hl : news.length = m * size) (hnews : ∀ j u, news[j]? = some u → w.cell? (ad.add j) = some u) (h1 : ∀ u ∈ news, u.oneCell' = true) (hm : 1 ≤ m) (hn : n + m ≤ 2097152) (hb : bytes ≤ 4096)
    (h : ∀ g yc w', Hid (w'.ownsRow B e size (.slice (some ⟨g, 0, none⟩) (n + m) yc) (n + m) (us ++ news)) → Hid (Kept (fun k => v.ownBlock = some k) w w') → wpList Try.prog ops Q rest (a.put o.dst (.slice (some ⟨g, 0, none⟩) (n + m) yc)) w') : wpList Try.prog ops Q (o :: rest) a w := by
  obtain ⟨i0, hi, hz0, hz1, hz2⟩ := info_parts hi
  have hbn : (n + m) * bytes ≤ 2097152 * 4096 := Nat.mul_le_mul hn hb
  refine wpList_append_own _ hgd s x t ho B e i0 z size bytes ht hi hz0 hz1 hz2 hzs hsz v n us hs hv ad m c news hx hl hnews h1 (by unfold maxLen; omega) (by omega) hB ?_
  intro v' w' own1 grow1 _
  obtain ⟨ya, yn, yc, rfl⟩ := own_slice own1
  obtain ⟨g, rfl, rfl⟩ : ∃ g, ya = some ⟨g, 0, none⟩ ∧ yn = n + m := by
    rcases own1.2 with ⟨h2, h3⟩ | ⟨g, cap, cur, h2, _⟩
    · omega
    · injection h2 with h2 h3 _; exact ⟨g, h2, h3⟩
  exact h g yc w' own1 (Kept.grown (Kept.refl _ _) grow1 (fun k e => .inl e))
/-- a part of the image that is lent -/
def PD (i : Int) (z1 c1 z2 c2 : Nat) : Array Value := #[.int .i64 8, .int .i64 1, .int .i64 i, .int .i64 (i + 1), .int .i64 0, .int .i64 0, .slice none 0 0, .slice (some ⟨z1, 0, none⟩) 1 c1, .slice (some ⟨z2, 0, none⟩) 1 c2, .int .i64 0, .int .i64 0, .int .i64 0, .int .i64 0, .int .i64 0, .int .i64 0, .int .i64 0, .int .i64 0, .int .i64 0, .slice none 0 0, .slice none 0 0, .slice none 0 0]
def MI : Array Value := #[.int .u8 0, .int .u8 0, .int .u8 0, .int .u8 0, .int .i32 (-77)]
def MP : Array Value := #[.int .i64 (-77), .int .i64 0, .int .i64 0, .int .i64 0, .int .i64 0, .bool false]
def MA : Array Value := #[.int .i64 0, .int .i64 0, .int .i64 0, .int .i64 0, .int .i64 (-77), .int .i64 0, .slice none 0 0, .slice none 0 0, .slice none 0 0, .int .i64 0, .int .i64 0, .int .i64 0, .int .i64 0, .int .i64 0, .int .i64 0, .int .i64 0, .int .i64 0, .int .i64 0, .slice none 0 0, .slice none 0 0, .slice none 0 0]
def MQ : Array Value := #[.int .i64 0, .int .i64 0, .bool false, .int .i64 (-77), .int .i64 0, .int .i64 0]
structure Lp (w : World) (B : Nat) (v : Value) (k : Nat) (y1 c1 y2 c2 : Nat → Nat) : Prop where
  own : w.ownsRow B 84 21 v k (cat (fun i => (PD i (y1 i) (c1 i) (y2 i) (c2 i)).toList) k)
  code : ∀ i, i < k → w.ownsRow B 74 5 (.slice (some ⟨y1 i, 0, none⟩) 2 (c1 i)) 2 (ZI5.toList ++ MI.toList)
  proc : ∀ i, i < k → w.ownsRow B 77 6 (.slice (some ⟨y2 i, 0, none⟩) 2 (c2 i)) 2 (ZP6.toList ++ MP.toList)
theorem built_i7 : Try.prog.built 74 [(4, .int .i32 (-77))] = some MI := by kernel_rfl
theorem built_p7 : Try.prog.built 77 [(0, .int .i64 (-77))] = some MP := by kernel_rfl
theorem built_a7 : Try.prog.built 84 [(1, .int .i64 (-77))] = some MA := by kernel_rfl
theorem built_q7 : Try.prog.built 30 [(3, .int .i64 (-77))] = some MQ := by kernel_rfl
theorem er_ldX {w : World} {a : Act} {o : Oper} (t : TypeId) (x : Operand) (ho : o.op = .load t x) (pv v : Value) (hx : a.eval x = pv) (hr : (Instr.loadAt t pv).run Try.prog w = .ok v w) : (execOp a.eval o).run Try.prog w = .ok (.value v) w := by
  simp only [execOp, ho, hx, Sem.run_bind, hr]; rfl
theorem er_alP {w : World} {a : Act} {o : Oper} (ho : o.op = .alloc 84) : (execOp a.eval o).run Try.prog w = .ok (.value (.pointer (some ⟨w.heap.size, 0, none⟩))) (w.alloc (.cells Z21 84)) := by
  simp only [execOp, ho]
  simp [go_sem]
  rfl
theorem Try.infoP21 : (Try.prog.info? 84).map (·.size) = some 21 := by kernel_rfl
theorem ldPart {w : World} {b o : Nat} {A : Array Value} (h : ∀ j v, A.toList[j]? = some v → w.cell? ⟨b, o + j, none⟩ = some v) (hl : A.size = 21) : (Instr.loadAt 84 (.pointer (some ⟨b, o, none⟩))).run Try.prog w = .ok (.agg A) w := by
  have := run_loadAt_mid (P := Try.prog) w b o _ A.toList _ h Try.underlying84 rfl (by rw [Array.length_toList, hl]; exact Try.infoP21)
  simpa using this
theorem Pts.row {w : World} {B gp c : Nat} {k : Nat} {z1 z2 : Nat → Nat} (h : Pts w B (.slice (some ⟨gp, 0, none⟩) k c) k z1 z2) {i : Nat} (hi : i < k) : ∀ j v, (PC i (z1 i) (z2 i)).toList[j]? = some v → w.cell? ⟨gp, i * 21 + j, none⟩ = some v := fun j v hv => by
  have hj : j < 21 := (List.getElem?_eq_some_iff.1 hv).1
  exact own_cell h.own (by rw [cat_at (s := 21) (fun _ => rfl) k i j hi hj]; exact hv)
theorem PC_all (i : Int) (z1 z2 : Nat) : (PC i z1 z2).all (·.oneCell') = true := by simp [PC, Value.oneCell']
theorem PD_all (i : Int) (z1 c1 z2 c2 : Nat) : (PD i z1 c1 z2 c2).all (·.oneCell') = true := by simp [PD, Value.oneCell']
theorem fill_pd (i : Int) (z1 c1 z2 c2 : Nat) : Instr.fill (fun i => some (i * 21, 21)) ((Array.range (1 * 21)).map ((Value.agg Z21).cells[· % (Value.agg Z21).cells.size]!)) [(0, .agg (PD i z1 c1 z2 c2))] = some (PD i z1 c1 z2 c2) := by kernel_rfl
theorem all_mem {A : Array Value} (h : A.all (·.oneCell') = true) : ∀ u ∈ A.toList, u.oneCell' = true := fun u hu => (Array.all_eq_true_iff_forall_mem.1 h) u (by simpa using hu)
/-- one part more is lent -/
theorem Lp.more {w w' : World} {B : Nat} {pa : Option Addr} {pc' k : Nat} {v' : Value} {y1 d1 y2 d2 : Nat → Nat} {a1 b1 a2 b2 : Nat} (h : Lp w B (.slice pa k pc') k y1 d1 y2 d2) (K : Kept (fun x => (Value.slice pa k pc').ownBlock = some x) w w') (own : w'.ownsRow B 84 21 v' (k + 1) (cat (fun i => (PD i (y1 i) (d1 i) (y2 i) (d2 i)).toList) k ++ (PD k a1 b1 a2 b2).toList)) (c : w.ownsRow B 74 5 (.slice (some ⟨a1, 0, none⟩) 2 b1) 2 (ZI5.toList ++ MI.toList)) (p : w.ownsRow B 77 6 (.slice (some ⟨a2, 0, none⟩) 2 b2) 2 (ZP6.toList ++ MP.toList)) : Lp w' B v' (k + 1) (upd y1 k a1) (upd d1 k b1) (upd y2 k a2) (upd d2 k b2) := by
  have nb : ∀ {t s n : Nat} {v : Value} {ys : List Value}, w.ownsRow B t s v n ys → t ≠ 84 → ∀ g, v.ownBlock = some g → ¬ (Value.slice pa k pc').ownBlock = some g := fun ho ht g hg e => by
    obtain ⟨_, cs, h2⟩ := owns_blk ho hg
    obtain ⟨_, cs', h3⟩ := owns_blk h.own e
    exact ht (two_tags h2 h3)
  refine ⟨?_, fun i hi => ?_, fun i hi => ?_⟩
  · rw [cat, upd_same, upd_same, upd_same, upd_same, cat_congr (g := fun i => (PD i (y1 i) (d1 i) (y2 i) (d2 i)).toList) k (fun i hi => by rw [upd_oth _ _ (by omega), upd_oth _ _ (by omega), upd_oth _ _ (by omega), upd_oth _ _ (by omega)])]
    exact own
  · by_cases e : i = k
    · subst e; rw [upd_same, upd_same]; exact K.owns c (nb c (by decide))
    · rw [upd_oth _ _ e, upd_oth _ _ e]
      have := h.code i (by omega)
      exact K.owns this (nb this (by decide))
  · by_cases e : i = k
    · subst e; rw [upd_same, upd_same]; exact K.owns p (nb p (by decide))
    · rw [upd_oth _ _ e, upd_oth _ _ e]
      have := h.proc i (by omega)
      exact K.owns this (nb this (by decide))
theorem Lp.keep {w w' : World} {B : Nat} {v : Value} {k : Nat} {y1 d1 y2 d2 : Nat → Nat} {G : Nat → Prop} (h : Lp w B v k y1 d1 y2 d2) (K : Kept G w w') (hG : ∀ x, G x → x < B) : Lp w' B v k y1 d1 y2 d2 :=
  ⟨K.owns h.own (fun g hg e => by have := (owns_blk h.own hg).1; have := hG g e; omega), fun i hi => K.owns (h.code i hi) (fun g hg e => by have := (owns_blk (h.code i hi) hg).1; have := hG g e; omega), fun i hi => K.owns (h.proc i hi) (fun g hg e => by have := (owns_blk (h.proc i hi) hg).1; have := hG g e; omega)⟩
theorem fill_i7 : Instr.fill (fun i => some (i * 5, 5)) ((Array.range (1 * 5)).map ((Value.agg ZI5).cells[· % (Value.agg ZI5).cells.size]!)) [(0, .agg MI)] = some MI := by kernel_rfl
theorem fill_p7 : Instr.fill (fun i => some (i * 6, 6)) ((Array.range (1 * 6)).map ((Value.agg ZP6).cells[· % (Value.agg ZP6).cells.size]!)) [(0, .agg MP)] = some MP := by kernel_rfl
theorem fill_a7 : Instr.fill (fun i => some (i * 21, 21)) ((Array.range (1 * 21)).map ((Value.agg Z21).cells[· % (Value.agg Z21).cells.size]!)) [(0, .agg MA)] = some MA := by kernel_rfl
theorem ZI5_all : ZI5.all (·.oneCell') = true := by simp [ZI5, Value.oneCell']
theorem ZP6_all : ZP6.all (·.oneCell') = true := by simp [ZP6, Value.oneCell']
theorem MI_all : MI.all (·.oneCell') = true := by simp [MI, Value.oneCell']
theorem MP_all : MP.all (·.oneCell') = true := by simp [MP, Value.oneCell']
theorem MA_all : MA.all (·.oneCell') = true := by simp [MA, Value.oneCell']
theorem MQ_all : MQ.all (·.oneCell') = true := by simp [MQ, Value.oneCell']
theorem wpList_apV {w : World} {ops : Array Oper} {rest : List Oper} {o : Oper} {a : Act} {Q : Exit → Act → World → Prop} (hgd : o.guard = none) (s x : Operand) (t e : TypeId)
    (ho : o.op = .call { callee := .builtin .append, args := #[s, x], argTypes := #[t, t] }) (B : Nat) (z : Value) (size bytes : Nat) (ht : Try.prog.underlying t = some (.slice e)) (hi : (Try.prog.info? e).map (fun i => (i.zero, i.size, i.bytes)) = some (some z, size, bytes)) (hzs : z.cells.size = size) (hsz : 0 < size)
    (v : Value) (n : Nat) (us : List Value) (hs : a.eval s = v) (hv : w.ownsRow B e size v n us) (hB : B ≤ w.heap.size) (ad : Addr) (m c : Nat) (news : List Value) (hx : a.eval x = .slice (some ad) m c) (hl : news.length = m * size) (hnews : ∀ j u, news[j]? = some u → w.cell? (ad.add j) = some u) (h1 : ∀ u ∈ news, u.oneCell' = true) (hn : n + m ≤ 2097152) (hb : bytes ≤ 4096)
    (h : ∀ ya yc w', Hid (w'.ownsRow B e size (.slice ya (n + m) yc) (n + m) (us ++ news)) → Hid (Kept (fun k => v.ownBlock = some k) w w') → wpList Try.prog ops Q rest (a.put o.dst (.slice ya (n + m) yc)) w') : wpList Try.prog ops Q (o :: rest) a w := by
  obtain ⟨i0, hi, hz0, hz1, hz2⟩ := info_parts hi
  have hbn : (n + m) * bytes ≤ 2097152 * 4096 := Nat.mul_le_mul hn hb
  refine wpList_append_own _ hgd s x t ho B e i0 z size bytes ht hi hz0 hz1 hz2 hzs hsz v n us hs hv ad m c news hx hl hnews h1 (by unfold maxLen; omega) (by omega) hB ?_
  intro v' w' own1 grow1 _
  obtain ⟨ya, yn, yc, rfl⟩ := own_slice own1
  obtain rfl : yn = n + m := by
    rcases own1.2 with ⟨h2, h3⟩ | ⟨g, cap, cur, h2, _⟩
    · injection h2 with _ h2 _; omega
    · injection h2 with _ h3 _
  exact h ya yc w' own1 (Kept.grown (Kept.refl _ _) grow1 (fun k e => .inl e))
theorem apK_run {w : World} (t e : TypeId) (B : Nat) (z : Value) (size bytes : Nat) (ht : Try.prog.underlying t = some (.slice e)) (hi : (Try.prog.info? e).map (fun i => (i.zero, i.size, i.bytes)) = some (some z, size, bytes)) (hzs : z.cells.size = size) (hsz : 0 < size)
    (v : Value) (n : Nat) (us : List Value) (hv : w.ownsRow B e size v n us) (hB : B ≤ w.heap.size) (ad : Addr) (m c : Nat) (news : List Value) (hl : news.length = m * size) (hnews : ∀ j u, news[j]? = some u → w.cell? (ad.add j) = some u) (h1 : ∀ u ∈ news, u.oneCell' = true) (hm : 1 ≤ m) (hn : n + m ≤ 2097152) (hb : bytes ≤ 4096) :
    ∃ g yc w', (Builtin.append_ #[t, t] t #[v, .slice (some ad) m c]).run Try.prog w = .ok (.slice (some ⟨g, 0, none⟩) (n + m) yc) w' ∧ w'.ownsRow B e size (.slice (some ⟨g, 0, none⟩) (n + m) yc) (n + m) (us ++ news) ∧ Kept (fun k => v.ownBlock = some k) w w' := by
  obtain ⟨i0, hi, hz0, hz1, hz2⟩ := info_parts hi
  have hbn : (n + m) * bytes ≤ 2097152 * 4096 := Nat.mul_le_mul hn hb
  obtain ⟨v', w', hr, own1, grow1, _⟩ := run_append_own (P := Try.prog) w B t t e i0 z size bytes ht hi hz0 hz1 hz2 hzs hsz v n us hv ad m c news hl hnews h1 (by unfold maxLen; omega) (by omega) hB
  obtain ⟨ya, yn, yc, rfl⟩ := own_slice own1
  obtain ⟨g, rfl, rfl⟩ : ∃ g, ya = some ⟨g, 0, none⟩ ∧ yn = n + m := by
    rcases own1.2 with ⟨h2, h3⟩ | ⟨g, cap, cur, h2, _⟩
    · omega
    · injection h2 with h2 h3 _; exact ⟨g, h2, h3⟩
  exact ⟨g, yc, w', hr, own1, Kept.grown (Kept.refl _ _) grow1 (fun k e => .inl e)⟩
/-- a list in new memory, whatever it holds -/
theorem wpList_apN {w : World} {ops : Array Oper} {rest : List Oper} {o : Oper} {a : Act} {Q : Exit → Act → World → Prop} (hgd : o.guard = none) (s x : Operand) (t e : TypeId)
    (ho : o.op = .call { callee := .builtin .append, args := #[s, x], argTypes := #[t, t] }) (B : Nat) (z : Value) (size bytes : Nat) (ht : Try.prog.underlying t = some (.slice e)) (hi : (Try.prog.info? e).map (fun i => (i.zero, i.size, i.bytes)) = some (some z, size, bytes)) (hzs : z.cells.size = size) (hsz : 0 < size)
    (hs : a.eval s = .slice none 0 0) (hB : B ≤ w.heap.size) (B0 : Nat) (xa : Option Addr) (m c : Nat) (news : List Value) (hx : a.eval x = .slice xa m c) (ho' : w.ownsRow B0 e size (.slice xa m c) m news) (h1 : ∀ u ∈ news, u.oneCell' = true) (hn : m ≤ 2097152) (hb : bytes ≤ 4096)
    (h : ∀ ya yc w', Hid (w'.ownsRow B e size (.slice ya m yc) m news) → Hid (Kept No w w') → wpList Try.prog ops Q rest (a.put o.dst (.slice ya m yc)) w') : wpList Try.prog ops Q (o :: rest) a w := by
  obtain ⟨i0, hi, hz0, hz1, hz2⟩ := info_parts hi
  have hbn : m * bytes ≤ 2097152 * 4096 := Nat.mul_le_mul hn hb
  have hlen := ho'.1
  cases xa with
  | none =>
    obtain ⟨rfl, rfl⟩ : m = 0 ∧ c = 0 := by
      rcases ho'.2 with ⟨h2, h3⟩ | ⟨g, cap, cur, h2, _⟩
      · injection h2 with _ h4 h5; exact ⟨h4, h5⟩
      · injection h2 with h4; cases h4
    have hz : news = [] := List.eq_nil_of_length_eq_zero (by rw [hlen]; omega)
    subst hz
    refine wpList_append_own_none hgd s x t ho B e i0 size ht hi _ 0 [] hs (World.ownsRow_nil _ _ _ _) hx ?_
    exact h none 0 w (World.ownsRow_nil _ _ _ _) (Kept.refl _ _)
  | some ad =>
    have hb0 : (Value.slice (some ad) m c).ownBlock = some ad.block := by rcases ho'.2 with ⟨h2, h3⟩ | ⟨g, cap, cur, h2, _⟩ <;> · first | cases h2; rfl | (injection h2 with h4; cases h4)
    refine wpList_append_own _ hgd s x t ho B e i0 z size bytes ht hi hz0 hz1 hz2 hzs hsz (.slice none 0 0) 0 [] hs (World.ownsRow_nil _ _ _ _) ad m c news hx (by rw [hlen]) (fun j u hu => ?_) h1 (by unfold maxLen; omega) (by rw [Nat.zero_add]; omega) hB ?_
    · rcases ho'.2 with ⟨h2, h3⟩ | ⟨g, cap, cur, h2, _⟩
      · injection h2 with h4; cases h4
      · injection h2 with h4 _ h5
        injection h4 with h4
        subst h4 h5
        have := own_cell ho' hu
        rw [add_none, Nat.zero_add]
        exact this
    intro v1 w1 own1 grow1 _
    rw [Nat.zero_add, List.nil_append] at own1
    obtain ⟨ya, yn, yc, rfl⟩ := own_slice own1
    obtain rfl : yn = m := by
      rcases own1.2 with ⟨h2, h3⟩ | ⟨g, cap, cur, h2, _⟩
      · injection h2 with _ h2 _; omega
      · injection h2 with _ h3 _
    exact h ya yc w1 own1 (Kept.grown (Kept.refl _ _) grow1 (fun k e => nomatch e))
structure Le (w : World) (B : Nat) (ga ca gl cl n : Nat) (ps : Nat → Pr) (y1 d1 y2 d2 : Nat → Nat) : Prop where
  parts : w.ownsRow B 84 21 (.slice (some ⟨ga, 0, none⟩) 4 ca) 4 (cat (fun i => (PD i (y1 i) (d1 i) (y2 i) (d2 i)).toList) 3 ++ MA.toList)
  code : ∀ i, i < 3 → w.ownsRow B 74 5 (.slice (some ⟨y1 i, 0, none⟩) 2 (d1 i)) 2 (ZI5.toList ++ MI.toList)
  proc : ∀ i, i < 3 → w.ownsRow B 77 6 (.slice (some ⟨y2 i, 0, none⟩) 2 (d2 i)) 2 (ZP6.toList ++ MP.toList)
  ports : w.ownsRow B 30 6 (.slice (some ⟨gl, 0, none⟩) (n + 1) cl) (n + 1) (cat (fun i => pc (ps i)) n ++ MQ.toList)
def ZQ6 : Array Value := #[.int .i64 0, .int .i64 0, .bool false, .int .i64 0, .int .i64 0, .int .i64 0]
theorem Try.infoPq : (Try.prog.info? 30).map (fun i => (i.zero, i.size, i.bytes)) = some (some (.agg ZQ6), 6, 48) := by kernel_rfl
theorem fill_q7 : Instr.fill (fun i => some (i * 6, 6)) ((Array.range (1 * 6)).map ((Value.agg ZQ6).cells[· % (Value.agg ZQ6).cells.size]!)) [(0, .agg MQ)] = some MQ := by kernel_rfl
section
variable {w : World} {a : Act} {o : Oper}
theorem er_fI0 (x : Operand) (ho : o.op = .fieldAddr 27 x 0) (g off : Nat) (hx : a.eval x = .pointer (some ⟨g, off, none⟩)) : (execOp a.eval o).run Try.prog w = .ok (.value (.pointer (some ⟨g, off, none⟩))) w := by simp only [execOp, ho, hx]; simp [go_sem, add_none]
theorem er_fI1 (x : Operand) (ho : o.op = .fieldAddr 27 x 1) (g off : Nat) (hx : a.eval x = .pointer (some ⟨g, off, none⟩)) : (execOp a.eval o).run Try.prog w = .ok (.value (.pointer (some ⟨g, off + 1, none⟩))) w := by simp only [execOp, ho, hx]; simp [go_sem, add_none]
theorem er_ldA (x : Operand) (ho : o.op = .load 23 x) (g off : Nat) (v : Value) (hx : a.eval x = .pointer (some ⟨g, off, none⟩)) (hr : w.cell? ⟨g, off, none⟩ = some v) : (execOp a.eval o).run Try.prog w = .ok (.value v) w := by
  simp only [execOp, ho, hx]; simp [go_sem, hr]
theorem er_ldQ (x : Operand) (ho : o.op = .load 24 x) (g off : Nat) (v : Value) (hx : a.eval x = .pointer (some ⟨g, off, none⟩)) (hr : w.cell? ⟨g, off, none⟩ = some v) : (execOp a.eval o).run Try.prog w = .ok (.value v) w := by
  simp only [execOp, ho, hx]; simp [go_sem, hr]
theorem er_stA (x y : Operand) (ho : o.op = .store 23 x y) (g off : Nat) (u : Value) (va : Option Addr) (vn vc : Nat) (hx : a.eval x = .pointer (some ⟨g, off, none⟩)) (hy : a.eval y = .slice va vn vc) (hr : w.cell? ⟨g, off, none⟩ = some u) (hf : w.frozen? ⟨g, off, none⟩ = false) : (execOp a.eval o).run Try.prog w = .ok .skip (w.setCell ⟨g, off, none⟩ (.slice va vn vc)) := by
  simp only [execOp, ho, hx, hy]
  simp [go_sem, hr, hf]
theorem er_stQ (x y : Operand) (ho : o.op = .store 24 x y) (g off : Nat) (u : Value) (va : Option Addr) (vn vc : Nat) (hx : a.eval x = .pointer (some ⟨g, off, none⟩)) (hy : a.eval y = .slice va vn vc) (hr : w.cell? ⟨g, off, none⟩ = some u) (hf : w.frozen? ⟨g, off, none⟩ = false) : (execOp a.eval o).run Try.prog w = .ok .skip (w.setCell ⟨g, off, none⟩ (.slice va vn vc)) := by
  simp only [execOp, ho, hx, hy]
  simp [go_sem, hr, hf]
theorem er_len (t : TypeId) (x : Operand) (ho : o.op = .call { callee := .builtin .len, args := #[x], argTypes := #[t] }) (va : Option Addr) (vn vc : Nat) (hx : a.eval x = .slice va vn vc) (ht : Try.prog.underlying t = some (.slice (Try.prog.elem t))) : (execOp a.eval o).run Try.prog w = .ok (.value (.int .i64 vn)) w := by
  simp only [execOp, ho, resolve, invoke, builtin, Sem.run_bind, Sem.run_pure, Result.andThen_ok, List.map_toArray, List.map_cons, List.map_nil, hx, run_len_slice _ _ _ _ _ _ ht]
  rfl
theorem er_slA (x y : Operand) (ho : o.op = .slice 23 x none (some y) none) (g m c j : Nat) (hx : a.eval x = .slice (some ⟨g, 0, none⟩) m c) (hy : a.eval y = .int .i64 j) (hj : j ≤ c) : (execOp a.eval o).run Try.prog w = .ok (.value (.slice (some ⟨g, 0, none⟩) j c)) w := by
  simp only [execOp, ho, hx, Option.map_some, Option.map_none, hy]
  have h2 : (j : Int) ≤ (c : Int) := by omega
  simp [go_sem, h2, hj, add_none]
theorem er_slQ (x y : Operand) (ho : o.op = .slice 24 x none (some y) none) (g m c j : Nat) (hx : a.eval x = .slice (some ⟨g, 0, none⟩) m c) (hy : a.eval y = .int .i64 j) (hj : j ≤ c) : (execOp a.eval o).run Try.prog w = .ok (.value (.slice (some ⟨g, 0, none⟩) j c)) w := by
  simp only [execOp, ho, hx, Option.map_some, Option.map_none, hy]
  have h2 : (j : Int) ≤ (c : Int) := by omega
  simp [go_sem, h2, hj, add_none]
end
/-- one that reads and one that makes, in either order -/
theorem d_lm {P : Program} {md : Region.Mode} {ops : Array Oper} {Q : Exit → Act → World → Prop} {S : World → Prop} {fuel : Nat} {listed : Array Bool} {a : Act} {w : World} (i k j l : Nat) {oi oj : Oper} {v u : Value} {wj : World} (hij : i ≠ j) (hkl : k ≠ l) (hr : Region.ready md ops listed = [i, j]) (hr1 : Region.ready md ops (listed.setIfInBounds i true) = [j]) (hr2 : Region.ready md ops (listed.setIfInBounds j true) = [i]) (hi : ops[i]? = some oi) (hj : ops[j]? = some oj) (hd : oi.dst = some k) (hdj : oj.dst = some l)
    (hw : Region.wanted oi (yielded ops a.tmps) = true) (hwj : Region.wanted oj (yielded ops a.tmps) = true) (hw1 : Region.wanted oj (yielded ops (a.put (some k) v).tmps) = true) (hw2 : Region.wanted oi (yielded ops (a.put (some l) u).tmps) = true) (hrun : (execOp a.eval oi).run P w = .ok (.value v) w) (hrunj : (execOp a.eval oj).run P w = .ok (.value u) wj) (hrun1 : (execOp (a.put (some k) v).eval oj).run P w = .ok (.value u) wj) (hrun2 : (execOp (a.put (some l) u).eval oi).run P wj = .ok (.value v) wj)
    (hS : S w) (hSj : S wj) (h : wpAnyH P md ops Q S fuel ((listed.setIfInBounds i true).setIfInBounds j true) ((a.put (some k) v).put (some l) u) wj) : wpAnyH P md ops Q S (fuel + 1 + 1) listed a w := by
  refine d_pair i k j l hr hi hj hd hdj hw hwj hrun hrunj hS hSj ?_ ?_
  · exact d_make j l hr1 hj hdj hw1 hrun1 hSj h
  · refine d_make i k hr2 hi hd hw2 hrun2 hSj ?_
    rw [Array.setIfInBounds_comm _ _ (fun e => hij e.symm)]
    have : (a.put (some l) u).put (some k) v = (a.put (some k) v).put (some l) u := by
      simp only [Act.put]
      rw [Array.setIfInBounds_comm _ _ (fun e => hkl e.symm)]
    rw [this]
    exact h
end Go.Proofs.Ythebokkogeigoaa
