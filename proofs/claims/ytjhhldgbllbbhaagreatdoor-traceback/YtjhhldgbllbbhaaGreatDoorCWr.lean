/-
  One text: Wr, Gate, WrNum, WrCalls.
-/
import Derived.Test.YtjhhldgbllbbhaaGreatDoorProg
import Derived.Test.YtjhhldgbllbbhaaGreatDoorHeap
import Derived.Deep.RegionLaw
import Derived.OwnWalk
import Derived.Deep.QuietTactic
import Derived.BigQuiet
namespace Go.Proofs.YtjhhldgbllbbhaaGreatDoor
open Go.RowKit
set_option linter.unusedVariables false
set_option maxRecDepth 100000

theorem Tryz.info5 : (Tryz.prog.info? 5).map (fun i => (i.zero, i.size, i.bytes)) = some (some (.int .u8 0), 1, 1) := by kernel_rfl

/-- append ONTO AN OWNED SLICE, as one step of a region that draws. -/
theorem step_append_own {P : Program} {ops : Array Oper} {o : Oper} {a : Act} {w : World} {K : Act → World → Prop} {Q : Exit → Act → World → Prop} {E : Prop}
    (hgd : o.guard = none) (s x : Operand) (t : TypeId) (ho : o.op = Op.call { callee := Callee.builtin Builtin.append, args := #[s, x], argTypes := #[t, t] })
    (base : Nat) (e : TypeId) (i : TypeInfo) (z : Value) (size bytes : Nat) (ht : P.underlying t = some (.slice e)) (hi : P.info? e = some i) (hz : i.zero = some z)
    (hsize : i.size = size) (hby : i.bytes = bytes) (hzs : z.cells.size = size) (hsz : 0 < size)
    (v : Value) (n : Nat) (xs : List Value) (hs : a.eval s = v) (hown : w.ownsRow base e size v n xs)
    (ad : Addr) (m c : Nat) (news : List Value) (hx : a.eval x = .slice (some ad) m c) (hl : news.length = m * size) (hnews : ∀ j u, news[j]? = some u → w.cell? (ad.add j) = some u) (h1 : ∀ u ∈ news, u.oneCell' = true)
    (h63 : n + m ≤ maxLen) (hbytes : (n + m) * bytes ≤ 140737488355328) (hbase : base ≤ w.heap.size)
    (h : ∀ v' w', w'.ownsRow base e size v' (n + m) (xs ++ news) → w.grownBy w' v.ownBlock → (v' = .slice none 0 0 ↔ v = .slice none 0 0 ∧ m = 0) → (v'.ownBlock = v.ownBlock ∨ v'.ownBlock = some w.heap.size) → K (a.put o.dst v') w') :
    if Region.wanted o (yielded ops a.tmps) = true then Oper.wp P o a w K Q else E := by
  have hw : Region.wanted o (yielded ops a.tmps) = true := by simp [Region.wanted, hgd]
  rw [if_pos hw]
  obtain ⟨v', w', hr, h2, h3, h4, h5⟩ := run_append_own_at (P := P) w base t o.type e i z size bytes ht hi hz hsize hby hzs hsz v n xs hown ad m c news hl hnews h1 h63 hbytes hbase
  unfold Oper.wp execOp
  simp only [ho, resolve, invoke, builtin, Sem.run_bind, Sem.run_pure, Result.andThen_ok, List.map_toArray, List.map_cons, List.map_nil, hs, hx, hr]
  exact h v' w' h2 h3 h4 h5

/-- block p is a Writer: its slice v owns the bytes bs, its fault is e; its blocks lie in F. -/
structure WrV (w : World) (F : Nat → Prop) (p : Nat) (v : Value) (bs : List Nat) (e : Int) : Prop where
  obj : w.heap[p]? = some (.cells #[v, .int .i64 e] 78 (0, 0))
  own : w.ownsRow 0 5 1 v bs.length (bs.map bv)
  fp : F p
  fv : ∀ g, v.ownBlock = some g → F g
  flt : ∀ k, F k → k < w.heap.size
  lt : ∀ x ∈ bs, x < 256

def Wr (w : World) (F : Nat → Prop) (p : Nat) (bs : List Nat) (e : Int) : Prop := ∃ v, WrV w F p v bs e

/-- from w on to w', the footprint F turned to F' -/
def Went (F : Nat → Prop) (w w' : World) (F' : Nat → Prop) : Prop := Kept F w w' ∧ ∀ k, F' k → F k ∨ w.heap.size ≤ k

theorem Went.refl (F : Nat → Prop) (w : World) : Went F w w F := ⟨Kept.refl _ _, fun _ h => .inl h⟩
theorem Went.trans {F G H : Nat → Prop} {a b c : World} (h : Went F a b G) (k : Went G b c H) : Went F a c H :=
  ⟨h.1.trans k.1 h.2, fun x hx => by rcases k.2 x hx with h1 | h1; exact h.2 x h1; exact .inr (Nat.le_trans h.1.size h1)⟩

namespace WrV
variable {w w' : World} {F G : Nat → Prop} {p : Nat} {v : Value} {bs : List Nat} {e : Int}
theorem c0 (h : WrV w F p v bs e) : w.cell? ⟨p, 0, none⟩ = some v := by simp [World.cell?, h.obj]
theorem c1 (h : WrV w F p v bs e) : w.cell? ⟨p, 1, none⟩ = some (.int .i64 e) := by simp [World.cell?, h.obj]
theorem fz (h : WrV w F p v bs e) (i : Nat) : w.frozen? ⟨p, i, none⟩ = false := by simp [World.frozen?, h.obj]
theorem plt (h : WrV w F p v bs e) : p < w.heap.size := heap_lt h.obj
theorem kept (h : WrV w F p v bs e) (k : Kept G w w') (hd : ∀ b, F b → ¬ G b) : WrV w' F p v bs e :=
  ⟨k.at' h.obj (hd p h.fp), k.owns h.own (fun g hg => hd g (h.fv g hg)), h.fp, h.fv, fun j hj => Nat.lt_of_lt_of_le (h.flt j hj) k.size, h.lt⟩
theorem new (h : WrV w F p v bs e) (o : Obj) : WrV (w.alloc o) F p v bs e := h.kept (G := No) ((Kept.refl _ _).alloc o) (fun _ _ h => h)
theorem shape (h : WrV w F p v bs e) : (v = .slice none 0 0 ∧ bs = []) ∨ ∃ g cap, v = .slice (some ⟨g, 0, none⟩) bs.length cap ∧ g ≠ p := by
  rcases owns_cells h.own with ⟨h1, h2⟩ | ⟨g, cap, h1, _⟩
  · exact .inl ⟨h1, List.eq_nil_of_length_eq_zero h2⟩
  · refine .inr ⟨g, cap, h1, ?_⟩
    obtain ⟨_, h3 | ⟨g', cap', cur, h3, _, hg, _⟩⟩ := h.own
    · rw [h1] at h3; cases h3.1
    · rw [h1] at h3; injection h3 with h4 _ _; injection h4 with h4; injection h4 with h4 _ _; subst h4
      rintro rfl
      rw [h.obj] at hg; simp at hg
theorem pne (h : WrV w F p v bs e) : v.ownBlock ≠ some p := by
  rcases h.shape with ⟨rfl, _⟩ | ⟨g, cap, rfl, hne⟩
  · simp [Value.ownBlock]
  · simpa [Value.ownBlock] using hne
/-- behind an append, its value laid into the field -/
theorem grew {v' : Value} {bs' : List Nat} (h : WrV w F p v bs e) (hg : w.grownBy w' v.ownBlock) (ho : w'.ownsRow 0 5 1 v' bs'.length (bs'.map bv)) (ha : v'.ownBlock = v.ownBlock ∨ v'.ownBlock = some w.heap.size) (hl : ∀ x ∈ bs', x < 256) :
    ∃ F', WrV (w'.setCell ⟨p, 0, none⟩ v') F' p v' bs' e ∧ Went F w (w'.setCell ⟨p, 0, none⟩ v') F' := by
  have hsz := hg.size
  have hplt := h.plt
  have hp' : w'.heap[p]? = some (.cells #[v, .int .i64 e] 78 (0, 0)) := (hg.block p hplt (fun e => h.pne e.symm)).trans h.obj
  have hne : ∀ g, v'.ownBlock = some g → g ≠ p := by
    intro g hgv
    rcases ha with h1 | h1
    · rintro rfl; rw [h1] at hgv; exact h.pne hgv
    · rw [h1] at hgv; injection hgv with hgv; omega
  have hkp : Kept (fun k => k = p) w' (w'.setCell ⟨p, 0, none⟩ v') := (Kept.refl (fun k => k = p) w').setCell (p := ⟨p, 0, none⟩) (.inl rfl) _
  refine ⟨fun k => F k ∨ (k = w.heap.size ∧ k < w'.heap.size), ⟨?_, hkp.owns ho (fun g hg => hne g hg), .inl h.fp, ?_, ?_, hl⟩, ?_, ?_⟩
  · simp [World.setCell, Array.getElem?_modify, hp']
  · intro g hgv
    rcases ha with h1 | h1
    · rw [h1] at hgv; exact .inl (h.fv g hgv)
    · have := (ho.lt g hgv).2
      rw [h1] at hgv; injection hgv with hgv
      exact .inr ⟨hgv.symm, this⟩
  · intro k hk
    have : k < w'.heap.size := by rcases hk with h1 | h1; exact Nat.lt_of_lt_of_le (h.flt k h1) hsz; exact h1.2
    simpa [World.setCell] using this
  · exact ((Kept.refl F w).grown hg (fun k hk => .inl (h.fv k hk))).trans hkp (fun k hk => .inl (by rw [hk]; exact h.fp))
  · intro k hk; rcases hk with h1 | h1; exact .inl h1; exact .inr (by omega)
theorem put1 (h : WrV w F p v bs e) (e' : Int) : WrV (w.setCell ⟨p, 1, none⟩ (.int .i64 e')) F p v bs e' := by
  have hkp : Kept (fun k => k = p) w (w.setCell ⟨p, 1, none⟩ (.int .i64 e')) := (Kept.refl (fun k => k = p) w).setCell (p := ⟨p, 1, none⟩) (.inl rfl) _
  refine ⟨?_, hkp.owns h.own (fun g hg e => h.pne (by rw [hg, e])), h.fp, h.fv, fun k hk => by simpa [World.setCell] using h.flt k hk, h.lt⟩
  simp [World.setCell, Array.getElem?_modify, h.obj]
end WrV

theorem run_shr (P : Program) (k : IntKind) (x s : Nat) (yk : IntKind) (hs : s ≤ k.bits) (w : World) : (Op.shift .shr k (x : Int) yk (s : Int)).run P w = .ok (.int k ((x / 2 ^ s : Nat) : Int)) w := by
  have h0 : ¬ ((s : Int) < 0) := by omega
  have h1 : min (s : Int).toNat k.bits = s := by rw [Int.toNat_natCast]; omega
  unfold Op.shift
  rw [if_neg h0]
  simp only [h1]
  rw [Int.fdiv_eq_ediv_of_nonneg _ (by have : (0 : Int) < 2 ^ s := Int.pow_pos (by omega); omega)]
  simp

/-- the lowest bytes of x, of so many, the highest first -/
def be (x width : Nat) : List Nat := (List.range width).map (fun j => x / 2 ^ (8 * (width - 1 - j)) % 256)
theorem be_length (x width : Nat) : (be x width).length = width := by simp [be]
theorem be_get (x width k : Nat) (h : k < width) : (be x width)[k]? = some (x / 2 ^ (8 * (width - 1 - k)) % 256) := by simp [be, h]
theorem be_take (x width k : Nat) (h : k < width) : (be x width).take (k + 1) = (be x width).take k ++ [x / 2 ^ (8 * (width - 1 - k)) % 256] := by
  rw [List.take_add_one, be_get x width k h]; rfl
theorem be_all (x width k : Nat) (h : width ≤ k) : (be x width).take k = be x width := List.take_of_length_le (by rw [be_length]; exact h)
theorem be_lt (x width : Nat) : ∀ y ∈ be x width, y < 256 := by
  intro y hy; unfold be at hy; rw [List.mem_map] at hy; obtain ⟨j, _, rfl⟩ := hy; exact Nat.mod_lt _ (by decide)

/-- behind an append onto the Writer's own slice: what the store into its field wants, and what it leaves -/
theorem WrV.appended {W0 W w1 : World} {F : Nat → Prop} {p m : Nat} {bs news : List Nat} {e : Int} {v v1 : Value} (h0 : WrV W0 F p v bs e) (hk : Kept No W0 W) (own1 : w1.ownsRow 0 5 1 v1 (bs.length + m) (bs.map bv ++ news.map bv)) (hm : news.length = m)
    (grow1 : W.grownBy w1 v.ownBlock) (at1 : v1.ownBlock = v.ownBlock ∨ v1.ownBlock = some W.heap.size) (hl : ∀ x ∈ news, x < 256) :
    ∃ a n c, v1 = .slice a n c ∧ w1.cell? ⟨p, 0, none⟩ = some v ∧ w1.frozen? ⟨p, 0, none⟩ = false ∧ ∃ F', Hid (WrV (w1.setCell ⟨p, 0, none⟩ (.slice a n c)) F' p (.slice a n c) (bs ++ news) e ∧ Went F W0 (w1.setCell ⟨p, 0, none⟩ (.slice a n c)) F') := by
  have h := h0.kept hk (fun _ _ h => h)
  have hp' : w1.heap[p]? = some (.cells #[v, .int .i64 e] 78 (0, 0)) := (grow1.block p h.plt (fun e => h.pne e.symm)).trans h.obj
  have hsh : ∃ a n c, v1 = .slice a n c := by
    rcases owns_cells own1 with ⟨rfl, _⟩ | ⟨g, cap, rfl, _⟩
    · exact ⟨_, _, _, rfl⟩
    · exact ⟨_, _, _, rfl⟩
  obtain ⟨a, n, c, rfl⟩ := hsh
  have ho : w1.ownsRow 0 5 1 (.slice a n c) (bs ++ news).length ((bs ++ news).map bv) := by
    rw [List.length_append, hm, List.map_append]; exact own1
  obtain ⟨F', h1, h2⟩ := h.grew grow1 ho at1 (fun x hx => by rcases List.mem_append.1 hx with h1 | h1; exact h.lt x h1; exact hl x h1)
  refine ⟨a, n, c, rfl, by simp [World.cell?, hp'], by simp [World.frozen?, hp'], F', h1, ?_⟩
  exact Went.trans (G := F) ⟨hk.mono (fun _ h => h.elim), fun _ h => .inl h⟩ h2

set_option maxHeartbeats 1000000 in
theorem lay_any (F : Nat → Prop) (p : Nat) (bs : List Nat) (e : Int) (x width : Nat) (w : World) (hx : x < 18446744073709551616) (hw : width ≤ 8) (h : Wr w F p bs e) (hsz : bs.length ≤ 140737488355300) :
    Calls Tryz.prog 62 #[.pointer (some ⟨p, 0, none⟩), .int .u64 x, .int .i64 width] w fun ex w' => ex = .returned (.tuple #[]) ∧ ∃ F', Wr w' F' p (bs ++ be x width) e ∧ Went F w w' F' := by
  obtain ⟨i0, hi, hz0, hz1, hz2⟩ := info_parts Tryz.info5
  have H : Hid (Wr w F p bs e) := h
  clear h
  go_enter Tryz.func62, Tryz.ntmps62
  go_wp2
  go_loopw [6] (fun q wr => ∃ k : Nat, k ≤ width ∧ q = .int .i64 ((width : Int) - 1 - k) ∧ ∃ F' v, WrV wr F' p v (bs ++ (be x width).take k) e ∧ Went F w wr F') (fun i _ => (intOf i + 1).toNat)
  case atStart =>
    obtain ⟨v, hv⟩ := H.out
    exact ⟨0, by omega, by go_num, F, v, by simpa using hv, Went.refl _ _⟩
  case round =>
    obtain ⟨k, hk, rfl, F', v, hv, hwent⟩ := hrel
    by_cases hlt : k < width
    · have c0 := hv.c0
      have c1 := hv.c1
      have f0 := hv.fz 0
      have hp := hv.plt
      obtain ⟨s, hs⟩ : ∃ s : Nat, s = 8 * (width - 1 - k) := ⟨_, rfl⟩
      obtain ⟨y, hy⟩ : ∃ y : Nat, y = x / 2 ^ s % 256 := ⟨_, rfl⟩
      have e1 : IntKind.i64.wrap (8 * ((width : Int) - 1 - k)) = (s : Int) := by rw [IntKind.wrap_i64]; omega
      have e3 : IntKind.u8.wrap ((x : Int) / 2 ^ min s 64) = (y : Int) := by rw [hy, IntKind.wrap_u8, Nat.min_eq_left (by omega)]; simp
      have HY : Hid (y = x / 2 ^ (8 * (width - 1 - k)) % 256) := by rw [hy, hs]; rfl
      have HV : Hid (WrV wr F' p v (bs ++ (be x width).take k) e) := hv
      have HO : Hid (wr.ownsRow 0 5 1 v (bs ++ (be x width).take k).length ((bs ++ (be x width).take k).map bv)) := hv.own
      have HW : Hid (Went F w wr F') := hwent
      have hlen : (bs ++ (be x width).take k).length = bs.length + k := by rw [List.length_append, List.length_take, be_length]; omega
      have hlen2 : (bs ++ (be x width).take k).length + 1 ≤ 140737488355328 := by omega
      have HL2 : Hid ((bs ++ (be x width).take k).length + 1 ≤ 140737488355328) := hlen2
      clear hs hy hv hwent hlen hlen2
      go_wp2
      go_region_law (refine step_append_own rfl (.tmp 17) (.tmp 23) 35 rfl 0 5 i0 (.int .u8 0) 1 1 Tryz.underlying35 hi hz0 hz1 hz2 rfl (by decide) v _ _ rfl (((HO.out : World.ownsRow wr.drew 0 5 1 v _ _)).alloc _) ⟨wr.heap.size, 0, none⟩ 1 1 [.int .u8 y] rfl rfl (cell_one_new wr _ _) (one_one _ _) (by have := HL2.out; unfold maxLen; omega) (by have := HL2.out; omega) (Nat.zero_le _) ?_; intro v1 w1 own1 grow1 _ at1; obtain ⟨a2, n2, k2, rfl, c01, f01, F2, H2⟩ := WrV.appended (news := [y]) HV.out (((Kept.refl No wr).alloc _).drew) own1 rfl grow1 at1 (by intro q hq; simp at hq; subst hq; rw [HY.out]; exact Nat.mod_lt _ (by decide)); clear own1 grow1 at1)
      all_goals
        go_wp2
        go_roundw
        case rel =>
          refine ⟨k + 1, by omega, by go_num, F2, .slice a2 n2 k2, ?_, HW.out.trans H2.out.2⟩
          rw [be_take x width k hlt, ← HY.out, ← List.append_assoc]; exact H2.out.1
        case measure => simp [intOf]; omega
    · have hkw : k = width := by omega
      subst hkw
      rw [be_all _ _ _ (Nat.le_refl _)] at hv
      go_wp2
      go_end0
      exact ⟨rfl, F', ⟨v, hv⟩, hwent⟩

end Go.Proofs.YtjhhldgbllbbhaaGreatDoor

namespace Go.Proofs.YtjhhldgbllbbhaaGreatDoor
open Go.RowKit
set_option linter.unusedVariables false
set_option maxRecDepth 100000

theorem gate_no (f : Value) (p : Nat) (e : Int) (w : World) (c1 : w.cell? ⟨p, 1, none⟩ = some (.int .i64 e)) (he : (e == 0) = false) :
    Calls Tryz.prog 39 #[.pointer (some ⟨p, 0, none⟩), f] w fun ex w' => ex = .returned (.tuple #[]) ∧ w' = w := by
  go_enter Tryz.func39, Tryz.ntmps39
  go_wp2
  go_end0
  exact ⟨rfl, rfl⟩

set_option maxHeartbeats 1000000 in
theorem gate_number (q0 q1 q2 : Value) (p : Nat) (w : World) (R : World → Prop) (e1 : Int) (c1 : w.cell? ⟨p, 1, none⟩ = some (.int .i64 0))
    (hdo : Calls Tryz.prog 78 #[q0, q1, q2] w fun ex w1 => ex = .returned (.int .i64 e1) ∧ R w1) (hR : ∀ w1, R w1 → (∃ u, w1.cell? ⟨p, 1, none⟩ = some (.int .i64 u)) ∧ w1.frozen? ⟨p, 1, none⟩ = false) :
    Calls Tryz.prog 39 #[.pointer (some ⟨p, 0, none⟩), .func (.func 78) #[] #[q0, q1, q2]] w fun ex w' => ex = .returned (.tuple #[]) ∧ ∃ w1, R w1 ∧ w' = w1.setCell ⟨p, 1, none⟩ (.int .i64 e1) := by
  have HR : Hid (∀ w1, R w1 → (∃ u, w1.cell? ⟨p, 1, none⟩ = some (.int .i64 u)) ∧ w1.frozen? ⟨p, 1, none⟩ = false) := hR
  clear hR
  go_enter Tryz.func39, Tryz.ntmps39
  go_wp2_with (go_at_call 78; refine hdo.mono ?_; rintro ex w1 ⟨rfl, hr⟩; obtain ⟨⟨u, c11⟩, f11⟩ := HR.out w1 hr)
  go_end0
  exact ⟨rfl, w1, hr, rfl⟩

set_option maxHeartbeats 1000000 in
theorem gate_Bytes (q0 q1 : Value) (p : Nat) (w : World) (R : World → Prop) (e1 : Int) (c1 : w.cell? ⟨p, 1, none⟩ = some (.int .i64 0))
    (hdo : Calls Tryz.prog 63 #[q0, q1] w fun ex w1 => ex = .returned (.int .i64 e1) ∧ R w1) (hR : ∀ w1, R w1 → (∃ u, w1.cell? ⟨p, 1, none⟩ = some (.int .i64 u)) ∧ w1.frozen? ⟨p, 1, none⟩ = false) :
    Calls Tryz.prog 39 #[.pointer (some ⟨p, 0, none⟩), .func (.func 63) #[] #[q0, q1]] w fun ex w' => ex = .returned (.tuple #[]) ∧ ∃ w1, R w1 ∧ w' = w1.setCell ⟨p, 1, none⟩ (.int .i64 e1) := by
  have HR : Hid (∀ w1, R w1 → (∃ u, w1.cell? ⟨p, 1, none⟩ = some (.int .i64 u)) ∧ w1.frozen? ⟨p, 1, none⟩ = false) := hR
  clear hR
  go_enter Tryz.func39, Tryz.ntmps39
  go_wp2_with (go_at_call 63; refine hdo.mono ?_; rintro ex w1 ⟨rfl, hr⟩; obtain ⟨⟨u, c11⟩, f11⟩ := HR.out w1 hr)
  go_end0
  exact ⟨rfl, w1, hr, rfl⟩

set_option maxHeartbeats 1000000 in
theorem gate_Done (q0 q1 : Value) (p : Nat) (w : World) (R : World → Prop) (e1 : Int) (c1 : w.cell? ⟨p, 1, none⟩ = some (.int .i64 0))
    (hdo : Calls Tryz.prog 44 #[q0, q1] w fun ex w1 => ex = .returned (.int .i64 e1) ∧ R w1) (hR : ∀ w1, R w1 → (∃ u, w1.cell? ⟨p, 1, none⟩ = some (.int .i64 u)) ∧ w1.frozen? ⟨p, 1, none⟩ = false) :
    Calls Tryz.prog 39 #[.pointer (some ⟨p, 0, none⟩), .func (.func 44) #[] #[q0, q1]] w fun ex w' => ex = .returned (.tuple #[]) ∧ ∃ w1, R w1 ∧ w' = w1.setCell ⟨p, 1, none⟩ (.int .i64 e1) := by
  have HR : Hid (∀ w1, R w1 → (∃ u, w1.cell? ⟨p, 1, none⟩ = some (.int .i64 u)) ∧ w1.frozen? ⟨p, 1, none⟩ = false) := hR
  clear hR
  go_enter Tryz.func39, Tryz.ntmps39
  go_wp2_with (go_at_call 44; refine hdo.mono ?_; rintro ex w1 ⟨rfl, hr⟩; obtain ⟨⟨u, c11⟩, f11⟩ := HR.out w1 hr)
  go_end0
  exact ⟨rfl, w1, hr, rfl⟩

set_option maxHeartbeats 1000000 in
theorem gate_I64 (q0 q1 : Value) (p : Nat) (w : World) (R : World → Prop) (e1 : Int) (c1 : w.cell? ⟨p, 1, none⟩ = some (.int .i64 0))
    (hdo : Calls Tryz.prog 61 #[q0, q1] w fun ex w1 => ex = .returned (.int .i64 e1) ∧ R w1) (hR : ∀ w1, R w1 → (∃ u, w1.cell? ⟨p, 1, none⟩ = some (.int .i64 u)) ∧ w1.frozen? ⟨p, 1, none⟩ = false) :
    Calls Tryz.prog 39 #[.pointer (some ⟨p, 0, none⟩), .func (.func 61) #[] #[q0, q1]] w fun ex w' => ex = .returned (.tuple #[]) ∧ ∃ w1, R w1 ∧ w' = w1.setCell ⟨p, 1, none⟩ (.int .i64 e1) := by
  have HR : Hid (∀ w1, R w1 → (∃ u, w1.cell? ⟨p, 1, none⟩ = some (.int .i64 u)) ∧ w1.frozen? ⟨p, 1, none⟩ = false) := hR
  clear hR
  go_enter Tryz.func39, Tryz.ntmps39
  go_wp2_with (go_at_call 61; refine hdo.mono ?_; rintro ex w1 ⟨rfl, hr⟩; obtain ⟨⟨u, c11⟩, f11⟩ := HR.out w1 hr)
  go_end0
  exact ⟨rfl, w1, hr, rfl⟩

end Go.Proofs.YtjhhldgbllbbhaaGreatDoor

namespace Go.Proofs.YtjhhldgbllbbhaaGreatDoor
open Go.RowKit
set_option linter.unusedVariables false
set_option maxRecDepth 100000

/-- what the Writer holds behind a number -/
def numBs (bs : List Nat) (e x : Int) (width : Nat) : List Nat := if e ≠ 0 then bs else if x < 0 ∨ 2 ^ (8 * width) ≤ x then bs else bs ++ be x.toNat width
def numE (e x : Int) (width : Nat) : Int := if e ≠ 0 then e else if x < 0 ∨ 2 ^ (8 * width) ≤ x then 2 else 0

theorem newWriter_any (w : World) : Calls Tryz.prog 20 #[] w fun ex w' => ex = .returned (.pointer (some ⟨w.heap.size, 0, none⟩)) ∧ w' = w.alloc (.cells #[.slice none 0 0, .int .i64 0] 78) := by
  go_enter Tryz.func20, Tryz.ntmps20
  go_wp2
  go_ret
  exact ⟨rfl, rfl⟩

/-- a Writer's call: what it leaves -/
def WrDid (F : Nat → Prop) (p : Nat) (bs' : List Nat) (e' : Int) (w w' : World) : Prop := ∃ F', Wr w' F' p bs' e' ∧ Went F w w' F'

theorem WrDid.cells {F : Nat → Prop} {p : Nat} {bs' : List Nat} {e' : Int} {w w1 : World} (h : WrDid F p bs' e' w w1) : (∃ u, w1.cell? ⟨p, 1, none⟩ = some (.int .i64 u)) ∧ w1.frozen? ⟨p, 1, none⟩ = false := by
  obtain ⟨F', ⟨v, hv⟩, _⟩ := h
  exact ⟨⟨_, hv.c1⟩, hv.fz 1⟩
theorem WrDid.put1 {F : Nat → Prop} {p : Nat} {bs' : List Nat} {e' : Int} {w w1 : World} (h : WrDid F p bs' e' w w1) (e : Int) : WrDid F p bs' e w (w1.setCell ⟨p, 1, none⟩ (.int .i64 e)) := by
  obtain ⟨F', ⟨v, hv⟩, hw⟩ := h
  exact ⟨F', ⟨v, hv.put1 e⟩, hw.trans ⟨(Kept.refl _ _).setCell (p := ⟨p, 1, none⟩) (.inl hv.fp) _, fun _ h => .inl h⟩⟩
theorem WrDid.ahead {F : Nat → Prop} {p : Nat} {bs' : List Nat} {e' : Int} {w0 w w1 : World} (h : WrDid F p bs' e' w w1) (hk : Kept No w0 w) : WrDid F p bs' e' w0 w1 := by
  obtain ⟨F', hv, hw⟩ := h
  exact ⟨F', hv, Went.trans (G := F) ⟨hk.mono (fun _ h => h.elim), fun _ h => .inl h⟩ hw⟩
theorem WrDid.still {F : Nat → Prop} {p : Nat} {bs : List Nat} {e : Int} {w w1 : World} (h : Wr w F p bs e) (hk : Kept No w w1) : WrDid F p bs e w w1 := by
  obtain ⟨v, hv⟩ := h
  exact ⟨F, ⟨v, hv.kept hk (fun _ _ h => h)⟩, hk.mono (fun _ h => h.elim), fun _ h => .inl h⟩

theorem Wr.kept {F G : Nat → Prop} {p : Nat} {bs : List Nat} {e : Int} {w w1 : World} (h : Wr w F p bs e) (hk : Kept G w w1) (hd : ∀ b, F b → ¬ G b) : Wr w1 F p bs e := by
  obtain ⟨v, hv⟩ := h
  exact ⟨v, hv.kept hk hd⟩
theorem Wr.drewN {F : Nat → Prop} {p : Nat} {bs : List Nat} {e : Int} {w : World} (h : Wr w F p bs e) (n : Nat) : Wr (w.drewN n) F p bs e := h.kept ((Kept.refl No _).drewN n) (fun _ _ h => h)

set_option maxHeartbeats 1000000 in
set_option maxRecDepth 100000 in
theorem number1_any (F : Nat → Prop) (p : Nat) (bs : List Nat) (x : Int) (width : Nat) (w : World) (b1 b2 b3 : Nat) (hw : width = 1 ∨ width = 2 ∨ width = 4) (h : Wr w F p bs 0) (hsz : bs.length ≤ 140737488355300) (hx : x ≤ 9223372036854775807)
    (d1 : w.cell? ⟨b1, 0, none⟩ = some (.int .i64 x)) (d2 : w.cell? ⟨b2, 0, none⟩ = some (.int .i64 width)) (d3 : w.cell? ⟨b3, 0, none⟩ = some (.pointer (some ⟨p, 0, none⟩))) :
    Calls Tryz.prog 78 #[.pointer (some ⟨b1, 0, none⟩), .pointer (some ⟨b2, 0, none⟩), .pointer (some ⟨b3, 0, none⟩)] w fun ex w' => ex = .returned (.int .i64 (numE 0 x width)) ∧ WrDid F p (numBs bs 0 x width) 0 w w' := by
  have H : Hid (Wr w F p bs 0) := h
  clear h
  by_cases h1 : x < 0
  · have e1 : numE 0 x width = 2 := by unfold numE; rw [if_neg (by simp), if_pos (.inl h1)]
    have e2 : numBs bs 0 x width = bs := by unfold numBs; rw [if_neg (by simp), if_pos (.inl h1)]
    rw [e1, e2]
    go_enter Tryz.func78, Tryz.ntmps78
    go_wp2
    go_quiet (fail)
    go_wp2
    go_ret
    exact ⟨rfl, WrDid.still H.out ((Kept.refl _ _).drewN _)⟩
  · have w1 : IntKind.i64.wrap 8 = 8 := by rw [IntKind.wrap_i64]; omega
    have w2 : IntKind.i64.wrap 16 = 16 := by rw [IntKind.wrap_i64]; omega
    have w3 : IntKind.i64.wrap 32 = 32 := by rw [IntKind.wrap_i64]; omega
    have w4 : IntKind.i64.wrap 256 = 256 := by rw [IntKind.wrap_i64]; omega
    have w5 : IntKind.i64.wrap 65536 = 65536 := by rw [IntKind.wrap_i64]; omega
    have w6 : IntKind.i64.wrap 4294967296 = 4294967296 := by rw [IntKind.wrap_i64]; omega
    have hL : ∃ lim : Nat, lim = 2 ^ (8 * width) ∧ (lim = 256 ∨ lim = 65536 ∨ lim = 4294967296) := by
      rcases hw with rfl | rfl | rfl
      · exact ⟨256, by decide, .inl rfl⟩
      · exact ⟨65536, by decide, .inr (.inl rfl)⟩
      · exact ⟨4294967296, by decide, .inr (.inr rfl)⟩
    obtain ⟨lim, hlim, hl3⟩ := hL
    by_cases h2 : (lim : Int) ≤ x
    · have h3 : x < 0 ∨ 2 ^ (8 * width) ≤ x := .inr (by rw [hlim] at h2; simpa using h2)
      have e1 : numE 0 x width = 2 := by unfold numE; rw [if_neg (by simp), if_pos h3]
      have e2 : numBs bs 0 x width = bs := by unfold numBs; rw [if_neg (by simp), if_pos h3]
      rw [e1, e2]
      clear e1 e2 h3
      rcases hw with rfl | rfl | rfl
      · have h4 : (256 : Int) ≤ x := by rw [hlim] at h2; simpa using h2
        clear hlim hl3 h2
        go_enter Tryz.func78, Tryz.ntmps78
        go_wp2
        go_quiet (fail)
        go_wp2
        go_ret
        exact ⟨rfl, WrDid.still H.out ((Kept.refl _ _).drewN _)⟩
      · have h4 : (65536 : Int) ≤ x := by rw [hlim] at h2; simpa using h2
        clear hlim hl3 h2
        go_enter Tryz.func78, Tryz.ntmps78
        go_wp2
        go_quiet (fail)
        go_wp2
        go_ret
        exact ⟨rfl, WrDid.still H.out ((Kept.refl _ _).drewN _)⟩
      · have h4 : (4294967296 : Int) ≤ x := by rw [hlim] at h2; simpa using h2
        clear hlim hl3 h2
        go_enter Tryz.func78, Tryz.ntmps78
        go_wp2
        go_quiet (fail)
        go_wp2
        go_ret
        exact ⟨rfl, WrDid.still H.out ((Kept.refl _ _).drewN _)⟩
    · have h3 : ¬ (x < 0 ∨ 2 ^ (8 * width) ≤ x) := by
        rw [hlim] at h2; rintro (h | h)
        · omega
        · exact h2 (by simpa using h)
      have e1 : numE 0 x width = 0 := by unfold numE; rw [if_neg (by simp), if_neg h3]
      have e2 : numBs bs 0 x width = bs ++ be x.toNat width := by unfold numBs; rw [if_neg (by simp), if_neg h3]
      rw [e1, e2]
      clear e1 e2 h3
      obtain ⟨n, rfl⟩ : ∃ n : Nat, x = n := ⟨x.toNat, by omega⟩
      rw [Int.toNat_natCast]
      have hn : n < 18446744073709551616 := by omega
      have e5 : IntKind.u64.wrap (n : Int) = (n : Int) := by rw [IntKind.wrap_u64]; omega
      have c : ∀ wx width, width ≤ 8 → Wr wx F p bs 0 → Calls Tryz.prog 62 #[.pointer (some ⟨p, 0, none⟩), .int .u64 (n : Int), .int .i64 ((width : Nat) : Int)] wx fun ex w' => ex = .returned (.tuple #[]) ∧ WrDid F p (bs ++ be n width) 0 wx w' := fun wx width h8 h => lay_any F p bs 0 n width wx hn h8 h hsz
      rcases hw with rfl | rfl | rfl
      · have h4 : (n : Int) < 256 := by rw [hlim] at h2; simpa using h2
        have k0 : decide ((n : Int) < 0) = false := by simp
        have k1 : decide ((256 : Int) ≤ (n : Int)) = false := decide_eq_false (by omega)
        clear hlim hl3 h2 h4 hx h1 hn
        have c' : ∀ wx, Wr wx F p bs 0 → Calls Tryz.prog 62 #[.pointer (some ⟨p, 0, none⟩), .int .u64 (n : Int), .int .i64 1] wx fun ex w' => ex = .returned (.tuple #[]) ∧ WrDid F p (bs ++ be n 1) 0 wx w' := fun wx h => c wx 1 (by omega) h
        clear c
        go_enter Tryz.func78, Tryz.ntmps78
        go_wp2
        go_quiet (fail)
        go_wp2_with (go_at_call 62; refine (c' _ (H.out.drewN _)).mono ?_; rintro ex w1 ⟨rfl, hd⟩)
        go_ret
        exact ⟨rfl, hd.ahead ((Kept.refl _ _).drewN _)⟩
      · have h4 : (n : Int) < 65536 := by rw [hlim] at h2; simpa using h2
        have k0 : decide ((n : Int) < 0) = false := by simp
        have k1 : decide ((65536 : Int) ≤ (n : Int)) = false := decide_eq_false (by omega)
        clear hlim hl3 h2 h4 hx h1 hn
        have c' : ∀ wx, Wr wx F p bs 0 → Calls Tryz.prog 62 #[.pointer (some ⟨p, 0, none⟩), .int .u64 (n : Int), .int .i64 2] wx fun ex w' => ex = .returned (.tuple #[]) ∧ WrDid F p (bs ++ be n 2) 0 wx w' := fun wx h => c wx 2 (by omega) h
        clear c
        go_enter Tryz.func78, Tryz.ntmps78
        go_wp2
        go_quiet (fail)
        go_wp2_with (go_at_call 62; refine (c' _ (H.out.drewN _)).mono ?_; rintro ex w1 ⟨rfl, hd⟩)
        go_ret
        exact ⟨rfl, hd.ahead ((Kept.refl _ _).drewN _)⟩
      · have h4 : (n : Int) < 4294967296 := by rw [hlim] at h2; simpa using h2
        have k0 : decide ((n : Int) < 0) = false := by simp
        have k1 : decide ((4294967296 : Int) ≤ (n : Int)) = false := decide_eq_false (by omega)
        clear hlim hl3 h2 h4 hx h1 hn
        have c' : ∀ wx, Wr wx F p bs 0 → Calls Tryz.prog 62 #[.pointer (some ⟨p, 0, none⟩), .int .u64 (n : Int), .int .i64 4] wx fun ex w' => ex = .returned (.tuple #[]) ∧ WrDid F p (bs ++ be n 4) 0 wx w' := fun wx h => c wx 4 (by omega) h
        clear c
        go_enter Tryz.func78, Tryz.ntmps78
        go_wp2
        go_quiet (fail)
        go_wp2_with (go_at_call 62; refine (c' _ (H.out.drewN _)).mono ?_; rintro ex w1 ⟨rfl, hd⟩)
        go_ret
        exact ⟨rfl, hd.ahead ((Kept.refl _ _).drewN _)⟩

end Go.Proofs.YtjhhldgbllbbhaaGreatDoor

namespace Go.Proofs.YtjhhldgbllbbhaaGreatDoor
open Go.RowKit
set_option linter.unusedVariables false
set_option maxRecDepth 100000

theorem Wr.box2 {F : Nat → Prop} {p : Nat} {bs : List Nat} {e : Int} {w : World} (h : Wr w F p bs e) (a b : Obj) : Wr ((w.alloc a).alloc b) F p bs e := h.kept (((Kept.refl No w).alloc _).alloc _) (fun _ _ h => h)
theorem Wr.box3 {F : Nat → Prop} {p : Nat} {bs : List Nat} {e : Int} {w : World} (h : Wr w F p bs e) (a b c : Obj) : Wr (((w.alloc a).alloc b).alloc c) F p bs e := h.kept ((((Kept.refl No w).alloc _).alloc _).alloc _) (fun _ _ h => h)
theorem Wr.c1 {F : Nat → Prop} {p : Nat} {bs : List Nat} {e : Int} {w : World} (h : Wr w F p bs e) : w.cell? ⟨p, 1, none⟩ = some (.int .i64 e) := by obtain ⟨v, hv⟩ := h; exact hv.c1

theorem size_alloc (w : World) (o : Obj) : (w.alloc o).heap.size = w.heap.size + 1 := by simp
theorem cell_new (w : World) (u : Value) (t : TypeId) (b : Nat) (hb : b = w.heap.size) : (w.alloc (.cells #[u] t)).cell? ⟨b, 0, none⟩ = some u := by subst hb; simp
theorem cell_old (w : World) (o : Obj) (a : Addr) (h : a.block < w.heap.size) : (w.alloc o).cell? a = w.cell? a := World.cell?_of_block (Below.heap_alloc _ _ _ h)

set_option maxHeartbeats 1000000 in
theorem number_any (F : Nat → Prop) (p : Nat) (bs : List Nat) (e x : Int) (width : Nat) (w : World) (hw : width = 1 ∨ width = 2 ∨ width = 4) (h : Wr w F p bs e) (hsz : bs.length ≤ 140737488355300) (hx : x ≤ 9223372036854775807) :
    Calls Tryz.prog 60 #[.pointer (some ⟨p, 0, none⟩), .int .i64 x, .int .i64 width] w fun ex w' => ex = .returned (.tuple #[]) ∧ WrDid F p (numBs bs e x width) (numE e x width) w w' := by
  have hmf : ∀ (fn : Fn) (first cap : Array Value) (w : World), (Instr.makeFunc fn first cap).run Tryz.prog w = .ok (.func fn first cap) w := fun _ _ _ _ => rfl
  have H : Hid (Wr w F p bs e) := h
  clear h
  by_cases he : e = 0
  · subst he
    obtain ⟨W, hW⟩ : ∃ W, W = (((w.alloc (.cells #[.pointer (some ⟨p, 0, none⟩)] 49)).alloc (.cells #[.int .i64 x] 3)).alloc (.cells #[.int .i64 width] 3)) := ⟨_, rfl⟩
    have d1 : W.cell? ⟨w.heap.size + 1, 0, none⟩ = some (.int .i64 x) := by rw [hW, cell_old _ _ _ (by simp)]; exact cell_new _ _ _ _ (by simp)
    have d2 : W.cell? ⟨w.heap.size + 1 + 1, 0, none⟩ = some (.int .i64 width) := by rw [hW]; exact cell_new _ _ _ _ (by simp)
    have d3 : W.cell? ⟨w.heap.size, 0, none⟩ = some (.pointer (some ⟨p, 0, none⟩)) := by rw [hW, cell_old _ _ _ (by simp; omega), cell_old _ _ _ (by simp)]; exact cell_new _ _ _ _ rfl
    have hWr : Wr W F p bs 0 := by rw [hW]; exact H.out.box3 _ _ _
    have c := gate_number _ _ _ p _ (WrDid F p (numBs bs 0 x width) 0 _) (numE 0 x width) hWr.c1 (number1_any F p bs x width _ _ _ _ hw hWr hsz hx d1 d2 d3) (fun _ h => h.cells)
    rw [hW] at c
    clear d1 d2 d3 hWr hW
    go_enter Tryz.func60, Tryz.ntmps60
    go_wp2_with (go_at_call 39; refine c.mono ?_; rintro ex w1 ⟨rfl, w2, hd, rfl⟩)
    go_end0
    exact ⟨rfl, (hd.put1 _).ahead ((((Kept.refl No w).alloc _).alloc _).alloc _)⟩
  · have he2 : (e == 0) = false := by simpa using he
    have e1 : numE e x width = e := by unfold numE; rw [if_pos he]
    have e2 : numBs bs e x width = bs := by unfold numBs; rw [if_pos he]
    rw [e1, e2]
    go_enter Tryz.func60, Tryz.ntmps60
    go_wp2_with (go_at_call 39; refine (gate_no _ p e _ (H.out.box3 _ _ _).c1 he2).mono ?_; rintro ex w1 ⟨rfl, rfl⟩)
    go_end0
    exact ⟨rfl, WrDid.still H.out ((((Kept.refl No w).alloc _).alloc _).alloc _)⟩

theorem u8_any (F : Nat → Prop) (p : Nat) (bs : List Nat) (e x : Int) (w : World) (h : Wr w F p bs e) (hsz : bs.length ≤ 140737488355300) (hx : x ≤ 9223372036854775807) :
    Calls Tryz.prog 43 #[.pointer (some ⟨p, 0, none⟩), .int .i64 x] w fun ex w' => ex = .returned (.tuple #[]) ∧ WrDid F p (numBs bs e x 1) (numE e x 1) w w' := by
  have c : Calls Tryz.prog 60 #[.pointer (some ⟨p, 0, none⟩), .int .i64 x, .int .i64 1] w fun ex w' => ex = .returned (.tuple #[]) ∧ WrDid F p (numBs bs e x 1) (numE e x 1) w w' := number_any F p bs e x 1 w (by omega) h hsz hx
  clear h
  go_enter Tryz.func43, Tryz.ntmps43
  go_wp2_with (go_at_call 60; refine c.mono ?_; rintro ex w1 ⟨rfl, hd⟩)
  go_end0
  exact ⟨rfl, hd⟩

theorem u32_any (F : Nat → Prop) (p : Nat) (bs : List Nat) (e x : Int) (w : World) (h : Wr w F p bs e) (hsz : bs.length ≤ 140737488355300) (hx : x ≤ 9223372036854775807) :
    Calls Tryz.prog 41 #[.pointer (some ⟨p, 0, none⟩), .int .i64 x] w fun ex w' => ex = .returned (.tuple #[]) ∧ WrDid F p (numBs bs e x 4) (numE e x 4) w w' := by
  have c : Calls Tryz.prog 60 #[.pointer (some ⟨p, 0, none⟩), .int .i64 x, .int .i64 4] w fun ex w' => ex = .returned (.tuple #[]) ∧ WrDid F p (numBs bs e x 4) (numE e x 4) w w' := number_any F p bs e x 4 w (by omega) h hsz hx
  clear h
  go_enter Tryz.func41, Tryz.ntmps41
  go_wp2_with (go_at_call 60; refine c.mono ?_; rintro ex w1 ⟨rfl, hd⟩)
  go_end0
  exact ⟨rfl, hd⟩

/-- what the Writer holds behind bytes that it is always given -/
def layBs (bs : List Nat) (e : Int) (news : List Nat) : List Nat := if e ≠ 0 then bs else bs ++ news

/-- the eight bytes of a number -/
def be64 (x : Int) : List Nat := be (x % 18446744073709551616).toNat 8

set_option maxHeartbeats 1000000 in
theorem i641_any (F : Nat → Prop) (p : Nat) (bs : List Nat) (x : Int) (w : World) (b1 b2 : Nat) (h : Wr w F p bs 0) (hsz : bs.length ≤ 140737488355300)
    (d1 : w.cell? ⟨b1, 0, none⟩ = some (.pointer (some ⟨p, 0, none⟩))) (d2 : w.cell? ⟨b2, 0, none⟩ = some (.int .i64 x)) :
    Calls Tryz.prog 61 #[.pointer (some ⟨b1, 0, none⟩), .pointer (some ⟨b2, 0, none⟩)] w fun ex w' => ex = .returned (.int .i64 0) ∧ WrDid F p (bs ++ be64 x) 0 w w' := by
  obtain ⟨n, hn⟩ : ∃ n : Nat, n = (x % 18446744073709551616).toNat := ⟨_, rfl⟩
  have e5 : IntKind.u64.wrap x = (n : Int) := by rw [IntKind.wrap_u64, hn]; omega
  have hlt : n < 18446744073709551616 := by omega
  have c : Calls Tryz.prog 62 #[.pointer (some ⟨p, 0, none⟩), .int .u64 (n : Int), .int .i64 8] w fun ex w' => ex = .returned (.tuple #[]) ∧ WrDid F p (bs ++ be64 x) 0 w w' := by
    unfold be64; rw [← hn]; exact lay_any F p bs 0 n 8 w hlt (by omega) h hsz
  clear h hn hlt
  go_enter Tryz.func61, Tryz.ntmps61
  go_wp2_with (go_at_call 62; refine c.mono ?_; rintro ex w1 ⟨rfl, hd⟩)
  go_ret
  exact ⟨rfl, hd⟩

set_option maxHeartbeats 1000000 in
theorem i64_any (F : Nat → Prop) (p : Nat) (bs : List Nat) (e x : Int) (w : World) (h : Wr w F p bs e) (hsz : bs.length ≤ 140737488355300) :
    Calls Tryz.prog 42 #[.pointer (some ⟨p, 0, none⟩), .int .i64 x] w fun ex w' => ex = .returned (.tuple #[]) ∧ WrDid F p (layBs bs e (be64 x)) e w w' := by
  have hmf : ∀ (fn : Fn) (first cap : Array Value) (w : World), (Instr.makeFunc fn first cap).run Tryz.prog w = .ok (.func fn first cap) w := fun _ _ _ _ => rfl
  have H : Hid (Wr w F p bs e) := h
  clear h
  by_cases he : e = 0
  · subst he
    rw [show layBs bs 0 (be64 x) = bs ++ be64 x from if_neg (by simp)]
    obtain ⟨W, hW⟩ : ∃ W, W = ((w.alloc (.cells #[.pointer (some ⟨p, 0, none⟩)] 49)).alloc (.cells #[.int .i64 x] 2)) := ⟨_, rfl⟩
    have d2 : W.cell? ⟨w.heap.size + 1, 0, none⟩ = some (.int .i64 x) := by rw [hW]; exact cell_new _ _ _ _ (by simp)
    have d1 : W.cell? ⟨w.heap.size, 0, none⟩ = some (.pointer (some ⟨p, 0, none⟩)) := by rw [hW, cell_old _ _ _ (by simp)]; exact cell_new _ _ _ _ rfl
    have hWr : Wr W F p bs 0 := by rw [hW]; exact H.out.box2 _ _
    have c := gate_I64 _ _ p _ (WrDid F p (bs ++ be64 x) 0 _) 0 hWr.c1 (i641_any F p bs x _ _ _ hWr hsz d1 d2) (fun _ h => h.cells)
    rw [hW] at c
    clear d1 d2 hWr hW
    go_enter Tryz.func42, Tryz.ntmps42
    go_wp2_with (go_at_call 39; refine c.mono ?_; rintro ex w1 ⟨rfl, w2, hd, rfl⟩)
    go_end0
    exact ⟨rfl, (hd.put1 _).ahead (((Kept.refl No w).alloc _).alloc _)⟩
  · have he2 : (e == 0) = false := by simpa using he
    rw [show layBs bs e (be64 x) = bs from if_pos he]
    go_enter Tryz.func42, Tryz.ntmps42
    go_wp2_with (go_at_call 39; refine (gate_no _ p e _ (H.out.box2 _ _).c1 he2).mono ?_; rintro ex w1 ⟨rfl, rfl⟩)
    go_end0
    exact ⟨rfl, WrDid.still H.out (((Kept.refl No w).alloc _).alloc _)⟩

end Go.Proofs.YtjhhldgbllbbhaaGreatDoor
