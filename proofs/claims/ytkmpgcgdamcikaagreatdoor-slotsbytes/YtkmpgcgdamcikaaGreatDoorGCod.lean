/-
  One text: CWr, WrBytes, WrDone, CRd, CSeal.
-/
import Derived.Test.YtkmpgcgdamcikaaGreatDoorProg
import Derived.Test.YtkmpgcgdamcikaaGreatDoorHeap
import Derived.Deep.RegionLaw
import Derived.OwnWalk
import Derived.Deep.QuietTactic
import Derived.BigQuiet
import Derived.Laws.BytesArg
import Derived.Deep.Cut
namespace Go.Proofs.YtkmpgcgdamcikaaGreatDoor
open Go.RowKit
set_option linter.unusedVariables false
set_option maxRecDepth 100000

theorem Tryz.info5 : (Tryz.prog.info? 5).map (fun i => (i.zero, i.size, i.bytes)) = some (some (.int .u8 0), 1, 1) := by kernel_rfl

/-- append ONTO AN OWNED SLICE, as one step of a region that draws. -/
theorem step_append_own {P : Program} {ops : Array Oper} {o : Oper} {a : Act} {w : World} {K : Act → World → Prop} {Q : Exit → Act → World → Prop} {E : Prop}
    (hgd : o.guard = none) (s x : Operand) (t : TypeId) (ho : o.op = Op.call { callee := Callee.builtin Builtin.append, args := #[s, x], argTypes := #[t, t] })
    (base : Nat) (e : TypeId) (i : TypeInfo) (z : Value) (size bytes : Nat) (ht : P.underlying t = some (.slice e)) (hi : P.info? e = some i) (hz : i.zero = some z)
    (hsize : i.size = size) (hby : i.bytes = bytes) (hzs : z.cells.size = size) (hsz : 0 < size)
    (v : Value) (n : Nat) (xs : List Value) (hs : a.eval s = v) (hown : w.ownsRow base e size v n xs)
    (ad : Addr) (m c : Nat) (news : List Value) (hx : a.eval x = .slice (some ad) m c) (hl : news.length = m * size) (hnews : ∀ j u, news[j]? = some u → w.cell? (ad.add j) = some u) (h1 : ∀ u ∈ news, u.oneCell' = true)
    (h63 : n + m ≤ maxLen) (hbytes : (n + m) * bytes ≤ 140737488355328) (hbase : base ≤ w.heap.size)
    (h : ∀ v' w', w'.ownsRow base e size v' (n + m) (xs ++ news) → w.grownBy w' v.ownBlock → (v' = .slice none 0 0 ↔ v = .slice none 0 0 ∧ m = 0) → (v'.ownBlock = v.ownBlock ∨ v'.ownBlock = some w.heap.size) → K (a.put o.dst v') w') :
    if Region.wanted o (yielded ops a.tmps) = true then Oper.wp P o a w K Q else E := by
  have hw : Region.wanted o (yielded ops a.tmps) = true := by simp [Region.wanted, hgd]
  rw [if_pos hw]
  obtain ⟨v', w', hr, h2, h3, h4, h5⟩ := run_append_own_at (P := P) w base t o.type e i z size bytes ht hi hz hsize hby hzs hsz v n xs hown ad m c news hl hnews h1 h63 hbytes hbase
  unfold Oper.wp execOp
  simp only [ho, resolve, invoke, builtin, Sem.run_bind, Sem.run_pure, Result.andThen_ok, List.map_toArray, List.map_cons, List.map_nil, hs, hx, hr]
  exact h v' w' h2 h3 h4 h5

/-- block p is a Writer: its slice v owns the bytes bs, its fault is e; its blocks lie in F. -/
structure WrV (w : World) (F : Nat → Prop) (p : Nat) (v : Value) (bs : List Nat) (e : Int) : Prop where
  obj : w.heap[p]? = some (.cells #[v, .int .i64 e] 76 (0, 0))
  own : w.ownsRow 0 5 1 v bs.length (bs.map bv)
  fp : F p
  fv : ∀ g, v.ownBlock = some g → F g
  flt : ∀ k, F k → k < w.heap.size
  lt : ∀ x ∈ bs, x < 256

def Wr (w : World) (F : Nat → Prop) (p : Nat) (bs : List Nat) (e : Int) : Prop := ∃ v, WrV w F p v bs e

/-- from w on to w', the footprint F turned to F' -/
def Went (F : Nat → Prop) (w w' : World) (F' : Nat → Prop) : Prop := Kept F w w' ∧ ∀ k, F' k → F k ∨ w.heap.size ≤ k

theorem Went.refl (F : Nat → Prop) (w : World) : Went F w w F := ⟨Kept.refl _ _, fun _ h => .inl h⟩
theorem Went.trans {F G H : Nat → Prop} {a b c : World} (h : Went F a b G) (k : Went G b c H) : Went F a c H :=
  ⟨h.1.trans k.1 h.2, fun x hx => by rcases k.2 x hx with h1 | h1; exact h.2 x h1; exact .inr (Nat.le_trans h.1.size h1)⟩

namespace WrV
variable {w w' : World} {F G : Nat → Prop} {p : Nat} {v : Value} {bs : List Nat} {e : Int}
theorem c0 (h : WrV w F p v bs e) : w.cell? ⟨p, 0, none⟩ = some v := by simp [World.cell?, h.obj]
theorem c1 (h : WrV w F p v bs e) : w.cell? ⟨p, 1, none⟩ = some (.int .i64 e) := by simp [World.cell?, h.obj]
theorem fz (h : WrV w F p v bs e) (i : Nat) : w.frozen? ⟨p, i, none⟩ = false := by simp [World.frozen?, h.obj]
theorem plt (h : WrV w F p v bs e) : p < w.heap.size := heap_lt h.obj
theorem kept (h : WrV w F p v bs e) (k : Kept G w w') (hd : ∀ b, F b → ¬ G b) : WrV w' F p v bs e :=
  ⟨k.at' h.obj (hd p h.fp), k.owns h.own (fun g hg => hd g (h.fv g hg)), h.fp, h.fv, fun j hj => Nat.lt_of_lt_of_le (h.flt j hj) k.size, h.lt⟩
theorem new (h : WrV w F p v bs e) (o : Obj) : WrV (w.alloc o) F p v bs e := h.kept (G := No) ((Kept.refl _ _).alloc o) (fun _ _ h => h)
theorem shape (h : WrV w F p v bs e) : (v = .slice none 0 0 ∧ bs = []) ∨ ∃ g cap, v = .slice (some ⟨g, 0, none⟩) bs.length cap ∧ g ≠ p := by
  rcases owns_cells h.own with ⟨h1, h2⟩ | ⟨g, cap, h1, _⟩
  · exact .inl ⟨h1, List.eq_nil_of_length_eq_zero h2⟩
  · refine .inr ⟨g, cap, h1, ?_⟩
    obtain ⟨_, h3 | ⟨g', cap', cur, h3, _, hg, _⟩⟩ := h.own
    · rw [h1] at h3; cases h3.1
    · rw [h1] at h3; injection h3 with h4 _ _; injection h4 with h4; injection h4 with h4 _ _; subst h4
      rintro rfl
      rw [h.obj] at hg; simp at hg
theorem pne (h : WrV w F p v bs e) : v.ownBlock ≠ some p := by
  rcases h.shape with ⟨rfl, _⟩ | ⟨g, cap, rfl, hne⟩
  · simp [Value.ownBlock]
  · simpa [Value.ownBlock] using hne
/-- behind an append, its value laid into the field -/
theorem grew {v' : Value} {bs' : List Nat} (h : WrV w F p v bs e) (hg : w.grownBy w' v.ownBlock) (ho : w'.ownsRow 0 5 1 v' bs'.length (bs'.map bv)) (ha : v'.ownBlock = v.ownBlock ∨ v'.ownBlock = some w.heap.size) (hl : ∀ x ∈ bs', x < 256) :
    ∃ F', WrV (w'.setCell ⟨p, 0, none⟩ v') F' p v' bs' e ∧ Went F w (w'.setCell ⟨p, 0, none⟩ v') F' := by
  have hsz := hg.size
  have hplt := h.plt
  have hp' : w'.heap[p]? = some (.cells #[v, .int .i64 e] 76 (0, 0)) := (hg.block p hplt (fun e => h.pne e.symm)).trans h.obj
  have hne : ∀ g, v'.ownBlock = some g → g ≠ p := by
    intro g hgv
    rcases ha with h1 | h1
    · rintro rfl; rw [h1] at hgv; exact h.pne hgv
    · rw [h1] at hgv; injection hgv with hgv; omega
  have hkp : Kept (fun k => k = p) w' (w'.setCell ⟨p, 0, none⟩ v') := (Kept.refl (fun k => k = p) w').setCell (p := ⟨p, 0, none⟩) (.inl rfl) _
  refine ⟨fun k => F k ∨ (k = w.heap.size ∧ k < w'.heap.size), ⟨?_, hkp.owns ho (fun g hg => hne g hg), .inl h.fp, ?_, ?_, hl⟩, ?_, ?_⟩
  · simp [World.setCell, Array.getElem?_modify, hp']
  · intro g hgv
    rcases ha with h1 | h1
    · rw [h1] at hgv; exact .inl (h.fv g hgv)
    · have := (ho.lt g hgv).2
      rw [h1] at hgv; injection hgv with hgv
      exact .inr ⟨hgv.symm, this⟩
  · intro k hk
    have : k < w'.heap.size := by rcases hk with h1 | h1; exact Nat.lt_of_lt_of_le (h.flt k h1) hsz; exact h1.2
    simpa [World.setCell] using this
  · exact ((Kept.refl F w).grown hg (fun k hk => .inl (h.fv k hk))).trans hkp (fun k hk => .inl (by rw [hk]; exact h.fp))
  · intro k hk; rcases hk with h1 | h1; exact .inl h1; exact .inr (by omega)
theorem put1 (h : WrV w F p v bs e) (e' : Int) : WrV (w.setCell ⟨p, 1, none⟩ (.int .i64 e')) F p v bs e' := by
  have hkp : Kept (fun k => k = p) w (w.setCell ⟨p, 1, none⟩ (.int .i64 e')) := (Kept.refl (fun k => k = p) w).setCell (p := ⟨p, 1, none⟩) (.inl rfl) _
  refine ⟨?_, hkp.owns h.own (fun g hg e => h.pne (by rw [hg, e])), h.fp, h.fv, fun k hk => by simpa [World.setCell] using h.flt k hk, h.lt⟩
  simp [World.setCell, Array.getElem?_modify, h.obj]
end WrV

theorem run_shr (P : Program) (k : IntKind) (x s : Nat) (yk : IntKind) (hs : s ≤ k.bits) (w : World) : (Op.shift .shr k (x : Int) yk (s : Int)).run P w = .ok (.int k ((x / 2 ^ s : Nat) : Int)) w := by
  have h0 : ¬ ((s : Int) < 0) := by omega
  have h1 : min (s : Int).toNat k.bits = s := by rw [Int.toNat_natCast]; omega
  unfold Op.shift
  rw [if_neg h0]
  simp only [h1]
  rw [Int.fdiv_eq_ediv_of_nonneg _ (by have : (0 : Int) < 2 ^ s := Int.pow_pos (by omega); omega)]
  simp

/-- the lowest bytes of x, of so many, the highest first -/
def be (x width : Nat) : List Nat := (List.range width).map (fun j => x / 2 ^ (8 * (width - 1 - j)) % 256)
theorem be_length (x width : Nat) : (be x width).length = width := by simp [be]
theorem be_get (x width k : Nat) (h : k < width) : (be x width)[k]? = some (x / 2 ^ (8 * (width - 1 - k)) % 256) := by simp [be, h]
theorem be_take (x width k : Nat) (h : k < width) : (be x width).take (k + 1) = (be x width).take k ++ [x / 2 ^ (8 * (width - 1 - k)) % 256] := by
  rw [List.take_add_one, be_get x width k h]; rfl
theorem be_all (x width k : Nat) (h : width ≤ k) : (be x width).take k = be x width := List.take_of_length_le (by rw [be_length]; exact h)
theorem be_lt (x width : Nat) : ∀ y ∈ be x width, y < 256 := by
  intro y hy; unfold be at hy; rw [List.mem_map] at hy; obtain ⟨j, _, rfl⟩ := hy; exact Nat.mod_lt _ (by decide)

/-- behind an append onto the Writer's own slice: what the store into its field wants, and what it leaves -/
theorem WrV.appended {W0 W w1 : World} {F : Nat → Prop} {p m : Nat} {bs news : List Nat} {e : Int} {v v1 : Value} (h0 : WrV W0 F p v bs e) (hk : Kept No W0 W) (own1 : w1.ownsRow 0 5 1 v1 (bs.length + m) (bs.map bv ++ news.map bv)) (hm : news.length = m)
    (grow1 : W.grownBy w1 v.ownBlock) (at1 : v1.ownBlock = v.ownBlock ∨ v1.ownBlock = some W.heap.size) (hl : ∀ x ∈ news, x < 256) :
    ∃ a n c, v1 = .slice a n c ∧ w1.cell? ⟨p, 0, none⟩ = some v ∧ w1.frozen? ⟨p, 0, none⟩ = false ∧ ∃ F', Hid (WrV (w1.setCell ⟨p, 0, none⟩ (.slice a n c)) F' p (.slice a n c) (bs ++ news) e ∧ Went F W0 (w1.setCell ⟨p, 0, none⟩ (.slice a n c)) F') := by
  have h := h0.kept hk (fun _ _ h => h)
  have hp' : w1.heap[p]? = some (.cells #[v, .int .i64 e] 76 (0, 0)) := (grow1.block p h.plt (fun e => h.pne e.symm)).trans h.obj
  have hsh : ∃ a n c, v1 = .slice a n c := by
    rcases owns_cells own1 with ⟨rfl, _⟩ | ⟨g, cap, rfl, _⟩
    · exact ⟨_, _, _, rfl⟩
    · exact ⟨_, _, _, rfl⟩
  obtain ⟨a, n, c, rfl⟩ := hsh
  have ho : w1.ownsRow 0 5 1 (.slice a n c) (bs ++ news).length ((bs ++ news).map bv) := by
    rw [List.length_append, hm, List.map_append]; exact own1
  obtain ⟨F', h1, h2⟩ := h.grew grow1 ho at1 (fun x hx => by rcases List.mem_append.1 hx with h1 | h1; exact h.lt x h1; exact hl x h1)
  refine ⟨a, n, c, rfl, by simp [World.cell?, hp'], by simp [World.frozen?, hp'], F', h1, ?_⟩
  exact Went.trans (G := F) ⟨hk.mono (fun _ h => h.elim), fun _ h => .inl h⟩ h2

set_option maxHeartbeats 1000000 in
theorem lay_any (F : Nat → Prop) (p : Nat) (bs : List Nat) (e : Int) (x width : Nat) (w : World) (hx : x < 18446744073709551616) (hw : width ≤ 8) (h : Wr w F p bs e) (hsz : bs.length ≤ 140737488355300) :
    Calls Tryz.prog 63 #[.pointer (some ⟨p, 0, none⟩), .int .u64 x, .int .i64 width] w fun ex w' => ex = .returned (.tuple #[]) ∧ ∃ F', Wr w' F' p (bs ++ be x width) e ∧ Went F w w' F' := by
  obtain ⟨i0, hi, hz0, hz1, hz2⟩ := info_parts Tryz.info5
  have H : Hid (Wr w F p bs e) := h
  clear h
  go_enter Tryz.func63, Tryz.ntmps63
  go_wp2
  go_loopw [6] (fun q wr => ∃ k : Nat, k ≤ width ∧ q = .int .i64 ((width : Int) - 1 - k) ∧ ∃ F' v, WrV wr F' p v (bs ++ (be x width).take k) e ∧ Went F w wr F') (fun i _ => (intOf i + 1).toNat)
  case atStart =>
    obtain ⟨v, hv⟩ := H.out
    exact ⟨0, by omega, by go_num, F, v, by simpa using hv, Went.refl _ _⟩
  case round =>
    obtain ⟨k, hk, rfl, F', v, hv, hwent⟩ := hrel
    by_cases hlt : k < width
    · have c0 := hv.c0
      have c1 := hv.c1
      have f0 := hv.fz 0
      have hp := hv.plt
      obtain ⟨s, hs⟩ : ∃ s : Nat, s = 8 * (width - 1 - k) := ⟨_, rfl⟩
      obtain ⟨y, hy⟩ : ∃ y : Nat, y = x / 2 ^ s % 256 := ⟨_, rfl⟩
      have e1 : IntKind.i64.wrap (8 * ((width : Int) - 1 - k)) = (s : Int) := by rw [IntKind.wrap_i64]; omega
      have e3 : IntKind.u8.wrap ((x : Int) / 2 ^ min s 64) = (y : Int) := by rw [hy, IntKind.wrap_u8, Nat.min_eq_left (by omega)]; simp
      have HY : Hid (y = x / 2 ^ (8 * (width - 1 - k)) % 256) := by rw [hy, hs]; rfl
      have HV : Hid (WrV wr F' p v (bs ++ (be x width).take k) e) := hv
      have HO : Hid (wr.ownsRow 0 5 1 v (bs ++ (be x width).take k).length ((bs ++ (be x width).take k).map bv)) := hv.own
      have HW : Hid (Went F w wr F') := hwent
      have hlen : (bs ++ (be x width).take k).length = bs.length + k := by rw [List.length_append, List.length_take, be_length]; omega
      have hlen2 : (bs ++ (be x width).take k).length + 1 ≤ 140737488355328 := by omega
      have HL2 : Hid ((bs ++ (be x width).take k).length + 1 ≤ 140737488355328) := hlen2
      clear hs hy hv hwent hlen hlen2
      go_wp2
      go_region_law (refine step_append_own rfl (.tmp 17) (.tmp 23) 22 rfl 0 5 i0 (.int .u8 0) 1 1 Tryz.underlying22 hi hz0 hz1 hz2 rfl (by decide) v _ _ rfl (((HO.out : World.ownsRow wr.drew 0 5 1 v _ _)).alloc _) ⟨wr.heap.size, 0, none⟩ 1 1 [.int .u8 y] rfl rfl (cell_one_new wr _ _) (one_one _ _) (by have := HL2.out; unfold maxLen; omega) (by have := HL2.out; omega) (Nat.zero_le _) ?_; intro v1 w1 own1 grow1 _ at1; obtain ⟨a2, n2, k2, rfl, c01, f01, F2, H2⟩ := WrV.appended (news := [y]) HV.out (((Kept.refl No wr).alloc _).drew) own1 rfl grow1 at1 (by intro q hq; simp at hq; subst hq; rw [HY.out]; exact Nat.mod_lt _ (by decide)); clear own1 grow1 at1)
      all_goals
        go_wp2
        go_roundw
        case rel =>
          refine ⟨k + 1, by omega, by go_num, F2, .slice a2 n2 k2, ?_, HW.out.trans H2.out.2⟩
          rw [be_take x width k hlt, ← HY.out, ← List.append_assoc]; exact H2.out.1
        case measure => simp [intOf]; omega
    · have hkw : k = width := by omega
      subst hkw
      rw [be_all _ _ _ (Nat.le_refl _)] at hv
      go_wp2
      go_end0
      exact ⟨rfl, F', ⟨v, hv⟩, hwent⟩

end Go.Proofs.YtkmpgcgdamcikaaGreatDoor

namespace Go.Proofs.YtkmpgcgdamcikaaGreatDoor
open Go.RowKit
set_option linter.unusedVariables false
set_option maxRecDepth 100000

theorem gate_no (f : Value) (p : Nat) (e : Int) (w : World) (c1 : w.cell? ⟨p, 1, none⟩ = some (.int .i64 e)) (he : (e == 0) = false) :
    Calls Tryz.prog 48 #[.pointer (some ⟨p, 0, none⟩), f] w fun ex w' => ex = .returned (.tuple #[]) ∧ w' = w := by
  go_enter Tryz.func48, Tryz.ntmps48
  go_wp2
  go_end0
  exact ⟨rfl, rfl⟩

set_option maxHeartbeats 1000000 in
theorem gate_number (q0 q1 q2 : Value) (p : Nat) (w : World) (R : World → Prop) (e1 : Int) (c1 : w.cell? ⟨p, 1, none⟩ = some (.int .i64 0))
    (hdo : Calls Tryz.prog 62 #[q0, q1, q2] w fun ex w1 => ex = .returned (.int .i64 e1) ∧ R w1) (hR : ∀ w1, R w1 → (∃ u, w1.cell? ⟨p, 1, none⟩ = some (.int .i64 u)) ∧ w1.frozen? ⟨p, 1, none⟩ = false) :
    Calls Tryz.prog 48 #[.pointer (some ⟨p, 0, none⟩), .func (.func 62) #[] #[q0, q1, q2]] w fun ex w' => ex = .returned (.tuple #[]) ∧ ∃ w1, R w1 ∧ w' = w1.setCell ⟨p, 1, none⟩ (.int .i64 e1) := by
  have HR : Hid (∀ w1, R w1 → (∃ u, w1.cell? ⟨p, 1, none⟩ = some (.int .i64 u)) ∧ w1.frozen? ⟨p, 1, none⟩ = false) := hR
  clear hR
  go_enter Tryz.func48, Tryz.ntmps48
  go_wp2_with (go_at_call 62; refine hdo.mono ?_; rintro ex w1 ⟨rfl, hr⟩; obtain ⟨⟨u, c11⟩, f11⟩ := HR.out w1 hr)
  go_end0
  exact ⟨rfl, w1, hr, rfl⟩

set_option maxHeartbeats 1000000 in
theorem gate_Bytes (q0 q1 : Value) (p : Nat) (w : World) (R : World → Prop) (e1 : Int) (c1 : w.cell? ⟨p, 1, none⟩ = some (.int .i64 0))
    (hdo : Calls Tryz.prog 65 #[q0, q1] w fun ex w1 => ex = .returned (.int .i64 e1) ∧ R w1) (hR : ∀ w1, R w1 → (∃ u, w1.cell? ⟨p, 1, none⟩ = some (.int .i64 u)) ∧ w1.frozen? ⟨p, 1, none⟩ = false) :
    Calls Tryz.prog 48 #[.pointer (some ⟨p, 0, none⟩), .func (.func 65) #[] #[q0, q1]] w fun ex w' => ex = .returned (.tuple #[]) ∧ ∃ w1, R w1 ∧ w' = w1.setCell ⟨p, 1, none⟩ (.int .i64 e1) := by
  have HR : Hid (∀ w1, R w1 → (∃ u, w1.cell? ⟨p, 1, none⟩ = some (.int .i64 u)) ∧ w1.frozen? ⟨p, 1, none⟩ = false) := hR
  clear hR
  go_enter Tryz.func48, Tryz.ntmps48
  go_wp2_with (go_at_call 65; refine hdo.mono ?_; rintro ex w1 ⟨rfl, hr⟩; obtain ⟨⟨u, c11⟩, f11⟩ := HR.out w1 hr)
  go_end0
  exact ⟨rfl, w1, hr, rfl⟩

set_option maxHeartbeats 1000000 in
theorem gate_Done (q0 q1 : Value) (p : Nat) (w : World) (R : World → Prop) (e1 : Int) (c1 : w.cell? ⟨p, 1, none⟩ = some (.int .i64 0))
    (hdo : Calls Tryz.prog 49 #[q0, q1] w fun ex w1 => ex = .returned (.int .i64 e1) ∧ R w1) (hR : ∀ w1, R w1 → (∃ u, w1.cell? ⟨p, 1, none⟩ = some (.int .i64 u)) ∧ w1.frozen? ⟨p, 1, none⟩ = false) :
    Calls Tryz.prog 48 #[.pointer (some ⟨p, 0, none⟩), .func (.func 49) #[] #[q0, q1]] w fun ex w' => ex = .returned (.tuple #[]) ∧ ∃ w1, R w1 ∧ w' = w1.setCell ⟨p, 1, none⟩ (.int .i64 e1) := by
  have HR : Hid (∀ w1, R w1 → (∃ u, w1.cell? ⟨p, 1, none⟩ = some (.int .i64 u)) ∧ w1.frozen? ⟨p, 1, none⟩ = false) := hR
  clear hR
  go_enter Tryz.func48, Tryz.ntmps48
  go_wp2_with (go_at_call 49; refine hdo.mono ?_; rintro ex w1 ⟨rfl, hr⟩; obtain ⟨⟨u, c11⟩, f11⟩ := HR.out w1 hr)
  go_end0
  exact ⟨rfl, w1, hr, rfl⟩

end Go.Proofs.YtkmpgcgdamcikaaGreatDoor

namespace Go.Proofs.YtkmpgcgdamcikaaGreatDoor
open Go.RowKit
set_option linter.unusedVariables false
set_option maxRecDepth 100000

/-- what the Writer holds behind a number -/
def numBs (bs : List Nat) (e x : Int) (width : Nat) : List Nat := if e ≠ 0 then bs else if x < 0 ∨ 2 ^ (8 * width) ≤ x then bs else bs ++ be x.toNat width
def numE (e x : Int) (width : Nat) : Int := if e ≠ 0 then e else if x < 0 ∨ 2 ^ (8 * width) ≤ x then 2 else 0

theorem newWriter_any (w : World) : Calls Tryz.prog 27 #[] w fun ex w' => ex = .returned (.pointer (some ⟨w.heap.size, 0, none⟩)) ∧ w' = w.alloc (.cells #[.slice none 0 0, .int .i64 0] 76) := by
  go_enter Tryz.func27, Tryz.ntmps27
  go_wp2
  go_ret
  exact ⟨rfl, rfl⟩

/-- a Writer's call: what it leaves -/
def WrDid (F : Nat → Prop) (p : Nat) (bs' : List Nat) (e' : Int) (w w' : World) : Prop := ∃ F', Wr w' F' p bs' e' ∧ Went F w w' F'

theorem WrDid.cells {F : Nat → Prop} {p : Nat} {bs' : List Nat} {e' : Int} {w w1 : World} (h : WrDid F p bs' e' w w1) : (∃ u, w1.cell? ⟨p, 1, none⟩ = some (.int .i64 u)) ∧ w1.frozen? ⟨p, 1, none⟩ = false := by
  obtain ⟨F', ⟨v, hv⟩, _⟩ := h
  exact ⟨⟨_, hv.c1⟩, hv.fz 1⟩
theorem WrDid.put1 {F : Nat → Prop} {p : Nat} {bs' : List Nat} {e' : Int} {w w1 : World} (h : WrDid F p bs' e' w w1) (e : Int) : WrDid F p bs' e w (w1.setCell ⟨p, 1, none⟩ (.int .i64 e)) := by
  obtain ⟨F', ⟨v, hv⟩, hw⟩ := h
  exact ⟨F', ⟨v, hv.put1 e⟩, hw.trans ⟨(Kept.refl _ _).setCell (p := ⟨p, 1, none⟩) (.inl hv.fp) _, fun _ h => .inl h⟩⟩
theorem WrDid.ahead {F : Nat → Prop} {p : Nat} {bs' : List Nat} {e' : Int} {w0 w w1 : World} (h : WrDid F p bs' e' w w1) (hk : Kept No w0 w) : WrDid F p bs' e' w0 w1 := by
  obtain ⟨F', hv, hw⟩ := h
  exact ⟨F', hv, Went.trans (G := F) ⟨hk.mono (fun _ h => h.elim), fun _ h => .inl h⟩ hw⟩
theorem WrDid.still {F : Nat → Prop} {p : Nat} {bs : List Nat} {e : Int} {w w1 : World} (h : Wr w F p bs e) (hk : Kept No w w1) : WrDid F p bs e w w1 := by
  obtain ⟨v, hv⟩ := h
  exact ⟨F, ⟨v, hv.kept hk (fun _ _ h => h)⟩, hk.mono (fun _ h => h.elim), fun _ h => .inl h⟩

theorem Wr.kept {F G : Nat → Prop} {p : Nat} {bs : List Nat} {e : Int} {w w1 : World} (h : Wr w F p bs e) (hk : Kept G w w1) (hd : ∀ b, F b → ¬ G b) : Wr w1 F p bs e := by
  obtain ⟨v, hv⟩ := h
  exact ⟨v, hv.kept hk hd⟩
theorem Wr.drewN {F : Nat → Prop} {p : Nat} {bs : List Nat} {e : Int} {w : World} (h : Wr w F p bs e) (n : Nat) : Wr (w.drewN n) F p bs e := h.kept ((Kept.refl No _).drewN n) (fun _ _ h => h)

set_option maxHeartbeats 1000000 in
set_option maxRecDepth 100000 in
theorem number1_any (F : Nat → Prop) (p : Nat) (bs : List Nat) (x : Int) (width : Nat) (w : World) (b1 b2 b3 : Nat) (hw : width = 1 ∨ width = 2 ∨ width = 4) (h : Wr w F p bs 0) (hsz : bs.length ≤ 140737488355300) (hx : x ≤ 9223372036854775807)
    (d1 : w.cell? ⟨b1, 0, none⟩ = some (.int .i64 x)) (d2 : w.cell? ⟨b2, 0, none⟩ = some (.int .i64 width)) (d3 : w.cell? ⟨b3, 0, none⟩ = some (.pointer (some ⟨p, 0, none⟩))) :
    Calls Tryz.prog 62 #[.pointer (some ⟨b1, 0, none⟩), .pointer (some ⟨b2, 0, none⟩), .pointer (some ⟨b3, 0, none⟩)] w fun ex w' => ex = .returned (.int .i64 (numE 0 x width)) ∧ WrDid F p (numBs bs 0 x width) 0 w w' := by
  have H : Hid (Wr w F p bs 0) := h
  clear h
  by_cases h1 : x < 0
  · have e1 : numE 0 x width = 2 := by unfold numE; rw [if_neg (by simp), if_pos (.inl h1)]
    have e2 : numBs bs 0 x width = bs := by unfold numBs; rw [if_neg (by simp), if_pos (.inl h1)]
    rw [e1, e2]
    go_enter Tryz.func62, Tryz.ntmps62
    go_wp2
    go_quiet (fail)
    go_wp2
    go_ret
    exact ⟨rfl, WrDid.still H.out ((Kept.refl _ _).drewN _)⟩
  · have w1 : IntKind.i64.wrap 8 = 8 := by rw [IntKind.wrap_i64]; omega
    have w2 : IntKind.i64.wrap 16 = 16 := by rw [IntKind.wrap_i64]; omega
    have w3 : IntKind.i64.wrap 32 = 32 := by rw [IntKind.wrap_i64]; omega
    have w4 : IntKind.i64.wrap 256 = 256 := by rw [IntKind.wrap_i64]; omega
    have w5 : IntKind.i64.wrap 65536 = 65536 := by rw [IntKind.wrap_i64]; omega
    have w6 : IntKind.i64.wrap 4294967296 = 4294967296 := by rw [IntKind.wrap_i64]; omega
    have hL : ∃ lim : Nat, lim = 2 ^ (8 * width) ∧ (lim = 256 ∨ lim = 65536 ∨ lim = 4294967296) := by
      rcases hw with rfl | rfl | rfl
      · exact ⟨256, by decide, .inl rfl⟩
      · exact ⟨65536, by decide, .inr (.inl rfl)⟩
      · exact ⟨4294967296, by decide, .inr (.inr rfl)⟩
    obtain ⟨lim, hlim, hl3⟩ := hL
    by_cases h2 : (lim : Int) ≤ x
    · have h3 : x < 0 ∨ 2 ^ (8 * width) ≤ x := .inr (by rw [hlim] at h2; simpa using h2)
      have e1 : numE 0 x width = 2 := by unfold numE; rw [if_neg (by simp), if_pos h3]
      have e2 : numBs bs 0 x width = bs := by unfold numBs; rw [if_neg (by simp), if_pos h3]
      rw [e1, e2]
      clear e1 e2 h3
      rcases hw with rfl | rfl | rfl
      · have h4 : (256 : Int) ≤ x := by rw [hlim] at h2; simpa using h2
        clear hlim hl3 h2
        go_enter Tryz.func62, Tryz.ntmps62
        go_wp2
        go_quiet (fail)
        go_wp2
        go_ret
        exact ⟨rfl, WrDid.still H.out ((Kept.refl _ _).drewN _)⟩
      · have h4 : (65536 : Int) ≤ x := by rw [hlim] at h2; simpa using h2
        clear hlim hl3 h2
        go_enter Tryz.func62, Tryz.ntmps62
        go_wp2
        go_quiet (fail)
        go_wp2
        go_ret
        exact ⟨rfl, WrDid.still H.out ((Kept.refl _ _).drewN _)⟩
      · have h4 : (4294967296 : Int) ≤ x := by rw [hlim] at h2; simpa using h2
        clear hlim hl3 h2
        go_enter Tryz.func62, Tryz.ntmps62
        go_wp2
        go_quiet (fail)
        go_wp2
        go_ret
        exact ⟨rfl, WrDid.still H.out ((Kept.refl _ _).drewN _)⟩
    · have h3 : ¬ (x < 0 ∨ 2 ^ (8 * width) ≤ x) := by
        rw [hlim] at h2; rintro (h | h)
        · omega
        · exact h2 (by simpa using h)
      have e1 : numE 0 x width = 0 := by unfold numE; rw [if_neg (by simp), if_neg h3]
      have e2 : numBs bs 0 x width = bs ++ be x.toNat width := by unfold numBs; rw [if_neg (by simp), if_neg h3]
      rw [e1, e2]
      clear e1 e2 h3
      obtain ⟨n, rfl⟩ : ∃ n : Nat, x = n := ⟨x.toNat, by omega⟩
      rw [Int.toNat_natCast]
      have hn : n < 18446744073709551616 := by omega
      have e5 : IntKind.u64.wrap (n : Int) = (n : Int) := by rw [IntKind.wrap_u64]; omega
      have c : ∀ wx width, width ≤ 8 → Wr wx F p bs 0 → Calls Tryz.prog 63 #[.pointer (some ⟨p, 0, none⟩), .int .u64 (n : Int), .int .i64 ((width : Nat) : Int)] wx fun ex w' => ex = .returned (.tuple #[]) ∧ WrDid F p (bs ++ be n width) 0 wx w' := fun wx width h8 h => lay_any F p bs 0 n width wx hn h8 h hsz
      rcases hw with rfl | rfl | rfl
      · have h4 : (n : Int) < 256 := by rw [hlim] at h2; simpa using h2
        have k0 : decide ((n : Int) < 0) = false := by simp
        have k1 : decide ((256 : Int) ≤ (n : Int)) = false := decide_eq_false (by omega)
        clear hlim hl3 h2 h4 hx h1 hn
        have c' : ∀ wx, Wr wx F p bs 0 → Calls Tryz.prog 63 #[.pointer (some ⟨p, 0, none⟩), .int .u64 (n : Int), .int .i64 1] wx fun ex w' => ex = .returned (.tuple #[]) ∧ WrDid F p (bs ++ be n 1) 0 wx w' := fun wx h => c wx 1 (by omega) h
        clear c
        go_enter Tryz.func62, Tryz.ntmps62
        go_wp2
        go_quiet (fail)
        go_wp2_with (go_at_call 63; refine (c' _ (H.out.drewN _)).mono ?_; rintro ex w1 ⟨rfl, hd⟩)
        go_ret
        exact ⟨rfl, hd.ahead ((Kept.refl _ _).drewN _)⟩
      · have h4 : (n : Int) < 65536 := by rw [hlim] at h2; simpa using h2
        have k0 : decide ((n : Int) < 0) = false := by simp
        have k1 : decide ((65536 : Int) ≤ (n : Int)) = false := decide_eq_false (by omega)
        clear hlim hl3 h2 h4 hx h1 hn
        have c' : ∀ wx, Wr wx F p bs 0 → Calls Tryz.prog 63 #[.pointer (some ⟨p, 0, none⟩), .int .u64 (n : Int), .int .i64 2] wx fun ex w' => ex = .returned (.tuple #[]) ∧ WrDid F p (bs ++ be n 2) 0 wx w' := fun wx h => c wx 2 (by omega) h
        clear c
        go_enter Tryz.func62, Tryz.ntmps62
        go_wp2
        go_quiet (fail)
        go_wp2_with (go_at_call 63; refine (c' _ (H.out.drewN _)).mono ?_; rintro ex w1 ⟨rfl, hd⟩)
        go_ret
        exact ⟨rfl, hd.ahead ((Kept.refl _ _).drewN _)⟩
      · have h4 : (n : Int) < 4294967296 := by rw [hlim] at h2; simpa using h2
        have k0 : decide ((n : Int) < 0) = false := by simp
        have k1 : decide ((4294967296 : Int) ≤ (n : Int)) = false := decide_eq_false (by omega)
        clear hlim hl3 h2 h4 hx h1 hn
        have c' : ∀ wx, Wr wx F p bs 0 → Calls Tryz.prog 63 #[.pointer (some ⟨p, 0, none⟩), .int .u64 (n : Int), .int .i64 4] wx fun ex w' => ex = .returned (.tuple #[]) ∧ WrDid F p (bs ++ be n 4) 0 wx w' := fun wx h => c wx 4 (by omega) h
        clear c
        go_enter Tryz.func62, Tryz.ntmps62
        go_wp2
        go_quiet (fail)
        go_wp2_with (go_at_call 63; refine (c' _ (H.out.drewN _)).mono ?_; rintro ex w1 ⟨rfl, hd⟩)
        go_ret
        exact ⟨rfl, hd.ahead ((Kept.refl _ _).drewN _)⟩

end Go.Proofs.YtkmpgcgdamcikaaGreatDoor

namespace Go.Proofs.YtkmpgcgdamcikaaGreatDoor
open Go.RowKit
set_option linter.unusedVariables false
set_option maxRecDepth 100000

theorem Wr.box2 {F : Nat → Prop} {p : Nat} {bs : List Nat} {e : Int} {w : World} (h : Wr w F p bs e) (a b : Obj) : Wr ((w.alloc a).alloc b) F p bs e := h.kept (((Kept.refl No w).alloc _).alloc _) (fun _ _ h => h)
theorem Wr.box3 {F : Nat → Prop} {p : Nat} {bs : List Nat} {e : Int} {w : World} (h : Wr w F p bs e) (a b c : Obj) : Wr (((w.alloc a).alloc b).alloc c) F p bs e := h.kept ((((Kept.refl No w).alloc _).alloc _).alloc _) (fun _ _ h => h)
theorem Wr.c1 {F : Nat → Prop} {p : Nat} {bs : List Nat} {e : Int} {w : World} (h : Wr w F p bs e) : w.cell? ⟨p, 1, none⟩ = some (.int .i64 e) := by obtain ⟨v, hv⟩ := h; exact hv.c1

theorem size_alloc (w : World) (o : Obj) : (w.alloc o).heap.size = w.heap.size + 1 := by simp
theorem cell_new (w : World) (u : Value) (t : TypeId) (b : Nat) (hb : b = w.heap.size) : (w.alloc (.cells #[u] t)).cell? ⟨b, 0, none⟩ = some u := by subst hb; simp
theorem cell_old (w : World) (o : Obj) (a : Addr) (h : a.block < w.heap.size) : (w.alloc o).cell? a = w.cell? a := World.cell?_of_block (Below.heap_alloc _ _ _ h)

set_option maxHeartbeats 1000000 in
theorem number_any (F : Nat → Prop) (p : Nat) (bs : List Nat) (e x : Int) (width : Nat) (w : World) (hw : width = 1 ∨ width = 2 ∨ width = 4) (h : Wr w F p bs e) (hsz : bs.length ≤ 140737488355300) (hx : x ≤ 9223372036854775807) :
    Calls Tryz.prog 45 #[.pointer (some ⟨p, 0, none⟩), .int .i64 x, .int .i64 width] w fun ex w' => ex = .returned (.tuple #[]) ∧ WrDid F p (numBs bs e x width) (numE e x width) w w' := by
  have hmf : ∀ (fn : Fn) (first cap : Array Value) (w : World), (Instr.makeFunc fn first cap).run Tryz.prog w = .ok (.func fn first cap) w := fun _ _ _ _ => rfl
  have H : Hid (Wr w F p bs e) := h
  clear h
  by_cases he : e = 0
  · subst he
    obtain ⟨W, hW⟩ : ∃ W, W = (((w.alloc (.cells #[.pointer (some ⟨p, 0, none⟩)] 56)).alloc (.cells #[.int .i64 x] 3)).alloc (.cells #[.int .i64 width] 3)) := ⟨_, rfl⟩
    have d1 : W.cell? ⟨w.heap.size + 1, 0, none⟩ = some (.int .i64 x) := by rw [hW, cell_old _ _ _ (by simp)]; exact cell_new _ _ _ _ (by simp)
    have d2 : W.cell? ⟨w.heap.size + 1 + 1, 0, none⟩ = some (.int .i64 width) := by rw [hW]; exact cell_new _ _ _ _ (by simp)
    have d3 : W.cell? ⟨w.heap.size, 0, none⟩ = some (.pointer (some ⟨p, 0, none⟩)) := by rw [hW, cell_old _ _ _ (by simp; omega), cell_old _ _ _ (by simp)]; exact cell_new _ _ _ _ rfl
    have hWr : Wr W F p bs 0 := by rw [hW]; exact H.out.box3 _ _ _
    have c := gate_number _ _ _ p _ (WrDid F p (numBs bs 0 x width) 0 _) (numE 0 x width) hWr.c1 (number1_any F p bs x width _ _ _ _ hw hWr hsz hx d1 d2 d3) (fun _ h => h.cells)
    rw [hW] at c
    clear d1 d2 d3 hWr hW
    go_enter Tryz.func45, Tryz.ntmps45
    go_wp2_with (go_at_call 48; refine c.mono ?_; rintro ex w1 ⟨rfl, w2, hd, rfl⟩)
    go_end0
    exact ⟨rfl, (hd.put1 _).ahead ((((Kept.refl No w).alloc _).alloc _).alloc _)⟩
  · have he2 : (e == 0) = false := by simpa using he
    have e1 : numE e x width = e := by unfold numE; rw [if_pos he]
    have e2 : numBs bs e x width = bs := by unfold numBs; rw [if_pos he]
    rw [e1, e2]
    go_enter Tryz.func45, Tryz.ntmps45
    go_wp2_with (go_at_call 48; refine (gate_no _ p e _ (H.out.box3 _ _ _).c1 he2).mono ?_; rintro ex w1 ⟨rfl, rfl⟩)
    go_end0
    exact ⟨rfl, WrDid.still H.out ((((Kept.refl No w).alloc _).alloc _).alloc _)⟩

theorem u8_any (F : Nat → Prop) (p : Nat) (bs : List Nat) (e x : Int) (w : World) (h : Wr w F p bs e) (hsz : bs.length ≤ 140737488355300) (hx : x ≤ 9223372036854775807) :
    Calls Tryz.prog 47 #[.pointer (some ⟨p, 0, none⟩), .int .i64 x] w fun ex w' => ex = .returned (.tuple #[]) ∧ WrDid F p (numBs bs e x 1) (numE e x 1) w w' := by
  have c : Calls Tryz.prog 45 #[.pointer (some ⟨p, 0, none⟩), .int .i64 x, .int .i64 1] w fun ex w' => ex = .returned (.tuple #[]) ∧ WrDid F p (numBs bs e x 1) (numE e x 1) w w' := number_any F p bs e x 1 w (by omega) h hsz hx
  clear h
  go_enter Tryz.func47, Tryz.ntmps47
  go_wp2_with (go_at_call 45; refine c.mono ?_; rintro ex w1 ⟨rfl, hd⟩)
  go_end0
  exact ⟨rfl, hd⟩

theorem u32_any (F : Nat → Prop) (p : Nat) (bs : List Nat) (e x : Int) (w : World) (h : Wr w F p bs e) (hsz : bs.length ≤ 140737488355300) (hx : x ≤ 9223372036854775807) :
    Calls Tryz.prog 28 #[.pointer (some ⟨p, 0, none⟩), .int .i64 x] w fun ex w' => ex = .returned (.tuple #[]) ∧ WrDid F p (numBs bs e x 4) (numE e x 4) w w' := by
  have c : Calls Tryz.prog 45 #[.pointer (some ⟨p, 0, none⟩), .int .i64 x, .int .i64 4] w fun ex w' => ex = .returned (.tuple #[]) ∧ WrDid F p (numBs bs e x 4) (numE e x 4) w w' := number_any F p bs e x 4 w (by omega) h hsz hx
  clear h
  go_enter Tryz.func28, Tryz.ntmps28
  go_wp2_with (go_at_call 45; refine c.mono ?_; rintro ex w1 ⟨rfl, hd⟩)
  go_end0
  exact ⟨rfl, hd⟩

/-- what the Writer holds behind bytes that it is always given -/
def layBs (bs : List Nat) (e : Int) (news : List Nat) : List Nat := if e ≠ 0 then bs else bs ++ news

end Go.Proofs.YtkmpgcgdamcikaaGreatDoor

namespace Go.Proofs.YtkmpgcgdamcikaaGreatDoor
open Go.RowKit
set_option linter.unusedVariables false
set_option maxRecDepth 100000

theorem step_append_none {P : Program} {ops : Array Oper} {o : Oper} {a : Act} {w : World} {K : Act → World → Prop} {Q : Exit → Act → World → Prop} {E : Prop}
    (hgd : o.guard = none) (s x : Operand) (t : TypeId) (ho : o.op = Op.call { callee := Callee.builtin Builtin.append, args := #[s, x], argTypes := #[t, t] })
    (base : Nat) (e : TypeId) (i : TypeInfo) (size : Nat) (ht : P.underlying t = some (.slice e)) (hi : P.info? e = some i)
    (v : Value) (n : Nat) (xs : List Value) (hs : a.eval s = v) (hown : w.ownsRow base e size v n xs) (hx : a.eval x = .slice none 0 0)
    (h : K (a.put o.dst v) w) :
    if Region.wanted o (yielded ops a.tmps) = true then Oper.wp P o a w K Q else E := by
  have hw : Region.wanted o (yielded ops a.tmps) = true := by simp [Region.wanted, hgd]
  rw [if_pos hw]
  have hrun := run_append_owned_none (P := P) (w := w) base t o.type e i size ht hi v n xs hown
  unfold Oper.wp
  simp [execOp, ho, resolve, invoke, builtin, hs, hx, hrun, Result.andThen]
  exact h

set_option maxHeartbeats 1000000 in
theorem clone_any (G : Nat → Prop) (a : Option Addr) (n c : Nat) (xs : List Nat) (w : World) (h : Bs w G a n c xs) (hsz : n ≤ 140737488355328) :
    Calls Tryz.prog 33 #[.slice a n c] w fun ex w' => ∃ v, ex = .returned v ∧ w'.ownsRow w.heap.size 5 1 v xs.length (xs.map bv) ∧ Below w.heap.size w w' := by
  obtain ⟨i0, hi, hz0, hz1, hz2⟩ := info_parts Tryz.info5
  have q22 : ∀ (w : World) (a : Option Addr) (n c n' c' : Nat), (binOp .eql 22 (.slice a n c) (.slice none n' c')).run Tryz.prog w = .ok (.bool a.isNone) w := fun w a n c n' c' => Lib.run_eql_slice_nil w _ _ a n c n' c' Tryz.underlying22
  have hb := h
  cases a with
  | none =>
    have hc0 := h.nil rfl
    have hn0 : n = 0 := by have := h.cap; omega
    have hx0 : xs = [] := List.eq_nil_of_length_eq_zero (by rw [h.len]; exact hn0)
    subst hc0 hn0 hx0
    clear h hb
    go_enter Tryz.func33, Tryz.ntmps33
    go_wp2
    go_ret
    exact ⟨_, rfl, World.ownsRow_nil _ _ _ _, Below.refl _ _⟩
  | some ad =>
    have HB : Hid (Bs w G (some ad) n c xs) := h
    have hl := h.len
    clear h hb
    go_enter Tryz.func33, Tryz.ntmps33
    go_wp2_with (at_builtin; refine wpList_append_own _ rfl _ _ 22 rfl w.heap.size 5 i0 (.int .u8 0) 1 1 Tryz.underlying22 hi hz0 hz1 hz2 rfl (by decide) _ 0 [] rfl (World.ownsRow_made w #[] 0 (Nat.le_refl _) (by unfold maxLen; omega) rfl) ad n c (xs.map bv) rfl (by rw [List.length_map, hl]; omega) (HB.out.kept ((Kept.refl No w).alloc _) (fun _ _ h => h)).news (bv_one _) (by unfold maxLen; omega) (by omega) (by simp) ?_; intro v1 w1 own1 grow1 _)
    have hb1 : Below w.heap.size w w1 := ((Below.refl w.heap.size w).alloc (Nat.le_refl _) _).grown grow1 (by simp) (fun k hk => by injection hk with hk; exact Nat.le_of_eq hk)
    rw [Nat.zero_add, List.nil_append, ← hl] at own1
    clear grow1
    go_wp2
    go_ret
    exact ⟨_, rfl, own1, hb1⟩

set_option maxHeartbeats 1000000 in
theorem bytes1_any (F G : Nat → Prop) (p : Nat) (bs : List Nat) (a : Option Addr) (n c : Nat) (xs : List Nat) (w : World) (b1 b2 : Nat) (hn1 : ¬ F b1) (h : Wr w F p bs 0) (hb : Bs w G a n c xs) (hsz : bs.length + n ≤ 140737488355328)
    (d1 : w.cell? ⟨b1, 0, none⟩ = some (.pointer (some ⟨p, 0, none⟩))) (d2 : w.cell? ⟨b2, 0, none⟩ = some (.slice a n c)) :
    Calls Tryz.prog 65 #[.pointer (some ⟨b1, 0, none⟩), .pointer (some ⟨b2, 0, none⟩)] w fun ex w' => ex = .returned (.int .i64 0) ∧ WrDid F p (bs ++ xs) 0 w w' := by
  obtain ⟨i0, hi, hz0, hz1, hz2⟩ := info_parts Tryz.info5
  obtain ⟨v, hv⟩ := h
  have c0 := hv.c0
  have f0 := hv.fz 0
  have hp := hv.plt
  have hl := hb.len
  have HV : Hid (WrV w F p v bs 0) := hv
  have HB : Hid (Bs w G a n c xs) := hb
  have HO : Hid (w.ownsRow 0 5 1 v bs.length (bs.map bv)) := hv.own
  cases a with
  | none =>
    have hc0 := hb.nil rfl
    have hn0 : n = 0 := by have := hb.cap; omega
    have hx0 : xs = [] := List.eq_nil_of_length_eq_zero (by rw [hl]; exact hn0)
    subst hc0 hn0 hx0
    have hsh : ∃ a n c, v = .slice a n c := by
      rcases hv.shape with ⟨h, _⟩ | ⟨g, cap, h, _⟩
      · exact ⟨_, _, _, h⟩
      · exact ⟨_, _, _, h⟩
    obtain ⟨a2, n2, k2, rfl⟩ := hsh
    have fin : WrDid F p (bs ++ []) 0 w (w.drew.setCell ⟨p, 0, none⟩ (.slice a2 n2 k2)) := by
      have hk : Kept (fun k => k = p) w (w.drew.setCell ⟨p, 0, none⟩ (.slice a2 n2 k2)) := ((Kept.refl (fun k => k = p) w).drew).setCell (p := ⟨p, 0, none⟩) (.inl rfl) _
      refine ⟨F, ⟨.slice a2 n2 k2, ?_, ?_, hv.fp, hv.fv, fun k hk2 => Nat.lt_of_lt_of_le (hv.flt k hk2) hk.size, ?_⟩, hk.mono (fun k hk => by rw [hk]; exact hv.fp), fun _ h => .inl h⟩
      · have := hv.obj
        show (w.setCell ⟨p, 0, none⟩ (.slice a2 n2 k2)).heap[p]? = _
        simp [World.setCell, Array.getElem?_modify, this]
      · rw [List.append_nil]; exact hk.owns hv.own (fun g hg e => hv.pne (by rw [hg, e]))
      · rw [List.append_nil]; exact hv.lt
    have FIN : Hid (WrDid F p (bs ++ []) 0 w (w.drew.setCell ⟨p, 0, none⟩ (.slice a2 n2 k2))) := fin
    clear hb hv fin
    go_enter Tryz.func65, Tryz.ntmps65
    go_wp2
    go_region_law (refine step_append_none rfl (.tmp 7) (.tmp 8) 22 rfl 0 5 i0 1 Tryz.underlying22 hi (.slice a2 n2 k2) _ _ rfl (HO.out : World.ownsRow w.drew 0 5 1 _ _ _) rfl ?_)
    all_goals
      go_wp2
      go_ret
      exact ⟨rfl, FIN.out⟩
  | some ad =>
    clear hb hv
    go_enter Tryz.func65, Tryz.ntmps65
    go_wp2
    go_region_law (refine step_append_own rfl (.tmp 7) (.tmp 8) 22 rfl 0 5 i0 (.int .u8 0) 1 1 Tryz.underlying22 hi hz0 hz1 hz2 rfl (by decide) v _ _ rfl (HO.out : World.ownsRow w.drew 0 5 1 v _ _) ad n c (xs.map bv) rfl (by rw [List.length_map, hl]; omega) (HB.out.kept ((Kept.refl No w).drew) (fun _ _ h => h)).news (bv_one _) (by unfold maxLen; omega) (by omega) (Nat.zero_le _) ?_; intro v1 w1 own1 grow1 _ at1; obtain ⟨a2, n2, k2, rfl, c01, f01, F2, H2⟩ := WrV.appended (news := xs) HV.out ((Kept.refl No w).drew) own1 hl grow1 at1 HB.out.lt; have d11 : w1.cell? ⟨b1, 0, none⟩ = some (.pointer (some ⟨p, 0, none⟩)) := grow1.cell (w := w.drew) d1 (fun e => hn1 (HV.out.fv b1 e.symm)); clear own1 grow1 at1)
    all_goals
      go_wp2
      go_ret
      exact ⟨rfl, F2, ⟨_, H2.out.1⟩, H2.out.2⟩

set_option maxHeartbeats 1000000 in
theorem bytes_any (F G : Nat → Prop) (p : Nat) (bs : List Nat) (e : Int) (a : Option Addr) (n c : Nat) (xs : List Nat) (w : World) (h : Wr w F p bs e) (hb : Bs w G a n c xs) (hsz : bs.length + n ≤ 140737488355328) :
    Calls Tryz.prog 50 #[.pointer (some ⟨p, 0, none⟩), .slice a n c] w fun ex w' => ex = .returned (.tuple #[]) ∧ WrDid F p (layBs bs e xs) e w w' := by
  have hmf : ∀ (fn : Fn) (first cap : Array Value) (w : World), (Instr.makeFunc fn first cap).run Tryz.prog w = .ok (.func fn first cap) w := fun _ _ _ _ => rfl
  have H : Hid (Wr w F p bs e) := h
  clear h
  by_cases he : e = 0
  · subst he
    rw [show layBs bs 0 xs = bs ++ xs from if_neg (by simp)]
    obtain ⟨W, hW⟩ : ∃ W, W = ((w.alloc (.cells #[.pointer (some ⟨p, 0, none⟩)] 56)).alloc (.cells #[.slice a n c] 22)) := ⟨_, rfl⟩
    have d2 : W.cell? ⟨w.heap.size + 1, 0, none⟩ = some (.slice a n c) := by rw [hW]; exact cell_new _ _ _ _ (by simp)
    have d1 : W.cell? ⟨w.heap.size, 0, none⟩ = some (.pointer (some ⟨p, 0, none⟩)) := by rw [hW, cell_old _ _ _ (by simp)]; exact cell_new _ _ _ _ rfl
    have hWr : Wr W F p bs 0 := by rw [hW]; exact H.out.box2 _ _
    have hBW : Bs W G a n c xs := by rw [hW]; exact hb.kept (((Kept.refl No w).alloc _).alloc _) (fun _ _ h => h)
    have cc := gate_Bytes _ _ p _ (WrDid F p (bs ++ xs) 0 _) 0 hWr.c1 (bytes1_any F G p bs a n c xs _ _ _ (fun hf => by obtain ⟨v, hv⟩ := H.out; have := hv.flt _ hf; omega) hWr hBW hsz d1 d2) (fun _ h => h.cells)
    rw [hW] at cc
    clear d1 d2 hWr hW hBW hb
    go_enter Tryz.func50, Tryz.ntmps50
    go_wp2_with (go_at_call 48; refine cc.mono ?_; rintro ex w1 ⟨rfl, w2, hd, rfl⟩)
    go_end0
    exact ⟨rfl, (hd.put1 _).ahead (((Kept.refl No w).alloc _).alloc _)⟩
  · have he2 : (e == 0) = false := by simpa using he
    rw [show layBs bs e xs = bs from if_pos he]
    clear hb
    go_enter Tryz.func50, Tryz.ntmps50
    go_wp2_with (go_at_call 48; refine (gate_no _ p e _ (H.out.box2 _ _).c1 he2).mono ?_; rintro ex w1 ⟨rfl, rfl⟩)
    go_end0
    exact ⟨rfl, WrDid.still H.out (((Kept.refl No w).alloc _).alloc _)⟩

end Go.Proofs.YtkmpgcgdamcikaaGreatDoor

namespace Go.Proofs.YtkmpgcgdamcikaaGreatDoor
open Go.RowKit
set_option linter.unusedVariables false
set_option maxRecDepth 100000

theorem frozen_new (w : World) (c : Array Value) (t : TypeId) (b i : Nat) (hb : b = w.heap.size) : (w.alloc (.cells c t)).frozen? ⟨b, i, none⟩ = false := by
  subst hb
  have h := heap_alloc_new w (.cells c t)
  unfold World.frozen?
  simp only [h]
  simp
/-- ownsRow from a lower base on -/
theorem owns_base {w : World} {b b' : Nat} {e : TypeId} {size : Nat} {v : Value} {n : Nat} {xs : List Value} (h : w.ownsRow b e size v n xs) (hb : b' ≤ b) : w.ownsRow b' e size v n xs := by
  refine ⟨h.1, ?_⟩
  rcases h.2 with h1 | ⟨g, cap, cur, hv, hg, r⟩
  · exact .inl h1
  · exact .inr ⟨g, cap, cur, hv, by omega, r⟩

/-- what Done's closure leaves: the told bytes in block b2 -/
def ToldW (b2 : Nat) (bs : List Nat) (w w' : World) : Prop := ∃ a n c, w'.cell? ⟨b2, 0, none⟩ = some (.slice a n c) ∧ w'.frozen? ⟨b2, 0, none⟩ = false ∧ w'.ownsRow w.heap.size 5 1 (.slice a n c) bs.length (bs.map bv) ∧ Kept (fun k => k = b2) w w'

set_option maxHeartbeats 1000000 in
theorem done1_any (F : Nat → Prop) (p : Nat) (bs : List Nat) (w : World) (b1 b2 : Nat) (u : Value) (h : Wr w F p bs 0) (hsz : bs.length ≤ 140737488355328)
    (d1 : w.cell? ⟨b1, 0, none⟩ = some (.pointer (some ⟨p, 0, none⟩))) (d2 : w.cell? ⟨b2, 0, none⟩ = some u) (f2 : w.frozen? ⟨b2, 0, none⟩ = false) :
    Calls Tryz.prog 49 #[.pointer (some ⟨b1, 0, none⟩), .pointer (some ⟨b2, 0, none⟩)] w fun ex w' => ex = .returned (.int .i64 0) ∧ ToldW b2 bs w w' := by
  obtain ⟨v, hv⟩ := h
  have c0 := hv.c0
  obtain ⟨a, c, rfl, hB⟩ := Bs.of_owns hv.own hv.lt
  have cc := clone_any _ a bs.length c bs w hB hsz
  have hb2 := cell_lt d2
  clear hv hB
  go_enter Tryz.func49, Tryz.ntmps49
  go_wp2_with (go_at_call 33; refine cc.mono ?_; rintro ex w1 ⟨v1, rfl, own1, bel1⟩; have d21 := (bel1.cell hb2).trans d2; have f21 := (bel1.frozen (p := ⟨b2, 0, none⟩) hb2).trans f2; obtain ⟨a1, c1, rfl⟩ : ∃ a c, v1 = .slice a bs.length c := (by rcases owns_cells own1 with ⟨rfl, h0⟩ | ⟨g, cap, rfl, _⟩; exact ⟨none, 0, by rw [h0]⟩; exact ⟨_, _, rfl⟩))
  go_ret
  have hk : Kept (fun k => k = b2) w1 (w1.setCell ⟨b2, 0, none⟩ (.slice a1 bs.length c1)) := (Kept.refl (fun k => k = b2) w1).setCell (p := ⟨b2, 0, none⟩) (.inl rfl) _
  refine ⟨rfl, a1, bs.length, c1, World.cell?_setCell_same _ _ _ d21, by simpa using f21, hk.owns own1 (fun g hg e => ?_), (Kept.of_below bel1).trans hk (fun k hk => .inl hk)⟩
  have := (own1.lt g hg).1
  rw [e] at this
  exact absurd hb2 (by show ¬ b2 < _; omega)

set_option maxHeartbeats 1000000 in
theorem done_any (F : Nat → Prop) (p : Nat) (bs : List Nat) (e : Int) (w : World) (h : Wr w F p bs e) (hsz : bs.length ≤ 140737488355328) :
    Calls Tryz.prog 30 #[.pointer (some ⟨p, 0, none⟩)] w fun ex w' => ∃ a n c, ex = .returned (.tuple #[.slice a n c, .int .i64 e]) ∧ Wr w' F p bs e ∧ Kept F w w' ∧ w'.ownsRow w.heap.size 5 1 (.slice a n c) (if e = 0 then bs else []).length ((if e = 0 then bs else []).map bv) := by
  have hmf : ∀ (fn : Fn) (first cap : Array Value) (w : World), (Instr.makeFunc fn first cap).run Tryz.prog w = .ok (.func fn first cap) w := fun _ _ _ _ => rfl
  have H : Hid (Wr w F p bs e) := h
  obtain ⟨v, hv⟩ := h
  have hp := hv.plt
  have hpF := hv.fp
  have hflt := hv.flt
  clear hv
  by_cases he : e = 0
  · subst he
    rw [if_pos rfl]
    obtain ⟨W, hW⟩ : ∃ W, W = ((w.alloc (.cells #[.pointer (some ⟨p, 0, none⟩)] 56)).alloc (.cells #[.slice none 0 0] 22)) := ⟨_, rfl⟩
    have d2 : W.cell? ⟨w.heap.size + 1, 0, none⟩ = some (.slice none 0 0) := by rw [hW]; exact cell_new _ _ _ _ (by simp)
    have d1 : W.cell? ⟨w.heap.size, 0, none⟩ = some (.pointer (some ⟨p, 0, none⟩)) := by rw [hW, cell_old _ _ _ (by simp)]; exact cell_new _ _ _ _ rfl
    have f2 : W.frozen? ⟨w.heap.size + 1, 0, none⟩ = false := by rw [hW]; exact frozen_new _ _ _ _ _ (by simp)
    have hWr : Wr W F p bs 0 := by rw [hW]; exact H.out.box2 _ _
    have hkW : Kept No w W := by rw [hW]; exact ((Kept.refl No w).alloc _).alloc _
    have hsW : W.heap.size = w.heap.size + 1 + 1 := by rw [hW]; simp
    have hR : ∀ w1, ToldW (w.heap.size + 1) bs W w1 → Wr w1 F p bs 0 := fun w1 ⟨a, n, c, _, _, _, hk⟩ => hWr.kept hk (fun b hb e => by have := hflt b hb; omega)
    have cc := gate_Done _ _ p _ (ToldW (w.heap.size + 1) bs W) 0 hWr.c1 (done1_any F p bs _ _ _ _ hWr hsz d1 d2 f2) (fun w1 h => ⟨⟨_, (hR w1 h).c1⟩, by obtain ⟨v, hv⟩ := hR w1 h; exact hv.fz 1⟩)
    have mid : ∀ w2, ToldW (w.heap.size + 1) bs W w2 → ∃ a n c, (w2.setCell ⟨p, 1, none⟩ (.int .i64 0)).cell? ⟨w.heap.size, 0, none⟩ = some (.pointer (some ⟨p, 0, none⟩)) ∧ (w2.setCell ⟨p, 1, none⟩ (.int .i64 0)).cell? ⟨w.heap.size + 1, 0, none⟩ = some (.slice a n c) ∧
        (w2.setCell ⟨p, 1, none⟩ (.int .i64 0)).cell? ⟨p, 1, none⟩ = some (.int .i64 0) ∧ Hid (Wr (w2.setCell ⟨p, 1, none⟩ (.int .i64 0)) F p bs 0 ∧ Kept F w (w2.setCell ⟨p, 1, none⟩ (.int .i64 0)) ∧ (w2.setCell ⟨p, 1, none⟩ (.int .i64 0)).ownsRow w.heap.size 5 1 (.slice a n c) bs.length (bs.map bv)) := by
      intro w2 ht
      have hr2 := hR w2 ht
      obtain ⟨a, n, c, t1, t2, t3, t4⟩ := ht
      obtain ⟨v2, hv2⟩ := hr2
      have hk : Kept (fun k => k = p) w2 (w2.setCell ⟨p, 1, none⟩ (.int .i64 0)) := (Kept.refl (fun k => k = p) w2).setCell (p := ⟨p, 1, none⟩) (.inl rfl) _
      have h1 := hv2.put1 0
      refine ⟨a, n, c, hk.cell (t4.cell d1 (by show ¬ (w.heap.size = w.heap.size + 1); omega)) (by show ¬ (w.heap.size = p); omega), hk.cell t1 (by show ¬ (w.heap.size + 1 = p); omega), h1.c1, ⟨v2, h1⟩, ?_, ?_⟩
      · refine Kept.trans (G := fun k => k = w.heap.size + 1) (hkW.mono (fun _ h => h.elim)) t4 (fun k hk => .inr (by omega)) |>.trans hk (fun k hk => .inl (by rw [hk]; exact hpF))
      · refine owns_base (b := W.heap.size) (hk.owns t3 (fun g hg e => ?_)) (by omega)
        have := (t3.lt g hg).1
        omega
    rw [hW] at cc mid
    clear d1 d2 hWr hR hkW f2 hsW
    clear hW hflt
    go_enter Tryz.func30, Tryz.ntmps30
    go_wp2_with (go_at_call 48; refine cc.mono ?_; rintro ex w1 ⟨rfl, w2, hd, hw1⟩; obtain ⟨a, n, c, k1, k2, k3, K4⟩ := mid w2 hd; rw [← hw1] at k1 k2 k3 K4; clear hw1 hd)
    clear cc mid
    go_quiet (fail)
    go_wp2
    go_ret2
    exact ⟨a, n, c, rfl, K4.out.1.drewN _, K4.out.2.1.drewN _, K4.out.2.2⟩
  · have he2 : (e == 0) = false := by simpa using he
    rw [if_neg he]
    have c1 : ∀ a b, ((w.alloc a).alloc b).cell? ⟨p, 1, none⟩ = some (.int .i64 e) := fun a b => (H.out.box2 a b).c1
    clear hflt
    go_enter Tryz.func30, Tryz.ntmps30
    go_wp2_with (go_at_call 48; refine (gate_no _ p e _ (c1 _ _) he2).mono ?_; rintro ex w1 ⟨rfl, rfl⟩)
    go_quiet (fail)
    go_wp2
    go_ret2
    exact ⟨none, 0, 0, rfl, (H.out.box2 _ _).drewN _, ((((Kept.refl F w).alloc _).alloc _)).drewN _, World.ownsRow_nil _ _ _ _⟩

end Go.Proofs.YtkmpgcgdamcikaaGreatDoor

namespace Go.Proofs.YtkmpgcgdamcikaaGreatDoor
open Go.RowKit
set_option linter.unusedVariables false
set_option maxRecDepth 100000

/-- block p is a Reader: the bytes xs are left, its fault is e; its blocks lie in F. -/
structure RdV (w : World) (F : Nat → Prop) (p : Nat) (a : Option Addr) (n c : Nat) (xs : List Nat) (e : Int) : Prop where
  obj : w.heap[p]? = some (.cells #[.slice a n c, .int .i64 e] 65 (0, 0))
  bs : Bs w (fun b => F b ∧ b ≠ p) a n c xs
  fp : F p
  flt : ∀ k, F k → k < w.heap.size

def Rd (w : World) (F : Nat → Prop) (p : Nat) (xs : List Nat) (e : Int) : Prop := ∃ a n c, RdV w F p a n c xs e

namespace RdV
variable {w w' : World} {F G : Nat → Prop} {p : Nat} {a : Option Addr} {n c : Nat} {xs : List Nat} {e : Int}
theorem c0 (h : RdV w F p a n c xs e) : w.cell? ⟨p, 0, none⟩ = some (.slice a n c) := by simp [World.cell?, h.obj]
theorem c1 (h : RdV w F p a n c xs e) : w.cell? ⟨p, 1, none⟩ = some (.int .i64 e) := by simp [World.cell?, h.obj]
theorem fz (h : RdV w F p a n c xs e) (i : Nat) : w.frozen? ⟨p, i, none⟩ = false := by simp [World.frozen?, h.obj]
theorem plt (h : RdV w F p a n c xs e) : p < w.heap.size := heap_lt h.obj
theorem kept (h : RdV w F p a n c xs e) (k : Kept G w w') (hd : ∀ b, F b → ¬ G b) : RdV w' F p a n c xs e :=
  ⟨k.at' h.obj (hd p h.fp), h.bs.kept k (fun b hb => hd b hb.1), h.fp, fun j hj => Nat.lt_of_lt_of_le (h.flt j hj) k.size⟩
theorem put1 (h : RdV w F p a n c xs e) (e' : Int) : RdV (w.setCell ⟨p, 1, none⟩ (.int .i64 e')) F p a n c xs e' := by
  have hk : Kept (fun k => k = p) w (w.setCell ⟨p, 1, none⟩ (.int .i64 e')) := (Kept.refl (fun k => k = p) w).setCell (p := ⟨p, 1, none⟩) (.inl rfl) _
  refine ⟨?_, h.bs.kept hk (fun b hb => hb.2), h.fp, fun k hk => by simpa [World.setCell] using h.flt k hk⟩
  simp [World.setCell, Array.getElem?_modify, h.obj]
theorem put0 {a' : Option Addr} {n' c' : Nat} {ys : List Nat} (h : RdV w F p a n c xs e) (hb : Bs w (fun b => F b ∧ b ≠ p) a' n' c' ys) : RdV (w.setCell ⟨p, 0, none⟩ (.slice a' n' c')) F p a' n' c' ys e := by
  have hk : Kept (fun k => k = p) w (w.setCell ⟨p, 0, none⟩ (.slice a' n' c')) := (Kept.refl (fun k => k = p) w).setCell (p := ⟨p, 0, none⟩) (.inl rfl) _
  refine ⟨?_, hb.kept hk (fun b hb => hb.2), h.fp, fun k hk => by simpa [World.setCell] using h.flt k hk⟩
  simp [World.setCell, Array.getElem?_modify, h.obj]
end RdV

theorem Bs.take {w : World} {F : Nat → Prop} {a : Option Addr} {n c : Nat} {xs : List Nat} (h : Bs w F a n c xs) (k : Nat) (hk : k ≤ n) : Bs w F a k c (xs.take k) := by
  have hl := h.len
  refine ⟨by rw [List.length_take]; omega, by have := h.cap; omega, h.max, h.nil, fun i hi => ?_, fun x hx => h.lt x (List.mem_of_mem_take hx)⟩
  obtain ⟨b, o, e, hb, hc⟩ := h.at' i (by omega)
  refine ⟨b, o, e, hb, ?_⟩
  rw [hc]
  simp [List.getD, hi]
theorem Bs.drop {w : World} {F : Nat → Prop} {ad : Addr} {n c : Nat} {xs : List Nat} (h : Bs w F (some ad) n c xs) (k : Nat) (hk : k ≤ n) (ad' : Addr) (ha : k < c → ad' = ad.add k) : Bs w F (some ad') (n - k) (c - k) (xs.drop k) := by
  have hl := h.len
  have hcap := h.cap
  refine ⟨by rw [List.length_drop]; omega, by omega, by have := h.max; omega, fun h => (by cases h), fun i hi => ?_, fun x hx => h.lt x (List.mem_of_mem_drop hx)⟩
  obtain ⟨b, o, e, hb, hc⟩ := h.at' (k + i) (by omega)
  simp only [Option.some.injEq] at e
  subst e
  refine ⟨b, o + k, by rw [ha (by omega), add_none], hb, ?_⟩
  rw [Nat.add_assoc, hc]
  simp [List.getD, List.getElem?_drop]

/-- what a Reader's call leaves -/
def RdDid (F : Nat → Prop) (p : Nat) (xs' : List Nat) (e' : Int) (w w' : World) : Prop := Rd w' F p xs' e' ∧ Kept (fun k => k = p) w w'
theorem RdDid.fp {F : Nat → Prop} {p : Nat} {xs' : List Nat} {e' : Int} {w w' : World} (h : RdDid F p xs' e' w w') : F p := by obtain ⟨⟨a, n, c, hv⟩, _⟩ := h; exact hv.fp
theorem RdDid.keptF {F : Nat → Prop} {p : Nat} {xs' : List Nat} {e' : Int} {w w' : World} (h : RdDid F p xs' e' w w') : Kept F w w' := h.2.mono (fun k hk => by rw [hk]; exact h.fp)
theorem RdDid.below {F : Nat → Prop} {p B : Nat} {xs' : List Nat} {e' : Int} {w w' : World} (h : RdDid F p xs' e' w w') (hF : ∀ k, F k → B ≤ k) (hB : B ≤ w.heap.size) : Below B w w' := h.keptF.below hF hB

/-- what is taken -/
def tkOk (xs : List Nat) (e n : Int) : Bool := e == 0 && decide (0 ≤ n) && decide (n ≤ xs.length)
def tkXs (xs : List Nat) (e n : Int) : List Nat := if tkOk xs e n then xs.take n.toNat else []
def tkRest (xs : List Nat) (e n : Int) : List Nat := if tkOk xs e n then xs.drop n.toNat else xs
def tkE (xs : List Nat) (e n : Int) : Int := if e ≠ 0 then e else if tkOk xs e n then 0 else 20

set_option maxHeartbeats 1000000 in
theorem take_any (F : Nat → Prop) (p : Nat) (xs : List Nat) (e n : Int) (w : World) (h : Rd w F p xs e) :
    Calls Tryz.prog 52 #[.pointer (some ⟨p, 0, none⟩), .int .i64 n] w fun ex w' => ∃ a k c, ex = .returned (.slice a k c) ∧ Bs w' (fun b => F b ∧ b ≠ p) a k c (tkXs xs e n) ∧ RdDid F p (tkRest xs e n) (tkE xs e n) w w' := by
  obtain ⟨a, m, c, hv⟩ := h
  have c0 := hv.c0
  have c1 := hv.c1
  have f0 := hv.fz 0
  have f1 := hv.fz 1
  have hl := hv.bs.len
  have HV : Hid (RdV w F p a m c xs e) := hv
  clear hv
  have nil : ∀ (W : World) (G : Nat → Prop), Bs W G none 0 0 [] := fun W G => ⟨rfl, by omega, by omega, fun _ => rfl, fun i hi => by omega, fun x hx => by cases hx⟩
  by_cases he : e = 0
  · subst he
    by_cases h0 : n < 0
    · have k1 : tkOk xs 0 n = false := by simp [tkOk]; omega
      have e1 : tkXs xs 0 n = [] := by simp [tkXs, k1]
      have e2 : tkRest xs 0 n = xs := by simp [tkRest, k1]
      have e3 : tkE xs 0 n = 20 := by simp [tkE, k1]
      rw [e1, e2, e3]
      clear k1 e1 e2 e3
      go_enter Tryz.func52, Tryz.ntmps52
      go_wp2
      go_ret
      exact ⟨none, 0, 0, rfl, nil _ _, ⟨a, m, c, HV.out.put1 20⟩, (Kept.refl (fun k => k = p) w).setCell (p := ⟨p, 1, none⟩) (.inl rfl) _⟩
    · by_cases h1 : (m : Int) < n
      · have k1 : tkOk xs 0 n = false := by simp [tkOk]; omega
        have e1 : tkXs xs 0 n = [] := by simp [tkXs, k1]
        have e2 : tkRest xs 0 n = xs := by simp [tkRest, k1]
        have e3 : tkE xs 0 n = 20 := by simp [tkE, k1]
        rw [e1, e2, e3]
        clear k1 e1 e2 e3
        go_enter Tryz.func52, Tryz.ntmps52
        go_wp2
        go_ret
        exact ⟨none, 0, 0, rfl, nil _ _, ⟨a, m, c, HV.out.put1 20⟩, (Kept.refl (fun k => k = p) w).setCell (p := ⟨p, 1, none⟩) (.inl rfl) _⟩
      · have k1 : tkOk xs 0 n = true := by simp [tkOk]; omega
        have e1 : tkXs xs 0 n = xs.take n.toNat := by simp [tkXs, k1]
        have e2 : tkRest xs 0 n = xs.drop n.toNat := by simp [tkRest, k1]
        have e3 : tkE xs 0 n = 0 := by simp [tkE, k1]
        rw [e1, e2, e3]
        clear k1 e1 e2 e3
        obtain ⟨k, rfl⟩ : ∃ k : Nat, n = k := ⟨n.toNat, by omega⟩
        rw [Int.toNat_natCast]
        have hkm : k ≤ m := by omega
        have hmc := HV.out.bs.cap
        cases a with
        | none =>
          have hc := HV.out.bs.nil rfl
          have hm : m = 0 := by omega
          have hk : k = 0 := by omega
          subst hc hm hk
          have hx : xs = [] := List.eq_nil_of_length_eq_zero hl
          subst hx
          go_enter Tryz.func52, Tryz.ntmps52
          go_wp2
          go_ret
          exact ⟨none, 0, 0, rfl, nil _ _, ⟨none, 0, 0, HV.out.put0 (nil _ _)⟩, (Kept.refl (fun k => k = p) w).setCell (p := ⟨p, 0, none⟩) (.inl rfl) _⟩
        | some ad =>
          have HT : ∀ v, Bs (w.setCell ⟨p, 0, none⟩ v) (fun b => F b ∧ b ≠ p) (some ad) k c (xs.take k) := fun v => (HV.out.bs.take k hkm).kept ((Kept.refl (fun k => k = p) w).setCell (p := ⟨p, 0, none⟩) (.inl rfl) _) (fun b hb => hb.2)
          by_cases hck : c = k
          · have hmc2 : m = c := by omega
            subst hck hmc2
            have HD := HV.out.put0 (HV.out.bs.drop m hkm ad (fun h => absurd h (by omega)))
            rw [Nat.sub_self] at HD
            have HDH : Hid _ := HD
            clear HD
            go_enter Tryz.func52, Tryz.ntmps52
            go_wp2
            go_ret
            exact ⟨some ad, m, m, rfl, HT _, ⟨some ad, _, _, HDH.out⟩, (Kept.refl (fun k => k = p) w).setCell (p := ⟨p, 0, none⟩) (.inl rfl) _⟩
          · have HD := HV.out.put0 (HV.out.bs.drop k hkm (ad.add k) (fun h => rfl))
            have HDH : Hid _ := HD
            clear HD
            go_enter Tryz.func52, Tryz.ntmps52
            go_wp2
            go_ret
            exact ⟨some ad, k, c, rfl, HT _, ⟨some (ad.add k), _, _, HDH.out⟩, (Kept.refl (fun k => k = p) w).setCell (p := ⟨p, 0, none⟩) (.inl rfl) _⟩
  · have he2 : (e == 0) = false := by simpa using he
    have k1 : tkOk xs e n = false := by simp [tkOk, he]
    have e1 : tkXs xs e n = [] := by simp [tkXs, k1]
    have e2 : tkRest xs e n = xs := by simp [tkRest, k1]
    have e3 : tkE xs e n = e := by simp [tkE, he]
    rw [e1, e2, e3]
    clear k1 e1 e2 e3
    go_enter Tryz.func52, Tryz.ntmps52
    go_wp2
    go_ret
    exact ⟨none, 0, 0, rfl, nil _ _, ⟨a, m, c, HV.out⟩, Kept.refl _ _⟩

end Go.Proofs.YtkmpgcgdamcikaaGreatDoor

namespace Go.Proofs.YtkmpgcgdamcikaaGreatDoor
open Go.RowKit
set_option linter.unusedVariables false
set_option maxRecDepth 100000

/-- the number that bytes tell, the highest first -/
def val (l : List Nat) : Nat := l.foldl (fun x b => x * 256 + b) 0
theorem val_snoc (l : List Nat) (b : Nat) : val (l ++ [b]) = val l * 256 + b := by simp [val]
theorem val_take (l : List Nat) (j : Nat) (h : j < l.length) : val (l.take (j + 1)) = val (l.take j) * 256 + l.getD j 0 := by
  rw [List.take_add_one, List.getElem?_eq_getElem h]
  show val (l.take j ++ [l[j]]) = _
  rw [val_snoc]; simp [List.getD, h]
theorem val_lt (l : List Nat) (h : ∀ x ∈ l, x < 256) : ∀ j, j ≤ l.length → val (l.take j) < 256 ^ j := by
  intro j
  induction j with
  | zero => intro _; simp [val]
  | succ j ih =>
    intro hj
    have h1 := ih (by omega)
    rw [val_take l j (by omega), Nat.pow_succ]
    have h2 : l.getD j 0 < 256 := by
      have : l.getD j 0 = l[j] := by simp [List.getD, show j < l.length by omega]
      rw [this]; exact h _ (List.getElem_mem _)
    omega
theorem or_byte (x b : Nat) (hb : b < 256) : (x * 256) ||| b = x * 256 + b := by
  have := Nat.shiftLeft_add_eq_or_of_lt (i := 8) (b := b) hb x
  rw [Nat.shiftLeft_eq] at this
  exact this.symm

theorem Rd.of_v {w : World} {F : Nat → Prop} {p : Nat} {a : Option Addr} {n c : Nat} {xs : List Nat} {e : Int} (h : RdV w F p a n c xs e) : Rd w F p xs e := ⟨a, n, c, h⟩

theorem newReader_any (G : Nat → Prop) (a : Option Addr) (n c : Nat) (xs : List Nat) (w : World) (h : Bs w G a n c xs) (hsz : n ≤ 140737488355328) :
    Calls Tryz.prog 13 #[.slice a n c] w fun ex w' => ∃ p, ex = .returned (.pointer (some ⟨p, 0, none⟩)) ∧ Rd w' (fun k => w.heap.size ≤ k ∧ k < w'.heap.size) p xs 0 ∧ Below w.heap.size w w' := by
  have cc := clone_any G a n c xs w h hsz
  have hl := h.lt
  clear h
  go_enter Tryz.func13, Tryz.ntmps13
  go_wp2_with (go_at_call 33; refine cc.mono ?_; rintro ex w1 ⟨v, rfl, own, bel⟩; obtain ⟨a1, c1, rfl, hB⟩ := Bs.of_owns own hl)
  go_ret
  refine ⟨w1.heap.size, rfl, ⟨a1, xs.length, c1, ?_, ?_, ?_, ?_⟩, bel.alloc bel.size _⟩
  · exact heap_alloc_new _ _
  · refine (hB.kept ((Kept.refl No w1).alloc _) (fun _ _ h => h)).mono (fun k hk => ?_)
    have := own.lt k hk
    refine ⟨⟨this.1, by simp; omega⟩, by omega⟩
  · exact ⟨bel.size, by simp⟩
  · intro k hk; exact hk.2

set_option maxHeartbeats 1000000 in
theorem rnumber_any (F : Nat → Prop) (p : Nat) (xs : List Nat) (e : Int) (width : Nat) (w : World) (h : Rd w F p xs e) (hw : width ≤ 8) :
    Calls Tryz.prog 34 #[.pointer (some ⟨p, 0, none⟩), .int .i64 width] w fun ex w' => ex = .returned (.int .u64 (val (tkXs xs e width))) ∧ RdDid F p (tkRest xs e width) (tkE xs e width) w w' := by
  have cc := take_any F p xs e width w h
  clear h
  have hlen : (tkXs xs e width).length ≤ 8 := by unfold tkXs; split <;> simp <;> omega
  obtain ⟨ys, hys⟩ : ∃ ys, ys = tkXs xs e width := ⟨_, rfl⟩
  rw [← hys] at cc hlen ⊢
  clear hys
  go_enter Tryz.func34, Tryz.ntmps34
  go_wp2_with (go_at_call 52; refine cc.mono ?_; rintro ex w1 ⟨a, k, c, rfl, hB, hd⟩; have HB : Hid (Bs w1 (fun b => F b ∧ b ≠ p) a k c ys) := hB; have HD : Hid (RdDid F p (tkRest xs e width) (tkE xs e width) w w1) := hd; have hk := hB.len; clear hB hd)
  go_loop [5, 12] (fun x i => ∃ j : Nat, j ≤ k ∧ i = .int .i64 j ∧ x = .int .u64 (val (ys.take j) : Nat)) (fun _ i => k - (intOf i).toNat)
  case atStart => exact ⟨0, by omega, rfl, rfl⟩
  case round =>
    obtain ⟨j, hj, rfl, rfl⟩ := hrel
    by_cases hlt : j < k
    · obtain ⟨b, o, rfl, _, hc0⟩ := HB.out.at' j hlt
      have hB := HB.out
      have hlen2 : j < ys.length := by omega
      obtain ⟨y, hy⟩ : ∃ y, y = ys.getD j 0 := ⟨_, rfl⟩
      have hc : w1.cell? ⟨b, o + j, none⟩ = some (.int .u8 (y : Nat)) := by rw [hy]; exact hc0
      have hv := val_lt ys hB.lt j (by omega)
      have hv2 := val_take ys j hlen2
      rw [← hy] at hv2
      obtain ⟨X, hX⟩ : ∃ X, X = val (ys.take j) := ⟨_, rfl⟩
      have hy2 : y < 256 := by
        have : ys.getD j 0 = ys[j] := by simp [List.getD, hlen2]
        rw [hy, this]; exact hB.lt _ (List.getElem_mem _)
      have hXl : X < 72057594037927936 := by
        rw [hX]; exact Nat.lt_of_lt_of_le hv (Nat.le_trans (Nat.pow_le_pow_right (by decide) (show j ≤ 7 by omega)) (by decide))
      rw [← hX]
      have e1 : IntKind.u64.wrap ((X : Int) * 256) = (X : Int) * 256 := by rw [IntKind.wrap_u64]; omega
      have e2 : bits .or .u64 ((X : Int) * 256) (y : Int) = (X : Int) * 256 + y := by
        have h1 := bits_or_u64_nat (X * 256) y (by omega) (by omega)
        rw [or_byte X y hy2] at h1
        simpa using h1
      have HV2 : Hid (val (ys.take (j + 1)) = X * 256 + y) := by rw [hX]; exact hv2
      clear hc0 hB hv hv2 hy hX
      go_wp2
      go_round
      case rel =>
        refine ⟨j + 1, by omega, by go_num, ?_⟩
        rw [HV2.out]; simp
      case measure => simp [intOf]; omega
    · have hjk : j = k := by omega
      subst hjk
      rw [List.take_of_length_le (by omega)]
      go_wp2
      go_ret
      exact ⟨rfl, HD.out⟩

/-- a number of width bytes, as an int -/
def rdN (xs : List Nat) (e : Int) (width : Nat) : Int := val (tkXs xs e width)
theorem tkXs_lt {xs : List Nat} (e n : Int) (h : ∀ x ∈ xs, x < 256) : ∀ x ∈ tkXs xs e n, x < 256 := by
  unfold tkXs; split
  · exact fun x hx => h x (List.mem_of_mem_take hx)
  · intro x hx; cases hx
theorem tkXs_len (xs : List Nat) (e : Int) (n : Nat) : (tkXs xs e n).length ≤ n := by
  unfold tkXs; split
  · simp; omega
  · simp
theorem rdN_lt {xs : List Nat} (e : Int) (width : Nat) (h : ∀ x ∈ xs, x < 256) : 0 ≤ rdN xs e width ∧ rdN xs e width < 256 ^ width := by
  refine ⟨by unfold rdN; omega, ?_⟩
  have h1 := val_lt _ (tkXs_lt e width h) _ (Nat.le_refl _)
  rw [List.take_of_length_le (Nat.le_refl _)] at h1
  have h2 : (256 : Nat) ^ (tkXs xs e width).length ≤ 256 ^ width := Nat.pow_le_pow_right (by decide) (tkXs_len xs e width)
  have h3 : val (tkXs xs e width) < 256 ^ width := by omega
  have h4 : ((val (tkXs xs e width) : Nat) : Int) < ((256 ^ width : Nat) : Int) := Int.ofNat_lt.2 h3
  rw [Int.natCast_pow] at h4
  exact h4
theorem Rd.lt {w : World} {F : Nat → Prop} {p : Nat} {xs : List Nat} {e : Int} (h : Rd w F p xs e) : ∀ x ∈ xs, x < 256 := by
  obtain ⟨a, n, c, hv⟩ := h; exact hv.bs.lt

theorem ru32_any (F : Nat → Prop) (p : Nat) (xs : List Nat) (e : Int) (w : World) (h : Rd w F p xs e) :
    Calls Tryz.prog 14 #[.pointer (some ⟨p, 0, none⟩)] w fun ex w' => ex = .returned (.int .i64 (rdN xs e 4)) ∧ RdDid F p (tkRest xs e 4) (tkE xs e 4) w w' := by
  have cc : Calls Tryz.prog 34 #[.pointer (some ⟨p, 0, none⟩), .int .i64 4] w fun ex w' => ex = .returned (.int .u64 (rdN xs e 4)) ∧ RdDid F p (tkRest xs e 4) (tkE xs e 4) w w' := rnumber_any F p xs e 4 w h (by omega)
  have hb := rdN_lt e 4 h.lt
  obtain ⟨x, hx⟩ : ∃ x, x = rdN xs e 4 := ⟨_, rfl⟩
  rw [← hx] at cc hb ⊢
  have e1 : IntKind.i64.wrap x = x := by rw [IntKind.wrap_i64]; omega
  clear h hb hx
  go_enter Tryz.func14, Tryz.ntmps14
  go_wp2_with (go_at_call 34; refine cc.mono ?_; rintro ex w1 ⟨rfl, hd⟩)
  go_ret
  exact ⟨rfl, hd⟩

end Go.Proofs.YtkmpgcgdamcikaaGreatDoor

namespace Go.Proofs.YtkmpgcgdamcikaaGreatDoor
open Go.RowKit
set_option linter.unusedVariables false
set_option maxRecDepth 100000

theorem Rd.kept {w w' : World} {F G : Nat → Prop} {p : Nat} {xs : List Nat} {e : Int} (h : Rd w F p xs e) (k : Kept G w w') (hd : ∀ b, F b → ¬ G b) : Rd w' F p xs e := by
  obtain ⟨a, n, c, hv⟩ := h; exact ⟨a, n, c, hv.kept k hd⟩
theorem Rd.drewN {w : World} {F : Nat → Prop} {p : Nat} {xs : List Nat} {e : Int} (h : Rd w F p xs e) (n : Nat) : Rd (w.drewN n) F p xs e := h.kept ((Kept.refl No w).drewN n) (fun _ _ h => h)
theorem Rd.put1 {w : World} {F : Nat → Prop} {p : Nat} {xs : List Nat} {e : Int} (h : Rd w F p xs e) (e' : Int) : Rd (w.setCell ⟨p, 1, none⟩ (.int .i64 e')) F p xs e' := by
  obtain ⟨a, n, c, hv⟩ := h; exact ⟨a, n, c, hv.put1 e'⟩
theorem RdDid.ahead {F : Nat → Prop} {p : Nat} {xs : List Nat} {e : Int} {w0 w w1 : World} (h : RdDid F p xs e w w1) (hk : Kept (fun k => k = p) w0 w) : RdDid F p xs e w0 w1 := ⟨h.1, hk.trans h.2 (fun _ h => .inl h)⟩

theorem left_any (F : Nat → Prop) (p : Nat) (xs : List Nat) (e : Int) (w : World) (h : Rd w F p xs e) :
    Calls Tryz.prog 15 #[.pointer (some ⟨p, 0, none⟩)] w fun ex w' => ex = .returned (.int .i64 xs.length) ∧ w' = w := by
  obtain ⟨a, n, c, hv⟩ := h
  have c0 := hv.c0
  rw [hv.bs.len]
  clear hv
  go_enter Tryz.func15, Tryz.ntmps15
  go_wp2
  go_ret
  exact ⟨rfl, rfl⟩

def rdDone (xs : List Nat) (e : Int) : Int := if e ≠ 0 then e else if xs = [] then 0 else 20

set_option maxHeartbeats 1000000 in
theorem rdone_any (F : Nat → Prop) (p : Nat) (xs : List Nat) (e : Int) (w : World) (h : Rd w F p xs e) :
    Calls Tryz.prog 17 #[.pointer (some ⟨p, 0, none⟩)] w fun ex w' => ex = .returned (.int .i64 (rdDone xs e)) ∧ ∃ n, w' = w.drewN n := by
  obtain ⟨a, n, c, hv⟩ := h
  have c0 := hv.c0
  have c1 := hv.c1
  have hl := hv.bs.len
  clear hv
  by_cases he : e = 0
  · subst he
    by_cases hn : n = 0
    · have hx : xs = [] := List.eq_nil_of_length_eq_zero (by rw [hl]; exact hn)
      subst hn hx
      rw [show rdDone [] 0 = 0 from by simp [rdDone]]
      go_enter Tryz.func17, Tryz.ntmps17
      go_wp2
      go_ret
      exact ⟨rfl, 0, rfl⟩
    · have hx : xs ≠ [] := by rintro rfl; simp at hl; omega
      rw [show rdDone xs 0 = 20 from by simp [rdDone, hx]]
      have hp : 0 < n := by omega
      clear hx hl
      go_enter Tryz.func17, Tryz.ntmps17
      go_wp2
      go_ret
      exact ⟨rfl, 0, rfl⟩
  · have he2 : (e == 0) = false := by simpa using he
    rw [show rdDone xs e = e from if_pos he]
    go_enter Tryz.func17, Tryz.ntmps17
    go_wp2
    go_ret
    exact ⟨rfl, 0, rfl⟩

end Go.Proofs.YtkmpgcgdamcikaaGreatDoor

namespace Go.Proofs.YtkmpgcgdamcikaaGreatDoor
open Go.RowKit
set_option linter.unusedVariables false
set_option maxRecDepth 100000

def ivZ (x : Int) : Value := .int .i64 x
theorem ivZ_one (xs : List Int) : ∀ u ∈ xs.map ivZ, u.oneCell' = true := by
  intro u hu; rw [List.mem_map] at hu; obtain ⟨i, _, rfl⟩ := hu; rfl
theorem ivZ_get {xs : List Int} {i : Nat} (h : i < xs.length) : (xs.map ivZ)[i]? = some (ivZ (xs.getD i 0)) := by
  simp [List.getD, h]

/-- a slice of ints -/
structure Zs (w : World) (F : Nat → Prop) (a : Option Addr) (n c : Nat) (xs : List Int) : Prop where
  len : xs.length = n
  cap : n ≤ c
  max : c ≤ 9223372036854775807
  nil : a = none → c = 0
  at' : ∀ i, i < n → ∃ b o, a = some ⟨b, o, none⟩ ∧ F b ∧ w.cell? ⟨b, o + i, none⟩ = some (ivZ (xs.getD i 0))
theorem Zs.kept {w w' : World} {F G : Nat → Prop} {a : Option Addr} {n c : Nat} {xs : List Int} (h : Zs w F a n c xs) (k : Kept G w w') (hd : ∀ b, F b → ¬ G b) : Zs w' F a n c xs :=
  ⟨h.len, h.cap, h.max, h.nil, fun i hi => by obtain ⟨b, o, e, hb, hc⟩ := h.at' i hi; exact ⟨b, o, e, hb, k.cell hc (hd b hb)⟩⟩
theorem Zs.of_owns {w : World} {base : Nat} {e : TypeId} {v : Value} {xs : List Int} (h : w.ownsRow base e 1 v xs.length (xs.map ivZ)) :
    ∃ a c, v = .slice a xs.length c ∧ Zs w (fun g => v.ownBlock = some g) a xs.length c xs := by
  rcases owns_cells h with ⟨rfl, h0⟩ | ⟨g, cap, rfl, hb, hg, hn, hm, hc, hf⟩
  · refine ⟨none, 0, by rw [h0], ⟨rfl, by omega, by omega, fun _ => rfl, fun i hi => by omega⟩⟩
  · refine ⟨_, cap, rfl, ⟨rfl, hn, hm, fun h => (by cases h), fun i hi => ⟨g, 0, rfl, rfl, ?_⟩⟩⟩
    rw [Nat.zero_add]
    exact hc i _ (ivZ_get hi)

end Go.Proofs.YtkmpgcgdamcikaaGreatDoor

namespace Go.Proofs.YtkmpgcgdamcikaaGreatDoor
open Go.RowKit
set_option linter.unusedVariables false
set_option maxRecDepth 100000

theorem Bs.drewN {w : World} {F : Nat → Prop} {a : Option Addr} {n c : Nat} {xs : List Nat} (h : Bs w F a n c xs) (k : Nat) : Bs (w.drewN k) F a n c xs := h.kept ((Kept.refl No w).drewN k) (fun _ _ h => h)
theorem drewN_add (w : World) (a b : Nat) : (w.drewN a).drewN b = w.drewN (a + b) := by simp [World.drewN, Nat.add_assoc]

end Go.Proofs.YtkmpgcgdamcikaaGreatDoor

namespace Go.Proofs.YtkmpgcgdamcikaaGreatDoor
set_option linter.unusedVariables false
set_option maxRecDepth 100000

def crcBit (r : Nat) : Nat := (r / 2) ^^^ (3988292384 * (r % 2))
def crcBits : Nat → Nat → Nat
  | 0, r => r
  | k + 1, r => crcBit (crcBits k r)
def crcByte (r x : Nat) : Nat := crcBits 8 (r ^^^ x)
def crcReg (bs : List Nat) : Nat := bs.foldl crcByte 4294967295
def crc (bs : List Nat) : Nat := 4294967295 - crcReg bs

theorem xor_lt {a b : Nat} (ha : a < 4294967296) (hb : b < 4294967296) : a ^^^ b < 4294967296 := Nat.xor_lt_two_pow (n := 32) ha hb
theorem crcBit_lt {r : Nat} (h : r < 4294967296) : crcBit r < 4294967296 := by
  unfold crcBit
  refine xor_lt (by omega) ?_
  have : r % 2 < 2 := Nat.mod_lt _ (by decide)
  have h2 : r % 2 = 0 ∨ r % 2 = 1 := by omega
  rcases h2 with h2 | h2 <;> rw [h2] <;> omega
theorem crcBits_lt {r : Nat} (h : r < 4294967296) : ∀ k, crcBits k r < 4294967296
  | 0 => h
  | k + 1 => crcBit_lt (crcBits_lt h k)
theorem crcByte_lt {r x : Nat} (h : r < 4294967296) (hx : x < 256) : crcByte r x < 4294967296 := crcBits_lt (xor_lt h (by omega)) 8
theorem crcReg_lt (bs : List Nat) (hb : ∀ x ∈ bs, x < 256) : ∀ k, (bs.take k).foldl crcByte 4294967295 < 4294967296 := by
  have : ∀ (l : List Nat) (r : Nat), (∀ x ∈ l, x < 256) → r < 4294967296 → l.foldl crcByte r < 4294967296 := by
    intro l
    induction l with
    | nil => intro r _ hr; exact hr
    | cons x l ih => intro r hl hr; exact ih _ (fun y hy => hl y (List.mem_cons_of_mem _ hy)) (crcByte_lt hr (hl x (List.mem_cons_self ..)))
  intro k
  exact this _ _ (fun x hx => hb x (List.mem_of_mem_take hx)) (by decide)
theorem crcReg_step (bs : List Nat) (k : Nat) (h : k < bs.length) : (bs.take (k + 1)).foldl crcByte 4294967295 = crcByte ((bs.take k).foldl crcByte 4294967295) (bs.getD k 0) := by
  rw [List.take_add_one, List.getElem?_eq_getElem h, List.foldl_append]
  simp [List.getD, h]

end Go.Proofs.YtkmpgcgdamcikaaGreatDoor

namespace Go.Proofs.YtkmpgcgdamcikaaGreatDoor
open Go.RowKit
set_option linter.unusedVariables false
set_option maxRecDepth 100000

theorem not32 (R : Nat) (h : R < 4294967296) : 4294967295 ^^^ R = 4294967295 - R := by
  apply Nat.eq_of_testBit_eq
  intro i
  rw [Nat.testBit_xor, show (4294967295 : Nat) = 2 ^ 32 - 1 from rfl, Nat.testBit_two_pow_sub_one, show 2 ^ 32 - 1 - R = 2 ^ 32 - (R + 1) from by omega, Nat.testBit_two_pow_sub_succ (show R < 2 ^ 32 from h)]
  by_cases hi : i < 32
  · simp [hi]
  · have : R.testBit i = false := Nat.testBit_lt_two_pow (Nat.lt_of_lt_of_le h (Nat.pow_le_pow_right (n := 2) (by decide) (show 32 ≤ i by omega)))
    simp [hi, this]
theorem not_val (R : Nat) (h : R < 4294967296) : bits .xor .u32 IntKind.u32.max (R : Int) = 4294967295 - (R : Int) := by
  have h1 := u32_xor_nat 4294967295 R (by decide) h
  rw [not32 R h] at h1
  have h2 : IntKind.u32.max = ((4294967295 : Nat) : Int) := by decide
  rw [h2, h1]
  omega
theorem crc_val (Z : Nat) (hZ : Z < 4294967296) : bits .xor .u32 ((Z : Int) / 2) (3988292384 * bits .and .u32 (Z : Int) 1 % 4294967296) = (((Z / 2) ^^^ (3988292384 * (Z % 2)) : Nat) : Int) := by
  have h1 : bits .and .u32 (Z : Int) 1 = ((Z % 2 : Nat) : Int) := by
    have := u32_and_nat Z 1 hZ (by decide)
    rw [Nat.and_one_is_mod] at this
    exact this
  have h2 : Z % 2 = 0 ∨ Z % 2 = 1 := by omega
  have h3 : (3988292384 * ((Z % 2 : Nat) : Int)) % 4294967296 = ((3988292384 * (Z % 2) : Nat) : Int) := by rcases h2 with h2 | h2 <;> rw [h2] <;> rfl
  rw [h1, h3]
  have := u32_xor_nat (Z / 2) (3988292384 * (Z % 2)) (by omega) (by rcases h2 with h2 | h2 <;> rw [h2] <;> omega)
  rw [← this]
  rfl

set_option maxHeartbeats 1000000 in
theorem sum_any (F : Nat → Prop) (a : Option Addr) (n c : Nat) (xs : List Nat) (w : World) (h : Bs w F a n c xs) :
    Calls Tryz.prog 51 #[.slice a n c] w fun ex w' => ex = .returned (.int .u32 (crc xs : Nat)) ∧ w' = w := by
  have hl := h.len
  have hcap := h.cap
  have hmx := h.max
  have HB : Hid (Bs w F a n c xs) := h
  clear h
  go_enter Tryz.func51, Tryz.ntmps51
  go_wp2
  go_loop [3, 9] (fun r i => ∃ k : Nat, k ≤ n ∧ i = .int .i64 k ∧ r = .int .u32 ((xs.take k).foldl crcByte 4294967295 : Nat)) (fun _ i => n - (intOf i).toNat)
  case atStart => exact ⟨0, by omega, rfl, rfl⟩
  case round =>
    obtain ⟨k, hk, rfl, rfl⟩ := hrel
    by_cases hlt : k < n
    · obtain ⟨b, o, rfl, _, hc1⟩ := HB.out.at' k hlt
      obtain ⟨x, hxx⟩ : ∃ x, x = xs.getD k 0 := ⟨_, rfl⟩
      have d1 : w.cell? ⟨b, o + k, none⟩ = some (.int .u8 (x : Nat)) := by rw [hxx]; exact hc1
      have hR := crcReg_lt xs HB.out.lt k
      have hst := crcReg_step xs k (by omega)
      rw [← hxx] at hst
      obtain ⟨R, hRR⟩ : ∃ R, R = (xs.take k).foldl crcByte 4294967295 := ⟨_, rfl⟩
      rw [← hRR] at hR hst ⊢
      have hx2 : x < 256 := by
        have : xs.getD k 0 = xs[k] := by simp [List.getD, show k < xs.length by omega]
        rw [hxx, this]; exact HB.out.lt _ (List.getElem_mem _)
      have e1 : bits .xor .u32 (R : Int) (x : Int) = ((R ^^^ x : Nat) : Int) := u32_xor_nat R x hR (by omega)
      have e0 : IntKind.u32.wrap (x : Int) = (x : Int) := by rw [IntKind.wrap_u32]; omega
      have HST : Hid ((xs.take (k + 1)).foldl crcByte 4294967295 = crcByte R x) := hst
      have hY := xor_lt hR (show x < 4294967296 by omega)
      obtain ⟨Y, hYY⟩ : ∃ Y, Y = R ^^^ x := ⟨_, rfl⟩
      have HYY : Hid (Y = R ^^^ x) := hYY
      rw [← hYY] at e1 hY
      clear hst hc1 hxx hRR hR hYY
      go_wp2
      go_loop [3, 17] (fun r j => ∃ q : Nat, q ≤ 8 ∧ j = .int .i64 q ∧ r = .int .u32 (crcBits q Y : Nat)) (fun _ j => 8 - (intOf j).toNat)
      case atStart => exact ⟨0, by omega, rfl, rfl⟩
      case round =>
        obtain ⟨q, hq, rfl, rfl⟩ := hrel
        by_cases hq8 : q < 8
        · have hZ := crcBits_lt hY q
          obtain ⟨Z, hZZ⟩ : ∃ Z, Z = crcBits q Y := ⟨_, rfl⟩
          have HZ : Hid (crcBits (q + 1) Y = (Z / 2) ^^^ (3988292384 * (Z % 2))) := by show crcBit (crcBits q Y) = _; rw [← hZZ]; rfl
          rw [← hZZ] at hZ ⊢
          clear hZZ
          have e3 := crc_val Z hZ
          go_wp2
          go_round
          case rel =>
            refine ⟨q + 1, by omega, by go_num, ?_⟩
            rw [HZ.out]
          case measure => simp [intOf]; omega
        · have hq8 : q = 8 := by omega
          subst hq8
          have HC : Hid (crcBits 8 Y = crcByte R x) := by rw [HYY.out]; rfl
          go_wp2
          go_round
          case rel =>
            refine ⟨k + 1, by omega, by go_num, ?_⟩
            rw [HST.out, HC.out]
          case measure => simp [intOf]; omega
    · have hkn : k = n := by omega
      subst hkn
      have hR := crcReg_lt xs HB.out.lt k
      have e1 : xs.take k = xs := List.take_of_length_le (by omega)
      rw [e1] at hR ⊢
      have hc : ((crc xs : Nat) : Int) = 4294967295 - ((xs.foldl crcByte 4294967295 : Nat) : Int) := by unfold crc crcReg; omega
      obtain ⟨R, hRR⟩ : ∃ R, R = xs.foldl crcByte 4294967295 := ⟨_, rfl⟩
      rw [← hRR] at hR hc ⊢
      have HC : Hid (((crc xs : Nat) : Int) = 4294967295 - (R : Int)) := hc
      clear hc hRR e1
      go_wp2
      go_ret
      refine ⟨?_, rfl⟩
      rw [HC.out, ← not_val R hR]
      rfl

end Go.Proofs.YtkmpgcgdamcikaaGreatDoor

namespace Go.Proofs.YtkmpgcgdamcikaaGreatDoor
open Go.RowKit
set_option linter.unusedVariables false
set_option maxRecDepth 100000

def ints (xs : List Nat) : List Int := xs.map Int.ofNat
theorem ints_getD (xs : List Nat) (i : Nat) : (ints xs).getD i 0 = ((xs.getD i 0 : Nat) : Int) := by
  unfold ints
  simp only [List.getD, List.getElem?_map]
  cases xs[i]? <;> rfl

theorem strOf_inj {xs ys : List Nat} (hx : ∀ x ∈ xs, x < 256) (hy : ∀ x ∈ ys, x < 256) (h : (ints xs).map (fun n => UInt8.ofNat n.toNat) = (ints ys).map (fun n => UInt8.ofNat n.toNat)) : xs = ys := by
  have e : ∀ l : List Nat, (∀ x ∈ l, x < 256) → ((ints l).map (fun n => UInt8.ofNat n.toNat)).map UInt8.toNat = l := by
    intro l hl
    unfold ints
    rw [List.map_map, List.map_map]
    have : l.map ((UInt8.toNat ∘ (fun n : Int => UInt8.ofNat n.toNat)) ∘ Int.ofNat) = l.map id := by
      apply List.map_congr_left
      intro x hxl
      simp
      exact hl x hxl
    rw [this, List.map_id]
  rw [← e xs hx, ← e ys hy, h]

theorem conv_any {w : World} {F : Nat → Prop} {a : Option Addr} {n c : Nat} {xs : List Nat} (h : Bs w F a n c xs) : (convert 22 9 (.slice a n c)).run Tryz.prog w = .ok (.string (strOfNums (ints xs))) w := by
  rcases Nat.eq_zero_or_pos n with hn | hn
  · subst hn
    obtain rfl : xs = [] := List.eq_nil_of_length_eq_zero h.len
    rw [run_convert_bytes_string w 22 9 5 _ 0 c Tryz.underlying22 Tryz.underlying5 Tryz.underlying9]
    have e : strOfNums (ints []) = ByteArray.empty := by unfold strOfNums ints; simp; rfl
    rw [e]
    cases a <;> simp [Conv.bytesToString, loadCells, loadCellsFrom]
  · obtain ⟨b, o, rfl, _⟩ := h.at' 0 hn
    refine run_convert_bytes_arg (P := Tryz.prog) w 22 5 Tryz.underlying22 Tryz.underlying5 b o n c (ints xs) (by unfold ints; rw [List.length_map, h.len]) (fun i hi => ?_) 9 Tryz.underlying9
    obtain ⟨b', o', e, _, hc⟩ := h.at' i hi
    simp only [Option.some.injEq, Addr.mk.injEq] at e
    obtain ⟨rfl, rfl, _⟩ := e
    rw [hc, ints_getD]; rfl

theorem eq_of_toList {a b : ByteArray} (h : (a.toList == b.toList) = true) : a.data.toList = b.data.toList := by
  rw [ByteArray.toList_eq, ByteArray.toList_eq] at h
  simpa using h

theorem equal_any (F G : Nat → Prop) (a a' : Option Addr) (n n' c c' : Nat) (xs ys : List Nat) (w : World) (hx : Bs w F a n c xs) (hy : Bs w G a' n' c' ys) :
    Calls Tryz.prog 32 #[.slice a n c, .slice a' n' c'] w fun ex w' => ex = .returned (.bool (decide (xs = ys))) ∧ w' = w := by
  have h1 := conv_any hx
  have h2 := conv_any hy
  have hi := fun h => strOf_inj hx.lt hy.lt h
  clear hx hy
  go_enter Tryz.func32, Tryz.ntmps32
  go_wp2
  go_ret
  refine ⟨?_, rfl⟩
  have e : ((strOfNums (ints xs)).toList == (strOfNums (ints ys)).toList) = decide (xs = ys) := by
    by_cases h : xs = ys
    · subst h; simp
    · rw [decide_eq_false h]
      cases hb : ((strOfNums (ints xs)).toList == (strOfNums (ints ys)).toList) with
      | false => rfl
      | true => exact absurd (hi (by have := eq_of_toList hb; rwa [strOfNums_data, strOfNums_data] at this)) h
  rw [← e]
  rfl

end Go.Proofs.YtkmpgcgdamcikaaGreatDoor

namespace Go.Proofs.YtkmpgcgdamcikaaGreatDoor
open Go.RowKit
set_option linter.unusedVariables false
set_option maxRecDepth 100000

/-- a Writer that was made since w0 -/
def WS (w0 : World) (p : Nat) (bs : List Nat) (e : Int) (w : World) : Prop := ∃ F, Wr w F p bs e ∧ (∀ k, F k → w0.heap.size ≤ k) ∧ Below w0.heap.size w0 w

theorem WS.of {w0 w w' : World} {p : Nat} {bs' : List Nat} {e' : Int} {F : Nat → Prop} (hF : ∀ k, F k → w0.heap.size ≤ k) (hB : Below w0.heap.size w0 w) (h : WrDid F p bs' e' w w') : WS w0 p bs' e' w' := by
  obtain ⟨F', hw, hk, hs⟩ := h
  exact ⟨F', hw, fun k hk' => by rcases hs k hk' with h1 | h1; exact hF k h1; exact Nat.le_trans hB.size h1, hB.trans (hk.below (fun k h => hF k h) hB.size)⟩
theorem WS.did {w0 w : World} {p : Nat} {bs bs' : List Nat} {e e' : Int} {f : Nat} {args : Array Value} {r : Ending} (h : WS w0 p bs e w)
    (c : ∀ F, Wr w F p bs e → Calls Tryz.prog f args w fun ex w' => ex = r ∧ WrDid F p bs' e' w w') : Calls Tryz.prog f args w fun ex w' => ex = r ∧ WS w0 p bs' e' w' := by
  obtain ⟨F, hw, hF, hB⟩ := h
  exact (c F hw).mono fun ex w' ⟨h1, h2⟩ => ⟨h1, WS.of hF hB h2⟩
theorem WS.below {w0 w : World} {p : Nat} {bs : List Nat} {e : Int} (h : WS w0 p bs e w) : Below w0.heap.size w0 w := by obtain ⟨F, _, _, hB⟩ := h; exact hB
theorem WS.alloc {w0 w : World} {p : Nat} {bs : List Nat} {e : Int} (h : WS w0 p bs e w) (o : Obj) : WS w0 p bs e (w.alloc o) := by
  obtain ⟨F, hw, hF, hB⟩ := h
  exact ⟨F, hw.kept ((Kept.refl No w).alloc o) (fun _ _ h => h), hF, hB.alloc hB.size o⟩
theorem WS.lt {w0 w : World} {p : Nat} {bs : List Nat} {e : Int} (h : WS w0 p bs e w) : ∀ x ∈ bs, x < 256 := by obtain ⟨F, ⟨v, hv⟩, _, _⟩ := h; exact hv.lt
theorem Bs.below {w w' : World} {F : Nat → Prop} {a : Option Addr} {n c : Nat} {xs : List Nat} (h : Bs w F a n c xs) (hb : Below w.heap.size w w') : Bs w' F a n c xs :=
  h.kept (G := No) (Kept.of_below hb) (fun _ _ h => h)

theorem ws_new (w : World) : WS w w.heap.size [] 0 (w.alloc (.cells #[.slice none 0 0, .int .i64 0] 76)) := by
  refine ⟨fun k => k = w.heap.size, ⟨.slice none 0 0, heap_alloc_new _ _, World.ownsRow_nil _ _ _ _, rfl, fun g h => by simp [Value.ownBlock] at h, fun k hk => by rw [hk]; simp, fun x hx => by cases hx⟩, fun k hk => by omega, (Below.refl _ _).alloc (Nat.le_refl _) _⟩

/-- a literal's bytes, just laid -/
theorem Bs.lit (w : World) (xs : List Nat) (hx : ∀ x ∈ xs, x < 256) (hl : xs.length ≤ 1000) : Bs (w.alloc (.cells (xs.map bv).toArray 5)) (fun k => k = w.heap.size) (some ⟨w.heap.size, 0, none⟩) xs.length xs.length xs := by
  refine ⟨rfl, Nat.le_refl _, by omega, fun h => (by cases h), fun i hi => ⟨w.heap.size, 0, rfl, rfl, ?_⟩, hx⟩
  have h := heap_alloc_new w (.cells (xs.map bv).toArray 5)
  unfold World.cell?
  simp only [h]
  simp [List.getD, hi]

/-- the lowest bytes first -/
def le (S j : Nat) : List Nat := (List.range j).map (fun i => S / 256 ^ i % 256)
theorem le_succ (S j : Nat) : le S (j + 1) = le S j ++ [S / 256 ^ j % 256] := by unfold le; rw [List.range_succ, List.map_append]; rfl
theorem le_length (S j : Nat) : (le S j).length = j := by simp [le]
def sealHead (kind : Nat) (xs : List Nat) : List Nat := [66, 75, kind, 1] ++ be xs.length 4 ++ xs
def sealed (kind : Nat) (xs : List Nat) : List Nat := sealHead kind xs ++ le (crc (sealHead kind xs)) 4
def sealX (kind : Nat) (xs : List Nat) : List Nat := if 4194304 < xs.length then [] else sealed kind xs
def sealE (xs : List Nat) : Int := if 4194304 < xs.length then 1 else 0

theorem crc_lt (xs : List Nat) : crc xs < 4294967296 := by unfold crc; omega

theorem head_bytes (w : World) (p kind : Nat) (hk : kind < 256) (h : WS w p [] 0 (w.alloc (.cells #[.slice none 0 0, .int .i64 0] 76))) :
    Calls Tryz.prog 50 #[.pointer (some ⟨p, 0, none⟩), .slice (some ⟨w.heap.size + 1, 0, none⟩) 4 4] ((w.alloc (.cells #[.slice none 0 0, .int .i64 0] 76)).alloc (.cells #[.int .u8 66, .int .u8 75, .int .u8 kind, .int .u8 1] 5)) fun ex w' => ex = .returned (.tuple #[]) ∧ WS w p [66, 75, kind, 1] 0 w' := by
  have hlit := Bs.lit (w.alloc (.cells #[.slice none 0 0, .int .i64 0] 76)) [66, 75, kind, 1] (by intro x hx; simp at hx; omega) (by simp)
  rw [size_alloc] at hlit
  exact (h.alloc _).did (fun F hw => bytes_any F _ p [] 0 _ 4 4 [66, 75, kind, 1] _ hw hlit (by show 0 + 4 ≤ _; omega))

set_option maxHeartbeats 2000000 in
theorem seal_any (G : Nat → Prop) (kind : Nat) (a : Option Addr) (n c : Nat) (xs : List Nat) (w : World) (hk : kind < 256) (h : Bs w G a n c xs) :
    Calls Tryz.prog 31 #[.int .u8 kind, .slice a n c] w fun ex w' => ∃ a' n' c', ex = .returned (.tuple #[.slice a' n' c', .int .i64 (sealE xs)]) ∧ w'.ownsRow w.heap.size 5 1 (.slice a' n' c') (sealX kind xs).length ((sealX kind xs).map bv) ∧ Below w.heap.size w w' := by
  have hl := h.len
  have HB : Hid (Bs w G a n c xs) := h
  clear h
  by_cases hn : 4194304 < n
  · rw [show sealX kind xs = [] from if_pos (by omega), show sealE xs = 1 from if_pos (by omega)]
    go_enter Tryz.func31, Tryz.ntmps31
    go_wp2
    go_ret2
    exact ⟨none, 0, 0, rfl, World.ownsRow_nil _ _ _ _, Below.refl _ _⟩
  · have e1 : sealX kind xs = sealed kind xs := if_neg (by omega)
    have e2 : sealE xs = 0 := if_neg (by omega)
    rw [e1, e2]
    clear e1 e2
    obtain ⟨p, hp⟩ : ∃ p, p = w.heap.size := ⟨_, rfl⟩
    have hws := ws_new w
    rw [← hp] at hws
    have HW0 : Hid (WS w p [] 0 (w.alloc (.cells #[.slice none 0 0, .int .i64 0] 76))) := hws
    have c23 := newWriter_any w
    rw [← hp] at c23
    have HP : Hid (p = w.heap.size) := hp
    clear hws hp
    go_enter Tryz.func31, Tryz.ntmps31
    go_upto_region 4 with (go_at_call 27; refine c23.mono ?_; rintro ex w1 ⟨rfl, rfl⟩)
    have c46 := head_bytes w p kind hk HW0.out
    go_upto_region 5 with (go_at_call 50; refine c46.mono ?_; rintro ex w1 ⟨rfl, hw1⟩)
    have c47 : Calls Tryz.prog 28 #[.pointer (some ⟨p, 0, none⟩), .int .i64 n] w1 fun ex w' => ex = .returned (.tuple #[]) ∧ WS w p ([66, 75, kind, 1] ++ be n 4) 0 w' := by
      have e1 : numBs [66, 75, kind, 1] 0 (n : Int) 4 = [66, 75, kind, 1] ++ be n 4 := by
        unfold numBs; rw [if_neg (by simp), if_neg (by omega), Int.toNat_natCast]
      have e2 : numE 0 (n : Int) 4 = 0 := by unfold numE; rw [if_neg (by simp), if_neg (by omega)]
      refine hw1.did (fun F hw => ?_)
      have := u32_any F p [66, 75, kind, 1] 0 n w1 hw (by simp) (by omega)
      rwa [e1, e2] at this
    clear c46 c23
    go_upto_region 6 with (go_at_call 28; refine c47.mono ?_; rintro ex w2 ⟨rfl, hw2⟩)
    have hB2 := HB.out.below hw2.below
    have c46 : Calls Tryz.prog 50 #[.pointer (some ⟨p, 0, none⟩), .slice a n c] w2 fun ex w' => ex = .returned (.tuple #[]) ∧ WS w p (sealHead kind xs) 0 w' := by
      refine hw2.did (fun F hw => ?_)
      have := bytes_any F G p _ 0 a n c xs w2 hw hB2 (by rw [List.length_append, be_length]; simp; omega)
      unfold sealHead; rw [hl]
      exact this
    clear c47 hB2
    go_upto_region 7 with (go_at_call 50; refine c46.mono ?_; rintro ex w3 ⟨rfl, hw3⟩)
    obtain ⟨a3, n3, k3, d3, c14⟩ : ∃ a n c, w3.cell? ⟨p, 0, none⟩ = some (.slice a n c) ∧ Calls Tryz.prog 51 #[.slice a n c] w3 fun ex w' => ex = .returned (.int .u32 (crc (sealHead kind xs) : Nat)) ∧ w' = w3 := by
      obtain ⟨F, ⟨v, hv⟩, _⟩ := hw3
      obtain ⟨a, c, rfl, hB⟩ := Bs.of_owns hv.own hv.lt
      exact ⟨a, _, c, hv.c0, sum_any _ a _ c _ w3 hB⟩
    have HW3 : Hid (WS w p (sealHead kind xs) 0 w3) := hw3
    clear c46 hw1 hw2 hw3
    go_upto_region 8 with (go_at_call 51; refine c14.mono ?_; rintro ex w4 ⟨rfl, hw⟩; obtain rfl := hw.symm)
    have hS := crc_lt (sealHead kind xs)
    have hlen : (sealHead kind xs).length ≤ 4194312 := by unfold sealHead; simp [be_length]; omega
    have HSE : Hid (sealed kind xs = sealHead kind xs ++ le (crc (sealHead kind xs)) 4) := rfl
    obtain ⟨hd, hhd⟩ : ∃ hd, hd = sealHead kind xs := ⟨_, rfl⟩
    have HHD : Hid (hd = sealHead kind xs) := hhd
    rw [← hhd] at hS hlen HW3 ⊢
    obtain ⟨S, hSS⟩ : ∃ S, S = crc hd := ⟨_, rfl⟩
    have HSS : Hid (S = crc hd) := hSS
    rw [← hSS] at hS ⊢
    clear c14 hSS hhd d3
    go_wp2
    go_loopw [7, 28] (fun s i wr => ∃ j : Nat, j ≤ 4 ∧ i = .int .i64 j ∧ s = .int .u32 (S / 256 ^ j : Nat) ∧ WS w p (hd ++ le S j) 0 wr) (fun _ i _ => 4 - (intOf i).toNat)
    case atStart => exact ⟨0, by omega, rfl, by simp, by simpa [le] using HW3.out⟩
    case round =>
      obtain ⟨j, hj, rfl, rfl, hwr⟩ := hrel
      clear HW3
      by_cases hj4 : j < 4
      · obtain ⟨T, hT⟩ : ∃ T, T = S / 256 ^ j := ⟨_, rfl⟩
        have hTl : T < 4294967296 := by rw [hT]; exact Nat.lt_of_le_of_lt (Nat.div_le_self _ _) hS
        have e1 : bits .and .u32 (T : Int) 255 = ((T % 256 : Nat) : Int) := by
          have h1 := u32_and_nat T 255 hTl (by decide)
          rw [show T &&& 255 = T % 256 from Nat.and_two_pow_sub_one_eq_mod T 8] at h1
          exact h1
        have e3 : IntKind.i64.wrap ((T % 256 : Nat) : Int) = ((T % 256 : Nat) : Int) := by rw [IntKind.wrap_i64]; omega
        have HT : Hid (S / 256 ^ (j + 1) = T / 256) := by rw [hT]; show S / 256 ^ (j + 1) = _; rw [Nat.pow_succ, Nat.div_div_eq_div_mul]
        obtain ⟨y, hy⟩ : ∃ y, y = T % 256 := ⟨_, rfl⟩
        rw [← hy] at e1 e3
        have c48 : Calls Tryz.prog 47 #[.pointer (some ⟨p, 0, none⟩), .int .i64 (y : Int)] wr fun ex w' => ex = .returned (.tuple #[]) ∧ WS w p (hd ++ le S (j + 1)) 0 w' := by
          have hy2 : y < 256 := by omega
          have e1 : numBs (hd ++ le S j) 0 (y : Int) 1 = hd ++ le S (j + 1) := by
            unfold numBs; rw [if_neg (by simp), if_neg (by omega), Int.toNat_natCast, le_succ, ← List.append_assoc, ← hT, ← hy]
            congr 1
            unfold be; simp; omega
          have e2 : numE 0 (y : Int) 1 = 0 := by unfold numE; rw [if_neg (by simp), if_neg (by omega)]
          refine hwr.did (fun F hw => ?_)
          have := u8_any F p (hd ++ le S j) 0 y wr hw (by rw [List.length_append, le_length]; omega) (by omega)
          rwa [e1, e2] at this
        rw [← hT]
        clear hT hy hwr hTl
        go_wp2_with (go_at_call 47; refine c48.mono ?_; rintro ex w5 ⟨rfl, hw5⟩)
        go_roundw
        case rel =>
          refine ⟨j + 1, by omega, by go_num, ?_, hw5⟩
          rw [HT.out]; simp
        case measure => simp [intOf]; omega
      · have hj4 : j = 4 := by omega
        subst hj4
        obtain ⟨F, hw, hF, hB⟩ := hwr
        have e : hd ++ le S 4 = sealed kind xs := by rw [HSE.out, ← HHD.out, ← HSS.out]
        have hl4 : (hd ++ le S 4).length ≤ 140737488355328 := by rw [List.length_append, le_length]; omega
        have c34 := done_any F p (hd ++ le S 4) 0 wr hw hl4
        rw [if_pos rfl, e] at c34
        clear hw hl4 e
        go_wp2_with (go_at_call 30; refine c34.mono ?_; rintro ex w5 ⟨a5, n5, k5, rfl, _, hk5, own5⟩)
        go_ret2
        exact ⟨a5, n5, k5, rfl, owns_base own5 hB.size, hB.trans (hk5.below hF hB.size)⟩

end Go.Proofs.YtkmpgcgdamcikaaGreatDoor

namespace Go.Proofs.YtkmpgcgdamcikaaGreatDoor
open Go.RowKit
set_option linter.unusedVariables false
set_option maxRecDepth 100000

def inner (xs : List Nat) : List Nat := (xs.drop 8).take (xs.length - 12)
def unsOk (kind : Nat) (xs : List Nat) : Bool := decide (12 ≤ xs.length) && decide (xs.length ≤ 4194316) && decide (sealed kind (inner xs) = xs)
def unsX (kind : Nat) (xs : List Nat) : List Nat := if unsOk kind xs then inner xs else []
def unsE (kind : Nat) (xs : List Nat) : Int := if 4194316 < xs.length then 1 else if unsOk kind xs then 0 else 20

set_option maxHeartbeats 2000000 in
theorem unseal_any (G : Nat → Prop) (kind : Nat) (a : Option Addr) (n c : Nat) (xs : List Nat) (w : World) (hk : kind < 256) (h : Bs w G a n c xs) :
    Calls Tryz.prog 12 #[.int .u8 kind, .slice a n c] w fun ex w' => ∃ a' n' c', ex = .returned (.tuple #[.slice a' n' c', .int .i64 (unsE kind xs)]) ∧ w'.ownsRow w.heap.size 5 1 (.slice a' n' c') (unsX kind xs).length ((unsX kind xs).map bv) ∧ Below w.heap.size w w' := by
  have hl := h.len
  have hcap := h.cap
  have HB : Hid (Bs w G a n c xs) := h
  clear h
  by_cases hn : 4194316 < n
  · have k1 : unsOk kind xs = false := by unfold unsOk; rw [decide_eq_false (show ¬ xs.length ≤ 4194316 by omega)]; simp
    rw [show unsX kind xs = [] from by simp [unsX, k1], show unsE kind xs = 1 from if_pos (by omega)]
    clear k1
    go_enter Tryz.func12, Tryz.ntmps12
    go_wp2
    go_ret2
    exact ⟨none, 0, 0, rfl, World.ownsRow_nil _ _ _ _, Below.refl _ _⟩
  · by_cases hn2 : n < 12
    · have k1 : unsOk kind xs = false := by unfold unsOk; rw [decide_eq_false (show ¬ 12 ≤ xs.length by omega)]; simp
      rw [show unsX kind xs = [] from by simp [unsX, k1], show unsE kind xs = 20 from by unfold unsE; rw [if_neg (by omega), k1]; rfl]
      clear k1
      go_enter Tryz.func12, Tryz.ntmps12
      go_wp2
      go_ret2
      exact ⟨none, 0, 0, rfl, World.ownsRow_nil _ _ _ _, Below.refl _ _⟩
    · obtain ⟨bk, o, rfl, hGb, _⟩ := HB.out.at' 0 (by omega)
      have hBi : Bs w G (some ⟨bk, o + 8, none⟩) (n - 4 - 8) (c - 8) (inner xs) := by
        have h1 := (HB.out.drop 8 (by omega) ⟨bk, o + 8, none⟩ (fun _ => by rw [add_none])).take (n - 4 - 8) (by omega)
        unfold inner; rw [hl, show n - 12 = n - 4 - 8 from by omega]; exact h1
      have e1 : unsE kind xs = if sealed kind (inner xs) = xs then 0 else 20 := by
        unfold unsE unsOk; rw [if_neg (by omega), decide_eq_true (show 12 ≤ xs.length by omega), decide_eq_true (show xs.length ≤ 4194316 by omega)]; simp
      have e2 : unsX kind xs = if sealed kind (inner xs) = xs then inner xs else [] := by
        unfold unsX unsOk; rw [decide_eq_true (show 12 ≤ xs.length by omega), decide_eq_true (show xs.length ≤ 4194316 by omega)]; simp
      have c9 := seal_any G kind _ _ _ _ w hk hBi
      have hil : (inner xs).length = n - 4 - 8 := hBi.len
      have e3 : sealX kind (inner xs) = sealed kind (inner xs) := if_neg (by omega)
      have e4 : sealE (inner xs) = 0 := if_neg (by omega)
      rw [e3, e4] at c9
      have hne : ¬ (c = 8) := by omega
      have HBI : Hid (Bs w G (some ⟨bk, o + 8, none⟩) (n - 4 - 8) (c - 8) (inner xs)) := hBi
      clear e3 e4 hBi
      by_cases hq : sealed kind (inner xs) = xs
      · rw [if_pos hq] at e1 e2
        rw [e1, e2]
        have HQ : Hid (sealed kind (inner xs) = xs) := hq
        clear hq e1 e2
        go_enter Tryz.func12, Tryz.ntmps12
        go_upto_region 6 with fail
        go_upto_region 7 with (go_at_call 31; refine c9.mono ?_; rintro ex w1 ⟨a1, n1, k1, rfl, own1, bel1⟩)
        have hlt : ∀ x ∈ sealed kind (inner xs), x < 256 := by
          intro x hx
          unfold sealed sealHead at hx
          simp only [List.mem_append] at hx
          rcases hx with ((hx | hx) | hx) | hx
          · simp at hx; omega
          · exact be_lt _ _ x hx
          · exact HBI.out.lt x hx
          · unfold le at hx; rw [List.mem_map] at hx; obtain ⟨i, _, rfl⟩ := hx; exact Nat.mod_lt _ (by decide)
        obtain ⟨g1, m1, hv1, hB1⟩ := Bs.of_owns own1 hlt
        obtain ⟨rfl, rfl, rfl⟩ : a1 = g1 ∧ n1 = (sealed kind (inner xs)).length ∧ k1 = m1 := by injection hv1 with h1 h2 h3; exact ⟨h1, h2, h3⟩
        have c51 := equal_any _ _ _ _ _ _ _ _ _ _ w1 hB1 (HB.out.below bel1)
        have c52 := clone_any _ _ _ _ _ w1 (HBI.out.below bel1) (by omega)
        clear hv1 hB1 own1 c9 hlt
        rw [decide_eq_true HQ.out] at c51
        go_wp2_with (first | (go_at_call 32; refine c51.mono ?_; rintro ex w2 ⟨rfl, hw⟩; obtain rfl := hw.symm) | (go_at_call 33; refine c52.mono ?_; rintro ex w2 ⟨v2, rfl, own2, bel2⟩))
        go_ret2
        obtain ⟨g2, m2, hv2, _⟩ := Bs.of_owns own2 HBI.out.lt
        subst hv2
        exact ⟨g2, _, m2, rfl, owns_base own2 bel1.size, bel1.trans (bel2.mono bel1.size)⟩
      · rw [if_neg hq] at e1 e2
        rw [e1, e2]
        have HQ : Hid (¬ sealed kind (inner xs) = xs) := hq
        clear hq e1 e2
        go_enter Tryz.func12, Tryz.ntmps12
        go_upto_region 6 with fail
        go_upto_region 7 with (go_at_call 31; refine c9.mono ?_; rintro ex w1 ⟨a1, n1, k1, rfl, own1, bel1⟩)
        have hlt : ∀ x ∈ sealed kind (inner xs), x < 256 := by
          intro x hx
          unfold sealed sealHead at hx
          simp only [List.mem_append] at hx
          rcases hx with ((hx | hx) | hx) | hx
          · simp at hx; omega
          · exact be_lt _ _ x hx
          · exact HBI.out.lt x hx
          · unfold le at hx; rw [List.mem_map] at hx; obtain ⟨i, _, rfl⟩ := hx; exact Nat.mod_lt _ (by decide)
        obtain ⟨g1, m1, hv1, hB1⟩ := Bs.of_owns own1 hlt
        obtain ⟨rfl, rfl, rfl⟩ : a1 = g1 ∧ n1 = (sealed kind (inner xs)).length ∧ k1 = m1 := by injection hv1 with h1 h2 h3; exact ⟨h1, h2, h3⟩
        have c51 := equal_any _ _ _ _ _ _ _ _ _ _ w1 hB1 (HB.out.below bel1)
        have c52 := clone_any _ _ _ _ _ w1 (HBI.out.below bel1) (by omega)
        clear hv1 hB1 own1 c9 hlt
        rw [decide_eq_false HQ.out] at c51
        go_wp2_with (first | (go_at_call 32; refine c51.mono ?_; rintro ex w2 ⟨rfl, hw⟩; obtain rfl := hw.symm))
        go_ret2
        exact ⟨none, 0, 0, rfl, World.ownsRow_nil _ _ _ _, bel1⟩

end Go.Proofs.YtkmpgcgdamcikaaGreatDoor

namespace Go.Proofs.YtkmpgcgdamcikaaGreatDoor
set_option linter.unusedVariables false
set_option maxRecDepth 100000

theorem be4 (x : Nat) : be x 4 = [x / 16777216 % 256, x / 65536 % 256, x / 256 % 256, x % 256] := by
  simp [be, List.range_succ]
theorem be4_inj {x y : Nat} (hx : x < 4294967296) (hy : y < 4294967296) (h : be x 4 = be y 4) : x = y := by
  rw [be4, be4] at h
  simp only [List.cons.injEq, and_true] at h
  omega
theorem le4 (x : Nat) : le x 4 = [x % 256, x / 256 % 256, x / 65536 % 256, x / 16777216 % 256] := by
  simp [le, List.range_succ]
theorem le4_inj {x y : Nat} (hx : x < 4294967296) (hy : y < 4294967296) (h : le x 4 = le y 4) : x = y := by
  rw [le4, le4] at h
  simp only [List.cons.injEq, and_true] at h
  omega
theorem sealHead_length (kind : Nat) (xs : List Nat) : (sealHead kind xs).length = xs.length + 8 := by
  unfold sealHead; simp [be_length]; omega
theorem sealed_length (kind : Nat) (xs : List Nat) : (sealed kind xs).length = xs.length + 12 := by
  unfold sealed; rw [List.length_append, sealHead_length, le_length]
theorem sealed_cons (kind : Nat) (xs : List Nat) : sealed kind xs = ([66, 75, kind, 1] ++ be xs.length 4) ++ (xs ++ le (crc (sealHead kind xs)) 4) := by
  unfold sealed sealHead; simp [List.append_assoc]
theorem head8 (kind n : Nat) : ([66, 75, kind, 1] ++ be n 4).length = 8 := by simp [be_length]
theorem inner_sealed (kind : Nat) (xs : List Nat) : inner (sealed kind xs) = xs := by
  unfold inner
  rw [sealed_length, sealed_cons, List.drop_left' (head8 _ _), List.take_left' (by omega)]
theorem unsOk_iff (kind : Nat) (xs : List Nat) : unsOk kind xs = true ↔ xs.length ≤ 4194316 ∧ ∃ ys, xs = sealed kind ys := by
  unfold unsOk
  simp only [Bool.and_eq_true, decide_eq_true_eq]
  constructor
  · rintro ⟨⟨h1, h2⟩, h3⟩; exact ⟨h2, inner xs, h3.symm⟩
  · rintro ⟨h1, ys, rfl⟩
    refine ⟨⟨by rw [sealed_length]; omega, h1⟩, by rw [inner_sealed]⟩
theorem unsE_no {kind : Nat} {xs : List Nat} (hl : xs.length ≤ 4194316) (h : ∀ ys, xs ≠ sealed kind ys) : unsE kind xs = 20 ∧ unsX kind xs = [] := by
  have h1 : unsOk kind xs = false := by
    cases hk : unsOk kind xs with
    | false => rfl
    | true => obtain ⟨_, ys, h2⟩ := (unsOk_iff kind xs).1 hk; exact absurd h2 (h ys)
  constructor
  · unfold unsE; rw [if_neg (by omega), h1]; rfl
  · unfold unsX; rw [h1]; rfl
theorem unsE_yes (kind : Nat) (ys : List Nat) (hl : ys.length ≤ 4194304) : unsE kind (sealed kind ys) = 0 ∧ unsX kind (sealed kind ys) = ys := by
  have h1 : unsOk kind (sealed kind ys) = true := (unsOk_iff _ _).2 ⟨by rw [sealed_length]; omega, ys, rfl⟩
  constructor
  · unfold unsE; rw [if_neg (by rw [sealed_length]; omega), h1]; rfl
  · unfold unsX; rw [h1, inner_sealed]; rfl

/-- two sealed texts whose first eight bytes agree are as long -/
theorem same_head {kind kind' : Nat} {xs ys : List Nat} (hx : xs.length < 4294967296) (hy : ys.length < 4294967296) (h : (sealed kind xs).take 8 = (sealed kind' ys).take 8) : kind = kind' ∧ xs.length = ys.length := by
  rw [sealed_cons, sealed_cons, List.take_left' (head8 _ _), List.take_left' (head8 _ _)] at h
  have h1 : kind = kind' ∧ be xs.length 4 = be ys.length 4 := by simpa using h
  exact ⟨h1.1, be4_inj hx hy h1.2⟩

theorem cut_no {kind : Nat} {xs : List Nat} (cut : Nat) (hl : xs.length ≤ 4194304) (hc : cut < xs.length + 12) : unsE kind ((sealed kind xs).take cut) = 20 := by
  refine (unsE_no (by rw [List.length_take, sealed_length]; omega) ?_).1
  intro ys h
  have h1 : cut = ys.length + 12 := by
    have := congrArg List.length h
    rw [List.length_take, sealed_length, sealed_length] at this; omega
  have h2 : ((sealed kind xs).take cut).take 8 = (sealed kind ys).take 8 := by rw [h]
  rw [List.take_take, Nat.min_eq_left (by omega)] at h2
  have := (same_head (by omega) (by omega) h2).2
  omega
theorem more_no {kind : Nat} {xs more : List Nat} (hl : xs.length ≤ 4194304) (hm : 0 < more.length) (hs : xs.length + 12 + more.length ≤ 4194316) : unsE kind (sealed kind xs ++ more) = 20 := by
  refine (unsE_no (by rw [List.length_append, sealed_length]; omega) ?_).1
  intro ys h
  have h1 : xs.length + 12 + more.length = ys.length + 12 := by
    have := congrArg List.length h
    rw [List.length_append, sealed_length, sealed_length] at this; omega
  have h2 : (sealed kind xs ++ more).take 8 = (sealed kind ys).take 8 := by rw [h]
  rw [List.take_append_of_le_length (by rw [sealed_length]; omega)] at h2
  have := (same_head (by omega) (by omega) h2).2
  omega
theorem other_no {kind other : Nat} {xs : List Nat} (hl : xs.length ≤ 4194304) (ho : other ≠ kind) : unsE other (sealed kind xs) = 20 := by
  refine (unsE_no (by rw [sealed_length]; omega) ?_).1
  intro ys h
  have h1 := congrArg List.length h
  rw [sealed_length, sealed_length] at h1
  have h2 : (sealed kind xs).take 8 = (sealed other ys).take 8 := by rw [h]
  exact ho (same_head (by omega) (by omega) h2).1.symm

theorem xor_rc {a b c : Nat} (h : a ^^^ c = b ^^^ c) : a = b := by
  have := congrArg (· ^^^ c) h
  simpa [Nat.xor_assoc] using this
theorem xor_lc {a b c : Nat} (h : c ^^^ a = c ^^^ b) : a = b := xor_rc (c := c) (by rw [Nat.xor_comm a c, Nat.xor_comm b c]; exact h)

/-! the check sum tells one byte from another -/
theorem crcBit_top {r : Nat} (h : r < 4294967296) : (crcBit r).testBit 31 = decide (r % 2 = 1) := by
  unfold crcBit
  rw [Nat.testBit_xor, Nat.testBit_lt_two_pow (show r / 2 < 2 ^ 31 by omega)]
  have h2 : r % 2 = 0 ∨ r % 2 = 1 := by omega
  rcases h2 with h2 | h2 <;> rw [h2] <;> decide
theorem crcBit_inj {r s : Nat} (hr : r < 4294967296) (hs : s < 4294967296) (h : crcBit r = crcBit s) : r = s := by
  have h1 := crcBit_top hr
  have h2 := crcBit_top hs
  rw [h, h2] at h1
  have h3 : r % 2 = s % 2 := by
    have e : (s % 2 = 1) ↔ (r % 2 = 1) := by simpa using h1
    omega
  unfold crcBit at h
  rw [h3] at h
  have h4 : r / 2 = s / 2 := xor_rc h
  omega
theorem crcBits_inj {r s : Nat} (hr : r < 4294967296) (hs : s < 4294967296) : ∀ k, crcBits k r = crcBits k s → r = s
  | 0, h => h
  | k + 1, h => crcBits_inj hr hs k (crcBit_inj (crcBits_lt hr k) (crcBits_lt hs k) h)
theorem fold_inj : ∀ (l : List Nat) (r s : Nat), (∀ x ∈ l, x < 256) → r < 4294967296 → s < 4294967296 → l.foldl crcByte r = l.foldl crcByte s → r = s := by
  intro l
  induction l with
  | nil => intro r s _ _ _ h; exact h
  | cons x l ih =>
    intro r s hl hr hs h
    have hx := hl x (List.mem_cons_self ..)
    have h1 := ih _ _ (fun y hy => hl y (List.mem_cons_of_mem _ hy)) (crcByte_lt hr hx) (crcByte_lt hs hx) h
    have h2 := crcBits_inj (xor_lt hr (show x < 4294967296 by omega)) (xor_lt hs (show x < 4294967296 by omega)) 8 h1
    exact xor_rc h2
theorem crc_apart (l t : List Nat) (x y : Nat) (hl : ∀ z ∈ l, z < 256) (ht : ∀ z ∈ t, z < 256) (hx : x < 256) (hy : y < 256) (h : crc (l ++ x :: t) = crc (l ++ y :: t)) : x = y := by
  have hb : ∀ z, (∀ u ∈ l ++ z :: t, u < 256) → crcReg (l ++ z :: t) < 4294967296 := by
    intro z hz
    have := crcReg_lt (l ++ z :: t) hz (l ++ z :: t).length
    rw [List.take_length] at this
    exact this
  have mem : ∀ z, z < 256 → ∀ u ∈ l ++ z :: t, u < 256 := by
    intro z hz u hu
    rcases List.mem_append.1 hu with h1 | h1
    · exact hl u h1
    · rcases List.mem_cons.1 h1 with h2 | h2
      · rw [h2]; exact hz
      · exact ht u h2
  have h1 : crcReg (l ++ x :: t) = crcReg (l ++ y :: t) := by
    have a := hb x (mem x hx)
    have b := hb y (mem y hy)
    unfold crc at h; omega
  have hR : l.foldl crcByte 4294967295 < 4294967296 := by
    have := crcReg_lt l hl l.length
    rw [List.take_length] at this
    exact this
  unfold crcReg at h1
  rw [List.foldl_append, List.foldl_append, List.foldl_cons, List.foldl_cons] at h1
  have h2 := fold_inj t _ _ ht (crcByte_lt hR hx) (crcByte_lt hR hy) h1
  have h3 := crcBits_inj (xor_lt hR (show x < 4294967296 by omega)) (xor_lt hR (show y < 4294967296 by omega)) 8 h2
  exact xor_lc h3

theorem sealed_lt {kind : Nat} {xs : List Nat} (hk : kind < 256) (hx : ∀ x ∈ xs, x < 256) : ∀ x ∈ sealed kind xs, x < 256 := by
  intro x hx'
  unfold sealed sealHead at hx'
  simp only [List.mem_append] at hx'
  rcases hx' with ((h | h) | h) | h
  · simp at h; omega
  · exact be_lt _ _ x h
  · exact hx x h
  · unfold le at h; rw [List.mem_map] at h; obtain ⟨i, _, rfl⟩ := h; exact Nat.mod_lt _ (by decide)

theorem head_get (kind : Nat) (xs : List Nat) (i : Nat) (h : i < 8) : (sealed kind xs)[i]? = ([66, 75, kind, 1] ++ be xs.length 4)[i]? := by
  rw [sealed_cons]; exact List.getElem?_append_left (by rw [head8]; exact h)

/-- one byte turned -/
theorem turn_no {kind : Nat} {xs : List Nat} (hl : xs.length ≤ 4194304) (hk : kind < 256) (hx : ∀ x ∈ xs, x < 256) (i y : Nat) (hi : i < xs.length + 12) (hy : y < 256) (hne : y ≠ (sealed kind xs).getD i 0) :
    unsE kind ((sealed kind xs).set i y) = 20 ∧ unsX kind ((sealed kind xs).set i y) = [] := by
  refine unsE_no (by rw [List.length_set, sealed_length]; omega) ?_
  intro ys h
  have hlen : xs.length = ys.length := by
    have := congrArg List.length h
    rw [List.length_set, sealed_length, sealed_length] at this; omega
  have hget : ∀ j : Nat, ((sealed kind xs).set i y)[j]? = (sealed kind ys)[j]? := fun j => by rw [h]
  have hi' : i < (sealed kind xs).length := by rw [sealed_length]; exact hi
  have hat : (sealed kind ys)[i]? = some y := by rw [← hget i, List.getElem?_set_self hi']
  have hne2 : (sealed kind xs)[i]? ≠ some y := by
    intro h2
    apply hne
    rw [List.getD, h2]; rfl
  -- the head
  by_cases h8 : i < 8
  · apply hne2
    rw [← hat, head_get kind xs i h8, head_get kind ys i h8, hlen]
  · have hin : inner ((sealed kind xs).set i y) = ys := by rw [h, inner_sealed]
    by_cases hm : i < xs.length + 8
    · obtain ⟨j, rfl⟩ : ∃ j, i = 8 + j := ⟨i - 8, by omega⟩
      have hset : (sealed kind xs).set (8 + j) y = ([66, 75, kind, 1] ++ be xs.length 4) ++ (xs.set j y ++ le (crc (sealHead kind xs)) 4) := by
        rw [sealed_cons, List.set_append_right _ _ (by rw [head8]; omega), head8, List.set_append_left _ _ (by omega)]
        congr 2
        congr 1
        omega
      have hys : ys = xs.set j y := by
        rw [← hin, hset]
        unfold inner
        rw [List.drop_left' (head8 _ _), List.take_left']
        simp [be_length, le_length]; omega
      rw [hset, sealed_cons, ← hlen] at h
      have h2 := List.append_cancel_left h
      rw [← hys] at h2
      have h3 := le4_inj (crc_lt _) (crc_lt _) (List.append_cancel_left h2)
      have hj : j < xs.length := by omega
      have ex : xs = xs.take j ++ xs[j] :: xs.drop (j + 1) := by rw [List.getElem_cons_drop, List.take_append_drop]
      have ey : xs.set j y = xs.take j ++ y :: xs.drop (j + 1) := by rw [List.set_eq_take_append_cons_drop, if_pos hj]
      have hsx : sealHead kind xs = ([66, 75, kind, 1] ++ be xs.length 4 ++ xs.take j) ++ xs[j] :: xs.drop (j + 1) := by
        unfold sealHead; rw [List.append_assoc _ (xs.take j), ← ex]
      have hsy : sealHead kind ys = ([66, 75, kind, 1] ++ be xs.length 4 ++ xs.take j) ++ y :: xs.drop (j + 1) := by
        unfold sealHead; rw [List.append_assoc _ (xs.take j), ← ey, ← hys, ← hlen]
      rw [hsx, hsy] at h3
      have h4 := crc_apart _ _ _ _ (by
        intro z hz
        rcases List.mem_append.1 hz with h5 | h5
        · rcases List.mem_append.1 h5 with h6 | h6
          · simp at h6; omega
          · exact be_lt _ _ z h6
        · exact hx z (List.mem_of_mem_take h5)) (fun z hz => hx z (List.mem_of_mem_drop hz)) (hx _ (List.getElem_mem _)) hy h3
      apply hne2
      rw [sealed_cons, List.getElem?_append_right (by rw [head8]; omega), head8, Nat.add_sub_cancel_left, List.getElem?_append_left hj, List.getElem?_eq_getElem hj, h4]
    · obtain ⟨j, rfl⟩ : ∃ j, i = 8 + (xs.length + j) := ⟨i - 8 - xs.length, by omega⟩
      have hset : (sealed kind xs).set (8 + (xs.length + j)) y = ([66, 75, kind, 1] ++ be xs.length 4) ++ (xs ++ (le (crc (sealHead kind xs)) 4).set j y) := by
        rw [sealed_cons, List.set_append_right _ _ (by rw [head8]; omega), head8, Nat.add_sub_cancel_left, List.set_append_right _ _ (by omega), Nat.add_sub_cancel_left]
      have hys : ys = xs := by
        rw [← hin, hset]
        unfold inner
        rw [List.drop_left' (head8 _ _), List.take_left']
        simp [be_length, le_length]; omega
      subst hys
      exact hne2 hat

end Go.Proofs.YtkmpgcgdamcikaaGreatDoor
