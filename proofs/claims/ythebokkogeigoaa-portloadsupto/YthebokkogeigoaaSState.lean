/-
  port: State.
-/
import Derived.Test.YthebokkogeigoaaSTell
import Derived.Test.YthebokkogeigoaaSLoad
namespace Go.Proofs.Ythebokkogeigoaa
open Go.RowKit
set_option linter.unusedVariables false
set_option linter.unusedSimpArgs false
set_option maxRecDepth 100000

/-- what is told of all ports -/
structure Tl (B : Nat) (w : World) (a : Option Addr) (n c : Nat) (it sv : Nat → Value) (ms : Nat → List Value) (ss : Nat → Ps) : Prop where
  row : Rc w B 61 5 (.slice a n c) n (fun i j => (((ss i).val (it i) (sv i))[j]?).getD undef)
  each : ∀ i, i < n → Tv B w (it i) (ms i) (sv i) (ss i)
  far : ∀ i j, i < n → j < n → i ≠ j → ∀ u, u ∈ sv i :: ms i → ∀ v, v ∈ sv j :: ms j → Far u v
theorem Tl.keep {B : Nat} {w w' : World} {a : Option Addr} {n c : Nat} {it sv : Nat → Value} {ms : Nat → List Value} {ss : Nat → Ps} (h : Tl B w a n c it sv ms ss) (K : Kept No w w') : Tl B w' a n c it sv ms ss :=
  ⟨h.row.kept K (fun _ _ e => e), fun i hi => (h.each i hi).keep K, h.far⟩
theorem Tv.wd {B : Nat} {w : World} {it : Value} {ms : List Value} {sv : Value} {s : Ps} (h : Tv B w it ms sv s) {u : Value} (hu : u ∈ sv :: ms) : ∃ x : List Int, w.ownsRow B 2 1 u x.length (x.map iv) := by
  rcases List.mem_cons.1 hu with rfl | hu
  · exact ⟨_, h.smp⟩
  · obtain ⟨j, hj, ej⟩ := List.mem_iff_getElem.1 hu
    have hx : s.q[j]? = some (s.q[j]'(by rw [h.len]; exact hj)) := List.getElem?_eq_getElem _
    exact ⟨_, h.msg j u _ (by rw [List.getElem?_eq_getElem hj, ej]) hx⟩
theorem Tv.kept {B : Nat} {G : Nat → Prop} {w w' : World} {it : Value} {ms : List Value} {sv : Value} {s : Ps} (h : Tv B w it ms sv s) (K : Kept G w w') (h1 : ∀ g, it.ownBlock = some g → ¬ G g) (h2 : ∀ u, u ∈ sv :: ms → ∀ g, u.ownBlock = some g → ¬ G g) : Tv B w' it ms sv s :=
  ⟨K.owns h.que h1, h.len, fun j v x hv hx => K.owns (h.msg j v x hv hx) (h2 v (List.mem_cons_of_mem _ (List.mem_of_getElem? hv))), h.far, K.owns h.smp (h2 sv (List.mem_cons_self ..)), h.sfar⟩
theorem Tv.base {B B' : Nat} {w : World} {it : Value} {ms : List Value} {sv : Value} {s : Ps} (h : Tv B w it ms sv s) (hB : B' ≤ B) : Tv B' w it ms sv s :=
  ⟨owns_base h.que hB, h.len, fun j v x hv hx => owns_base (h.msg j v x hv hx) hB, h.far, owns_base h.smp hB, h.sfar⟩
def st5 (w : World) (g o : Nat) (A : Array Value) : World := ((((w.setCell ⟨g, o, none⟩ A[0]!).setCell ⟨g, o + 1, none⟩ A[1]!).setCell ⟨g, o + 2, none⟩ A[2]!).setCell ⟨g, o + 3, none⟩ A[3]!).setCell ⟨g, o + 4, none⟩ A[4]!
/-- one port more is told -/
theorem Tl.put {B : Nat} {w w1 : World} {g n c k : Nat} {it sv : Nat → Value} {ms : Nat → List Value} {ss : Nat → Ps} {it' sv' : Value} {ms' : List Value} {s' : Ps} (h : Tl B w (some ⟨g, 0, none⟩) n c it sv ms ss) (hB : B ≤ w.heap.size) (hk : k < n) (K : Kept No w w1) (tv : Tv w.heap.size w1 it' ms' sv' s') :
    Tl B (st5 w1 g (k * 5) (s'.val it' sv')) (some ⟨g, 0, none⟩) n c (upd it k it') (upd sv k sv') (upd ms k ms') (upd ss k s') ∧ Kept (fun j => j = g) w1 (st5 w1 g (k * 5) (s'.val it' sv')) := by
  have h1 := h.keep K
  have kq : Kept (fun j => j = g) w1 (st5 w1 g (k * 5) (s'.val it' sv')) := (((((Kept.refl (fun j => j = g) w1).setCell (p := ⟨g, k * 5, none⟩) (.inl rfl) _).setCell (p := ⟨g, k * 5 + 1, none⟩) (.inl rfl) _).setCell (p := ⟨g, k * 5 + 2, none⟩) (.inl rfl) _).setCell (p := ⟨g, k * 5 + 3, none⟩) (.inl rfl) _).setCell (p := ⟨g, k * 5 + 4, none⟩) (.inl rfl) _
  obtain ⟨_, cs, hg⟩ := h1.row.blk (g := g) rfl
  have nb : ∀ {b' t m : Nat} {v : Value} {ys : List Value}, w1.ownsRow b' t 1 v m ys → t ≠ 61 → ∀ j, v.ownBlock = some j → ¬ j = g := fun ho ht j hj e => by
    obtain ⟨_, cs', h3⟩ := owns_blk ho hj
    rw [e] at h3
    exact ht (two_tags h3 hg)
  refine ⟨⟨?_, fun i hi => ?_, fun i j hi hj hij u hu v hv => ?_⟩, kq⟩
  · have p0 := h1.row.put (g := g) rfl (i := k) (j := 0) (by omega) (s'.val it' sv')[0]!
    have p1 := p0.put (g := g) rfl (i := k) (j := 1) (by omega) (s'.val it' sv')[1]!
    have p2 := p1.put (g := g) rfl (i := k) (j := 2) (by omega) (s'.val it' sv')[2]!
    have p3 := p2.put (g := g) rfl (i := k) (j := 3) (by omega) (s'.val it' sv')[3]!
    have p4 := p3.put (g := g) rfl (i := k) (j := 4) (by omega) (s'.val it' sv')[4]!
    rw [Nat.add_zero] at p4
    refine p4.congr (fun a b ha hb => ?_)
    by_cases e : a = k
    · subst e
      rw [upd_same, upd_same, upd_same]
      have : b = 0 ∨ b = 1 ∨ b = 2 ∨ b = 3 ∨ b = 4 := by omega
      rcases this with rfl | rfl | rfl | rfl | rfl <;> simp [Ps.val]
    · rw [upd_oth _ _ e, upd_oth _ _ e, upd_oth _ _ e]
      simp [e]
  · by_cases e : i = k
    · subst e
      rw [upd_same, upd_same, upd_same, upd_same]
      exact (tv.kept kq (nb tv.que (by decide)) (fun u hu => by obtain ⟨x, ho⟩ := tv.wd hu; exact nb ho (by decide))).base hB
    · rw [upd_oth _ _ e, upd_oth _ _ e, upd_oth _ _ e, upd_oth _ _ e]
      have t1 := h1.each i hi
      exact t1.kept kq (nb t1.que (by decide)) (fun u hu => by obtain ⟨x, ho⟩ := t1.wd hu; exact nb ho (by decide))
  · have key : ∀ m, m < n → ∀ u, u ∈ sv' :: ms' → ∀ v, v ∈ sv m :: ms m → Far u v := fun m hm u hu v hv q hq hq' => by
      obtain ⟨x, ho⟩ := tv.wd hu
      obtain ⟨y, ho'⟩ := (h.each m hm).wd hv
      have r1 := (owns_blk ho hq).1
      have r2 := owns_at ho' hq'
      omega
    by_cases e : i = k
    · subst e
      rw [upd_same, upd_same] at hu
      rw [upd_oth _ _ (fun q => hij q.symm), upd_oth _ _ (fun q => hij q.symm)] at hv
      exact key j hj u hu v hv
    · rw [upd_oth _ _ e, upd_oth _ _ e] at hu
      by_cases e2 : j = k
      · subst e2
        rw [upd_same, upd_same] at hv
        exact (key i hi v hv u hu).symm
      · rw [upd_oth _ _ e2, upd_oth _ _ e2] at hv
        exact h.far i j hi hj hij u hu v hv
theorem Tl.at5 {B : Nat} {w : World} {g n c k : Nat} {it sv : Nat → Value} {ms : Nat → List Value} {ss : Nat → Ps} (h : Tl B w (some ⟨g, 0, none⟩) n c it sv ms ss) (hk : k < n) (j : Nat) (hj : j < 5) : w.cell? ⟨g, k * 5 + j, none⟩ = some ((((ss k).val (it k) (sv k))[j]?).getD undef) := by
  obtain ⟨g', cap, e, _, _, _, hc, hf⟩ := h.row.look hk
  injection e with e
  injection e with e
  injection e with e
  subst e
  exact hc j hj
theorem Tl.fz {B : Nat} {w : World} {g n c k : Nat} {it sv : Nat → Value} {ms : Nat → List Value} {ss : Nat → Ps} (h : Tl B w (some ⟨g, 0, none⟩) n c it sv ms ss) (hk : k < n) (x : Nat) : w.frozen? ⟨g, x, none⟩ = false := by
  obtain ⟨g', cap, e, _, _, _, hc, hf⟩ := h.row.look hk
  injection e with e
  injection e with e
  injection e with e
  subst e
  exact hf x
theorem mkS_run (n : Nat) (hn : n ≤ 4096) (W : World) : ∃ cs : Array Value, (Instr.makeSlice 55 (.int .i64 n) (.int .i64 n)).run Try.prog W = .ok (.slice (some ⟨W.heap.size, 0, none⟩) n n) (W.alloc (.cells cs 61)) ∧ ∀ i j, i < n → j < 5 → cs[i * 5 + j]? = ((Ps.zero.val (.slice none 0 0) (.slice none 0 0)))[j]? := by
  obtain ⟨i0, hi, hz0, hz1, hz2⟩ := info_parts Try.infoS
  have hr := run_make (P := Try.prog) W 55 61 i0 _ Try.underlying55 hi hz0 .i64 .i64 n n (by omega) (Int.le_refl _) (by rw [hz2]; omega) (by omega)
  simp only [Int.toNat_natCast] at hr
  rw [hz1] at hr
  have e : ∀ x, x < n * 5 → (madeCells (Value.agg #[.slice none 0 0, .bool false, .int .i64 0, .slice none 0 0, .int .i64 0]).cells (n * 5))[x]? = some (#[Value.slice none 0 0, .bool false, .int .i64 0, .slice none 0 0, .int .i64 0][x % 5]!) := fun x hx => by
    unfold madeCells
    rw [Array.getElem?_map, Array.getElem?_range, if_pos hx]
    rfl
  refine ⟨_, hr, fun i j hi hj => ?_⟩
  rw [e (i * 5 + j) (by omega), show (i * 5 + j) % 5 = j by omega]
  have : j = 0 ∨ j = 1 ∨ j = 2 ∨ j = 3 ∨ j = 4 := by omega
  rcases this with rfl | rfl | rfl | rfl | rfl <;> rfl
/-- how the ports stand -/
def Pd.ss (S : Pd) (i : Nat) : Ps := if S.own i = true then (S.en i).ps else Ps.zero
/-- none of a partition's lists is too long -/
def Pd.small (S : Pd) : Prop := ∀ i, i < S.n → S.own i = true → (S.en i).ms.length ≤ 1048576 ∧ (∀ x, x ∈ (S.en i).xs → x.length ≤ 1048576) ∧ (S.en i).sx.length ≤ 1048576
set_option maxHeartbeats 8000000 in
theorem state_any {B b mb c : Nat} {S : Pd} (w : World) (h : Pt w B b mb c S) (hn : S.n ≤ 4095) (hs : S.small) :
    Calls Try.prog 25 #[.pointer (some ⟨b, 0, none⟩)] w fun r w' => ∃ a c' it sv ms, r = .returned (.slice a S.n c') ∧ Tl w.heap.size w' a S.n c' it sv ms S.ss ∧ Kept No w w' := by
  obtain ⟨n, en⟩ : ∃ n, n = S.n := ⟨_, rfl⟩
  obtain ⟨cs, hmk, hcs⟩ := mkS_run n (by omega) w
  have c1 : w.cell? ⟨b, 1, none⟩ = some (.int .i64 n) := by rw [en]; exact h.cells.2
  have K1 : Kept No w (w.alloc (.cells cs 61)) := (Kept.refl No w).alloc _
  have TL0 : Hid (Tl w.heap.size (w.alloc (.cells cs 61)) (some ⟨w.heap.size, 0, none⟩) n n (fun _ => .slice none 0 0) (fun _ => .slice none 0 0) (fun _ => []) (fun _ => Ps.zero)) := by
    refine ⟨.inr ⟨w.heap.size, n, cs, rfl, Nat.le_refl _, alloc_new w _, Nat.le_refl _, by omega, fun i j hi hj => ?_⟩, fun i hi => ⟨World.ownsRow_nil _ _ _ _, rfl, fun j v x hv => (by cases hv), fun j j' v v' hv => (by cases hv), World.ownsRow_nil _ _ _ _, fun v hv => (by cases hv)⟩, fun i j _ _ _ u hu v hv q hq => ?_⟩
    · rw [cell_blk (alloc_new w _), hcs i j hi hj]
      have : j = 0 ∨ j = 1 ∨ j = 2 ∨ j = 3 ∨ j = 4 := by omega
      rcases this with rfl | rfl | rfl | rfl | rfl <;> rfl
    · have : u = .slice none 0 0 := by simpa using hu
      rw [this] at hq
      cases hq
  have HP := hid (And.intro h (And.intro hs (And.intro en K1)))
  rw [← en] at hn
  clear h hs hcs K1
  rw [← en]
  clear en
  go_enter Try.func25, Try.ntmps25
  go_upto_region 4 with fail
  clear hmk
  generalize w.alloc (.cells cs 61) = w1 at *
  obtain ⟨lb, elb⟩ : ∃ lb, lb = w.heap.size := ⟨_, rfl⟩
  have LB := hid elb
  go_wp2
  go_loopw [15] (fun i wr => ∃ (k : Nat) (it sv : Nat → Value) (ms : Nat → List Value), k ≤ n ∧ i = .int .i64 k ∧ Tl w.heap.size wr (some ⟨w.heap.size, 0, none⟩) n n it sv ms (fun i => if i < k then S.ss i else Ps.zero) ∧ Kept No w wr) (fun i _ => n - (intOf i).toNat)
  case atStart => exact ⟨0, _, _, _, Nat.zero_le _, rfl, TL0.out, HP.out.2.2.2⟩
  case round =>
    clear TL0 elb
    obtain ⟨k, it, sv, ms, hk, rfl, tl, kr⟩ := hrel
    by_cases hlt : k < n
    · have hltz : (k : Int) < (n : Int) := by omega
      have hx : I6 ((k : Int) + 1) := by unfold I6; omega
      have hp := HP.out.1.keep kr
      have TL := hid (And.intro tl kr)
      by_cases hown : S.own k = true
      · have hkn : k < S.n := by rw [← HP.out.2.2.1]; exact hlt
        have hix : S.idx ((k : Int) + 1) = some k := Pd.idx_of hkn hown
        have fi := find_yes wr hp hx hix
        have hsm := HP.out.2.1 k hkn hown
        have te := tell_any wr (hp.ends k hkn hown) hsm.1 hsm.2.1 hsm.2.2
        have SS : Hid (S.ss k = (S.en k).ps) := by show S.ss k = _; unfold Pd.ss; rw [if_pos hown]
        clear hp hix hsm hown tl kr
        generalize S.en k = e at *
        go_upto_region 9 with (go_at_call 29; refine fi.mono ?_; rintro r w5 ⟨rfl, e5⟩; subst e5; clear fi)
        go_wp2_with (go_at_call 49; refine te.mono ?_; rintro r w6 ⟨qa, qn, qc, da, dn, dc, ms6, rfl, hqn, tv, k6⟩; have tk6 := TL.out.1.keep k6; have x0 := tk6.at5 hlt 0 (by omega); have z0 := tk6.fz hlt (k * 5 + 0); have x1 := tk6.at5 hlt 1 (by omega); have z1 := tk6.fz hlt (k * 5 + 1); have x2 := tk6.at5 hlt 2 (by omega); have z2 := tk6.fz hlt (k * 5 + 2); have x3 := tk6.at5 hlt 3 (by omega); have z3 := tk6.fz hlt (k * 5 + 3); have x4 := tk6.at5 hlt 4 (by omega); have z4 := tk6.fz hlt (k * 5 + 4); rw [Nat.add_zero] at x0 z0; generalize hu0 : ((((if k < k then S.ss k else Ps.zero).val (it k) (sv k))[0]?).getD undef) = u0 at x0; generalize hu1 : ((((if k < k then S.ss k else Ps.zero).val (it k) (sv k))[1]?).getD undef) = u1 at x1; generalize hu2 : ((((if k < k then S.ss k else Ps.zero).val (it k) (sv k))[2]?).getD undef) = u2 at x2; generalize hu3 : ((((if k < k then S.ss k else Ps.zero).val (it k) (sv k))[3]?).getD undef) = u3 at x3; generalize hu4 : ((((if k < k then S.ss k else Ps.zero).val (it k) (sv k))[4]?).getD undef) = u4 at x4; clear hu0 hu1 hu2 hu3 hu4; have T6 := hid (And.intro tv k6); clear tv k6 hqn te tk6)
        have TE : (fun i => if i < k + 1 then S.ss i else Ps.zero) = upd (fun i => if i < k then S.ss i else Ps.zero) k e.ps := by
          funext i
          by_cases h2 : i = k
          · subst h2; rw [upd_same, if_pos (by omega)]; exact SS.out
          · rw [upd_oth _ _ h2]
            by_cases h1 : i < k
            · rw [if_pos h1, if_pos (by omega)]
            · rw [if_neg h1, if_neg (by omega)]
        obtain ⟨t7, k7⟩ := TL.out.1.put TL.out.2.size hlt T6.out.2 T6.out.1
        refine ⟨⟨k + 1, _, _, _, by omega, by go_num, by rw [TE]; exact t7, (TL.out.2.trans T6.out.2 (fun _ e => .inl e)).trans k7 (fun j e => .inr (by rw [e]; exact Nat.le_refl _))⟩, ?_⟩
        simp [intOf]; omega
      · have hix : S.idx ((k : Int) + 1) = none := by
          cases h9 : S.idx ((k : Int) + 1) with
          | none => rfl
          | some j =>
            obtain ⟨q1, q2, q3⟩ := Pd.idx_some h9
            obtain rfl : j = k := by omega
            exact absurd q2 hown
        have fi := find_no wr hp hx hix
        have TE : Hid ((fun i => if i < k + 1 then S.ss i else Ps.zero) = (fun i => if i < k then S.ss i else Ps.zero)) := by
          show (fun i => if i < k + 1 then S.ss i else Ps.zero) = (fun i => if i < k then S.ss i else Ps.zero)
          funext i
          by_cases h1 : i < k
          · rw [if_pos h1, if_pos (by omega)]
          · rw [if_neg h1]
            by_cases h2 : i = k
            · subst h2; rw [if_pos (by omega)]; unfold Pd.ss; rw [if_neg hown]
            · rw [if_neg (by omega)]
        clear hp hix hown tl kr
        go_wp2_with (go_at_call 29; refine fi.mono ?_; rintro r w5 ⟨rfl, e5⟩; subst e5; clear fi)
        refine ⟨⟨k + 1, it, sv, ms, by omega, by go_num, by rw [TE.out]; exact TL.out.1, TL.out.2⟩, ?_⟩
        simp [intOf]; omega
    · have hltz : ¬ (k : Int) < (n : Int) := by omega
      obtain rfl : k = n := by omega
      have TL := hid (And.intro tl kr)
      clear tl kr
      go_wp2
      go_ret
      refine ⟨_, _, rfl, ⟨it, sv, ms, TL.out.1.row.congr (fun i j hi hj => by simp only [if_pos hi]), fun i hi => by have := TL.out.1.each i hi; simp only [if_pos hi] at this; exact this, TL.out.1.far⟩, TL.out.2⟩
end Go.Proofs.Ythebokkogeigoaa
