/-
  spoilt: the walk.
-/
import Derived.Test.YthebokkogeigoaaSSpP
import Derived.Deep.DeepCutAuto
namespace Go.Proofs.Ythebokkogeigoaa
open Go.RowKit
set_option linter.unusedVariables false
set_option linter.unusedSimpArgs false
set_option maxRecDepth 100000

/-- the blocks of lists of words -/
def Ub (U : List Value) (k : Nat) : Prop := ∃ (j : Nat) (v : Value), U[j]? = some v ∧ v.ownBlock = some k
/-- what the walk keeps: the row of all lists, the lists, the rest -/
structure Sp (w : World) (B : Nat) (U : List Value) (ga vc : Nat) (P : Nat → Prop) (k : Nat) (wr : World) : Prop where
  row : wr.ownsRow w.heap.size 22 1 (.slice (some ⟨ga, 0, none⟩) U.length vc) U.length U
  wo : Wo B wr U P k
  hk : Kept (Ub U) w wr
theorem Sp.at' {w : World} {B : Nat} {U : List Value} {ga vc : Nat} {P : Nat → Prop} {k : Nat} {wr : World} (h : Sp w B U ga vc P k wr) {i : Nat} {v : Value} (hi : U[i]? = some v) : wr.cell? ⟨ga, i, none⟩ = some v := own_cell h.row hi
/-- one list is turned -/
theorem Sp.turn {w : World} {B : Nat} {U : List Value} {ga vc : Nat} {P : Nat → Prop} {k i : Nat} {wr wr' : World} {v : Value} (h : Sp w B U ga vc P k wr) (ap : Apt U) (lo : ∀ g, Ub U g → g < w.heap.size) (hi : U[i]? = some v) (hp : ∀ j, j ≠ i → P j) (K : Kept (fun g => v.ownBlock = some g) wr wr') : Sp w B U ga vc (fun j => j ≠ i) k wr' := by
  refine ⟨K.owns h.row (fun g hg e => ?_), fun j u hj hu => ?_, h.hk.trans K (fun g e => .inl ⟨i, v, hi, e⟩)⟩
  · have h1 := (owns_blk h.row hg).1
    have h2 := lo g ⟨i, v, hi, e⟩
    omega
  · obtain ⟨m, X, h1, h2⟩ := h.wo j u (hp j hj) hu
    exact ⟨m, X, K.owns h1 (fun g hg e => ap j i u v hu hi hj g hg e), h2⟩
theorem Sp.keep {w : World} {B : Nat} {U : List Value} {ga vc : Nat} {P : Nat → Prop} {k : Nat} {wr wr' : World} (h : Sp w B U ga vc P k wr) (K : Kept No wr wr') : Sp w B U ga vc P k wr' :=
  ⟨K.owns h.row (fun _ _ e => e), h.wo.kept K (fun _ _ _ _ _ _ e => e), h.hk.trans K (fun _ e => e.elim)⟩
theorem Sp.less {w : World} {B : Nat} {U : List Value} {ga vc : Nat} {P Q : Nat → Prop} {k : Nat} {wr : World} (h : Sp w B U ga vc P k wr) (hq : ∀ j, Q j → P j) : Sp w B U ga vc Q k wr := ⟨h.row, fun j v hp => h.wo j v (hq j hp), h.hk⟩
theorem rep_of {m : Nat} {X : List Value} {u : Value} (hl : X.length = m) (h : ∀ y, y < m → X[y]? = some u) : X = List.replicate m u := by
  apply List.ext_getElem?
  intro y
  rw [List.getElem?_replicate]
  by_cases hy : y < m
  · rw [if_pos hy, h y hy]
  · rw [if_neg hy, List.getElem?_eq_none (by omega)]
theorem owns_up {w : World} {B B' t sz n g cap : Nat} {ys : List Value} (h : w.ownsRow B' t sz (.slice (some ⟨g, 0, none⟩) n cap) n ys) (hB : B ≤ g) : w.ownsRow B t sz (.slice (some ⟨g, 0, none⟩) n cap) n ys := by
  obtain ⟨q1, ⟨q2, _⟩ | ⟨g', cap', cur, r1, r2, r3⟩⟩ := h
  · cases q2
  · injection r1 with r1 _ r4
    injection r1 with r1
    injection r1 with r1
    subst r1 r4
    exact ⟨q1, .inr ⟨g, cap, cur, rfl, hB, r3⟩⟩
/-- the longer list: over the list's own row, or apart -/
def Lng (B : Nat) (w4 wr : World) (v l : Value) (xm q : Nat) (X : List Value) : Prop := (∃ g cap, v = .slice (some ⟨g, 0, none⟩) xm cap ∧ l = .slice (some ⟨g, 0, none⟩) (xm + q) cap ∧ B ≤ g) ∨ (wr.ownsRow B 2 1 v xm X ∧ ∀ g, l.ownBlock = some g → w4.heap.size ≤ g)
theorem Lng.own {B : Nat} {w4 wr : World} {v l : Value} {xm q : Nat} {X Z : List Value} (h : Lng B w4 wr v l xm q X) (hX : X.length = xm) (ow : wr.ownsRow 0 2 1 l (xm + q) (X ++ Z)) : wr.ownsRow B 2 1 v xm X := by
  rcases h with ⟨g, cap, rfl, rfl, hB⟩ | ⟨h, _⟩
  · exact owns_up (owns_head ow hX) hB
  · exact h
theorem long_step {w w4 w5 w6 : World} {B ga vc N i xm q : Nat} {U X Z : List Value} {v l v' u : Value} (ap : Apt U) (lo : ∀ g, Ub U g → g < w.heap.size) (hi : U[i]? = some v) (hX : X.length = xm) (h4 : w.heap.size ≤ w4.heap.size) (hga : ga < w4.heap.size) (hsz : w4.heap.size ≤ w5.heap.size) (sp : Sp w B U ga vc (fun j => j ≠ i) N w5) (ow : w5.ownsRow 0 2 1 l (xm + q) (X ++ Z)) (hor : Lng B w4 w5 v l xm q X) {o : Obj}
    (o6 : w6.ownsRow 0 2 1 v' (xm + q + 1) (X ++ Z ++ [u])) (h6 : (∃ g cap, l = .slice (some ⟨g, 0, none⟩) (xm + q) cap ∧ v' = .slice (some ⟨g, 0, none⟩) (xm + q + 1) cap ∧ (w5.alloc o).grownBy w6 (some g)) ∨ (v'.ownBlock = some (w5.alloc o).heap.size ∧ (w5.alloc o).grownBy w6 none)) :
    w6.ownsRow 0 2 1 v' (xm + (q + 1)) (X ++ (Z ++ [u])) ∧ Lng B w4 w6 v v' xm (q + 1) X ∧ Sp w B U ga vc (fun j => j ≠ i) N w6 ∧ w4.heap.size ≤ w6.heap.size := by
  have ka : Kept No w5 (w5.alloc o) := (Kept.refl No w5).alloc o
  have hs := ka.size
  have own' : w6.ownsRow 0 2 1 v' (xm + (q + 1)) (X ++ (Z ++ [u])) := by rw [← List.append_assoc, ← Nat.add_assoc]; exact o6
  have vlo : ∀ x, v.ownBlock = some x → x < w.heap.size := fun x hx => lo x ⟨i, v, hi, hx⟩
  refine ⟨own', ?_⟩
  rcases h6 with ⟨g, cap, e1, e2, gr⟩ | ⟨e, gr⟩
  · have kg : Kept (fun k => k = g) (w5.alloc o) w6 := Kept.grown (Kept.refl (fun k => k = g) _) gr (fun k e => .inl (by injection e with e; exact e.symm))
    have hs2 := kg.size
    rcases hor with ⟨g', cap', ev, el, hB⟩ | ⟨ov, hnew⟩
    · rw [e1] at el
      injection el with el _ ec
      injection el with el
      injection el with el
      subst el ec
      refine ⟨.inl ⟨g, cap, ev, e2, hB⟩, (sp.keep ka).turn ap lo hi (fun _ h => h) (kg.mono (fun k e => by rw [ev, e]; rfl)), by omega⟩
    · have hg4 : w4.heap.size ≤ g := hnew g (by rw [e1]; rfl)
      refine ⟨.inr ⟨kg.owns (ka.owns ov (fun _ _ e => e)) (fun x hx e => by have := vlo x hx; omega), fun x hx => by rw [e2] at hx; injection hx with hx; have hx' : g = x := hx; omega⟩, ⟨kg.owns (ka.owns sp.row (fun _ _ e => e)) (fun x hx e => by injection hx with hx; have hx' : ga = x := hx; omega), fun j y hj hy => ?_, (sp.hk.trans ka (fun _ e => e.elim)).trans kg (fun x e => .inr (by omega))⟩, by omega⟩
      obtain ⟨m', X', h1, h2⟩ := sp.wo j y hj hy
      exact ⟨m', X', kg.owns (ka.owns h1 (fun _ _ e => e)) (fun x hx e => by have := lo x ⟨j, y, hy, hx⟩; omega), h2⟩
  · have kg : Kept No (w5.alloc o) w6 := Kept.grown (Kept.refl No _) gr (fun k e => by cases e)
    have hs2 := kg.size
    have kk := ka.trans kg (fun _ e => .inl e)
    refine ⟨.inr ⟨kk.owns (hor.own hX ow) (fun _ _ e => e), fun x hx => by rw [e] at hx; injection hx with hx; omega⟩, sp.keep kk, by omega⟩
theorem cat_mono (f : Nat → List Value) {k n : Nat} (h : k ≤ n) : (cat f k).length ≤ (cat f n).length := by
  obtain ⟨d, rfl⟩ : ∃ d, n = k + d := ⟨n - k, by omega⟩
  clear h
  induction d with
  | zero => exact Nat.le_refl _
  | succ d ih => rw [← Nat.add_assoc, cat, List.length_append]; omega
set_option maxHeartbeats 32000000 in
theorem spoilt_yes {B : Nat} {a : Option Addr} {n c : Nat} {it sv : Nat → Value} {ms : Nat → List Value} {ss : Nat → Ps} (w : World) (h : Tl B w a n c it sv ms ss) (hs : ∀ i, i < n → (ss i).d.length ≤ 1048576 ∧ ∀ x, x ∈ (ss i).q → x.length ≤ 1048576) (hn : n ≤ 4096) (hN : (cat (fun i => sv i :: ms i) n).length ≤ 1000000) :
    Calls Try.prog 41 #[.slice a n c] w fun r w' => r = .returned (.bool true) ∧ Kept (Ub (cat (fun i => sv i :: ms i) n)) w w' := by
  have hcc : n ≤ c ∧ c ≤ 9223372036854775807 := by
    rcases h.row.shape with ⟨a', c', e, h1, h2⟩
    injection e with _ _ e3
    subst e3
    exact ⟨h1, h2⟩
  have hc1 := hcc.1
  have hc2 := hcc.2
  have hmono : ∀ k, k ≤ n → (cat (fun i => sv i :: ms i) k).length ≤ (cat (fun i => sv i :: ms i) n).length := fun k hk => cat_mono _ hk
  have HT := hid (And.intro h (And.intro hs hmono))
  clear h hs hmono hcc
  go_enter Try.func41, Try.ntmps41
  go_wp2
  go_loopw [3, 4] (fun u3 u4 wr => ∃ (k : Nat) (va : Option Addr) (vc L : Nat), k ≤ n ∧ u4 = .int .i64 k ∧ u3 = .slice va L vc ∧ L = (cat (fun i => sv i :: ms i) k).length ∧ wr.ownsRow w.heap.size 22 1 (.slice va L vc) L (cat (fun i => sv i :: ms i) k) ∧ Kept No w wr) (fun _ u4 _ => n - (intOf u4).toNat)
  case atStart => exact ⟨0, none, 0, 0, Nat.zero_le _, rfl, rfl, rfl, World.ownsRow_nil _ _ _ _, Kept.refl _ _⟩
  case round =>
    obtain ⟨k, va, vc, L, hk, rfl, rfl, hL, ow, kr⟩ := hrel
    by_cases hlt : k < n
    · have hltz : (k : Int) < (n : Int) := by omega
      have tk := HT.out.1.keep kr
      obtain ⟨g, rfl⟩ : ∃ g, a = some ⟨g, 0, none⟩ := by
        obtain ⟨g, cap, e, _⟩ := tk.row.look hlt
        injection e with e
        exact ⟨g, e⟩
      have tv := tk.each k hlt
      have c3 := tk.at5 hlt 3 (by omega)
      have c0 := tk.at5 hlt 0 (by omega)
      obtain ⟨da, dn, dc, esv⟩ := own_slice tv.smp
      obtain ⟨qa, qc, eit, vq⟩ := Vs.of_owns tv.que
      have c3' : wr.cell? ⟨g, k * 5 + 3, none⟩ = some (.slice da dn dc) := by rw [← esv]; exact c3
      have c0' : wr.cell? ⟨g, k * 5, none⟩ = some (.slice qa (ms k).length qc) := by rw [← eit]; exact c0
      have hLn : L + 1 + (ms k).length ≤ 1000000 := by
        have h1 := HT.out.2.2 (k + 1) (by omega)
        rw [cat, List.length_append] at h1
        simp at h1
        omega
      have HW := hid (And.intro ow (And.intro kr (And.intro tv (And.intro esv (And.intro vq hL)))))
      have hsz := kr.size
      clear c3 c0 tk tv ow kr esv eit vq hL
      go_upto_region 6 with (at_builtin; go_must (refine wpList_appV (F := fun x => x = wr.heap.size) rfl _ _ rfl w.heap.size (.slice va L vc) L _ rfl (((Kept.refl No wr).alloc _).owns HW.out.1 (fun _ _ e => e)) (by rw [World.size_alloc]; omega) (some ⟨wr.heap.size, 0, none⟩) 1 1 [.slice da dn dc] rfl ⟨rfl, Nat.le_refl _, by omega, (fun e => by cases e), fun i u hu => ⟨wr.heap.size, 0, rfl, rfl, by rw [Nat.zero_add, cell_blk (alloc_new wr _)]; cases i with | zero => exact hu | succ i => cases hu⟩⟩ (fun y hy => by simp at hy; rw [hy]; rfl) (by omega) ?_); intro ya yc w4 o4 k4)
      have K4 : Kept No w w4 := ((HW.out.2.1.alloc (.cells #[.slice da dn dc] 22)).trans k4.out (fun x e => .inr (owns_blk HW.out.1 e).1))
      have kw4 : ∀ x, (it k).ownBlock = some x → ¬ (Value.slice va L vc).ownBlock = some x := fun x hx e => by
        have h1 := (owns_blk HW.out.1 e).1
        have h2 := (owns_at (HT.out.1.each k hlt).que hx).2
        omega
      have vq4 : Vs w4 (fun x => (it k).ownBlock = some x) qa (ms k).length qc (ms k) := (HW.out.2.2.2.2.1.kept ((Kept.refl No wr).alloc (.cells #[.slice da dn dc] 22)) (fun _ _ e => e)).kept k4.out kw4
      have c04 : w4.cell? ⟨g, k * 5, none⟩ = some (.slice qa (ms k).length qc) := k4.out.cell (((Kept.refl No wr).alloc (.cells #[.slice da dn dc] 22)).cell c0' (fun e => e)) (fun e => by
        have h1 := (owns_blk HW.out.1 e).1
        obtain ⟨_, cs, h2⟩ := HT.out.1.row.blk (g := g) rfl
        have h3 := heap_lt h2
        have e' : w.heap.size ≤ g := h1
        omega)
      have q1 := vq4.cap
      have q2 := vq4.max
      have HV := hid vq4
      have HK4 := hid K4
      have S4 := K4.size
      have mone : Hid (∀ y ∈ ms k, y.oneCell' = true) := fun y hy => by
        obtain ⟨x, ho⟩ := (HT.out.1.each k hlt).wd (List.mem_cons_of_mem _ hy)
        obtain ⟨_, _, _, rfl⟩ := own_slice ho
        rfl
      clear kw4 vq4 K4 c0' c3'
      go_wp2_with (at_builtin; go_must (refine wpList_appV rfl _ _ rfl w.heap.size (.slice ya (L + 1) yc) (L + 1) _ rfl o4.out S4 qa (ms k).length qc (ms k) rfl HV.out mone.out (by omega) ?_); intro za zc w5 o5 k5)
      refine ⟨⟨k + 1, za, zc, L + 1 + (ms k).length, by omega, by go_num, rfl, ?_, ?_, HK4.out.trans k5.out (fun x e => .inr (owns_blk o4.out e).1)⟩, ?_⟩
      · rw [cat, List.length_append, HW.out.2.2.2.2.2]
        simp; omega
      · rw [cat, HW.out.2.2.2.1]
        have := o5.out
        rw [List.append_assoc] at this
        exact this
      · simp [intOf]; omega
    · have hltz : ¬ (k : Int) < (n : Int) := by omega
      obtain rfl : k = n := by omega
      obtain ⟨U, hU⟩ : ∃ U, U = cat (fun i => sv i :: ms i) k := ⟨_, rfl⟩
      have ap : Apt U := by rw [hU]; exact (HT.out.1.flat k (Nat.le_refl _)).2
      have wo : Wo B w U (fun _ => True) 0 := by rw [hU]; exact HT.out.1.wo HT.out.2.1
      have lo : ∀ x, Ub U x → x < w.heap.size := fun x ⟨j, v, h1, h2⟩ => by
        obtain ⟨m, X, ho, _⟩ := wo j v trivial h1
        exact (owns_at ho h2).2
      rw [← hU] at hL ow hN
      have HU := hid hU
      clear hU HT
      subst hL
      by_cases hU0 : U.length = 0
      · have hU1 : U = [] := List.eq_nil_of_length_eq_zero hU0
        have HU1 := hid hU1
        clear hU1
        have KR : Hid (Kept (Ub U) w wr) := kr.mono (fun _ e => e.elim)
        clear kr ow wo lo ap
        obtain ⟨N, hNU⟩ : ∃ N, N = U.length := ⟨_, rfl⟩
        rw [← hNU] at hU0
        subst hU0
        rw [← hNU]
        clear hNU
        go_wp2
        go_loopw [6] (fun u6 wr' => u6 = .int .i64 0 ∧ Kept (Ub U) w wr') (fun _ _ => 0)
        case atStart => exact ⟨rfl, KR.out⟩
        case round =>
          clear KR
          rename World => w2
          obtain ⟨rfl, k2⟩ := hrel
          have KR := hid k2
          clear k2
          go_wp2
          go_loopw [5, 8] (fun u5 u8 wr' => u5 = .int .i64 0 ∧ u8 = .int .i64 0 ∧ Kept (Ub U) w wr') (fun _ _ _ => 0)
          case atStart => exact ⟨rfl, rfl, KR.out⟩
          case round =>
            clear KR
            rename World => w3
            obtain ⟨rfl, rfl, k3⟩ := hrel
            have KR := hid k3
            clear k3
            go_wp2
            go_loopw [11] (fun u11 wr' => u11 = .int .i64 0 ∧ Kept (Ub U) w wr') (fun _ _ => 0)
            case atStart => exact ⟨rfl, KR.out⟩
            case round =>
              clear KR
              rename World => w4
              obtain ⟨rfl, k4⟩ := hrel
              have KR := hid k4
              clear k4
              go_wp2
              go_ret
              exact ⟨rfl, by rw [← HU.out]; exact KR.out⟩
      · obtain ⟨ga, rfl⟩ : ∃ ga, va = some ⟨ga, 0, none⟩ := by
          rcases ow.2 with ⟨_, e0⟩ | ⟨g', cap', cur', e', _⟩
          · exact absurd e0 hU0
          · injection e' with e'
            exact ⟨g', e'⟩
        have hvc := own_cap ow
        have SP : Hid (Sp w B U ga vc (fun _ => True) 0 wr) := ⟨ow, wo.kept kr (fun _ _ _ _ _ _ e => e), kr.mono (fun _ e => e.elim)⟩
        have AP := hid (And.intro ap lo)
        clear ow wo kr ap lo
        obtain ⟨N, hNU⟩ : ∃ N, N = U.length := ⟨_, rfl⟩
        rw [← hNU] at hvc hN
        have HNU := hid hNU
        have hvc1 := hvc.1
        have hvc2 := hvc.2
        have eN : U.length = N := hNU.symm
        rw [eN]
        clear hNU hvc hU0
        go_wp2
        go_loopw [6] (fun u6 wr => ∃ k : Nat, k ≤ N ∧ u6 = .int .i64 k ∧ Sp w B U ga vc (fun _ => True) k wr) (fun u6 _ => N - (intOf u6).toNat)
        case atStart => exact ⟨0, Nat.zero_le _, rfl, SP.out⟩
        case round =>
          clear SP eN
          rename World => w2
          obtain ⟨i, hi, rfl, sp⟩ := hrel
          by_cases hlt2 : i < N
          · have hltz2 : (i : Int) < (N : Int) := by omega
            obtain ⟨v, hv⟩ : ∃ v, U[i]? = some v := ⟨U[i]'(by rw [← HNU.out]; exact hlt2), List.getElem?_eq_getElem _⟩
            obtain ⟨m, X0, ho0, hm, _⟩ := sp.wo i v trivial hv
            obtain ⟨xa, xm, xc, rfl⟩ := own_slice ho0
            obtain rfl : xm = m := by
              rcases ho0.2 with ⟨e1, e2⟩ | ⟨_, _, _, e1, _⟩
              · injection e1 with _ e1 _; omega
              · injection e1
            have HV := hid hv
            have SX : Hid (∃ X, w2.ownsRow B 2 1 (.slice xa xm xc) xm X ∧ Sp w B U ga vc (fun j => j ≠ i) i w2) := ⟨X0, ho0, sp.less (fun _ _ => trivial)⟩
            have hxc := own_cap ho0
            clear sp ho0 hv
            go_wp2
            go_loopw [7] (fun u7 wr => ∃ (x : Nat) (X : List Value), x ≤ xm ∧ u7 = .int .i64 x ∧ wr.ownsRow B 2 1 (.slice xa xm xc) xm X ∧ (∀ y, y < x → X[y]? = some (mk i)) ∧ Sp w B U ga vc (fun j => j ≠ i) i wr) (fun u7 _ => xm - (intOf u7).toNat)
            case atStart =>
              obtain ⟨X, h1, h2⟩ := SX.out
              exact ⟨0, X, Nat.zero_le _, rfl, h1, fun y hy => by omega, h2⟩
            case round =>
              clear SX
              rename World => w3
              obtain ⟨x, X, hx, rfl, ow, hmk, sp⟩ := hrel
              have ci := sp.at' HV.out
              by_cases hlt3 : x < xm
              · have hltz3 : (x : Int) < (xm : Int) := by omega
                obtain ⟨q, rfl⟩ : ∃ q, xa = some ⟨q, 0, none⟩ := by
                  rcases ow.2 with ⟨_, e2⟩ | ⟨g', _, _, e1, _⟩
                  · omega
                  · injection e1 with e1; exact ⟨g', e1⟩
                have hxl : x < X.length := by rw [ow.1]; omega
                have cx := own_cell ow (List.getElem?_eq_getElem hxl)
                have fx := own_fz ow x
                have NX : Hid (∀ u, (w3.setCell ⟨q, x, none⟩ u).ownsRow B 2 1 (.slice (some ⟨q, 0, none⟩) xm xc) xm (X.set x u) ∧ Sp w B U ga vc (fun j => j ≠ i) i (w3.setCell ⟨q, x, none⟩ u)) := fun u => ⟨owns_set ow x u, sp.turn AP.out.1 AP.out.2 HV.out (fun _ h => h) ((Kept.refl (fun g => (Value.slice (some ⟨q, 0, none⟩) xm xc).ownBlock = some g) w3).setCell (p := ⟨q, x, none⟩) (.inl rfl) u)⟩
                have HX : Hid (∀ y, y < x + 1 → (X.set x (mk i))[y]? = some (mk i)) := fun y hy => by
                  by_cases e : y = x
                  · subst e; rw [List.getElem?_set_self hxl]
                  · rw [List.getElem?_set_ne (by omega)]; exact hmk y (by omega)
                generalize X[x] = ux at *
                clear sp ow hmk hxl
                go_wp2
                refine ⟨⟨x + 1, _, by omega, by go_num, (NX.out (mk i)).1, HX.out, (NX.out (mk i)).2⟩, ?_⟩
                simp [intOf]; omega
              · have hltz3 : ¬ (x : Int) < (xm : Int) := by omega
                obtain rfl : x = xm := by omega
                have NS : Hid (Sp w B U ga vc (fun _ => True) (i + 1) w3) := by
                  have e := rep_of (by rw [ow.1, Nat.mul_one]) hmk
                  refine ⟨sp.row, Wo.one (fun j u hj hu => ?_) HV.out ow hm (fun _ => e), sp.hk⟩
                  obtain ⟨m', X', h1, h2, h3⟩ := sp.wo j u hj hu
                  exact ⟨m', X', h1, h2, fun hj' => h3 (by omega)⟩
                clear sp ow hmk
                go_wp2
                refine ⟨⟨i + 1, by omega, by go_num, NS.out⟩, ?_⟩
                simp [intOf]; omega
          · have hltz2 : ¬ (i : Int) < (N : Int) := by omega
            obtain rfl : N = i := by omega
            have SQ := hid sp
            clear sp
            go_wp2
            go_loopw [5, 8] (fun u5 u8 wr => ∃ (k T : Nat), k ≤ N ∧ u8 = .int .i64 k ∧ u5 = .int .i64 T ∧ 70 * k ≤ T ∧ T ≤ 1048646 * k ∧ Sp w B U ga vc (fun _ => True) N wr) (fun _ u8 _ => N - (intOf u8).toNat)
            case atStart => exact ⟨0, 0, Nat.zero_le _, rfl, rfl, Nat.le_refl _, Nat.le_refl _, SQ.out⟩
            case round =>
              clear SQ
              rename World => w4
              obtain ⟨i, T, hi, rfl, rfl, hT1, hT2, sp⟩ := hrel
              by_cases hlt4 : i < N
              · have hltz4 : (i : Int) < (N : Int) := by omega
                obtain ⟨v, hv⟩ : ∃ v, U[i]? = some v := ⟨U[i]'(by rw [← HNU.out]; exact hlt4), List.getElem?_eq_getElem _⟩
                obtain ⟨m, X, ho0, hm, hX⟩ := sp.wo i v trivial hv
                obtain ⟨xa, xm, xc, rfl⟩ := own_slice ho0
                obtain rfl : xm = m := by
                  rcases ho0.2 with ⟨e1, e2⟩ | ⟨_, _, _, e1, _⟩
                  · injection e1 with _ e1 _; omega
                  · injection e1
                have HV := hid hv
                have ci := sp.at' hv
                have HX := hid (hX hlt4)
                have SX : Hid (w4.ownsRow 0 2 1 (.slice xa xm xc) xm X ∧ w4.ownsRow B 2 1 (.slice xa xm xc) xm X ∧ Sp w B U ga vc (fun j => j ≠ i) N w4) := ⟨owns_base ho0 (Nat.zero_le _), ho0, sp.less (fun _ _ => trivial)⟩
                have hxc := own_cap ho0
                have SZ : Hid (w.heap.size ≤ w4.heap.size ∧ ga < w4.heap.size ∧ X.length = xm) := ⟨sp.hk.size, (owns_at sp.row (k := ga) rfl).2, by rw [ho0.1, Nat.mul_one]⟩
                clear sp ho0 hv hX
                go_wp2
                go_loopw [9, 10] (fun u9 u10 wr => ∃ (q : Nat) (Z : List Value), q ≤ 70 ∧ u10 = .int .i64 q ∧ wr.ownsRow 0 2 1 u9 (xm + q) (X ++ Z) ∧ Lng B w4 wr (.slice xa xm xc) u9 xm q X ∧ Sp w B U ga vc (fun j => j ≠ i) N wr ∧ w4.heap.size ≤ wr.heap.size) (fun _ u10 _ => 70 - (intOf u10).toNat)
                case atStart =>
                  refine ⟨0, [], Nat.zero_le _, rfl, by rw [List.append_nil]; exact SX.out.1, ?_, SX.out.2.2, Nat.le_refl _⟩
                  rcases SX.out.2.1.2 with ⟨e1, e2⟩ | ⟨g, cap, cur, e1, e2, _⟩
                  · exact .inr ⟨SX.out.2.1, fun g hg => by rw [e1] at hg; cases hg⟩
                  · exact .inl ⟨g, cap, e1, e1, e2⟩
                case round =>
                  clear SX ci
                  rename World => w5
                  obtain ⟨q, Z, hq, rfl, ow, hor, sp, hsz⟩ := hrel
                  obtain ⟨la, ln, lc, rfl⟩ := own_slice ow
                  obtain rfl : ln = xm + q := by
                    rcases ow.2 with ⟨e1, e2⟩ | ⟨_, _, _, e1, _⟩
                    · injection e1 with _ e1 _; omega
                    · injection e1
                  have hlc := own_cap ow
                  by_cases hlt5 : q < 70
                  · have hltz5 : (q : Int) < 70 := by omega
                    have HO := hid (And.intro ow (And.intro hor sp))
                    clear ow hor sp
                    go_wp2_with (at_builtin; go_must (refine wpList_app2 rfl _ _ rfl (.slice la (xm + q) lc) (xm + q) _ (.int .i64 (5000 + (i : Int))) rfl (((Kept.refl No w5).alloc _).owns HO.out.1 (fun _ _ e => e)) ⟨w5.heap.size, 0, none⟩ rfl (news_alloc w5 #[.int .i64 (5000 + (i : Int))] 2) (fun y hy => by simp at hy; rw [hy]; rfl) (by omega) ?_); intro v' w6 o6 h6)
                    obtain ⟨g1, g2, g3, g4⟩ := long_step AP.out.1 AP.out.2 HV.out SZ.out.2.2 SZ.out.1 SZ.out.2.1 hsz HO.out.2.2 HO.out.1 HO.out.2.1 o6.out h6.out
                    refine ⟨⟨q + 1, _, by omega, by go_num, g1, g2, g3, g4⟩, ?_⟩
                    simp [intOf]; omega
                  · have hltz5 : ¬ (q : Int) < 70 := by omega
                    obtain rfl : q = 70 := by omega
                    have NS : Hid (Sp w B U ga vc (fun _ => True) N w5) := ⟨sp.row, Wo.one sp.wo HV.out (hor.own SZ.out.2.2 ow) hm (fun _ => HX.out), sp.hk⟩
                    clear ow hor sp
                    go_wp2
                    refine ⟨⟨i + 1, T + (xm + 70), by omega, by go_num, by go_num, by omega, by omega, NS.out⟩, ?_⟩
                    simp [intOf]; omega
              · have hltz4 : ¬ (i : Int) < (N : Int) := by omega
                obtain rfl : N = i := by omega
                have SQ := hid sp
                clear sp
                go_wp2
                go_loopw [11] (fun u11 wr => ∃ (k : Nat), k ≤ N ∧ u11 = .int .i64 k ∧ Sp w B U ga vc (fun _ => True) N wr) (fun u11 _ => N - (intOf u11).toNat)
                case atStart => exact ⟨0, Nat.zero_le _, rfl, SQ.out⟩
                case round =>
                  clear SQ
                  rename World => w7
                  obtain ⟨i, hi, rfl, sp⟩ := hrel
                  by_cases hlt6 : i < N
                  · have hltz6 : (i : Int) < (N : Int) := by omega
                    obtain ⟨v, hv⟩ : ∃ v, U[i]? = some v := ⟨U[i]'(by rw [← HNU.out]; exact hlt6), List.getElem?_eq_getElem _⟩
                    obtain ⟨m, X, ho0, hm, hX⟩ := sp.wo i v trivial hv
                    obtain ⟨xa, xm, xc, rfl⟩ := own_slice ho0
                    obtain rfl : xm = m := by
                      rcases ho0.2 with ⟨e1, e2⟩ | ⟨_, _, _, e1, _⟩
                      · injection e1 with _ e1 _; omega
                      · injection e1
                    have HV := hid hv
                    have SX := hid sp
                    have OX := hid (And.intro ho0 (hX hlt6))
                    have hxc := own_cap ho0
                    clear sp ho0 hv hX
                    go_wp2
                    go_loopw [12] (fun u12 wr => ∃ (x : Nat), x ≤ xm ∧ u12 = .int .i64 x ∧ wr = w7) (fun u12 _ => xm - (intOf u12).toNat)
                    case atStart => exact ⟨0, Nat.zero_le _, rfl, rfl⟩
                    case round =>
                      obtain ⟨x, hx, rfl, hw7⟩ := hrel
                      subst hw7
                      have ci := SX.out.at' HV.out
                      by_cases hlt7 : x < xm
                      · have hltz7 : (x : Int) < (xm : Int) := by omega
                        obtain ⟨q, rfl⟩ : ∃ q, xa = some ⟨q, 0, none⟩ := by
                          rcases OX.out.1.2 with ⟨_, e2⟩ | ⟨g', _, _, e1, _⟩
                          · omega
                          · injection e1 with e1; exact ⟨g', e1⟩
                        have cx : wr.cell? ⟨q, x, none⟩ = some (.int .i64 (-1000 - (i : Int))) := own_cell OX.out.1 (by rw [OX.out.2, List.getElem?_replicate, if_pos hlt7]; rfl)
                        go_wp2
                        refine ⟨⟨x + 1, by omega, by go_num, trivial⟩, ?_⟩
                        simp [intOf]; omega
                      · have hltz7 : ¬ (x : Int) < (xm : Int) := by omega
                        go_wp2
                        refine ⟨⟨i + 1, by omega, by go_num, SX.out⟩, ?_⟩
                        simp [intOf]; omega
                  · have hltz6 : ¬ (i : Int) < (N : Int) := by omega
                    have SR := hid sp
                    clear sp
                    have hge : (70 : Int) * (N : Int) ≤ (T : Int) := by omega
                    go_wp2
                    go_ret
                    exact ⟨rfl, by rw [← HU.out]; exact SR.out.hk⟩
end Go.Proofs.Ythebokkogeigoaa
