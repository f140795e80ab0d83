/-
  ProcApart: what its walk keeps.
-/
import Derived.Test.YtofkacfchkimiaaPCpy
import Derived.Test.YtofkacfchkimiaaPAlike
import Derived.Test.YtofkacfchkimiaaPCutW
import Derived.Test.YtofkacfchkimiaaPKnown
import Derived.Test.YtofkacfchkimiaaPApP
import Derived.Test.YtofkacfchkimiaaPApG
import Derived.Test.YtofkacfchkimiaaPZero
namespace Go.Proofs.Ytofkacfchkimiaa
open Go.RowKit Plain
set_option linter.unusedVariables false
set_option linter.unusedSimpArgs false
set_option maxRecDepth 100000

theorem own_set {w : World} {B t k g m c : Nat} {L : List Value} (h : w.ownsRow B t k (.slice (some ⟨g, 0, none⟩) m c) m L) (j : Nat) (u : Value) : (w.setCell ⟨g, j, none⟩ u).ownsRow B t k (.slice (some ⟨g, 0, none⟩) m c) m (L.set j u) := by
  obtain ⟨h1, ⟨h2, _⟩ | ⟨g', cap, cur, h2, h3, h4, h5, h6, h7, h8⟩⟩ := h
  · cases h2
  · injection h2 with h2 _ h9
    injection h2 with h2
    injection h2 with h2 _ _
    subst h2 h9
    refine ⟨by rw [List.length_set]; exact h1, .inr ⟨g, c, _, rfl, h3, setC _ _ h4, h5, h6, by rw [Array.size_setIfInBounds]; exact h7, ?_⟩⟩
    rw [Array.toList_setIfInBounds, ← h8, List.take_set]
theorem own_fz {w : World} {B t k g m c : Nat} {L : List Value} (h : w.ownsRow B t k (.slice (some ⟨g, 0, none⟩) m c) m L) (j : Nat) : w.frozen? ⟨g, j, none⟩ = false := by
  obtain ⟨h1, ⟨h2, _⟩ | ⟨g', cap, cur, h2, h3, h4, h5, h6, h7, h8⟩⟩ := h
  · cases h2
  · injection h2 with h2 _ h9
    injection h2 with h2
    injection h2 with h2 _ _
    subst h2
    simp [World.frozen?, h4]
theorem own_cell {w : World} {B t k g m c : Nat} {L : List Value} (h : w.ownsRow B t k (.slice (some ⟨g, 0, none⟩) m c) m L) {j : Nat} {u : Value} (hj : L[j]? = some u) : w.cell? ⟨g, j, none⟩ = some u := by
  have := h.cells (g := g) rfl j u hj
  rw [add_none, Nat.zero_add] at this
  exact this
theorem own_cap {w : World} {B t k m c : Nat} {a : Option Addr} {L : List Value} (h : w.ownsRow B t k (.slice a m c) m L) : m ≤ c ∧ c ≤ 9223372036854775807 := by
  obtain ⟨h1, ⟨h2, h3⟩ | ⟨g', cap, cur, h2, h3, h4, h5, h6, h7, h8⟩⟩ := h
  · injection h2 with _ _ h9; subst h9; omega
  · injection h2 with h2 _ h9
    subst h9
    unfold maxLen at h6
    omega
theorem own_at0 {w : World} {B t k m c : Nat} {a : Option Addr} {L : List Value} (h : w.ownsRow B t k (.slice a m c) m L) (hm : 1 ≤ m) : ∃ g, a = some ⟨g, 0, none⟩ ∧ B ≤ g := by
  obtain ⟨h1, ⟨h2, h3⟩ | ⟨g', cap, cur, h2, h3, h4⟩⟩ := h
  · omega
  · injection h2 with h2 _ h9
    exact ⟨g', h2, h3⟩

/-- states that were told, and may be written over -/
structure Tl (B : Nat) (W : World) (n gl vc : Nat) (ds : Nat → Value) (ms : Nat → Nat) : Prop where
  row : ∃ us, W.ownsRow B 48 28 (.slice (some ⟨gl, 0, none⟩) n vc) n us ∧ ∀ j, j < n → us[j * 28 + 26]? = some (ds j)
  wd : ∀ j, j < n → ∃ ya yc xs, ds j = .slice ya (ms j) yc ∧ W.ownsRow B 2 1 (ds j) (ms j) xs
  ne : ∀ i j, i < j → j < n → ∀ q, (ds i).ownBlock = some q → (ds j).ownBlock ≠ some q
namespace Tl
variable {B : Nat} {W W' : World} {n gl vc : Nat} {ds : Nat → Value} {ms : Nat → Nat}
theorem one (h : Tl B W n gl vc ds ms) {k : Nat} (hk : k < n) {xs : List Value} (q : Kept (fun j => (ds k).ownBlock = some j) W W') (o : W'.ownsRow B 2 1 (ds k) (ms k) xs) : Tl B W' n gl vc ds ms := by
  obtain ⟨us, ho, hu⟩ := h.row
  refine ⟨⟨us, q.owns ho (fun j hj e => by obtain ⟨_, _, _, _, o1⟩ := h.wd k hk; exact own_ne o1 ho (by decide) e hj), hu⟩, fun j hj => ?_, h.ne⟩
  obtain ⟨ya, yc, ys, e, o1⟩ := h.wd j hj
  by_cases ej : j = k
  · subst ej
    exact ⟨ya, yc, xs, e, o⟩
  · refine ⟨ya, yc, ys, e, q.owns o1 (fun x hx e2 => ?_)⟩
    by_cases hl : j < k
    · exact h.ne j k hl hk x hx e2
    · exact h.ne k j (by omega) hj x e2 hx
theorem place (h : Tl B W n gl vc ds ms) {k : Nat} (hk : k < n) (u : Value) : Tl B (W.setCell ⟨gl, k * 28 + 2, none⟩ u) n gl vc ds ms := by
  obtain ⟨us, ho, hu⟩ := h.row
  have q : Kept (fun j => j = gl) W (W.setCell ⟨gl, k * 28 + 2, none⟩ u) := (Kept.refl (fun j => j = gl) W).setCell (.inl rfl) _
  refine ⟨⟨_, own_set ho _ u, fun j hj => by rw [List.getElem?_set_ne (by omega)]; exact hu j hj⟩, fun j hj => ?_, h.ne⟩
  obtain ⟨ya, yc, ys, e, o1⟩ := h.wd j hj
  exact ⟨ya, yc, ys, e, q.owns o1 (fun x hx e2 => own_ne ho o1 (by decide) (show (Value.slice (some ⟨gl, 0, none⟩) n vc).ownBlock = some x by rw [e2]; rfl) hx)⟩
theorem at26 (h : Tl B W n gl vc ds ms) {k : Nat} (hk : k < n) : W.cell? ⟨gl, k * 28 + 26, none⟩ = some (ds k) := by
  obtain ⟨us, ho, hu⟩ := h.row
  exact own_cell ho (hu k hk)
theorem at2 (h : Tl B W n gl vc ds ms) {k : Nat} (hk : k < n) : ∃ u, W.cell? ⟨gl, k * 28 + 2, none⟩ = some u := by
  obtain ⟨us, ho, hu⟩ := h.row
  have : k * 28 + 2 < us.length := by rw [ho.1]; omega
  exact ⟨us[k * 28 + 2], own_cell ho (List.getElem?_eq_getElem this)⟩
theorem fz (h : Tl B W n gl vc ds ms) (j : Nat) : W.frozen? ⟨gl, j, none⟩ = false := by
  obtain ⟨us, ho, hu⟩ := h.row
  exact own_fz ho j
theorem cap (h : Tl B W n gl vc ds ms) : n ≤ vc ∧ vc ≤ 9223372036854775807 := by
  obtain ⟨us, ho, hu⟩ := h.row
  exact own_cap ho
theorem lo (h : Tl B W n gl vc ds ms) : B ≤ gl := by
  obtain ⟨us, ho, hu⟩ := h.row
  exact owns_lo ho rfl
end Tl
theorem StL.tl {w W : World} {T : Tt} {n : Nat} {va : Option Addr} {vc : Nat} {ds : Nat → Value} (h : StL w W T n (.slice va n vc) ds) (hn : 1 ≤ n) : ∃ gl, va = some ⟨gl, 0, none⟩ ∧ Tl w.heap.size W n gl vc ds (fun j => (T.ps j).ws.length) := by
  obtain ⟨gl, rfl, _⟩ := own_at0 h.1 hn
  exact ⟨gl, rfl, ⟨_, h.1, fun j hj => by rw [sL_at _ _ _ _ _ hj (by omega)]; rfl⟩, fun j hj => by obtain ⟨ya, yc, e, o⟩ := h.2.2.1 j hj; exact ⟨ya, yc, _, e, o⟩, h.2.2.2⟩
theorem cL_len (st : Nat → Sp) (ds : Nat → Value) : ∀ k, (cL st ds k).length = k * 10
  | 0 => rfl
  | k + 1 => by show (cL st ds k ++ ((st k).row (ds k)).toList).length = _; rw [List.length_append, cL_len st ds k, show ((st k).row (ds k)).toList.length = 10 from rfl]; omega
theorem cL_at (st : Nat → Sp) (ds : Nat → Value) : ∀ k i j, i < k → j < 10 → (cL st ds k)[i * 10 + j]? = ((st i).row (ds i))[j]?
  | 0, i, j, h, _ => by omega
  | k + 1, i, j, h, hj => by
    show (cL st ds k ++ ((st k).row (ds k)).toList)[i * 10 + j]? = _
    by_cases hi : i < k
    · rw [List.getElem?_append_left (by rw [cL_len]; omega)]
      exact cL_at st ds k i j hi hj
    · have : i = k := by omega
      subst this
      rw [List.getElem?_append_right (by rw [cL_len]; omega), cL_len, show i * 10 + j - i * 10 = j by omega]
      simp
theorem ldP {w : World} {b : Nat} {A : Array Value} (h : w.heap[b]? = some (.cells A 38)) (hl : A.size = 21) : (Instr.loadAt 38 (.pointer (some ⟨b, 0, none⟩))).run Try.prog w = .ok (.agg A) w := by
  have := run_loadAt_mid (P := Try.prog) w b 0 _ A.toList _ (fun j v hv => by rw [Nat.zero_add]; exact cell_row h (by simpa using hv)) Try.underlying38 rfl (by rw [Array.length_toList, hl]; exact Try.info21)
  simpa using this
theorem ldStep {w : World} {b o : Nat} {s : Sp} {d : Value} (h : w.rangeAt b o (s.row d).toList) : (Instr.loadAt 77 (.pointer (some ⟨b, o, none⟩))).run Try.prog w = .ok (.agg (s.row d)) w :=
  run_loadAt_mid (P := Try.prog) w b o _ (s.row d).toList _ h Try.underlying77 rfl (by kernel_rfl)
theorem sd_new {n : Nat} {qs : Nat → Ql} {cn hd : Int} (hq : ∀ i, i < n → Qk (qs i)) (hh : 0 ≤ hd ∧ hd ≤ n) : Sd { ps := fun i => (qs i).pr, n := n, cd := cn, hd := hd, lk := 0, pl := 1 } 0 1000 :=
  ⟨fun i hi => ⟨by show 0 ≤ (0 : Int) ∧ (0 : Int) ≤ 10; omega, fun _ => ⟨rfl, rfl, rfl, rfl, rfl, rfl, rfl, rfl, rfl, rfl, fun _ _ => rfl⟩, fun _ => ⟨rfl, rfl, rfl, .inl rfl⟩, fun e => absurd rfl e, by show 0 ≤ 1000; omega, by show 0 ≤ (0 : Int) ∧ (0 : Int) ≤ (0 : Nat); omega, by show -1 ≤ (-1 : Int) ∧ (-1 : Int) < _; omega, (hq i hi).1, (hq i hi).2, fun e => by have : (0 : Int) = 3 := e; omega⟩, fun i j _ _ _ e => absurd rfl e, .inl rfl, hh, by show 1 ≤ (1 : Int) ∧ (1 : Int) ≤ _; omega⟩
/-- the script's words, and two tables -/
structure La (w W : World) (F : Nat → Prop) (N : Nat) (va : Option Addr) (vc : Nat) (st : Nat → Sp) (ds : Nat → Value) (b g cap b' g' cap' : Nat) (T U : Tt) (q q' B C n : Nat) : Prop where
  hk : Kept No w W
  sc : W.ownsRow w.heap.size 77 10 (.slice va N vc) N (cL st ds N)
  wd : ∀ j, j < N → ∃ da dn dc, ds j = .slice da dn dc ∧ dn ≤ 1000 ∧ Zs W F da dn dc (st j).ws
  ta : Tw W b g cap T
  tb : Tw W b' g' cap' U
  sa : Sd T q 1000
  sb : Sd U q' 1000
  da : T.dq (fun v => ∀ x, v.ownBlock = some x → C ≤ x)
  db : U.dq (fun v => ∀ x, v.ownBlock = some x → C ≤ x)
  lo : (∀ j, (Value.slice va N vc).ownBlock = some j → j < B) ∧ w.heap.size ≤ B ∧ B ≤ b ∧ B ≤ g ∧ B ≤ b' ∧ B ≤ g'
  hi : b < C ∧ g < C ∧ b' < C ∧ g' < C ∧ C ≤ W.heap.size
  nb : b ≠ b' ∧ b ≠ g' ∧ g ≠ b' ∧ g ≠ g'
  tn : T.n = n ∧ U.n = n
  fF : ∀ j, F j → j < w.heap.size
namespace La
variable {w W W' : World} {F : Nat → Prop} {N : Nat} {va : Option Addr} {vc : Nat} {st : Nat → Sp} {ds : Nat → Value} {b g cap b' g' cap' : Nat} {T U T' U' : Tt} {q q' r B C n : Nat}
theorem keep (l : La w W F N va vc st ds b g cap b' g' cap' T U q q' B C n) (k : Kept No W W') : La w W' F N va vc st ds b g cap b' g' cap' T U q q' B C n :=
  ⟨l.hk.trans k (fun _ e => .inl e), k.owns l.sc (fun _ _ e => e), fun j hj => by obtain ⟨da, dn, dc, e, h, z⟩ := l.wd j hj; exact ⟨da, dn, dc, e, h, z.kept k (fun _ _ e => e)⟩, l.ta.keep k, l.tb.keep k, l.sa, l.sb, l.da, l.db, l.lo, by have := k.size; have := l.hi; omega, l.nb, l.tn, l.fF⟩
theorem playA (l : La w W F N va vc st ds b g cap b' g' cap' T U q q' B C n) (k : Kept (Bg b g) W W') (t : Tw W' b g cap T') (s : Sd T' r 1000) (d : T'.dq (fun v => ∀ x, v.ownBlock = some x → C ≤ x)) (e1 : T'.n = T.n) : La w W' F N va vc st ds b g cap b' g' cap' T' U r q' B C n := by
  have lo := l.lo
  have hi := l.hi
  have n0 := l.nb
  have nb : ∀ j, j < B → ¬ Bg b g j := fun j hj e => by rcases e with e | e <;> omega
  refine ⟨l.hk.trans k (fun j e => .inr (by rcases e with e | e <;> omega)), k.owns l.sc (fun j hj => nb j (lo.1 j hj)), fun j hj => ?_, t, l.tb.apart k (fun e => by rcases e with e | e <;> omega) (fun e => by rcases e with e | e <;> omega) (fun i x _ hx e => by have := l.db i x hx; rcases e with e | e <;> omega), s, l.sb, d, l.db, lo, by have := k.size; omega, l.nb, ⟨e1.trans l.tn.1, l.tn.2⟩, l.fF⟩
  obtain ⟨da, dn, dc, e, h, z⟩ := l.wd j hj
  exact ⟨da, dn, dc, e, h, z.kept k (fun x hx => nb x (by have := l.fF x hx; omega))⟩
theorem playB (l : La w W F N va vc st ds b g cap b' g' cap' T U q q' B C n) (k : Kept (Bg b' g') W W') (t : Tw W' b' g' cap' U') (s : Sd U' r 1000) (d : U'.dq (fun v => ∀ x, v.ownBlock = some x → C ≤ x)) (e1 : U'.n = U.n) : La w W' F N va vc st ds b g cap b' g' cap' T U' q r B C n := by
  have lo := l.lo
  have hi := l.hi
  have n0 := l.nb
  have nb : ∀ j, j < B → ¬ Bg b' g' j := fun j hj e => by rcases e with e | e <;> omega
  refine ⟨l.hk.trans k (fun j e => .inr (by rcases e with e | e <;> omega)), k.owns l.sc (fun j hj => nb j (lo.1 j hj)), fun j hj => ?_, l.ta.apart k (fun e => by rcases e with e | e <;> omega) (fun e => by rcases e with e | e <;> omega) (fun i x _ hx e => by have := l.da i x hx; rcases e with e | e <;> omega), t, l.sa, s, l.da, d, lo, by have := k.size; omega, l.nb, ⟨l.tn.1, e1.trans l.tn.2⟩, l.fF⟩
  obtain ⟨da, dn, dc, e, h, z⟩ := l.wd j hj
  exact ⟨da, dn, dc, e, h, z.kept k (fun x hx => nb x (by have := l.fF x hx; omega))⟩
theorem step (l : La w W F N va vc st ds b g cap b' g' cap' T U q q' B C n) {k : Nat} (hk : k < N) : ∃ gl da dn dc, va = some ⟨gl, 0, none⟩ ∧ dn ≤ 1000 ∧ Zs W F da dn dc (st k).ws ∧ W.rangeAt gl (k * 10) ((st k).row (.slice da dn dc)).toList ∧ N ≤ vc ∧ vc ≤ maxLen := by
  obtain ⟨da, dn, dc, e, h, z⟩ := l.wd k hk
  rcases l.sc.2 with ⟨_, e0⟩ | ⟨gl, cap', cur, hv, hb, hg, h1, h2, _⟩
  · omega
  · injection hv with e1 e2 e3
    subst e1 e3
    refine ⟨gl, da, dn, dc, rfl, h, z, fun j u hu => ?_, h1, h2⟩
    have hj : j < 10 := by have := (List.getElem?_eq_some_iff.1 hu).1; exact this
    have := l.sc.cells (g := gl) rfl (k * 10 + j) u ((cL_at st ds N k j hk hj).trans (by rw [e]; simpa using hu))
    rw [add_none, Nat.zero_add] at this
    exact this
theorem step1 {gl : Nat} (l : La w W F N (some ⟨gl, 0, none⟩) vc st ds b g cap b' g' cap' T U q q' B C n) {k : Nat} (hk : k < N) : ∃ da dn dc, dn ≤ 1000 ∧ Zs W F da dn dc (st k).ws ∧ W.rangeAt gl (k * 10) ((st k).row (.slice da dn dc)).toList := by
  obtain ⟨gl', da, dn, dc, e, h1, h2, h3, _, _⟩ := l.step hk
  injection e with e
  injection e with e
  subst e
  exact ⟨da, dn, dc, h1, h2, h3⟩
theorem callA (l : La w W F N va vc st ds b g cap b' g' cap' T U q q' B C n) {k : Nat} {da : Option Addr} {dn dc : Nat} (hq : q ≤ 1000) (hn : n ≤ 16) (hz : Zs W F da dn dc (st k).ws) (hd : dn ≤ 1000) :
    Calls Try.prog 29 #[.pointer (some ⟨b, 0, none⟩), .agg ((st k).row (.slice da dn dc))] W fun e w' => ∃ (x : Bool) (T' : Tt) (v : Value), e = .returned (.bool x) ∧ x = (T.plays (st k) v).isSome ∧ T' = (T.plays (st k) v).getD T ∧ La w w' F N va vc st ds b g cap b' g' cap' T' U (q + 1) q' B C n ∧ Kept (Bg b g) W w' := by
  have tn := l.tn.1
  have pl := plays_any W l.ta (by omega) ⟨by have := l.sa.pl; omega, by have := l.sa.pl; omega⟩ (fun i hi => by have := (l.sa.each i hi).mis; exact ⟨by omega, by omega⟩) (fun i hi => by have := (l.sa.each i hi).rel; have := (l.sa.each i hi).per; unfold I64; omega) (st k) hz (by omega)
  have hws : (st k).ws.length ≤ 1000 := by have := hz.len; omega
  refine Calls.mono pl ?_
  rintro e w' ⟨v, hv, rfl, tw, k3⟩
  refine ⟨_, _, v, rfl, rfl, rfl, ?_, k3⟩
  cases hR : T.plays (st k) v with
  | none =>
    rw [hR] at tw
    exact l.playA k3 tw (l.sa.up (Nat.le_succ q)) l.da rfl
  | some T' =>
    rw [hR] at tw
    obtain ⟨sU, _, en, _⟩ := sd_plays l.sa (st k) v hws hR
    exact l.playA k3 tw sU (dq_plays l.da (fun x hx => by cases hx) (fun x hx => by have := hv x hx; have := l.hi; omega) hR) en
theorem callB (l : La w W F N va vc st ds b g cap b' g' cap' T U q q' B C n) {k : Nat} {da : Option Addr} {dn dc : Nat} (hq : q' ≤ 1000) (hn : n ≤ 16) (hz : Zs W F da dn dc (st k).ws) (hd : dn ≤ 1000) :
    Calls Try.prog 29 #[.pointer (some ⟨b', 0, none⟩), .agg ((st k).row (.slice da dn dc))] W fun e w' => ∃ (x : Bool) (U' : Tt) (v : Value), e = .returned (.bool x) ∧ x = (U.plays (st k) v).isSome ∧ U' = (U.plays (st k) v).getD U ∧ La w w' F N va vc st ds b g cap b' g' cap' T U' q (q' + 1) B C n := by
  have tn := l.tn.2
  have pl := plays_any W l.tb (by omega) ⟨by have := l.sb.pl; omega, by have := l.sb.pl; omega⟩ (fun i hi => by have := (l.sb.each i hi).mis; exact ⟨by omega, by omega⟩) (fun i hi => by have := (l.sb.each i hi).rel; have := (l.sb.each i hi).per; unfold I64; omega) (st k) hz (by omega)
  have hws : (st k).ws.length ≤ 1000 := by have := hz.len; omega
  refine Calls.mono pl ?_
  rintro e w' ⟨v, hv, rfl, tw, k3⟩
  refine ⟨_, _, v, rfl, rfl, rfl, ?_⟩
  cases hR : U.plays (st k) v with
  | none =>
    rw [hR] at tw
    exact l.playB k3 tw (l.sb.up (Nat.le_succ q')) l.db rfl
  | some U' =>
    rw [hR] at tw
    obtain ⟨sU, _, en, _⟩ := sd_plays l.sb (st k) v hws hR
    exact l.playB k3 tw sU (dq_plays l.db (fun x hx => by cases hx) (fun x hx => by have := hv x hx; have := l.hi; omega) hR) en
end La
/-- one step on both -/
theorem bl_both {T U : Tt} (h : T.bl = U.bl) (s : Sp) (v v' : Value) : (T.plays s v).isSome = (U.plays s v').isSome ∧ ((T.plays s v).getD T).bl = ((U.plays s v').getD U).bl := by
  have e : (T.plays s v).map Tt.bl = (U.plays s v').map Tt.bl := by rw [bl_plays, bl_plays, h]
  cases h1 : T.plays s v with
  | none =>
    rw [h1] at e
    cases h2 : U.plays s v' with
    | none => exact ⟨rfl, h⟩
    | some y => rw [h2] at e; cases e
  | some x =>
    rw [h1] at e
    cases h2 : U.plays s v' with
    | none => rw [h2] at e; cases e
    | some y =>
      rw [h2] at e
      injection e with e
      exact ⟨rfl, e⟩
end Go.Proofs.Ytofkacfchkimiaa
