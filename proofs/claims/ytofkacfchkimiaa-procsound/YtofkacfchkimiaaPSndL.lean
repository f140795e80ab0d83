/-
  ProcSound: what its walk keeps.
-/
import Derived.Test.YtofkacfchkimiaaPCpy
import Derived.Test.YtofkacfchkimiaaPSound
import Derived.Test.YtofkacfchkimiaaPAlike
import Derived.Test.YtofkacfchkimiaaPCutW
import Derived.Test.YtofkacfchkimiaaPKnown
namespace Go.Proofs.Ytofkacfchkimiaa
open Go.RowKit Plain
set_option linter.unusedVariables false
set_option linter.unusedSimpArgs false
set_option maxRecDepth 100000

/-- states that were told, as far as their lists go -/
def StK (B : Nat) (wr : World) (T : Tt) (k : Nat) (v : Value) (ds : Nat → Value) : Prop :=
  wr.ownsRow B 48 28 v k (sL T ds k) ∧ (∀ j, j < k → ∃ ya yc, ds j = .slice ya (T.ps j).ws.length yc ∧ wr.ownsRow B 2 1 (ds j) (T.ps j).ws.length ((T.ps j).ws.map iv)) ∧ (∀ i j, i < j → j < k → ∀ q, (ds i).ownBlock = some q → (ds j).ownBlock ≠ some q)
theorem StL.k {w W : World} {T : Tt} {k : Nat} {v : Value} {ds : Nat → Value} (h : StL w W T k v ds) : StK w.heap.size W T k v ds := ⟨h.1, h.2.2.1, h.2.2.2⟩
theorem StK.keep {B : Nat} {G : Nat → Prop} {W W' : World} {T : Tt} {k : Nat} {v : Value} {ds : Nat → Value} (h : StK B W T k v ds) (q : Kept G W W') (hG : ∀ j, G j → j < B) : StK B W' T k v ds :=
  ⟨q.owns h.1 (fun j hj e => by have := h.1.lt j hj; have := hG j e; omega), fun j hj => by obtain ⟨ya, yc, e, o⟩ := h.2.1 j hj; exact ⟨ya, yc, e, q.owns o (fun i hi e => by have := o.lt i hi; have := hG i e; omega)⟩, h.2.2⟩
theorem alike_k {w2 W : World} {B : Nat} {T : Tt} {n : Nat} {va va' : Option Addr} {vc vc' : Nat} {ds ds' : Nat → Value} (h1 : StK B W T n (.slice va n vc) ds) (hB : B ≤ W.heap.size) (h2 : StL w2 W T n (.slice va' n vc') ds') (hn : n ≤ 1048576) :
    Calls Try.prog 31 #[.slice va n vc, .slice va' n vc'] W fun e w' => e = .returned (.bool true) ∧ Kept No W w' := by
  obtain ⟨w1, hs, hk⟩ : ∃ w1 : World, w1.heap.size = B ∧ Kept No w1 W := by
    refine ⟨{ W with heap := W.heap.extract 0 B }, by simp; omega, rfl, rfl, rfl, by simp; omega, fun j hj _ => ?_⟩
    have hj' : j < B := by simp at hj; omega
    simp [Array.getElem?_extract, hj']
    omega
  subst hs
  exact alike_any (w1 := w1) ⟨h1.1, hk, h1.2.1, h1.2.2⟩ h2 hn
theorem cL_len (st : Nat → Sp) (ds : Nat → Value) : ∀ k, (cL st ds k).length = k * 10
  | 0 => rfl
  | k + 1 => by show (cL st ds k ++ ((st k).row (ds k)).toList).length = _; rw [List.length_append, cL_len st ds k, show ((st k).row (ds k)).toList.length = 10 from rfl]; omega
theorem cL_at (st : Nat → Sp) (ds : Nat → Value) : ∀ k i j, i < k → j < 10 → (cL st ds k)[i * 10 + j]? = ((st i).row (ds i))[j]?
  | 0, i, j, h, _ => by omega
  | k + 1, i, j, h, hj => by
    show (cL st ds k ++ ((st k).row (ds k)).toList)[i * 10 + j]? = _
    by_cases hi : i < k
    · rw [List.getElem?_append_left (by rw [cL_len]; omega)]
      exact cL_at st ds k i j hi hj
    · have : i = k := by omega
      subst this
      rw [List.getElem?_append_right (by rw [cL_len]; omega), cL_len, show i * 10 + j - i * 10 = j by omega]
      simp
/-- the script's words and the rest -/
structure Lw (w W : World) (F : Nat → Prop) (N : Nat) (va : Option Addr) (vc : Nat) (st : Nat → Sp) (ds : Nat → Value) (pb : Nat) (cA : Array Value) (b g cap : Nat) (T : Tt) (q B n : Nat) (hd : Int) : Prop where
  hk : Kept No w W
  sc : W.ownsRow w.heap.size 77 10 (.slice va N vc) N (cL st ds N)
  wd : ∀ j, j < N → ∃ da dn dc, ds j = .slice da dn dc ∧ dn ≤ 1000 ∧ Zs W F da dn dc (st j).ws
  pn : W.heap[pb]? = some (.cells cA 38)
  tw : Tw W b g cap T
  sd : Sd T q 1000
  lo : pb < B ∧ (∀ j, (Value.slice va N vc).ownBlock = some j → j < B) ∧ w.heap.size ≤ B ∧ B ≤ b ∧ B ≤ g
  tn : T.n = n ∧ T.hd = hd
  fF : ∀ j, F j → j < w.heap.size
namespace Lw
variable {w W W' : World} {F : Nat → Prop} {N : Nat} {va : Option Addr} {vc : Nat} {st : Nat → Sp} {ds : Nat → Value} {pb : Nat} {cA : Array Value} {b g cap : Nat} {T T' : Tt} {q q' B n : Nat} {hd : Int}
theorem keep (l : Lw w W F N va vc st ds pb cA b g cap T q B n hd) (k : Kept No W W') : Lw w W' F N va vc st ds pb cA b g cap T q B n hd :=
  ⟨l.hk.trans k (fun _ e => .inl e), k.owns l.sc (fun _ _ e => e), fun j hj => by obtain ⟨da, dn, dc, e, h, z⟩ := l.wd j hj; exact ⟨da, dn, dc, e, h, z.kept k (fun _ _ e => e)⟩, k.at' l.pn (fun e => e), l.tw.keep k, l.sd, l.lo, l.tn, l.fF⟩
theorem play (l : Lw w W F N va vc st ds pb cA b g cap T q B n hd) (k : Kept (Bg b g) W W') (t : Tw W' b g cap T') (s : Sd T' q' 1000) (e1 : T'.n = T.n) (e2 : T'.hd = T.hd) : Lw w W' F N va vc st ds pb cA b g cap T' q' B n hd := by
  have lo := l.lo
  have nb : ∀ j, j < B → ¬ Bg b g j := fun j hj e => by rcases e with e | e <;> omega
  refine ⟨l.hk.trans k (fun j e => .inr (by rcases e with e | e <;> omega)), k.owns l.sc (fun j hj => nb j (lo.2.1 j hj)), fun j hj => ?_, k.at' l.pn (nb _ lo.1), t, s, lo, ⟨e1.trans l.tn.1, e2.trans l.tn.2⟩, l.fF⟩
  obtain ⟨da, dn, dc, e, h, z⟩ := l.wd j hj
  exact ⟨da, dn, dc, e, h, z.kept k (fun x hx => nb x (by have := l.fF x hx; omega))⟩
theorem low (l : Lw w W F N va vc st ds pb cA b g cap T q B n hd) : ∀ j, Bg b g j → j < W.heap.size := fun j e => by
  have := l.tw.low
  rcases e with e | e <;> omega
theorem step (l : Lw w W F N va vc st ds pb cA b g cap T q B n hd) {k : Nat} (hk : k < N) : ∃ gl da dn dc, va = some ⟨gl, 0, none⟩ ∧ dn ≤ 1000 ∧ Zs W F da dn dc (st k).ws ∧ W.rangeAt gl (k * 10) ((st k).row (.slice da dn dc)).toList ∧ N ≤ vc ∧ vc ≤ maxLen := by
  obtain ⟨da, dn, dc, e, h, z⟩ := l.wd k hk
  rcases l.sc.2 with ⟨_, e0⟩ | ⟨gl, cap', cur, hv, hb, hg, h1, h2, _⟩
  · omega
  · injection hv with e1 e2 e3
    subst e1 e3
    refine ⟨gl, da, dn, dc, rfl, h, z, fun j u hu => ?_, h1, h2⟩
    have hj : j < 10 := by have := (List.getElem?_eq_some_iff.1 hu).1; exact this
    have := l.sc.cells (g := gl) rfl (k * 10 + j) u ((cL_at st ds N k j hk hj).trans (by rw [e]; simpa using hu))
    rw [add_none, Nat.zero_add] at this
    exact this
end Lw
theorem ldP {w : World} {b : Nat} {A : Array Value} (h : w.heap[b]? = some (.cells A 38)) (hl : A.size = 21) : (Instr.loadAt 38 (.pointer (some ⟨b, 0, none⟩))).run Try.prog w = .ok (.agg A) w := by
  have := run_loadAt_mid (P := Try.prog) w b 0 _ A.toList _ (fun j v hv => by rw [Nat.zero_add]; exact cell_row h (by simpa using hv)) Try.underlying38 rfl (by rw [Array.length_toList, hl]; exact Try.info21)
  simpa using this
theorem ldStep {w : World} {b o : Nat} {s : Sp} {d : Value} (h : w.rangeAt b o (s.row d).toList) : (Instr.loadAt 77 (.pointer (some ⟨b, o, none⟩))).run Try.prog w = .ok (.agg (s.row d)) w :=
  run_loadAt_mid (P := Try.prog) w b o _ (s.row d).toList _ h Try.underlying77 rfl (by kernel_rfl)
theorem sd_new {n : Nat} {qs : Nat → Ql} {cn hd : Int} (hq : ∀ i, i < n → Qk (qs i)) (hh : 0 ≤ hd ∧ hd ≤ n) : Sd { ps := fun i => (qs i).pr, n := n, cd := cn, hd := hd, lk := 0, pl := 1 } 0 1000 :=
  ⟨fun i hi => ⟨by show 0 ≤ (0 : Int) ∧ (0 : Int) ≤ 10; omega, fun _ => ⟨rfl, rfl, rfl, rfl, rfl, rfl, rfl, rfl, rfl, rfl, fun _ _ => rfl⟩, fun _ => ⟨rfl, rfl, rfl, .inl rfl⟩, fun e => absurd rfl e, by show 0 ≤ 1000; omega, by show 0 ≤ (0 : Int) ∧ (0 : Int) ≤ (0 : Nat); omega, by show -1 ≤ (-1 : Int) ∧ (-1 : Int) < _; omega, (hq i hi).1, (hq i hi).2, fun e => by have : (0 : Int) = 3 := e; omega⟩, fun i j _ _ _ e => absurd rfl e, .inl rfl, hh, by show 1 ≤ (1 : Int) ∧ (1 : Int) ≤ _; omega⟩
end Go.Proofs.Ytofkacfchkimiaa
