/-
  'untold': what it carries.
-/
import Derived.Test.YtgapljgnedbkiaaAgain
import Derived.Test.YtgapljgnedbkiaaStands
import Derived.Test.YtgapljgnedbkiaaStepAny
namespace Go.Proofs.Ytgapljgnedbkiaa
open Go.RowKit
set_option linter.unusedVariables false

theorem Zs.bound {w : World} {F : Nat → Prop} {a : Option Addr} {n c : Nat} {xs : List Int} (h : Zs w F a n c xs) : Zs w (fun k => F k ∧ k < w.heap.size) a n c xs :=
  ⟨h.len, h.cap, h.max, h.nil, fun i hi => by obtain ⟨b, o, e, hb, hc⟩ := h.at' i hi; exact ⟨b, o, e, ⟨hb, cell_lt hc⟩, hc⟩⟩
theorem Mm.low {w : World} {B B' : Nat} {v : Value} {xs ys : List Int} (h : Mm w B v xs ys) (hB : B' ≤ B) : Mm w B' v xs ys := by
  rcases h with h | ⟨g, cap, rfl, hl, h0 | ⟨g', cap', cur, hv, hb, r⟩⟩
  · exact .inl h
  · exact .inr ⟨g, cap, rfl, hl, .inl h0⟩
  · exact .inr ⟨g, cap, rfl, hl, .inr ⟨g', cap', cur, hv, Nat.le_trans hB hb, r⟩⟩

theorem Shf.kept {w w' : World} {F G : Nat → Prop} {s : Nat} {es : List En} (h : Shf w F s es) (k : Kept G w w') (hd : ∀ b, F b → ¬ G b) : Shf w' F s es := by
  obtain ⟨b, hv, h⟩ := h
  exact ⟨b, hv, h.kept k hd⟩
theorem Shf.flt {w : World} {F : Nat → Prop} {s : Nat} {es : List En} (h : Shf w F s es) : ∀ k, F k → k < w.heap.size := by
  obtain ⟨b, hv, h⟩ := h
  exact h.flt

/-- the shelf, the memory, the document's; made since w0, apart -/
structure Us (w0 : World) (s g n cg : Nat) (Fs Gx : Nat → Prop) (xa : Option Addr) (xc : Nat) (ms : List Int) (es : List En) (w : World) : Prop where
  sh : Shf w Fs s es
  len : es.length ≤ 400
  fit : ∀ e ∈ es, e.xs.length ≤ 5000
  mm : Mm w w0.heap.size (.slice (some ⟨g, 0, none⟩) n cg) ms (mks 40)
  lm : ms.length = n
  hn : n ≤ 4096
  zx : Zs w Gx xa n xc ms
  gx : ∀ k, Gx k → k ≠ g ∧ ¬ Fs k ∧ k < w.heap.size
  gf : ¬ Fs g
  fhi : ∀ k, Fs k → w0.heap.size ≤ k
  ghi : w0.heap.size ≤ g
  bel : Below w0.heap.size w0 w

namespace Us
variable {w0 w w' : World} {s g n cg : Nat} {Fs Gx : Nat → Prop} {xa : Option Addr} {xc : Nat} {ms : List Int} {es : List En}
theorem kept (h : Us w0 s g n cg Fs Gx xa xc ms es w) (k : Kept No w w') : Us w0 s g n cg Fs Gx xa xc ms es w' :=
  ⟨h.sh.kept k (fun _ _ h => h), h.len, h.fit, h.mm.kept k (fun _ _ h => h), h.lm, h.hn, h.zx.kept k (fun _ _ h => h), fun b hb => ⟨(h.gx b hb).1, (h.gx b hb).2.1, Nat.lt_of_lt_of_le (h.gx b hb).2.2 k.size⟩, h.gf, h.fhi, h.ghi, h.bel.trans (k.below (fun _ h => h.elim) h.bel.size)⟩
theorem step {ys : List Int} {ya : Option Addr} {yc : Nat} (h : Us w0 s g n cg Fs Gx xa xc ms es w) (d : StDid w w0.heap.size g n cg Gx ys ya yc w') : ∃ Gy, Us w0 s g n cg Fs Gy ya yc ys es w' := by
  have hgl := h.mm.lt
  refine ⟨_, h.sh.kept d.kept (fun b hb e => h.gf (e ▸ hb)), h.len, h.fit, d.mm, d.ly, h.hn, d.zy.bound, ?_, h.gf, h.fhi, h.ghi, h.bel.trans (d.kept.below (fun b e => by have := h.ghi; omega) h.bel.size)⟩
  rintro k ⟨hk | hk, hlt⟩
  · exact ⟨(h.gx k hk).1, (h.gx k hk).2.1, hlt⟩
  · exact ⟨by omega, (fun hF => by have := h.sh.flt k hF; omega), hlt⟩
theorem stp {Gd : Nat → Prop} {da : Option Addr} {dn dc : Nat} {ds : List Int} (h : Us w0 s g n cg Fs Gx xa xc ms es w) (hz : Zs w Gd da dn dc ds) (hg : ∀ k, Gd k → k ≠ g) (hd : dn ≤ 17592186043904) : Stp w w0.heap.size g n cg ms Gx xa xc Gd da dn dc ds :=
  ⟨h.mm, h.lm, h.hn, h.zx, fun k hk => (h.gx k hk).1, hz, hg, hd⟩

/-- one more list on the shelf, or none if it is full -/
theorem keep {B : Nat} {G : Nat → Prop} {la wa : Option Addr} {ln lc wn wc : Nat} {xs : List Int} (h : Us w0 s g n cg Fs Gx xa xc ms es w) (ol : w.ownsRow B 2 1 (.slice la ln lc) xs.length (xs.map iv)) (hb : Zs w G wa wn wc xs)
    (hB : w0.heap.size ≤ B) (hlF : ∀ k, (Value.slice la ln lc).ownBlock = some k → ¬ Fs k ∧ k ≠ g ∧ ¬ Gx k) (hl : xs.length ≤ 4096) :
    Calls Try.prog 27 #[.pointer (some ⟨s, 0, none⟩), .slice la ln lc, .slice wa wn wc] w fun ex w' => ex = .returned (.tuple #[]) ∧ ∃ Fs' es', Us w0 s g n cg Fs' Gx xa xc ms es' w' ∧ Kept Fs w w' ∧ ∀ k, k < w.heap.size → ¬ Fs k → (Value.slice la ln lc).ownBlock ≠ some k → ¬ Fs' k := by
  by_cases hes : es.length < 400
  · refine (keep_any Fs G s es la wa ln lc wn wc xs w h.sh hes (owns_base ol (Nat.zero_le _)) hb (fun _ _ => rfl) (fun k e => (hlF k e).1) (by rw [← hb.len]; omega)).mono ?_
    rintro ex w' ⟨rfl, F', hv, hsh, kp, hF⟩
    have hne : ∀ k, k < w.heap.size → ¬ Fs k → (Value.slice la ln lc).ownBlock ≠ some k → ¬ F' k := by
      intro k h1 h2 h3 h4
      rcases hF k h4 with h5 | h5 | h5
      · exact h2 h5
      · exact h3 h5
      · omega
    refine ⟨rfl, F', _, ⟨hsh, by simp; omega, ?_, h.mm.kept kp (fun b e hb => h.gf (by have := own_g e; rw [← this]; exact hb)), h.lm, h.hn, h.zx.kept kp (fun b hb => (h.gx b hb).2.1), ?_, ?_, ?_, h.ghi, h.bel.trans (kp.below h.fhi h.bel.size)⟩, kp, hne⟩
    · intro e he
      rcases List.mem_append.1 he with he | he
      · exact h.fit e he
      · rw [List.mem_singleton] at he; subst he; simp only; omega
    · intro b hb
      refine ⟨(h.gx b hb).1, hne b (h.gx b hb).2.2 (h.gx b hb).2.1 (fun e => (hlF b e).2.2 hb), Nat.lt_of_lt_of_le (h.gx b hb).2.2 kp.size⟩
    · exact hne g h.mm.lt h.gf (fun e => (hlF g e).2.1 rfl)
    · intro k hk
      rcases hF k hk with h5 | h5 | h5
      · exact h.fhi k h5
      · exact Nat.le_trans hB (ol.lt k h5).1
      · exact Nat.le_trans h.bel.size h5
  · refine (keep_full Fs s es _ _ w h.sh (by have := h.len; omega)).mono ?_
    rintro ex w' ⟨rfl, rfl⟩
    exact ⟨rfl, Fs, es, h, Kept.refl _ _, fun k _ h2 _ => h2⟩
end Us

/-- a shelf that holds nothing yet -/
theorem us_new {w0 w : World} {g n cg : Nat} {Gx : Nat → Prop} {xa : Option Addr} {xc : Nat} {ms : List Int} (mm : Mm w w0.heap.size (.slice (some ⟨g, 0, none⟩) n cg) ms (mks 40)) (lm : ms.length = n) (hn : n ≤ 4096) (zx : Zs w Gx xa n xc ms) (gx : ∀ k, Gx k → k ≠ g ∧ k < w.heap.size) (ghi : w0.heap.size ≤ g) (bel : Below w0.heap.size w0 w) :
    Us w0 w.heap.size g n cg (fun k => k = w.heap.size) Gx xa xc ms [] (w.alloc (.cells #[.slice none 0 0, .slice none 0 0] 48)) := by
  have k0 : Kept No w (w.alloc (.cells #[.slice none 0 0, .slice none 0 0] 48)) := (Kept.refl No w).alloc _
  have hgl := mm.lt
  have hs := bel.size
  refine ⟨⟨_, _, sh_new w⟩, by simp, (fun e he => by cases he), mm.kept k0 (fun _ _ h => h), lm, hn, zx.kept k0 (fun _ _ h => h), fun k hk => ⟨(gx k hk).1, ?_, ?_⟩, by omega, fun k hk => by omega, ghi, bel.trans (k0.below (fun _ h => h.elim) hs)⟩
  · have := (gx k hk).2; omega
  · have := (gx k hk).2; simp; omega

end Go.Proofs.Ytgapljgnedbkiaa
