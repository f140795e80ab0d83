/-
  Reading an image: what holds between its steps.
-/
import Derived.Test.YtolmhoenjcinjaaGreatIGetPn
import Derived.Test.YtolmhoenjcinjaaGreatIGetCh
import Derived.Test.YtolmhoenjcinjaaGreatIGets
import Derived.Test.YtolmhoenjcinjaaGreatIMark
import Derived.Test.YtolmhoenjcinjaaGreatCSeal
namespace Go.Proofs.YtolmhoenjcinjaaGreat
open Go.RowKit
set_option linter.unusedVariables false
set_option maxRecDepth 100000

theorem PnO.apartZ {w : World} {B B' : Nat} {cs : List Value} {x : Pn} {u : Value} {n : Nat} {r : List Value} (h : PnO w B cs x) (hu : w.ownsRow B' 3 1 u n r) : ∀ v ∈ cs, ∀ g, v.ownBlock = some g → u.ownBlock ≠ some g := by
  obtain ⟨⟨a0, n0, c0, a1, n1, c1, a2, n2, c2, a3, n3, c3, a4, n4, c4, a5, n5, c5, rfl, h0, h1, h2, h3, h4, h5⟩, ho⟩ := h
  intro v hv g hg
  simp only [List.mem_cons, List.not_mem_nil, or_false] at hv
  rcases hv with rfl | rfl | rfl | rfl | rfl | rfl | rfl | rfl | rfl | rfl | rfl | rfl | rfl | rfl | rfl | rfl | rfl | rfl | rfl | rfl | rfl
  · cases hg
  · cases hg
  · cases hg
  · cases hg
  · cases hg
  · cases hg
  · exact own_ne h0.1 hu (by decide) g hg
  · exact own_ne h1.1 hu (by decide) g hg
  · exact own_ne h2.1 hu (by decide) g hg
  · cases hg
  · cases hg
  · cases hg
  · cases hg
  · cases hg
  · cases hg
  · cases hg
  · cases hg
  · cases hg
  · exact own_ne h3.1 hu (by decide) g hg
  · exact own_ne h4.1 hu (by decide) g hg
  · exact own_ne h5.1 hu (by decide) g hg

theorem OwPn.keptZ {w w' : World} {B B' b8 : Nat} {v u : Value} {l : List Pn} {n : Nat} {r : List Value} (h : OwPn w B v l) (hu : w.ownsRow B' 3 1 u n r) (k : Kept (fun k => k = b8 ∨ u.ownBlock = some k) w w') (hb : b8 < B) : OwPn w' B v l := by
  obtain ⟨⟨css, lo, h1, h2, h3, h4, h5, h6⟩, hf⟩ := h
  refine ⟨⟨css, lo, k.owns h1 (fun g hg => ?_), h2, h3, h4, Nat.le_trans h5 k.size, fun i cs x hc hx => ?_⟩, hf⟩
  · rintro (e | e)
    · have := (h1.lt g hg).1; omega
    · exact own_ne h1 hu (by decide) g hg e
  · obtain ⟨e1, e2⟩ := h6 i cs x hc hx
    refine ⟨e1.kept k (fun v hv g hg => ?_) (Nat.le_refl _), e2⟩
    rintro (e | e)
    · have h7 := (e1.blocks v hv g hg).1
      have h8 := mono_le h4 (Nat.zero_le i)
      omega
    · exact e1.apartZ hu v hv g hg e
theorem OwPo.keptZ {w w' : World} {B B' b8 : Nat} {v u : Value} {l : List Po} {n : Nat} {r : List Value} (h : OwPo w B v l) (hu : w.ownsRow B' 3 1 u n r) (k : Kept (fun k => k = b8 ∨ u.ownBlock = some k) w w') (hb : b8 < B) : OwPo w' B v l := by
  refine ⟨k.owns h.1 (fun g hg => ?_), h.2⟩
  rintro (e | e)
  · have := (h.1.lt g hg).1; omega
  · exact own_ne h.1 hu (by decide) g hg e
theorem OwPo.kept {w w' : World} {B : Nat} {v : Value} {l : List Po} {G : Nat → Prop} (h : OwPo w B v l) (k : Kept G w w') (hd : ∀ g, B ≤ g → ¬ G g) : OwPo w' B v l :=
  ⟨k.owns h.1 (fun g hg => hd g (h.1.lt g hg).1), h.2⟩
theorem OwPn.base {w : World} {B B' : Nat} {v : Value} {l : List Pn} (h : OwPn w B v l) (hB : B' ≤ B) : OwPn w B' v l := by
  obtain ⟨⟨css, lo, h1, h2, h3, h4, h5, h6⟩, hf⟩ := h
  exact ⟨⟨css, lo, owns_base h1 hB, h2, Nat.le_trans hB h3, h4, h5, h6⟩, hf⟩
theorem OwCh.base {w : World} {B B' : Nat} {v : Value} {l : List Ch} (h : OwCh w B v l) (hB : B' ≤ B) : OwCh w B' v l := by
  obtain ⟨⟨css, lo, h1, h2, h3, h4, h5, h6⟩, hf⟩ := h
  exact ⟨⟨css, lo, owns_base h1 hB, h2, Nat.le_trans hB h3, h4, h5, h6⟩, hf⟩
theorem OwPo.base {w : World} {B B' : Nat} {v : Value} {l : List Po} (h : OwPo w B v l) (hB : B' ≤ B) : OwPo w B' v l := ⟨owns_base h.1 hB, h.2⟩
theorem OwPn.slice {w : World} {B : Nat} {v : Value} {l : List Pn} (h : OwPn w B v l) : ∃ a m c, v = .slice a m c := by
  obtain ⟨⟨css, lo, h1, _⟩, _⟩ := h; exact own_slice h1
theorem OwCh.slice {w : World} {B : Nat} {v : Value} {l : List Ch} (h : OwCh w B v l) : ∃ a m c, v = .slice a m c := by
  obtain ⟨⟨css, lo, h1, _⟩, _⟩ := h; exact own_slice h1

/-! ### what is read of bytes -/
/-- the image whose bytes these are -/
def imgOf (bs : List Nat) : Option Im := if bs.length ≤ 1048576 ∧ unsOk 1 bs = true then (match decIm (inner bs) with
    | some (x, []) => some x
    | _ => none) else none
def rdErr (bs : List Nat) : Int := if 1048576 < bs.length then 1 else 20
def places (x : Im) : List Int := [8, 8 + ((encL encPn x.parts).length : Int), 8 + ((encL encPn x.parts).length : Int) + ((encL encPo x.ports).length : Int)]
theorem imgOf_sealed (x : Im) (hx : okIm x) (hl : (encIm x).length + 12 ≤ 1048576) : imgOf (sealed 1 (encIm x)) = some x := by
  unfold imgOf
  have hu : unsOk 1 (sealed 1 (encIm x)) = true := (unsOk_iff 1 _).2 ⟨by rw [sealed_length]; omega, _, rfl⟩
  rw [if_pos ⟨by rw [sealed_length]; omega, hu⟩, inner_sealed]
  have := dcIm.there x [] hx (by omega)
  rw [List.append_nil] at this
  rw [this]
theorem imgOf_some {bs : List Nat} {x : Im} (hb : ∀ b ∈ bs, b < 256) (h : imgOf bs = some x) : bs = sealed 1 (encIm x) ∧ okIm x ∧ bs.length ≤ 1048576 := by
  unfold imgOf at h
  by_cases hc : bs.length ≤ 1048576 ∧ unsOk 1 bs = true
  · rw [if_pos hc] at h
    obtain ⟨_, ys, hys⟩ := (unsOk_iff 1 bs).1 hc.2
    have hin : inner bs = ys := by rw [hys]; exact inner_sealed 1 ys
    rw [hin] at h
    have hyb : ∀ b ∈ ys, b < 256 := fun b hm => hb b (by rw [hys, sealed_cons]; exact List.mem_append_right _ (List.mem_append_left _ hm))
    cases hd : decIm ys with
    | none => rw [hd] at h; cases h
    | some q =>
      obtain ⟨x', t⟩ := q
      rw [hd] at h
      cases t with
      | cons a t => simp at h
      | nil =>
        simp at h
        subst h
        obtain ⟨e, ho⟩ := dcIm.back ys _ [] hyb hd
        rw [List.append_nil] at e
        exact ⟨by rw [hys, e], ho, hc.1⟩
  · rw [if_neg hc] at h; cases h

/-- between the steps of 'read' -/
structure Rst (w : World) (F : Nat → Prop) (p b5 b7 b8 b10 : Nat) (ba : Option Addr) (bn bc : Nat) (s : St) (pv : Value) (ps : List Int) (cx : List Value) (v : World) : Prop where
  r2 : Bk v w.heap.size [.slice none 0 0, .slice none 0 0, .slice none 0 0] 26
  r5 : Bk v b5 [.slice ba bn bc] 27
  r7 : Bk v b7 [.pointer (some ⟨p, 0, none⟩)] 115
  r8 : Bk v b8 [pv] 39
  r10 : Bk v b10 cx 26
  rd : Rd v F p s.1 s.2
  own : v.ownsRow w.heap.size 3 1 pv ps.length (ps.map iv)
  pvb : ∀ g, pv.ownBlock = some g → b10 < g
  kp : Kept No w v
  fl : ∀ k, F k → b5 < k ∧ k < b7
  fp : F p
  ord : w.heap.size < b5 ∧ b5 < b7 ∧ b7 < b8 ∧ b8 < b10
theorem Rst.did {w : World} {F : Nat → Prop} {p b5 b7 b8 b10 : Nat} {ba : Option Addr} {bn bc : Nat} {s s' : St} {pv : Value} {ps : List Int} {cx : List Value} {v v' : World} (h : Rst w F p b5 b7 b8 b10 ba bn bc s pv ps cx v) (d : RdDid F p s'.1 s'.2 v v') : Rst w F p b5 b7 b8 b10 ba bn bc s' pv ps cx v' := by
  have hp := h.fl p h.fp
  have ho := h.ord
  exact ⟨h.r2.kept d.2 (fun e => by omega), h.r5.kept d.2 (fun e => by omega), h.r7.kept d.2 (fun e => by omega), h.r8.kept d.2 (fun e => by omega), h.r10.kept d.2 (fun e => by omega), d.1, d.2.owns h.own (fun g hg e => by have := h.pvb g hg; omega), h.pvb, h.kp.trans d.2 (fun k e => .inr (by omega)), h.fl, h.fp, h.ord⟩
theorem Rst.set {w : World} {F : Nat → Prop} {p b5 b7 b8 b10 : Nat} {ba : Option Addr} {bn bc : Nat} {s : St} {pv : Value} {ps : List Int} {cx : List Value} {v : World} (h : Rst w F p b5 b7 b8 b10 ba bn bc s pv ps cx v) (j : Nat) (u : Value) : Rst w F p b5 b7 b8 b10 ba bn bc s pv ps (cx.set j u) (v.setCell ⟨b10, j, none⟩ u) := by
  have ho := h.ord
  have k : Kept (fun k => k = b10) v (v.setCell ⟨b10, j, none⟩ u) := (Kept.refl (fun k => k = b10) v).setCell (p := ⟨b10, j, none⟩) (.inl rfl) u
  exact ⟨h.r2.kept k (fun e => by omega), h.r5.kept k (fun e => by omega), h.r7.kept k (fun e => by omega), h.r8.kept k (fun e => by omega), h.r10.set j u, h.rd.kept k (fun b hb e => by have := h.fl b hb; omega), k.owns h.own (fun g hg e => by have := h.pvb g hg; omega), h.pvb, h.kp.trans k (fun k e => .inr (by omega)), h.fl, h.fp, h.ord⟩
theorem own_bk {w : World} {B b : Nat} {t t' : TypeId} {v : Value} {n : Nat} {xs cs : List Value} (h : w.ownsRow B t 1 v n xs) (hb : Bk w b cs t') (ht : t ≠ t') : v.ownBlock ≠ some b := by
  intro hg
  obtain ⟨_, ⟨rfl, _⟩ | ⟨q, cap, cur, rfl, _, hq, _⟩⟩ := h
  · simp [Value.ownBlock] at hg
  · simp [Value.ownBlock] at hg
    subst hg
    unfold Bk at hb
    rw [hq] at hb
    simp at hb
    exact ht hb.2
theorem Rst.marked {w : World} {F : Nat → Prop} {p b5 b7 b8 b10 : Nat} {ba : Option Addr} {bn bc : Nat} {s : St} {pv pv' : Value} {ps : List Int} {z : Int} {cx : List Value} {v v' : World} (h : Rst w F p b5 b7 b8 b10 ba bn bc s pv ps cx v) (h8 : Bk v' b8 [pv'] 39) (ho : v'.ownsRow w.heap.size 3 1 pv' (ps.length + 1) ((ps ++ [z]).map iv)) (k : Kept (fun k => k = b8 ∨ pv.ownBlock = some k) v v') (hat : pv'.ownBlock = pv.ownBlock ∨ ∃ g, pv'.ownBlock = some g ∧ v.heap.size ≤ g) : Rst w F p b5 b7 b8 b10 ba bn bc s pv' (ps ++ [z]) cx v' := by
  have hr := h.ord
  have h10 := h.r10.lt
  refine ⟨h.r2.kept k ?_, h.r5.kept k ?_, h.r7.kept k ?_, h8, h.r10.kept k ?_, h.rd.kept k ?_, by simpa using ho, ?_, h.kp.trans k ?_, h.fl, h.fp, h.ord⟩
  · rintro (e | e)
    · omega
    · have := h.pvb _ e; omega
  · rintro (e | e)
    · omega
    · have := h.pvb _ e; omega
  · rintro (e | e)
    · omega
    · have := h.pvb _ e; omega
  · rintro (e | e)
    · omega
    · have := h.pvb _ e; omega
  · intro b hb
    have := h.fl b hb
    rintro (e | e)
    · omega
    · have := h.pvb _ e; omega
  · intro g hg
    rcases hat with e | ⟨q, e, hq⟩
    · rw [e] at hg; exact h.pvb g hg
    · rw [e] at hg; injection hg with hg; omega
  · rintro g (e | e)
    · exact .inr (by omega)
    · exact .inr (by have := h.pvb _ e; omega)

end Go.Proofs.YtolmhoenjcinjaaGreat
