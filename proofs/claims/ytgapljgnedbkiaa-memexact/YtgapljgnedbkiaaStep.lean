/-
  'step': what it meets, what it did; Load, Store, Writable, and no call.
-/
import Derived.Test.YtgapljgnedbkiaaLeft
import Derived.Test.YtgapljgnedbkiaaScript
import Derived.Test.YtgapljgnedbkiaaRefWrite
namespace Go.Proofs.Ytgapljgnedbkiaa
open Go.RowKit
set_option linter.unusedVariables false

theorem Mm.zsg {w : World} {B g n c : Nat} {xs ys : List Int} (h : Mm w B (.slice (some ⟨g, 0, none⟩) n c) xs ys) : Zs w (fun k => k = g) (some ⟨g, 0, none⟩) n c xs := by
  obtain ⟨a', c', hv, hz⟩ := h.zs
  injection hv with e1 e2 e3
  subst e1 e2 e3
  exact hz.mono (fun k e => by simp [Value.ownBlock] at e; exact e.symm)

theorem Mm.lt {w : World} {B g n c : Nat} {xs ys : List Int} (h : Mm w B (.slice (some ⟨g, 0, none⟩) n c) xs ys) : g < w.heap.size := by
  obtain ⟨_, _, _, hh, _⟩ := h.blk (g := g) rfl
  exact heap_lt hh

/-- the memory m, the document's x, the data: what is met -/
structure Stp (w : World) (B g n cg : Nat) (xs : List Int) (Gx : Nat → Prop) (xa : Option Addr) (xc : Nat) (Gd : Nat → Prop) (da : Option Addr) (dn dc : Nat) (ds : List Int) : Prop where
  mm : Mm w B (.slice (some ⟨g, 0, none⟩) n cg) xs (mks 40)
  lx : xs.length = n
  hn : n ≤ 4096
  zx : Zs w Gx xa n xc xs
  gx : ∀ k, Gx k → k ≠ g
  zd : Zs w Gd da dn dc ds
  gd : ∀ k, Gd k → k ≠ g
  hd : dn ≤ 17592186043904

/-- what was done -/
structure StDid (w : World) (B g n cg : Nat) (Gx : Nat → Prop) (ys : List Int) (ya : Option Addr) (yc : Nat) (w' : World) : Prop where
  mm : Mm w' B (.slice (some ⟨g, 0, none⟩) n cg) ys (mks 40)
  ly : ys.length = n
  zy : Zs w' (fun k => Gx k ∨ w.heap.size ≤ k) ya n yc ys
  kept : Kept (fun k => k = g) w w'

theorem own_g {g n cg k : Nat} (e : (Value.slice (some ⟨g, 0, none⟩) n cg).ownBlock = some k) : k = g := by simp [Value.ownBlock] at e; exact e.symm

namespace Stp
variable {w w' : World} {B g n cg : Nat} {xs : List Int} {Gx : Nat → Prop} {xa : Option Addr} {xc : Nat} {Gd : Nat → Prop} {da : Option Addr} {dn dc : Nat} {ds : List Int}
theorem kept (h : Stp w B g n cg xs Gx xa xc Gd da dn dc ds) (k : Kept No w w') : Stp w' B g n cg xs Gx xa xc Gd da dn dc ds :=
  ⟨h.mm.kept k (fun _ _ h => h), h.lx, h.hn, h.zx.kept k (fun _ _ h => h), h.gx, h.zd.kept k (fun _ _ h => h), h.gd, h.hd⟩
theorem same (h : Stp w B g n cg xs Gx xa xc Gd da dn dc ds) (k : Kept No w w') : StDid w B g n cg Gx xs xa xc w' :=
  ⟨(h.kept k).mm, h.lx, (h.kept k).zx.mono (fun _ h => .inl h), k.mono (fun _ h => h.elim)⟩
end Stp

/-- behind a call that wrote, and the document's own -/
theorem did_write {w W W1 w2 : World} {B g n cg : Nat} {xs ys : List Int} {Gx : Nat → Prop} {xa : Option Addr} {xc : Nat} {Gd : Nat → Prop} {da : Option Addr} {dn dc : Nat} {ds : List Int} {v : Value} (h : Stp w B g n cg xs Gx xa xc Gd da dn dc ds)
    (k0 : Kept No w W) (hm : Mm W1 B (.slice (some ⟨g, 0, none⟩) n cg) ys (mks 40)) (hl : ys.length = n) (k1 : Kept (fun k => k = g) W W1) (own : w2.ownsRow W1.heap.size 2 1 v ys.length (ys.map iv)) (k2 : Kept No W1 w2) :
    ∃ ya yc, v = .slice ya n yc ∧ StDid w B g n cg Gx ys ya yc w2 := by
  obtain ⟨ya, yc, hv, hz⟩ := Zs.of_owns own
  rw [hl] at hv hz
  have h1 := k0.size
  have h2 := k1.size
  refine ⟨ya, yc, hv, hm.kept k2 (fun _ _ h => h), hl, hz.mono (fun k e => .inr ?_), ?_⟩
  · have := (own.lt k e).1
    omega
  · exact ((k0.mono (fun _ h => h.elim)).trans k1 (fun k h => .inl h)).trans k2 (fun k h => h.elim)

set_option maxRecDepth 100000 in
set_option maxHeartbeats 2000000 in
theorem step_load (w : World) (B g n cg : Nat) (xs : List Int) (Gx : Nat → Prop) (xa : Option Addr) (xc : Nat) (Gd : Nat → Prop) (da : Option Addr) (dn dc : Nat) (ds : List Int) (Fx A N V : Int) (h : Stp w B g n cg xs Gx xa xc Gd da dn dc ds) :
    Calls Try.prog 17 #[.slice (some ⟨g, 0, none⟩) n cg, .slice xa n xc, .agg #[.int .i64 1, .int .i64 Fx, .int .i64 A, .int .i64 N, .int .i64 V, .slice da dn dc]] w fun ex w' => ex = .returned (.tuple #[.slice xa n xc, .bool true]) ∧ StDid w B g n cg Gx xs xa xc w' := by
  have k0 : Kept No w (w.alloc (.cells #[.int .i64 1, .int .i64 Fx, .int .i64 A, .int .i64 N, .int .i64 V, .slice da dn dc] 34)) := (Kept.refl No w).alloc _
  obtain ⟨e0, e1, e2, e3, e4, e5⟩ := (OpBlk.new w ⟨1, Fx, A, N, V, ds⟩ da dn dc).cells
  simp only at e0 e1 e2 e3 e4 e5
  have hb := h.kept k0
  have c10 := load_any _ A (some ⟨g, 0, none⟩) n cg xs _ hb.mm.zsg
  have c22 := refLoad_any _ A xa n xc xs _ hb.zx
  have HD : Hid (StDid w B g n cg Gx xs xa xc (w.alloc (.cells #[.int .i64 1, .int .i64 Fx, .int .i64 A, .int .i64 N, .int .i64 V, .slice da dn dc] 34))) := h.same k0
  obtain ⟨x, hx⟩ : ∃ x, x = mmVal xs A := ⟨_, rfl⟩
  obtain ⟨b, hb2⟩ : ∃ b, b = wi xs.length A 1 := ⟨_, rfl⟩
  rw [← hx, ← hb2] at c10 c22
  clear h hb k0 hx hb2
  generalize hW : w.alloc (.cells #[.int .i64 1, .int .i64 Fx, .int .i64 A, .int .i64 N, .int .i64 V, .slice da dn dc] 34) = W at *
  go_enter Try.func17, Try.ntmps17
  go_wp2_with (first
    | (go_at_call 10; refine c10.mono ?_; rintro ex w1 ⟨rfl, hw⟩; obtain rfl := hw.symm)
    | (go_at_call 22; refine c22.mono ?_; rintro ex w1 ⟨rfl, hw⟩; obtain rfl := hw.symm))
  go_ret2
  exact ⟨rfl, HD.out⟩

set_option maxRecDepth 100000 in
set_option maxHeartbeats 2000000 in
theorem step_store (w : World) (B g n cg : Nat) (xs : List Int) (Gx : Nat → Prop) (xa : Option Addr) (xc : Nat) (Gd : Nat → Prop) (da : Option Addr) (dn dc : Nat) (ds : List Int) (Fx A N V : Int) (h : Stp w B g n cg xs Gx xa xc Gd da dn dc ds) :
    Calls Try.prog 17 #[.slice (some ⟨g, 0, none⟩) n cg, .slice xa n xc, .agg #[.int .i64 2, .int .i64 Fx, .int .i64 A, .int .i64 N, .int .i64 V, .slice da dn dc]] w fun ex w' => ∃ ya yc, ex = .returned (.tuple #[.slice ya n yc, .bool true]) ∧ StDid w B g n cg Gx (wrX xs Fx A [V]) ya yc w' := by
  have k0 : Kept No w (w.alloc (.cells #[.int .i64 2, .int .i64 Fx, .int .i64 A, .int .i64 N, .int .i64 V, .slice da dn dc] 34)) := (Kept.refl No w).alloc _
  have blk := OpBlk.new w ⟨2, Fx, A, N, V, ds⟩ da dn dc
  obtain ⟨e0, e1, e2, e3, e4, e5⟩ := blk.cells
  simp only at e0 e1 e2 e3 e4 e5
  have hb := h.kept k0
  have c13 := store_any B Fx A V (some ⟨g, 0, none⟩) n cg xs (mks 40) _ hb.mm hb.lx
  have HB : Hid (Stp (w.alloc (.cells #[.int .i64 2, .int .i64 Fx, .int .i64 A, .int .i64 N, .int .i64 V, .slice da dn dc] 34)) B g n cg xs Gx xa xc Gd da dn dc ds ∧ Kept No w (w.alloc (.cells #[.int .i64 2, .int .i64 Fx, .int .i64 A, .int .i64 N, .int .i64 V, .slice da dn dc] 34)) ∧ OpBlk (w.alloc (.cells #[.int .i64 2, .int .i64 Fx, .int .i64 A, .int .i64 N, .int .i64 V, .slice da dn dc] 34)) w.heap.size ⟨2, Fx, A, N, V, ds⟩ da dn dc) := ⟨hb, k0, blk⟩
  have HH : Hid (Stp w B g n cg xs Gx xa xc Gd da dn dc ds) := h
  have hqg : w.heap.size ≠ g := by
    obtain ⟨_, _, _, hh, _⟩ := h.mm.blk (g := g) rfl
    have := heap_lt hh; omega
  have HQG : Hid (w.heap.size ≠ g) := hqg
  have hn := h.hn
  clear h hb k0 blk hqg
  generalize hW : (w.alloc (.cells #[.int .i64 2, .int .i64 Fx, .int .i64 A, .int .i64 N, .int .i64 V, .slice da dn dc] 34)) = W at *
  go_enter Try.func17, Try.ntmps17
  go_wp2_with (first
    | (go_at_call 13; refine c13.mono ?_; rintro ex w1 ⟨rfl, hm1, kp1⟩; have HM1 : Hid (Mm w1 B (.slice (some ⟨g, 0, none⟩) n cg) (wrX xs Fx A [V]) (mks 40) ∧ Kept (fun k => k = g) W w1) := ⟨hm1, kp1.mono (fun k e => own_g e)⟩; clear hm1 kp1 e0 e1 e2 e3 e4 e5 c13; obtain ⟨e0, e1, e2, e3, e4, e5⟩ := (HB.out.2.2.kept HM1.out.2 (fun e => HQG.out e)).cells; simp only at e0 e1 e2 e3 e4 e5; have c23 := refStore_any _ Fx A V xa n xc xs w1 (HB.out.1.zx.kept HM1.out.2 (fun k hk e => HB.out.1.gx k hk e)) hn)
    | (go_at_call 23; refine c23.mono ?_; rintro ex w2 ⟨v, rfl, own, kp2⟩; obtain ⟨ya, yc, rfl, hd⟩ := did_write HH.out HB.out.2.1 HM1.out.1 (by rw [wrX_length]; exact HH.out.lx) HM1.out.2 own kp2; have HD : Hid (StDid w B g n cg Gx (wrX xs Fx A [V]) ya yc w2) := hd; clear own kp2 hd c23))
  go_ret2
  exact ⟨ya, yc, by simp, HD.out⟩

set_option maxRecDepth 100000 in
set_option maxHeartbeats 2000000 in
theorem step_writable (w : World) (B g n cg : Nat) (xs : List Int) (Gx : Nat → Prop) (xa : Option Addr) (xc : Nat) (Gd : Nat → Prop) (da : Option Addr) (dn dc : Nat) (ds : List Int) (Fx A N V : Int) (h : Stp w B g n cg xs Gx xa xc Gd da dn dc ds) (hN : N ≤ 9223372036854775807) :
    Calls Try.prog 17 #[.slice (some ⟨g, 0, none⟩) n cg, .slice xa n xc, .agg #[.int .i64 5, .int .i64 Fx, .int .i64 A, .int .i64 N, .int .i64 V, .slice da dn dc]] w fun ex w' => ex = .returned (.tuple #[.slice xa n xc, .bool true]) ∧ StDid w B g n cg Gx xs xa xc w' := by
  have k0 : Kept No w (w.alloc (.cells #[.int .i64 5, .int .i64 Fx, .int .i64 A, .int .i64 N, .int .i64 V, .slice da dn dc] 34)) := (Kept.refl No w).alloc _
  obtain ⟨e0, e1, e2, e3, e4, e5⟩ := (OpBlk.new w ⟨5, Fx, A, N, V, ds⟩ da dn dc).cells
  simp only at e0 e1 e2 e3 e4 e5
  have HD : Hid (∀ q, StDid w B g n cg Gx xs xa xc ((w.alloc (.cells #[.int .i64 5, .int .i64 Fx, .int .i64 A, .int .i64 N, .int .i64 V, .slice da dn dc] 34)).drewN q)) := fun q => h.same (k0.drewN q)
  clear h k0
  generalize hW : (w.alloc (.cells #[.int .i64 5, .int .i64 Fx, .int .i64 A, .int .i64 N, .int .i64 V, .slice da dn dc] 34)) = W at *
  go_enter Try.func17, Try.ntmps17
  go_wp2_with fail
  go_quiet (first
    | (go_at_call 9; refine Calls.quiet_of_same (writable_any _ _ _ _ _ hN))
    | (go_at_call 26; refine Calls.quiet_of_same (refWritable_any _ _ _ _ _ hN)))
  go_wp2
  go_ret2
  exact ⟨by simp, HD.out _⟩

set_option maxRecDepth 100000 in
set_option maxHeartbeats 2000000 in
theorem step_none (K : Int) (w : World) (B g n cg : Nat) (xs : List Int) (Gx : Nat → Prop) (xa : Option Addr) (xc : Nat) (Gd : Nat → Prop) (da : Option Addr) (dn dc : Nat) (ds : List Int) (Fx A N V : Int) (h : Stp w B g n cg xs Gx xa xc Gd da dn dc ds) (h1 : K ≠ 1) (h2 : K ≠ 2) (h3 : K ≠ 3) (h4 : K ≠ 4) (h5 : K ≠ 5) (h6 : K ≠ 6) :
    Calls Try.prog 17 #[.slice (some ⟨g, 0, none⟩) n cg, .slice xa n xc, .agg #[.int .i64 K, .int .i64 Fx, .int .i64 A, .int .i64 N, .int .i64 V, .slice da dn dc]] w fun ex w' => ex = .returned (.tuple #[.slice xa n xc, .bool true]) ∧ StDid w B g n cg Gx xs xa xc w' := by
  have k0 : Kept No w (w.alloc (.cells #[.int .i64 K, .int .i64 Fx, .int .i64 A, .int .i64 N, .int .i64 V, .slice da dn dc] 34)) := (Kept.refl No w).alloc _
  obtain ⟨e0, e1, e2, e3, e4, e5⟩ := (OpBlk.new w ⟨K, Fx, A, N, V, ds⟩ da dn dc).cells
  simp only at e0 e1 e2 e3 e4 e5
  have HD : Hid (StDid w B g n cg Gx xs xa xc (w.alloc (.cells #[.int .i64 K, .int .i64 Fx, .int .i64 A, .int .i64 N, .int .i64 V, .slice da dn dc] 34))) := h.same k0
  have b1 : (K == 1) = false := by simpa using h1
  have b2 : (K == 2) = false := by simpa using h2
  have b3 : (K == 3) = false := by simpa using h3
  have b4 : (K == 4) = false := by simpa using h4
  have b5 : (K == 5) = false := by simpa using h5
  have b6 : (K == 6) = false := by simpa using h6
  clear h k0
  generalize hW : (w.alloc (.cells #[.int .i64 K, .int .i64 Fx, .int .i64 A, .int .i64 N, .int .i64 V, .slice da dn dc] 34)) = W at *
  go_enter Try.func17, Try.ntmps17
  go_wp2_with fail
  go_ret2
  exact ⟨rfl, HD.out⟩

end Go.Proofs.Ytgapljgnedbkiaa
