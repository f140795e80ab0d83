/-
  each: slot after slot is handed to a function.
-/
import Derived.Test.YthdmbikmjimmkaaGreatDoorORange
import Derived.Test.YthdmbikmjimmkaaGreatDoorOHeld
import Derived.WalkKit
import Derived.OwnWalkIn
import Derived.TacticsInMore
import Derived.LoopNIn
import Derived.LoopIn
import Derived.Shelf.RegionOpen
namespace Go.Proofs.YthdmbikmjimmkaaGreatDoor
open Go.RowKit Go.Shelf
attribute [local go_sem] Oper.semAt_some
set_option linter.unusedVariables false
set_option maxRecDepth 100000

/-- one block more -/
def And1 (S : Nat → Prop) (b : Nat) : Nat → Prop := fun k => S k ∨ k = b
/-- a state beside a box that holds v -/
def Box (I : St) (b : Nat) (o : Obj) : St := fun q W S => ∃ S1, S = And1 S1 b ∧ I q W S1 ∧ ¬ S1 b ∧ W.heap[b]? = some o
theorem Box.hangs {I : St} (hI : Hangs I) (b : Nat) (o : Obj) : Hangs (Box I b o) := by
  refine ⟨?_, ?_⟩
  · rintro q W S ⟨S1, rfl, hi, h1, h2⟩ k (hk | hk)
    · exact hI.old _ _ _ hi k hk
    · subst hk; exact heap_lt h2
  · rintro q W W' S ⟨S1, rfl, hi, h1, h2⟩ hs hk
    exact ⟨S1, rfl, hI.kept _ W W' S1 hi hs (fun k h => hk k (.inl h)), h1, (hk _ (.inr rfl)).trans h2⟩

theorem hangs_and (p : Prop) {I : St} (h : Hangs I) : Hangs (fun q W S => p ∧ I q W S) :=
  ⟨fun q W S hi => h.old q W S hi.2, fun q W W' S hi hs hk => ⟨hi.1, h.kept q W W' S hi.2 hs hk⟩⟩
theorem Box.after {I : St} {q b : Nat} {o : Obj} {W W' : World} {S1 S3 : Nat → Prop} (hk : Kept S1 W W') (hm : More S1 W S3) (hj : I q W' S3) (hn : ¬ S1 b) (hb : W.heap[b]? = some o) :
    ∃ S', Kept (And1 S1 b) W W' ∧ More (And1 S1 b) W S' ∧ Box I b o q W' S' := by
  refine ⟨And1 S3 b, hk.mono (fun k h => .inl h), ?_, S3, rfl, hj, ?_, hk.at' hb hn⟩
  · rintro k (h | h)
    · rcases hm k h with h' | h'
      · exact .inl (.inl h')
      · exact .inr h'
    · exact .inl (.inr h)
  · intro h
    rcases hm b h with h' | h'
    · exact hn h'
    · have := heap_lt hb; omega
theorem Box.done {I : St} {q D : Nat} {o o' : Obj} {w W : World} {S0 S1 : Nat → Prop} (hk : Kept (And1 S0 w.heap.size) (w.alloc o) W) (hm : More (And1 S0 w.heap.size) (w.alloc o) (And1 S1 w.heap.size)) (hI : Hangs I) (hi : I q W S1) (hD : ¬ And1 S1 w.heap.size D) (hD2 : (w.alloc o).heap.size ≤ D) :
    Kept S0 w (W.putObj D o') ∧ More S0 w S1 ∧ I q (W.putObj D o') S1 := by
  have k1 : Kept S0 w (w.alloc o) := (Kept.refl S0 w).alloc o
  have k2 : Kept S0 w W := k1.trans hk (fun k h => by rcases h with h | h; exact .inl h; exact .inr (by omega))
  have k3 : Kept S0 w (W.putObj D o') := k2.trans (kept_put (S := fun k => k = D) o' rfl) (fun k h => .inr (by simp at hD2; omega))
  refine ⟨k3, fun k h => ?_, hI.put hi _ (fun h => hD (.inl h))⟩
  rcases hm k (.inl h) with h' | h'
  · rcases h' with h' | h'
    · exact .inl h'
    · exact .inr (by omega)
  · exact .inr (by simp at h'; omega)
/-- what the function that is handed to each does with a slot -/
def Does (P : Program) (df : Nat) (dlb : Array Value) (f : Nat → Nat) (b : Nat) (I Ix : St) : Prop :=
  ∀ (q len : Nat) (W : World) (S : Nat → Prop), I q W S → 1 ≤ len → q + len ≤ b → (∀ u, q ≤ u → u < q + len → f u = f q) →
    Calls P df (#[.int .i64 q, sv len (f q)] ++ dlb) W (Took I Ix (q + len) W S)

theorem cell_box {w : World} {g : Nat} {u : Value} {t : TypeId} (h : w.heap[g]? = some (.cells #[u] t)) : w.cell? ⟨g, 0, none⟩ = some u := by
  simp [World.cell?, h]
theorem cells2' {w : World} {g : Nat} {u v : Value} {t : TypeId} (h : w.heap[g]? = some (.cells #[u, v] t)) : w.cell? ⟨g, 0, none⟩ = some u ∧ w.cell? ⟨g, 1, none⟩ = some v := by
  refine ⟨?_, ?_⟩ <;> simp [World.cell?, h]

set_option maxHeartbeats 2000000 in
theorem each_any {gf : Nat} {lb : Array Value} (eg : ∀ args w, (callFunc gf args).run Tryz.prog w = .ok (.enter gf args) w) {df : Nat} {dlb : Array Value} (ed : ∀ args w, (callFunc df args).run Tryz.prog w = .ok (.enter df args) w)
    {f : Nat → Nat} {a0 b : Nat} {w0 : World} {G : Nat → Prop} (hseq : Gives Tryz.prog gf lb f a0 b w0 G) {w : World} (hw0 : w0.heap.size ≤ w.heap.size) (hG : ∀ k, G k → k < w.heap.size ∧ w.heap[k]? = w0.heap[k]?)
    {I Ix : St} (hI : Hangs I) (hIx : Hangs Ix) {S0 : Nat → Prop} (h0 : I a0 w S0) (hGS : ∀ k, G k → ¬ S0 k) (hD : Does Tryz.prog df dlb f b I Ix) :
    Calls Tryz.prog 19 #[.func (.func gf) #[] lb, .func (.func df) #[] dlb] w fun e w' => (∃ v, e = .returned v) ∧ ∃ S', Kept S0 w w' ∧ More S0 w S' ∧ (I b w' S' ∨ ∃ q, Ix q w' S') := by
  refine callsIn_wide (n := 9).1 ?_
  refine callsIn_of_wp_marks Tryz.func19 rfl trivial ?_ rfl
  simp only [Tryz.ntmps19, List.size_toArray, List.length_cons, List.length_nil, Nat.reduceAdd, Nat.reduceSub, Array.replicate_succ, Array.replicate_zero, List.push_toArray, List.append_toArray, List.nil_append, List.cons_append]
  gi_wp2
  have hold := hI.old _ _ _ h0
  have hI0 : Box I w.heap.size (.cells #[.func (.func df) #[] dlb] 66) a0 (w.alloc (.cells #[.func (.func df) #[] dlb] 66)) (And1 S0 w.heap.size) :=
    ⟨S0, rfl, hI.kept _ w _ _ h0 (by simp) (fun k hs => Below.heap_alloc _ _ _ (hold k hs)), fun h => by have := hold _ h; omega, World.alloc_heap_new _ _⟩
  refine range_gives (n := 9) (gf := gf) (lb := lb) rfl eg rfl hseq (by simp; omega) (fun k hk => ⟨by have := (hG k hk).1; simp; omega, (Below.heap_alloc _ _ _ (hG k hk).1).trans (hG k hk).2⟩)
    (Box I w.heap.size (.cells #[.func (.func df) #[] dlb] 66)) (fun c q W S => c = .ret ∧ Box Ix w.heap.size (.cells #[.func (.func df) #[] dlb] 66) q W S) (Box.hangs hI _ _) (fun _ => hangs_and _ (Box.hangs hIx _ _)) hI0
    (fun k hk h => by rcases h with h | h; exact hGS k hk h; have := (hG k hk).1; omega)
    (fun q len => .cells #[.int .i64 len, .int .i64 (f q)] 33)
    (fun q len B => { tmps := #[.func (.func gf) #[] lb, .func (.func df) #[] dlb, undef, .pointer (some ⟨w.heap.size, 0, none⟩), .int .i64 q, .pointer (some ⟨B, 0, none⟩), .func (.func gf) #[] lb, .int .i64 q, sv len (f q), undef, undef, undef, undef, undef], defers := [] }) ?assign ?body ?done ?stop
  case assign =>
    intro l q len W K hK
    simp only [sv] at hK ⊢
    gi_wp2
    exact hK
  case body =>
    rintro l q len B W S ⟨S1, rfl, hi, hn, hbx⟩ hB hob h1 h2 h3
    have hc := hD q len W S1 hi h1 h2 h3
    have b0 := cell_box hbx
    obtain ⟨e0, e1⟩ := cells2' hob
    simp only [sv] at hc ⊢
    gi_wp2
    refine ⟨trivial, (CallsIn.inRound l (callsIn_wide.2 hc)).mono ?_⟩
    clear hc
    rintro e w3 ⟨S3, hk3, hm3, (⟨rfl, hj⟩ | ⟨rfl, hj⟩)⟩
    · have HF := Box.after hk3 hm3 hj hn hbx
      have HF : Hid (∃ S', Kept (And1 S1 w.heap.size) W w3 ∧ More (And1 S1 w.heap.size) W S' ∧ Box I w.heap.size (.cells #[.func (.func df) #[] dlb] 66) (q + len) w3 S') := HF
      clear hk3 hm3 hj
      gi_wp2
      exact HF.out
    · have HF := Box.after hk3 hm3 hj hn hbx
      have HF : Hid (∃ S', Kept (And1 S1 w.heap.size) W w3 ∧ More (And1 S1 w.heap.size) W S' ∧ Box Ix w.heap.size (.cells #[.func (.func df) #[] dlb] 66) (q + len) w3 S') := HF
      clear hk3 hm3 hj
      gi_wp2
      obtain ⟨S', z1, z2, z3⟩ := HF.out
      exact ⟨S', z1, z2, rfl, z3⟩
  case done =>
    rintro D W S' hk hm ⟨S1, rfl, hi, hn, hbx⟩ hD1 hD2 hD3
    have HF := Box.done (o' := .deferred none) hk hm hI hi hD1 hD2
    clear hk hm hi hn hbx
    gi_wp2
    refine ⟨by simp, .inl ⟨_, _, rfl, run_takeDeferred hD3, ?_⟩⟩
    exact ⟨_, results_none rfl _ _ _, ⟨_, rfl⟩, S1, HF.1, HF.2.1, .inl HF.2.2⟩
  case stop =>
    rintro D c q W S' hk hm ⟨rfl, S1, rfl, hi, hn, hbx⟩ hD1 hD2 hD3
    have HF := Box.done (o' := .deferred none) hk hm hIx hi hD1 hD2
    clear hk hm hi hn hbx
    gi_wp2
    refine ⟨by simp, .inl ⟨_, _, rfl, run_takeDeferred hD3, ?_⟩⟩
    exact ⟨_, results_none rfl _ _ _, ⟨_, rfl⟩, S1, HF.1, HF.2.1, .inr ⟨q, HF.2.2⟩⟩
end Go.Proofs.YthdmbikmjimmkaaGreatDoor
