/-
  One text: OPlayI, OEach, OGives, OJoinP.
-/
import Derived.Test.YtnmhcnppdhdhfaaGreatDoorG26
import Derived.WalkKit
import Derived.OwnWalkIn
import Derived.TacticsInMore
import Derived.LoopNIn
import Derived.LoopIn
import Derived.Shelf.RegionOpen
import Derived.Test.YtnmhcnppdhdhfaaGreatDoorG09
import Derived.Test.YtnmhcnppdhdhfaaGreatDoorG08
import Derived.Test.YtnmhcnppdhdhfaaGreatDoorG07
namespace Go.Proofs.YtnmhcnppdhdhfaaGreatDoor
open Go.RowKit Go.Shelf Plain
attribute [local go_sem] Oper.semAt_some
set_option linter.unusedVariables false
set_option maxRecDepth 100000

/-- a slot in a box of its own, handed to yield -/
theorem yields {P : Program} {l : Nat} {f : Nat → Nat} {b : Nat} {J Jx : St} (hJ : Hangs J) (hT : Takes P l f b J Jx) {q len part g : Nat} {w w2 : World} {S : Nat → Prop} (hj : J q w S) (hg : ¬ S g) (h1 : 1 ≤ len) (h2 : q + len ≤ b) (h3 : ∀ u, q ≤ u → u < q + len → f u = part) (hk : Kept (fun b => b = g) w w2) :
    YieldAt Fence.wide 8 P l #[.int .i64 q, .agg #[.int .i64 len, .int .i64 part]] (w2.alloc (.cells #[.int .i64 len, .int .i64 part] 75)) (Took J Jx (q + len) (w2.alloc (.cells #[.int .i64 len, .int .i64 part] 75)) S) := by
  have hp : f q = part := h3 q (Nat.le_refl _) (by omega)
  have hold := hJ.old _ _ _ hj
  have hj2 : J q (w2.alloc (.cells #[.int .i64 len, .int .i64 part] 75)) S := hJ.kept _ w _ _ hj (by have := hk.size; simp; omega) (fun k hs =>
    (Below.heap_alloc _ _ _ (Nat.lt_of_lt_of_le (hold k hs) hk.size)).trans (hk.block k (hold k hs) (fun e => hg (by have e' : k = g := e; rw [← e']; exact hs))))
  have := hT 8 q len _ S hj2 h1 h2 (fun u a b => by rw [hp]; exact h3 u a b)
  rw [hp] at this
  exact this

set_option maxHeartbeats 2000000 in
theorem play_in {F : Nat → Prop} {a : Option Addr} {c : Nat} {xs : List Srv} (hv : Vd xs) (b1 b2 : Nat) (below : Nat) (hb : below ≤ 1099511627776) (l : Nat) (J Jx : St) (W : World) (S : Nat → Prop)
    (h : Sv W F a xs.length c xs) (hFS : ∀ k, F k → ¬ S k) (h1 : W.cell? ⟨b1, 0, none⟩ = some (.slice a xs.length c)) (h2 : W.cell? ⟨b2, 0, none⟩ = some (.int .i64 below)) (hn1 : ¬ S b1) (hn2 : ¬ S b2)
    (hJ : Hangs J) (hJx : Hangs Jx) (hT : Takes Tryz.prog l (Rule.occ (sys xs)) below J Jx) (h0 : J 0 W S) :
    Calls Tryz.prog 58 #[.func (.yield l) #[] #[], .pointer (some ⟨b1, 0, none⟩), .pointer (some ⟨b2, 0, none⟩)] W fun e W' => (∃ v, e = .returned v) ∧ ∃ S', Kept S W W' ∧ More S W S' ∧ (J below W' S' ∨ ∃ q, Jx q W' S') := by
  have hc := line_up h hv
  refine callsIn_wide (n := 9).1 ?_
  refine callsIn_of_wp Tryz.func58 rfl trivial ?_ rfl
  simp only [Tryz.ntmps58, List.size_toArray, List.length_cons, List.length_nil, Nat.reduceAdd, Nat.reduceSub, Array.replicate_succ, Array.replicate_zero, List.push_toArray, List.append_toArray, List.nil_append, List.cons_append]
  gi_wp2_with ((try refine ⟨trivial, ?_⟩); gi_at_call 59; refine (callsIn_wide.2 hc).mono ?_; rintro e w1 ⟨g, idx, rfl, hg1, hg2, hp, hi, hk⟩)
  have HH : Hid (Sv W F a xs.length c xs ∧ W.cell? ⟨b2, 0, none⟩ = some (.int .i64 below) ∧ ¬ S b2) := ⟨h, h2, hn2⟩
  have HV : Hid (Vd xs) := hv
  have HJ : Hid (Hangs J ∧ Hangs Jx ∧ Takes Tryz.prog l (Rule.occ (sys xs)) below J Jx) := ⟨hJ, hJx, hT⟩
  have hold := hJ.old _ _ _ h0
  have HJ1 : Hid (J 0 w1 S) := hJ.kept 0 W w1 S h0 hk.size (fun k hs => hk.block k (hold k hs) (fun h => h))
  have HG : Hid (¬ S g ∧ g < w1.heap.size ∧ Pl w1 g (sys xs) idx (fun _ => 0) (fun k => (sys xs).O (idx k)) ∧ Rule.Inv (sys xs) idx (fun _ => 0) (fun k => (sys xs).O (idx k)) 0 ∧ Kept S W w1) := ⟨fun hs => by have := hold g hs; omega, hg2, hp, hi, hk.mono (fun _ h => h.elim)⟩
  clear hp hi hk h h1 h2 hn1 hn2 hFS hJ hJx hT h0 hold hc hg2
  gi_loopw [5] (fun x wr => ∃ (q : Nat) (S' : Nat → Prop) (rs nx : Nat → Nat), x = .int .i64 q ∧ q ≤ below ∧ J q wr S' ∧ Kept S W wr ∧ More S W S' ∧ ¬ S' g ∧ g < wr.heap.size ∧ Pl wr g (sys xs) idx rs nx ∧ Rule.Inv (sys xs) idx rs nx q) (fun x _ => below - (intOf x).toNat)
  case atStart =>
    obtain ⟨a1, a2, a3, a4, a5⟩ := HG.out
    exact ⟨0, S, _, _, rfl, Nat.zero_le _, HJ1.out, a5, More.refl _ _, a1, a2, a3, a4⟩
  case round =>
    clear HG HJ1
    obtain ⟨q, S', rs, nx, rfl, hq, hj, hk, hm, hng, hgl, hp, hi⟩ := hrel
    have hb2 : wr.cell? ⟨b2, 0, none⟩ = some (.int .i64 below) := hk.cell HH.out.2.1 HH.out.2.2
    by_cases hlt : q < below
    · have hc := next_slot HV.out.bd (c := xs.length) hgl hlt hb hp hi
      have HR : Hid (J q wr S' ∧ Kept S W wr ∧ More S W S' ∧ ¬ S' g) := ⟨hj, hk, hm, hng⟩
      have hcell : ∀ w2, Kept (fun b => b = g) wr w2 → w2.cell? ⟨b2, 0, none⟩ = some (.int .i64 below) := fun w2 hk2 => hk2.cell hb2 (fun e => by
        have h3 : b2 = g := e
        have := cell_lt HH.out.2.1
        simp only at this
        omega)
      have HC : Hid (∀ w2, Kept (fun b => b = g) wr w2 → w2.cell? ⟨b2, 0, none⟩ = some (.int .i64 below)) := hcell
      clear hj hk hm hng hp hi hcell
      gi_wp2_with ((try refine ⟨trivial, ?_⟩); gi_at_call 60; refine (callsIn_wide.2 hc).mono ?_; rintro e w2 ⟨len, part, rs', nx', rfl, t1, t2, t3, t4, t5, t6⟩; clear hc; obtain ⟨fn, tmps, assign, body, hy, hR⟩ := yields HJ.out.1 HJ.out.2.2 HR.out.1 HR.out.2.2.2 t1 t2 t3 t6; have HT : Hid (Kept (fun b => b = g) wr w2 ∧ Pl w2 g (sys xs) idx rs' nx' ∧ Rule.Inv (sys xs) idx rs' nx' (q + len)) := ⟨t6, t5, t4⟩; clear t3 t4 t5 t6; simp only [sv])
      refine hR.mono ?_
      clear hy hR
      have hbx : ¬ S' w2.heap.size := fun hs => by have := HJ.out.1.old _ _ _ HR.out.1 _ hs; have := HT.out.1.size; omega
      have hd0 : (w2.alloc (.cells #[.int .i64 len, .int .i64 part] 75)).cell? ⟨w2.heap.size, 0, none⟩ = some (.int .i64 len) := (cells2 (World.alloc_heap_new _ _)).1
      rintro e w3 ⟨S3, hk3, hm3, (⟨rfl, hj3⟩ | ⟨rfl, hj3⟩)⟩
      · have hd3 : w3.cell? ⟨w2.heap.size, 0, none⟩ = some (.int .i64 len) := hk3.cell hd0 hbx
        have HF : Hid (J (q + len) w3 S3 ∧ Kept S W w3 ∧ More S W S3 ∧ ¬ S3 g ∧ g < w3.heap.size ∧ Pl w3 g (sys xs) idx rs' nx') := by
          obtain ⟨hj, hk, hm, hng⟩ := HR.out
          obtain ⟨t6, t5, t4⟩ := HT.out
          have hmg : ∀ k, k = g → S k ∨ W.heap.size ≤ k := fun k e => .inr (by omega)
          have hka : Kept S W (w2.alloc (.cells #[.int .i64 len, .int .i64 part] 75)) := (hk.trans t6 hmg).alloc _
          have hsz : wr.heap.size ≤ (w2.alloc (.cells #[.int .i64 len, .int .i64 part] 75)).heap.size := by have := t6.size; simp; omega
          have hgl2 : g < w2.heap.size := Nat.lt_of_lt_of_le hgl t6.size
          refine ⟨hj3, hka.more hm hk3, hm.trans hm3 hka.size, fun hs => ?_, Nat.lt_of_lt_of_le hgl2 (Nat.le_trans (by simp) hk3.size), ?_⟩
          · rcases hm3 g hs with h | h
            · exact hng h
            · simp at h; omega
          · have : Pl (w2.alloc (.cells #[.int .i64 len, .int .i64 part] 75)) g (sys xs) idx rs' nx' := t5.kept (Below.heap_alloc _ _ _ hgl2)
            exact this.kept (hk3.block g (by simp; omega) hng)
        clear hd0 hk3 hm3 hj3 hb2
        gi_wp2
        go_roundw
        case rel =>
          obtain ⟨z1, z2, z3, z4, z5, z6⟩ := HF.out
          exact ⟨q + len, S3, rs', nx', by go_num, by omega, z1, z2, z3, z4, z5, z6, HT.out.2.2⟩
        case measure => simp [intOf]; omega
      · have HF : Hid (Kept S W w3 ∧ More S W S3) := by
          obtain ⟨hj, hk, hm, hng⟩ := HR.out
          obtain ⟨t6, t5, t4⟩ := HT.out
          have hmg : ∀ k, k = g → S k ∨ W.heap.size ≤ k := fun k e => .inr (by omega)
          have hka : Kept S W (w2.alloc (.cells #[.int .i64 len, .int .i64 part] 75)) := (hk.trans t6 hmg).alloc _
          exact ⟨hka.more hm hk3, hm.trans hm3 hka.size⟩
        have HX : Hid (Jx (q + len) w3 S3) := hj3
        clear hd0 hk3 hm3 hj3 hb2
        gi_wp2
        refine bodyPost_ret (results_none rfl _ _ _) rfl ?_
        exact ⟨⟨_, rfl⟩, S3, HF.out.1, HF.out.2, .inr ⟨_, HX.out⟩⟩
    · have hqe : q = below := by omega
      subst hqe
      gi_wp2
      go_end0
      exact ⟨⟨_, rfl⟩, S', hk, hm, .inl hj⟩
end Go.Proofs.YtnmhcnppdhdhfaaGreatDoor

namespace Go.Proofs.YtnmhcnppdhdhfaaGreatDoor
open Go.RowKit Go.Shelf
attribute [local go_sem] Oper.semAt_some
set_option linter.unusedVariables false
set_option maxRecDepth 100000

/-- one block more -/
def And1 (S : Nat → Prop) (b : Nat) : Nat → Prop := fun k => S k ∨ k = b
/-- a state beside a box that holds v -/
def Box (I : St) (b : Nat) (o : Obj) : St := fun q W S => ∃ S1, S = And1 S1 b ∧ I q W S1 ∧ ¬ S1 b ∧ W.heap[b]? = some o
theorem Box.hangs {I : St} (hI : Hangs I) (b : Nat) (o : Obj) : Hangs (Box I b o) := by
  refine ⟨?_, ?_⟩
  · rintro q W S ⟨S1, rfl, hi, h1, h2⟩ k (hk | hk)
    · exact hI.old _ _ _ hi k hk
    · subst hk; exact heap_lt h2
  · rintro q W W' S ⟨S1, rfl, hi, h1, h2⟩ hs hk
    exact ⟨S1, rfl, hI.kept _ W W' S1 hi hs (fun k h => hk k (.inl h)), h1, (hk _ (.inr rfl)).trans h2⟩

theorem hangs_and (p : Prop) {I : St} (h : Hangs I) : Hangs (fun q W S => p ∧ I q W S) :=
  ⟨fun q W S hi => h.old q W S hi.2, fun q W W' S hi hs hk => ⟨hi.1, h.kept q W W' S hi.2 hs hk⟩⟩
theorem Box.after {I : St} {q b : Nat} {o : Obj} {W W' : World} {S1 S3 : Nat → Prop} (hk : Kept S1 W W') (hm : More S1 W S3) (hj : I q W' S3) (hn : ¬ S1 b) (hb : W.heap[b]? = some o) :
    ∃ S', Kept (And1 S1 b) W W' ∧ More (And1 S1 b) W S' ∧ Box I b o q W' S' := by
  refine ⟨And1 S3 b, hk.mono (fun k h => .inl h), ?_, S3, rfl, hj, ?_, hk.at' hb hn⟩
  · rintro k (h | h)
    · rcases hm k h with h' | h'
      · exact .inl (.inl h')
      · exact .inr h'
    · exact .inl (.inr h)
  · intro h
    rcases hm b h with h' | h'
    · exact hn h'
    · have := heap_lt hb; omega
theorem Box.done {I : St} {q D : Nat} {o o' : Obj} {w W : World} {S0 S1 : Nat → Prop} (hk : Kept (And1 S0 w.heap.size) (w.alloc o) W) (hm : More (And1 S0 w.heap.size) (w.alloc o) (And1 S1 w.heap.size)) (hI : Hangs I) (hi : I q W S1) (hD : ¬ And1 S1 w.heap.size D) (hD2 : (w.alloc o).heap.size ≤ D) :
    Kept S0 w (W.putObj D o') ∧ More S0 w S1 ∧ I q (W.putObj D o') S1 := by
  have k1 : Kept S0 w (w.alloc o) := (Kept.refl S0 w).alloc o
  have k2 : Kept S0 w W := k1.trans hk (fun k h => by rcases h with h | h; exact .inl h; exact .inr (by omega))
  have k3 : Kept S0 w (W.putObj D o') := k2.trans (kept_put (S := fun k => k = D) o' rfl) (fun k h => .inr (by simp at hD2; omega))
  refine ⟨k3, fun k h => ?_, hI.put hi _ (fun h => hD (.inl h))⟩
  rcases hm k (.inl h) with h' | h'
  · rcases h' with h' | h'
    · exact .inl h'
    · exact .inr (by omega)
  · exact .inr (by simp at h'; omega)
/-- what the function that is handed to each does with a slot -/
def Does (P : Program) (df : Nat) (dlb : Array Value) (f : Nat → Nat) (b : Nat) (I Ix : St) : Prop :=
  ∀ (q len : Nat) (W : World) (S : Nat → Prop), I q W S → 1 ≤ len → q + len ≤ b → (∀ u, q ≤ u → u < q + len → f u = f q) →
    Calls P df (#[.int .i64 q, sv len (f q)] ++ dlb) W (Took I Ix (q + len) W S)

theorem cell_box {w : World} {g : Nat} {u : Value} {t : TypeId} (h : w.heap[g]? = some (.cells #[u] t)) : w.cell? ⟨g, 0, none⟩ = some u := by
  simp [World.cell?, h]
theorem cells2' {w : World} {g : Nat} {u v : Value} {t : TypeId} (h : w.heap[g]? = some (.cells #[u, v] t)) : w.cell? ⟨g, 0, none⟩ = some u ∧ w.cell? ⟨g, 1, none⟩ = some v := by
  refine ⟨?_, ?_⟩ <;> simp [World.cell?, h]

set_option maxHeartbeats 2000000 in
theorem each_any {gf : Nat} {lb : Array Value} (eg : ∀ args w, (callFunc gf args).run Tryz.prog w = .ok (.enter gf args) w) {df : Nat} {dlb : Array Value} (ed : ∀ args w, (callFunc df args).run Tryz.prog w = .ok (.enter df args) w)
    {f : Nat → Nat} {a0 b : Nat} {w0 : World} {G : Nat → Prop} (hseq : Gives Tryz.prog gf lb f a0 b w0 G) {w : World} (hw0 : w0.heap.size ≤ w.heap.size) (hG : ∀ k, G k → k < w.heap.size ∧ w.heap[k]? = w0.heap[k]?)
    {I Ix : St} (hI : Hangs I) (hIx : Hangs Ix) {S0 : Nat → Prop} (h0 : I a0 w S0) (hGS : ∀ k, G k → ¬ S0 k) (hD : Does Tryz.prog df dlb f b I Ix) :
    Calls Tryz.prog 19 #[.func (.func gf) #[] lb, .func (.func df) #[] dlb] w fun e w' => (∃ v, e = .returned v) ∧ ∃ S', Kept S0 w w' ∧ More S0 w S' ∧ (I b w' S' ∨ ∃ q, Ix q w' S') := by
  refine callsIn_wide (n := 9).1 ?_
  refine callsIn_of_wp_marks Tryz.func19 rfl trivial ?_ rfl
  simp only [Tryz.ntmps19, List.size_toArray, List.length_cons, List.length_nil, Nat.reduceAdd, Nat.reduceSub, Array.replicate_succ, Array.replicate_zero, List.push_toArray, List.append_toArray, List.nil_append, List.cons_append]
  gi_wp2
  have hold := hI.old _ _ _ h0
  have hI0 : Box I w.heap.size (.cells #[.func (.func df) #[] dlb] 77) a0 (w.alloc (.cells #[.func (.func df) #[] dlb] 77)) (And1 S0 w.heap.size) :=
    ⟨S0, rfl, hI.kept _ w _ _ h0 (by simp) (fun k hs => Below.heap_alloc _ _ _ (hold k hs)), fun h => by have := hold _ h; omega, World.alloc_heap_new _ _⟩
  refine range_gives (n := 9) (gf := gf) (lb := lb) rfl eg rfl hseq (by simp; omega) (fun k hk => ⟨by have := (hG k hk).1; simp; omega, (Below.heap_alloc _ _ _ (hG k hk).1).trans (hG k hk).2⟩)
    (Box I w.heap.size (.cells #[.func (.func df) #[] dlb] 77)) (fun c q W S => c = .ret ∧ Box Ix w.heap.size (.cells #[.func (.func df) #[] dlb] 77) q W S) (Box.hangs hI _ _) (fun _ => hangs_and _ (Box.hangs hIx _ _)) hI0
    (fun k hk h => by rcases h with h | h; exact hGS k hk h; have := (hG k hk).1; omega)
    (fun q len => .cells #[.int .i64 len, .int .i64 (f q)] 75)
    (fun q len B => { tmps := #[.func (.func gf) #[] lb, .func (.func df) #[] dlb, undef, .pointer (some ⟨w.heap.size, 0, none⟩), .int .i64 q, .pointer (some ⟨B, 0, none⟩), .func (.func gf) #[] lb, .int .i64 q, sv len (f q), undef, undef, undef, undef, undef], defers := [] }) ?assign ?body ?done ?stop
  case assign =>
    intro l q len W K hK
    simp only [sv] at hK ⊢
    gi_wp2
    exact hK
  case body =>
    rintro l q len B W S ⟨S1, rfl, hi, hn, hbx⟩ hB hob h1 h2 h3
    have hc := hD q len W S1 hi h1 h2 h3
    have b0 := cell_box hbx
    obtain ⟨e0, e1⟩ := cells2' hob
    simp only [sv] at hc ⊢
    gi_wp2
    refine ⟨trivial, (CallsIn.inRound l (callsIn_wide.2 hc)).mono ?_⟩
    clear hc
    rintro e w3 ⟨S3, hk3, hm3, (⟨rfl, hj⟩ | ⟨rfl, hj⟩)⟩
    · have HF := Box.after hk3 hm3 hj hn hbx
      have HF : Hid (∃ S', Kept (And1 S1 w.heap.size) W w3 ∧ More (And1 S1 w.heap.size) W S' ∧ Box I w.heap.size (.cells #[.func (.func df) #[] dlb] 77) (q + len) w3 S') := HF
      clear hk3 hm3 hj
      gi_wp2
      exact HF.out
    · have HF := Box.after hk3 hm3 hj hn hbx
      have HF : Hid (∃ S', Kept (And1 S1 w.heap.size) W w3 ∧ More (And1 S1 w.heap.size) W S' ∧ Box Ix w.heap.size (.cells #[.func (.func df) #[] dlb] 77) (q + len) w3 S') := HF
      clear hk3 hm3 hj
      gi_wp2
      obtain ⟨S', z1, z2, z3⟩ := HF.out
      exact ⟨S', z1, z2, rfl, z3⟩
  case done =>
    rintro D W S' hk hm ⟨S1, rfl, hi, hn, hbx⟩ hD1 hD2 hD3
    have HF := Box.done (o' := .deferred none) hk hm hI hi hD1 hD2
    clear hk hm hi hn hbx
    gi_wp2
    refine ⟨by simp, .inl ⟨_, _, rfl, run_takeDeferred hD3, ?_⟩⟩
    exact ⟨_, results_none rfl _ _ _, ⟨_, rfl⟩, S1, HF.1, HF.2.1, .inl HF.2.2⟩
  case stop =>
    rintro D c q W S' hk hm ⟨rfl, S1, rfl, hi, hn, hbx⟩ hD1 hD2 hD3
    have HF := Box.done (o' := .deferred none) hk hm hIx hi hD1 hD2
    clear hk hm hi hn hbx
    gi_wp2
    refine ⟨by simp, .inl ⟨_, _, rfl, run_takeDeferred hD3, ?_⟩⟩
    exact ⟨_, results_none rfl _ _ _, ⟨_, rfl⟩, S1, HF.1, HF.2.1, .inr ⟨q, HF.2.2⟩⟩
end Go.Proofs.YtnmhcnppdhdhfaaGreatDoor

namespace Go.Proofs.YtnmhcnppdhdhfaaGreatDoor
open Go.RowKit Go.Shelf Plain
set_option linter.unusedVariables false
set_option maxRecDepth 100000

theorem Sv.same {w W : World} {F : Nat → Prop} {a : Option Addr} {n c : Nat} {xs : List Srv} (h : Sv w F a n c xs) (hk : ∀ k, F k → W.heap[k]? = w.heap[k]?) : Sv W F a n c xs :=
  ⟨h.len, h.cap, h.max, h.nil, fun i x hx => by
    obtain ⟨ok, b, o, e, hb, h0, h1, h2, h3⟩ := h.at' i x hx
    have e2 : ∀ j, W.cell? ⟨b, j, none⟩ = w.cell? ⟨b, j, none⟩ := fun j => World.cell?_of_block (hk b hb)
    exact ⟨ok, b, o, e, hb, (e2 _).trans h0, (e2 _).trans h1, (e2 _).trans h2, (e2 _).trans h3⟩⟩

theorem heap_alloc2 {w : World} {o1 o2 : Obj} : ((w.alloc o1).alloc o2).heap[w.heap.size]? = some o1 ∧ ((w.alloc o1).alloc o2).heap[w.heap.size + 1]? = some o2 := by
  constructor
  · exact (Below.heap_alloc _ _ _ (by simp)).trans (World.alloc_heap_new w o1)
  · have := World.alloc_heap_new (w.alloc o1) o2; rwa [World.size_alloc] at this

theorem play_any (a : Option Addr) (n c : Nat) (t : Int) (w : World) :
    Calls Tryz.prog 39 #[.slice a n c, .int .i64 t] w fun e w' => e = .returned (.func (.func 58) #[] #[.pointer (some ⟨w.heap.size, 0, none⟩), .pointer (some ⟨w.heap.size + 1, 0, none⟩)]) ∧ w' = (w.alloc (.cells #[.slice a n c] 36)).alloc (.cells #[.int .i64 t] 3) := by
  go_enter Tryz.func39, Tryz.ntmps39
  go_wp2
  go_ret
  exact ⟨rfl, rfl⟩

theorem play_gives {F : Nat → Prop} {a : Option Addr} {c : Nat} {xs : List Srv} {w : World} (hv : Vd xs) (h : Sv w F a xs.length c xs) (hF : ∀ k, F k → k < w.heap.size) (below : Nat) (hb : below ≤ 1099511627776) :
    Gives Tryz.prog 58 #[.pointer (some ⟨w.heap.size, 0, none⟩), .pointer (some ⟨w.heap.size + 1, 0, none⟩)] (Rule.occ (sys xs)) 0 below ((w.alloc (.cells #[.slice a xs.length c] 36)).alloc (.cells #[.int .i64 below] 3)) (fun k => F k ∨ k = w.heap.size ∨ k = w.heap.size + 1) := by
  intro l J Jx W S hsz hsame hGS hJ hJx hT h0
  obtain ⟨e1, e2⟩ := heap_alloc2 (w := w) (o1 := .cells #[.slice a xs.length c] 36) (o2 := .cells #[.int .i64 below] 3)
  have h' : Sv W F a xs.length c xs := h.same (fun k hk => (hsame k (.inl hk)).trans ((Below.heap_alloc _ _ _ (by have := hF k hk; simp; omega)).trans (Below.heap_alloc _ _ _ (hF k hk))))
  exact play_in hv w.heap.size (w.heap.size + 1) below hb l J Jx W S h' (fun k hk => hGS k (.inl hk)) (cell_box ((hsame _ (.inr (.inl rfl))).trans e1)) (cell_box ((hsame _ (.inr (.inr rfl))).trans e2)) (hGS _ (.inr (.inl rfl))) (hGS _ (.inr (.inr rfl))) hJ hJx hT h0

theorem within_new (a : Option Addr) (n c : Nat) (t u v : Int) (w : World) :
    Calls Tryz.prog 20 #[.slice a n c, .int .i64 t, .agg #[.int .i64 u, .int .i64 v]] w fun e w' => e = .returned (.func (.func 37) #[] #[.pointer (some ⟨w.heap.size + 2, 0, none⟩), .pointer (some ⟨w.heap.size + 1, 0, none⟩), .pointer (some ⟨w.heap.size, 0, none⟩)]) ∧ w' = ((w.alloc (.cells #[.slice a n c] 36)).alloc (.cells #[.int .i64 t] 3)).alloc (.cells #[.int .i64 u, .int .i64 v] 73) := by
  go_enter Tryz.func20, Tryz.ntmps20
  go_wp2
  go_ret
  exact ⟨rfl, rfl⟩
theorem again_new (a : Option Addr) (n c : Nat) (u v : Int) (w : World) :
    Calls Tryz.prog 40 #[.slice a n c, .agg #[.int .i64 u, .int .i64 v]] w fun e w' => e = .returned (.func (.func 61) #[] #[.pointer (some ⟨w.heap.size, 0, none⟩), .pointer (some ⟨w.heap.size + 1, 0, none⟩)]) ∧ w' = (w.alloc (.cells #[.slice a n c] 33)).alloc (.cells #[.int .i64 u, .int .i64 v] 73) := by
  go_enter Tryz.func40, Tryz.ntmps40
  go_wp2
  go_ret
  exact ⟨rfl, rfl⟩
end Go.Proofs.YtnmhcnppdhdhfaaGreatDoor

namespace Go.Proofs.YtnmhcnppdhdhfaaGreatDoor
namespace Rule
set_option linter.unusedVariables false
set_option linter.unusedSimpArgs false

/-- a slot at the end of a list: its length, its occupant -/
def joinL (L : List (Nat × Nat)) (x : Nat × Nat) : List (Nat × Nat) :=
  match L.getLast? with
  | some y => if y.2 = x.2 then L.dropLast ++ [(y.1 + x.1, x.2)] else L ++ [x]
  | none => [x]
theorem joinL_nil (x : Nat × Nat) : joinL [] x = [x] := rfl
theorem joinL_snoc (L : List (Nat × Nat)) (y x : Nat × Nat) : joinL (L ++ [y]) x = if y.2 = x.2 then L ++ [(y.1 + x.1, x.2)] else L ++ [y] ++ [x] := by
  unfold joinL
  simp only [List.getLast?_append, List.getLast?_singleton, Option.or_some, List.dropLast_concat]
  simp
theorem joinL_two (L : List (Nat × Nat)) (a b p : Nat) : joinL (joinL L (a, p)) (b, p) = joinL L (a + b, p) := by
  rcases List.eq_nil_or_concat L with rfl | ⟨K, y, rfl⟩
  · rw [joinL_nil, joinL_nil]
    show joinL ([] ++ [(a, p)]) (b, p) = _
    rw [joinL_snoc, if_pos rfl]; rfl
  · rw [List.concat_eq_append, joinL_snoc, joinL_snoc]
    by_cases h : y.2 = p
    · rw [if_pos h, if_pos h, joinL_snoc, if_pos rfl, Nat.add_assoc]
    · rw [if_neg h, if_neg h, joinL_snoc, if_pos rfl]

/-- the ticks from a on, m of them, as slots -/
def runsOf (f : Nat → Nat) (a : Nat) : Nat → List (Nat × Nat)
  | 0 => []
  | m + 1 => joinL (runsOf f a m) (1, f (a + m))
theorem runsOf_join (f : Nat → Nat) (a m k p : Nat) (hk : 1 ≤ k) (h : ∀ u, a + m ≤ u → u < a + m + k → f u = p) : runsOf f a (m + k) = joinL (runsOf f a m) (k, p) := by
  induction k with
  | zero => omega
  | succ k ih =>
    by_cases e : k = 0
    · subst e
      show joinL (runsOf f a m) (1, f (a + m)) = _
      rw [h (a + m) (by omega) (by omega)]
    · have := ih (by omega) (fun u x y => h u x (by omega))
      show joinL (runsOf f a (m + k)) (1, f (a + (m + k))) = _
      rw [this, h (a + (m + k)) (by omega) (by omega), joinL_two]

/-- how many ticks the first i slots have -/
def pre (L : List (Nat × Nat)) (i : Nat) : Nat := ((L.take i).map (·.1)).sum
/-- L tells the m ticks of f from a on -/
structure Tile (f : Nat → Nat) (a m : Nat) (L : List (Nat × Nat)) : Prop where
  sum : (L.map (·.1)).sum = m
  pos : ∀ x ∈ L, 1 ≤ x.1
  at' : ∀ i x, L[i]? = some x → ∀ u, pre L i ≤ u → u < pre L i + x.1 → f (a + u) = x.2
theorem pre_all (L : List (Nat × Nat)) : pre L L.length = (L.map (·.1)).sum := by unfold pre; rw [List.take_length]
theorem pre_zero (L : List (Nat × Nat)) : pre L 0 = 0 := rfl
theorem pre_succ {L : List (Nat × Nat)} {i : Nat} {x : Nat × Nat} (h : L[i]? = some x) : pre L (i + 1) = pre L i + x.1 := by
  unfold pre
  rw [List.take_add_one, h]
  simp
theorem pre_app {L K : List (Nat × Nat)} {i : Nat} (h : i ≤ L.length) : pre (L ++ K) i = pre L i := by
  unfold pre
  rw [List.take_append_of_le_length h]
theorem Tile.snoc {f : Nat → Nat} {a m : Nat} {L : List (Nat × Nat)} (h : Tile f a m L) (x : Nat × Nat) (hx : 1 ≤ x.1) (hf : ∀ u, m ≤ u → u < m + x.1 → f (a + u) = x.2) : Tile f a (m + x.1) (L ++ [x]) := by
  refine ⟨by simp [h.sum], fun y hy => ?_, fun i y hy u h1 h2 => ?_⟩
  · rcases List.mem_append.1 hy with h1 | h1
    · exact h.pos y h1
    · simp at h1; subst h1; exact hx
  · by_cases hi : i < L.length
    · rw [List.getElem?_append_left hi] at hy
      rw [pre_app (by omega)] at h1 h2
      exact h.at' i y hy u h1 h2
    · have e : i = L.length := by
        apply Decidable.byContradiction
        intro hn
        rw [List.getElem?_append_right (by omega), List.getElem?_eq_none (by simp; omega)] at hy
        cases hy
      subst e
      simp at hy
      subst hy
      rw [pre_app (Nat.le_refl _), pre_all, h.sum] at h1 h2
      exact hf u h1 h2
theorem Tile.join {f : Nat → Nat} {a m : Nat} {L : List (Nat × Nat)} (h : Tile f a m L) (x : Nat × Nat) (hx : 1 ≤ x.1) (hf : ∀ u, m ≤ u → u < m + x.1 → f (a + u) = x.2) : Tile f a (m + x.1) (joinL L x) := by
  rcases List.eq_nil_or_concat L with rfl | ⟨K, y, rfl⟩
  · rw [joinL_nil]
    exact h.snoc x hx hf
  · rw [List.concat_eq_append] at h ⊢
    rw [joinL_snoc]
    by_cases e : y.2 = x.2
    · rw [if_pos e]
      have hK : (K.map (·.1)).sum + y.1 = m := by have := h.sum; simpa using this
      have hy : (K ++ [y])[K.length]? = some y := by simp
      have hT : Tile f a (K.map (·.1)).sum K := by
        refine ⟨rfl, fun z hz => h.pos z (List.mem_append_left _ hz), fun i z hz u h1 h2 => ?_⟩
        have hi : i < K.length := (List.getElem?_eq_some_iff.1 hz).1
        refine h.at' i z (by rw [List.getElem?_append_left hi]; exact hz) u ?_ ?_
        · rw [pre_app (by omega)]; exact h1
        · rw [pre_app (by omega)]; exact h2
      have := hT.snoc (y.1 + x.1, x.2) (by show 1 ≤ y.1 + x.1; omega) (fun u h1 h2 => by
        by_cases hu : u < m
        · have := h.at' K.length y hy u (by rw [pre_app (Nat.le_refl _), pre_all]; exact h1) (by rw [pre_app (Nat.le_refl _), pre_all]; omega)
          rw [this]; exact e
        · exact hf u (by omega) (by simp only at h2; omega))
      have e2 : (K.map (·.1)).sum + (y.1 + x.1, x.2).1 = m + x.1 := by show (K.map (·.1)).sum + (y.1 + x.1) = m + x.1; omega
      rw [e2] at this
      exact this
    · rw [if_neg e]
      exact h.snoc x hx hf
theorem runsOf_tile (f : Nat → Nat) (a m : Nat) : Tile f a m (runsOf f a m) := by
  induction m with
  | zero => exact ⟨rfl, (fun x hx => by cases hx), (fun i x hx => by simp [runsOf] at hx)⟩
  | succ m ih => exact ih.join (1, f (a + m)) (Nat.le_refl _) (fun u h1 h2 => by
      have : u = m := by simp only at h2; omega
      subst this; rfl)
theorem pre_le {f : Nat → Nat} {a m : Nat} {L : List (Nat × Nat)} (h : Tile f a m L) (i : Nat) : pre L i ≤ m := by
  rw [← h.sum]
  unfold pre
  have : (L.map (·.1)).sum = ((L.take i).map (·.1)).sum + ((L.drop i).map (·.1)).sum := by
    rw [← List.sum_append, ← List.map_append, List.take_append_drop]
  omega
theorem len_le_sum (L : List (Nat × Nat)) (h : ∀ x ∈ L, 1 ≤ x.1) : L.length ≤ (L.map (·.1)).sum := by
  induction L with
  | nil => exact Nat.le_refl _
  | cons x r ih =>
    have h1 := h x (List.mem_cons_self)
    have h2 := ih (fun y hy => h y (List.mem_cons_of_mem _ hy))
    simp only [List.length_cons, List.map_cons, List.sum_cons]
    omega
theorem Tile.len {f : Nat → Nat} {a m : Nat} {L : List (Nat × Nat)} (h : Tile f a m L) : L.length ≤ m := by
  have := len_le_sum L h.pos
  rw [h.sum] at this
  exact this
theorem Tile.elt {f : Nat → Nat} {a m : Nat} {L : List (Nat × Nat)} (h : Tile f a m L) {x : Nat × Nat} (hx : x ∈ L) : x.1 ≤ m := by
  obtain ⟨i, hi, rfl⟩ := List.getElem_of_mem hx
  have h1 := pre_le h (i + 1)
  rw [pre_succ (List.getElem?_eq_getElem hi)] at h1
  omega
end Rule
end Go.Proofs.YtnmhcnppdhdhfaaGreatDoor
