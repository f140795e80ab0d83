/-
  One text: OLineUp, OPlayI, OEach.
-/
import Derived.Test.YtibmgpinfdcaoaaGreatDoorG19
import Derived.Test.YtibmgpinfdcaoaaGreatDoorG20
import Derived.WalkKit
import Derived.OwnWalkIn
import Derived.TacticsInMore
import Derived.LoopNIn
import Derived.LoopIn
import Derived.Shelf.RegionOpen
import Derived.Test.YtibmgpinfdcaoaaGreatDoorHORange
import Derived.Test.YtibmgpinfdcaoaaGreatDoorHOHeld
namespace Go.Proofs.YtibmgpinfdcaoaaGreatDoor
open Go.RowKit Plain
set_option linter.unusedVariables false
set_option maxRecDepth 100000

theorem perm_line {xs : List Srv} (hv : Vd xs) {A : List Plr} (hp : A.Perm ((List.range xs.length).map (pl0 xs))) (hs : A.Pairwise (fun x y => y.s.q ≤ x.s.q)) :
    ∃ idx : Nat → Nat, (∀ k, k < xs.length → A[k]? = some (pl0 xs (idx k)) ∧ idx k < xs.length) ∧ (∀ j k, j < k → k < xs.length → (gs xs (idx k)).q < (gs xs (idx j)).q) ∧ ∀ i, i < xs.length → ∃ k, k < xs.length ∧ idx k = i := by
  have hlen : A.length = xs.length := by have := hp.length_eq; simpa using this
  have hmem : ∀ x, x ∈ A → ∃ i, i < xs.length ∧ pl0 xs i = x := fun x hx => by
    have := hp.mem_iff.1 hx
    rw [List.mem_map] at this
    obtain ⟨i, hi, e⟩ := this
    exact ⟨i, List.mem_range.1 hi, e⟩
  have hne : A.Pairwise (fun x y => x.t ≠ y.t) := by
    refine (hp.pairwise_iff (fun {a b} h => Ne.symm h)).2 ?_
    rw [List.pairwise_map]
    refine List.Pairwise.imp ?_ List.pairwise_lt_range
    intro i j hij
    show ((i : Int) + 1) ≠ (j : Int) + 1
    omega
  have hA : ∀ k, k < xs.length → ∃ i, A[k]? = some (pl0 xs i) ∧ i < xs.length := fun k hk => by
    have hk' : k < A.length := by omega
    obtain ⟨i, hi, e⟩ := hmem A[k] (List.getElem_mem hk')
    exact ⟨i, by rw [List.getElem?_eq_getElem hk', e], hi⟩
  refine ⟨fun k => ((A[k]?.getD default).t - 1).toNat, fun k hk => ?_, fun j k hjk hk => ?_, fun i hi => ?_⟩
  · obtain ⟨i, e, hi⟩ := hA k hk
    have e2 : ((A[k]?.getD default).t - 1).toNat = i := by rw [e]; show ((i : Int) + 1 - 1).toNat = i; omega
    simp only [e2]
    exact ⟨e, hi⟩
  · obtain ⟨i, e, hi⟩ := hA k hk
    obtain ⟨i', e', hi'⟩ := hA j (by omega)
    have e2 : ((A[k]?.getD default).t - 1).toNat = i := by rw [e]; show ((i : Int) + 1 - 1).toNat = i; omega
    have e3 : ((A[j]?.getD default).t - 1).toNat = i' := by rw [e']; show ((i' : Int) + 1 - 1).toNat = i'; omega
    simp only [e2, e3]
    have hj' : j < A.length := by omega
    have hk' : k < A.length := by omega
    have a1 := (List.pairwise_iff_getElem.1 hs) j k hj' hk' hjk
    have a2 := (List.pairwise_iff_getElem.1 hne) j k hj' hk' hjk
    rw [List.getElem?_eq_getElem hk'] at e
    rw [List.getElem?_eq_getElem hj'] at e'
    injection e with e
    injection e' with e'
    rw [e, e'] at a1 a2
    have a3 : (gs xs i).q ≤ (gs xs i').q := a1
    have a4 : (i' : Int) + 1 ≠ (i : Int) + 1 := a2
    apply Decidable.byContradiction
    intro hn
    have := hv.inj i i' hi hi' (by omega)
    omega
  · have : pl0 xs i ∈ A := hp.mem_iff.2 (List.mem_map.2 ⟨i, List.mem_range.2 hi, rfl⟩)
    obtain ⟨k, hk, e⟩ := List.getElem_of_mem this
    refine ⟨k, by omega, ?_⟩
    show ((A[k]?.getD default).t - 1).toNat = i
    rw [List.getElem?_eq_getElem hk, e]
    show ((i : Int) + 1 - 1).toNat = i
    omega

theorem nv_of {x : Int} (h : 0 ≤ x) : Value.int .i64 x = nv x.toNat := by unfold nv; rw [Int.toNat_of_nonneg h]

theorem line_up {F : Nat → Prop} {a : Option Addr} {c : Nat} {xs : List Srv} {w : World} (h : Sv w F a xs.length c xs) (hv : Vd xs) :
    Calls Tryz.prog 58 #[.slice a xs.length c] w fun e w' => ∃ g idx, e = .returned (.slice (some ⟨g, 0, none⟩) xs.length xs.length) ∧ w.heap.size ≤ g ∧ g < w'.heap.size ∧ Pl w' g (sys xs) idx (fun _ => 0) (fun k => (sys xs).O (idx k)) ∧ Rule.Inv (sys xs) idx (fun _ => 0) (fun k => (sys xs).O (idx k)) 0 ∧ Kept No w w' := by
  refine (line_any F a xs.length c xs w h hv.num (fun g w' => w.heap.size ≤ g ∧ g < w'.heap.size ∧ Kept No w w' ∧ ∃ idx, Pl w' g (sys xs) idx (fun _ => 0) (fun k => (sys xs).O (idx k)) ∧ Rule.Inv (sys xs) idx (fun _ => 0) (fun k => (sys xs).O (idx k)) 0) ?_).mono ?_
  · intro w1 g cur hf hk hg
    refine (sort_any _ g xs.length xs.length w1 (hf.owns hv.num) hv.num).mono ?_
    rintro e w2 ⟨hv', A, hp, hs, hown, hk2⟩
    refine ⟨hv', hg, (hown.lt g rfl).2, hk.trans hk2 (fun k e => .inr (by omega)), ?_⟩
    obtain ⟨idx, i1, i2, i3⟩ := perm_line hv hp hs
    refine ⟨idx, ⟨fun k hk => ?_, fun i => ?_⟩, Rule.Inv.start hv.bd.ok (fun k hk => (i1 k hk).2) i2 i3⟩
    · obtain ⟨e1, e2⟩ := i1 k hk
      have C := fun i (hi : i < 7) u (hu : (pc (pl0 xs (idx k)))[i]? = some u) => hown.cells (g := g) rfl (k * 7 + i) u (by rw [pcL_at A k i _ e1 hi]; exact hu)
      have hpr := hv.per _ e2
      have hbu := hv.bud _ e2
      have hof := hv.off _ e2
      have c0 := C 0 (by omega) _ rfl
      have c1 := C 1 (by omega) _ rfl
      have c2 := C 2 (by omega) _ rfl
      have c4 := C 4 (by omega) _ rfl
      have c5 := C 5 (by omega) _ rfl
      have c6 := C 6 (by omega) _ rfl
      rw [add_none, Nat.zero_add] at c0 c1 c2 c4 c5 c6
      refine ⟨?_, ?_, ?_, ?_, ?_, ?_⟩
      · rw [show k * 7 = k * 7 + 0 by omega, c0]; exact congrArg some (nv_of (x := (gs xs (idx k)).p) (by omega))
      · rw [c1]; exact congrArg some (nv_of (x := (gs xs (idx k)).b) (by omega))
      · rw [c2]; exact congrArg some (nv_of (x := (gs xs (idx k)).o) (by omega))
      · rw [c4]; rfl
      · rw [c5]; rfl
      · rw [c6]; exact congrArg some (nv_of (x := (gs xs (idx k)).o) (by omega))
    · obtain ⟨_, ⟨h1, _⟩ | ⟨g', cap', cur', hv2, hb, hg', _⟩⟩ := hown
      · cases h1
      · injection hv2 with e1 _ _
        injection e1 with e1
        injection e1 with e1 _ _
        subst e1
        simp [World.frozen?, hg']
  · rintro e w' ⟨g, rfl, h1, h2, h3, idx, h4, h5⟩
    exact ⟨g, idx, rfl, h1, h2, h4, h5, h3⟩
end Go.Proofs.YtibmgpinfdcaoaaGreatDoor

namespace Go.Proofs.YtibmgpinfdcaoaaGreatDoor
open Go.RowKit Go.Shelf Plain
attribute [local go_sem] Oper.semAt_some
set_option linter.unusedVariables false
set_option maxRecDepth 100000

/-- a slot in a box of its own, handed to yield -/
theorem yields {P : Program} {l : Nat} {f : Nat → Nat} {b : Nat} {J Jx : St} (hJ : Hangs J) (hT : Takes P l f b J Jx) {q len part g : Nat} {w w2 : World} {S : Nat → Prop} (hj : J q w S) (hg : ¬ S g) (h1 : 1 ≤ len) (h2 : q + len ≤ b) (h3 : ∀ u, q ≤ u → u < q + len → f u = part) (hk : Kept (fun b => b = g) w w2) :
    YieldAt Fence.wide 8 P l #[.int .i64 q, .agg #[.int .i64 len, .int .i64 part]] (w2.alloc (.cells #[.int .i64 len, .int .i64 part] 79)) (Took J Jx (q + len) (w2.alloc (.cells #[.int .i64 len, .int .i64 part] 79)) S) := by
  have hp : f q = part := h3 q (Nat.le_refl _) (by omega)
  have hold := hJ.old _ _ _ hj
  have hj2 : J q (w2.alloc (.cells #[.int .i64 len, .int .i64 part] 79)) S := hJ.kept _ w _ _ hj (by have := hk.size; simp; omega) (fun k hs =>
    (Below.heap_alloc _ _ _ (Nat.lt_of_lt_of_le (hold k hs) hk.size)).trans (hk.block k (hold k hs) (fun e => hg (by have e' : k = g := e; rw [← e']; exact hs))))
  have := hT 8 q len _ S hj2 h1 h2 (fun u a b => by rw [hp]; exact h3 u a b)
  rw [hp] at this
  exact this

set_option maxHeartbeats 2000000 in
theorem play_in {F : Nat → Prop} {a : Option Addr} {c : Nat} {xs : List Srv} (hv : Vd xs) (b1 b2 : Nat) (below : Nat) (hb : below ≤ 1099511627776) (l : Nat) (J Jx : St) (W : World) (S : Nat → Prop)
    (h : Sv W F a xs.length c xs) (hFS : ∀ k, F k → ¬ S k) (h1 : W.cell? ⟨b1, 0, none⟩ = some (.slice a xs.length c)) (h2 : W.cell? ⟨b2, 0, none⟩ = some (.int .i64 below)) (hn1 : ¬ S b1) (hn2 : ¬ S b2)
    (hJ : Hangs J) (hJx : Hangs Jx) (hT : Takes Tryz.prog l (Rule.occ (sys xs)) below J Jx) (h0 : J 0 W S) :
    Calls Tryz.prog 57 #[.func (.yield l) #[] #[], .pointer (some ⟨b1, 0, none⟩), .pointer (some ⟨b2, 0, none⟩)] W fun e W' => (∃ v, e = .returned v) ∧ ∃ S', Kept S W W' ∧ More S W S' ∧ (J below W' S' ∨ ∃ q, Jx q W' S') := by
  have hc := line_up h hv
  refine callsIn_wide (n := 9).1 ?_
  refine callsIn_of_wp Tryz.func57 rfl trivial ?_ rfl
  simp only [Tryz.ntmps57, List.size_toArray, List.length_cons, List.length_nil, Nat.reduceAdd, Nat.reduceSub, Array.replicate_succ, Array.replicate_zero, List.push_toArray, List.append_toArray, List.nil_append, List.cons_append]
  gi_wp2_with ((try refine ⟨trivial, ?_⟩); gi_at_call 58; refine (callsIn_wide.2 hc).mono ?_; rintro e w1 ⟨g, idx, rfl, hg1, hg2, hp, hi, hk⟩)
  have HH : Hid (Sv W F a xs.length c xs ∧ W.cell? ⟨b2, 0, none⟩ = some (.int .i64 below) ∧ ¬ S b2) := ⟨h, h2, hn2⟩
  have HV : Hid (Vd xs) := hv
  have HJ : Hid (Hangs J ∧ Hangs Jx ∧ Takes Tryz.prog l (Rule.occ (sys xs)) below J Jx) := ⟨hJ, hJx, hT⟩
  have hold := hJ.old _ _ _ h0
  have HJ1 : Hid (J 0 w1 S) := hJ.kept 0 W w1 S h0 hk.size (fun k hs => hk.block k (hold k hs) (fun h => h))
  have HG : Hid (¬ S g ∧ g < w1.heap.size ∧ Pl w1 g (sys xs) idx (fun _ => 0) (fun k => (sys xs).O (idx k)) ∧ Rule.Inv (sys xs) idx (fun _ => 0) (fun k => (sys xs).O (idx k)) 0 ∧ Kept S W w1) := ⟨fun hs => by have := hold g hs; omega, hg2, hp, hi, hk.mono (fun _ h => h.elim)⟩
  clear hp hi hk h h1 h2 hn1 hn2 hFS hJ hJx hT h0 hold hc hg2
  gi_loopw [5] (fun x wr => ∃ (q : Nat) (S' : Nat → Prop) (rs nx : Nat → Nat), x = .int .i64 q ∧ q ≤ below ∧ J q wr S' ∧ Kept S W wr ∧ More S W S' ∧ ¬ S' g ∧ g < wr.heap.size ∧ Pl wr g (sys xs) idx rs nx ∧ Rule.Inv (sys xs) idx rs nx q) (fun x _ => below - (intOf x).toNat)
  case atStart =>
    obtain ⟨a1, a2, a3, a4, a5⟩ := HG.out
    exact ⟨0, S, _, _, rfl, Nat.zero_le _, HJ1.out, a5, More.refl _ _, a1, a2, a3, a4⟩
  case round =>
    clear HG HJ1
    obtain ⟨q, S', rs, nx, rfl, hq, hj, hk, hm, hng, hgl, hp, hi⟩ := hrel
    have hb2 : wr.cell? ⟨b2, 0, none⟩ = some (.int .i64 below) := hk.cell HH.out.2.1 HH.out.2.2
    by_cases hlt : q < below
    · have hc := next_slot HV.out.bd (c := xs.length) hgl hlt hb hp hi
      have HR : Hid (J q wr S' ∧ Kept S W wr ∧ More S W S' ∧ ¬ S' g) := ⟨hj, hk, hm, hng⟩
      have hcell : ∀ w2, Kept (fun b => b = g) wr w2 → w2.cell? ⟨b2, 0, none⟩ = some (.int .i64 below) := fun w2 hk2 => hk2.cell hb2 (fun e => by
        have h3 : b2 = g := e
        have := cell_lt HH.out.2.1
        simp only at this
        omega)
      have HC : Hid (∀ w2, Kept (fun b => b = g) wr w2 → w2.cell? ⟨b2, 0, none⟩ = some (.int .i64 below)) := hcell
      clear hj hk hm hng hp hi hcell
      gi_wp2_with ((try refine ⟨trivial, ?_⟩); gi_at_call 59; refine (callsIn_wide.2 hc).mono ?_; rintro e w2 ⟨len, part, rs', nx', rfl, t1, t2, t3, t4, t5, t6⟩; clear hc; obtain ⟨fn, tmps, assign, body, hy, hR⟩ := yields HJ.out.1 HJ.out.2.2 HR.out.1 HR.out.2.2.2 t1 t2 t3 t6; have HT : Hid (Kept (fun b => b = g) wr w2 ∧ Pl w2 g (sys xs) idx rs' nx' ∧ Rule.Inv (sys xs) idx rs' nx' (q + len)) := ⟨t6, t5, t4⟩; clear t3 t4 t5 t6; simp only [sv])
      refine hR.mono ?_
      clear hy hR
      have hbx : ¬ S' w2.heap.size := fun hs => by have := HJ.out.1.old _ _ _ HR.out.1 _ hs; have := HT.out.1.size; omega
      have hd0 : (w2.alloc (.cells #[.int .i64 len, .int .i64 part] 79)).cell? ⟨w2.heap.size, 0, none⟩ = some (.int .i64 len) := (cells2 (World.alloc_heap_new _ _)).1
      rintro e w3 ⟨S3, hk3, hm3, (⟨rfl, hj3⟩ | ⟨rfl, hj3⟩)⟩
      · have hd3 : w3.cell? ⟨w2.heap.size, 0, none⟩ = some (.int .i64 len) := hk3.cell hd0 hbx
        have HF : Hid (J (q + len) w3 S3 ∧ Kept S W w3 ∧ More S W S3 ∧ ¬ S3 g ∧ g < w3.heap.size ∧ Pl w3 g (sys xs) idx rs' nx') := by
          obtain ⟨hj, hk, hm, hng⟩ := HR.out
          obtain ⟨t6, t5, t4⟩ := HT.out
          have hmg : ∀ k, k = g → S k ∨ W.heap.size ≤ k := fun k e => .inr (by omega)
          have hka : Kept S W (w2.alloc (.cells #[.int .i64 len, .int .i64 part] 79)) := (hk.trans t6 hmg).alloc _
          have hsz : wr.heap.size ≤ (w2.alloc (.cells #[.int .i64 len, .int .i64 part] 79)).heap.size := by have := t6.size; simp; omega
          have hgl2 : g < w2.heap.size := Nat.lt_of_lt_of_le hgl t6.size
          refine ⟨hj3, hka.more hm hk3, hm.trans hm3 hka.size, fun hs => ?_, Nat.lt_of_lt_of_le hgl2 (Nat.le_trans (by simp) hk3.size), ?_⟩
          · rcases hm3 g hs with h | h
            · exact hng h
            · simp at h; omega
          · have : Pl (w2.alloc (.cells #[.int .i64 len, .int .i64 part] 79)) g (sys xs) idx rs' nx' := t5.kept (Below.heap_alloc _ _ _ hgl2)
            exact this.kept (hk3.block g (by simp; omega) hng)
        clear hd0 hk3 hm3 hj3 hb2
        gi_wp2
        go_roundw
        case rel =>
          obtain ⟨z1, z2, z3, z4, z5, z6⟩ := HF.out
          exact ⟨q + len, S3, rs', nx', by go_num, by omega, z1, z2, z3, z4, z5, z6, HT.out.2.2⟩
        case measure => simp [intOf]; omega
      · have HF : Hid (Kept S W w3 ∧ More S W S3) := by
          obtain ⟨hj, hk, hm, hng⟩ := HR.out
          obtain ⟨t6, t5, t4⟩ := HT.out
          have hmg : ∀ k, k = g → S k ∨ W.heap.size ≤ k := fun k e => .inr (by omega)
          have hka : Kept S W (w2.alloc (.cells #[.int .i64 len, .int .i64 part] 79)) := (hk.trans t6 hmg).alloc _
          exact ⟨hka.more hm hk3, hm.trans hm3 hka.size⟩
        have HX : Hid (Jx (q + len) w3 S3) := hj3
        clear hd0 hk3 hm3 hj3 hb2
        gi_wp2
        refine bodyPost_ret (results_none rfl _ _ _) rfl ?_
        exact ⟨⟨_, rfl⟩, S3, HF.out.1, HF.out.2, .inr ⟨_, HX.out⟩⟩
    · have hqe : q = below := by omega
      subst hqe
      gi_wp2
      go_end0
      exact ⟨⟨_, rfl⟩, S', hk, hm, .inl hj⟩
end Go.Proofs.YtibmgpinfdcaoaaGreatDoor

namespace Go.Proofs.YtibmgpinfdcaoaaGreatDoor
open Go.RowKit Go.Shelf
attribute [local go_sem] Oper.semAt_some
set_option linter.unusedVariables false
set_option maxRecDepth 100000

/-- one block more -/
def And1 (S : Nat → Prop) (b : Nat) : Nat → Prop := fun k => S k ∨ k = b
/-- a state beside a box that holds v -/
def Box (I : St) (b : Nat) (o : Obj) : St := fun q W S => ∃ S1, S = And1 S1 b ∧ I q W S1 ∧ ¬ S1 b ∧ W.heap[b]? = some o
theorem Box.hangs {I : St} (hI : Hangs I) (b : Nat) (o : Obj) : Hangs (Box I b o) := by
  refine ⟨?_, ?_⟩
  · rintro q W S ⟨S1, rfl, hi, h1, h2⟩ k (hk | hk)
    · exact hI.old _ _ _ hi k hk
    · subst hk; exact heap_lt h2
  · rintro q W W' S ⟨S1, rfl, hi, h1, h2⟩ hs hk
    exact ⟨S1, rfl, hI.kept _ W W' S1 hi hs (fun k h => hk k (.inl h)), h1, (hk _ (.inr rfl)).trans h2⟩

theorem hangs_and (p : Prop) {I : St} (h : Hangs I) : Hangs (fun q W S => p ∧ I q W S) :=
  ⟨fun q W S hi => h.old q W S hi.2, fun q W W' S hi hs hk => ⟨hi.1, h.kept q W W' S hi.2 hs hk⟩⟩
theorem Box.after {I : St} {q b : Nat} {o : Obj} {W W' : World} {S1 S3 : Nat → Prop} (hk : Kept S1 W W') (hm : More S1 W S3) (hj : I q W' S3) (hn : ¬ S1 b) (hb : W.heap[b]? = some o) :
    ∃ S', Kept (And1 S1 b) W W' ∧ More (And1 S1 b) W S' ∧ Box I b o q W' S' := by
  refine ⟨And1 S3 b, hk.mono (fun k h => .inl h), ?_, S3, rfl, hj, ?_, hk.at' hb hn⟩
  · rintro k (h | h)
    · rcases hm k h with h' | h'
      · exact .inl (.inl h')
      · exact .inr h'
    · exact .inl (.inr h)
  · intro h
    rcases hm b h with h' | h'
    · exact hn h'
    · have := heap_lt hb; omega
theorem Box.done {I : St} {q D : Nat} {o o' : Obj} {w W : World} {S0 S1 : Nat → Prop} (hk : Kept (And1 S0 w.heap.size) (w.alloc o) W) (hm : More (And1 S0 w.heap.size) (w.alloc o) (And1 S1 w.heap.size)) (hI : Hangs I) (hi : I q W S1) (hD : ¬ And1 S1 w.heap.size D) (hD2 : (w.alloc o).heap.size ≤ D) :
    Kept S0 w (W.putObj D o') ∧ More S0 w S1 ∧ I q (W.putObj D o') S1 := by
  have k1 : Kept S0 w (w.alloc o) := (Kept.refl S0 w).alloc o
  have k2 : Kept S0 w W := k1.trans hk (fun k h => by rcases h with h | h; exact .inl h; exact .inr (by omega))
  have k3 : Kept S0 w (W.putObj D o') := k2.trans (kept_put (S := fun k => k = D) o' rfl) (fun k h => .inr (by simp at hD2; omega))
  refine ⟨k3, fun k h => ?_, hI.put hi _ (fun h => hD (.inl h))⟩
  rcases hm k (.inl h) with h' | h'
  · rcases h' with h' | h'
    · exact .inl h'
    · exact .inr (by omega)
  · exact .inr (by simp at h'; omega)
/-- what the function that is handed to each does with a slot -/
def Does (P : Program) (df : Nat) (dlb : Array Value) (f : Nat → Nat) (b : Nat) (I Ix : St) : Prop :=
  ∀ (q len : Nat) (W : World) (S : Nat → Prop), I q W S → 1 ≤ len → q + len ≤ b → (∀ u, q ≤ u → u < q + len → f u = f q) →
    Calls P df (#[.int .i64 q, sv len (f q)] ++ dlb) W (Took I Ix (q + len) W S)

theorem cell_box {w : World} {g : Nat} {u : Value} {t : TypeId} (h : w.heap[g]? = some (.cells #[u] t)) : w.cell? ⟨g, 0, none⟩ = some u := by
  simp [World.cell?, h]
theorem cells2' {w : World} {g : Nat} {u v : Value} {t : TypeId} (h : w.heap[g]? = some (.cells #[u, v] t)) : w.cell? ⟨g, 0, none⟩ = some u ∧ w.cell? ⟨g, 1, none⟩ = some v := by
  refine ⟨?_, ?_⟩ <;> simp [World.cell?, h]

set_option maxHeartbeats 2000000 in
theorem each_any {gf : Nat} {lb : Array Value} (eg : ∀ args w, (callFunc gf args).run Tryz.prog w = .ok (.enter gf args) w) {df : Nat} {dlb : Array Value} (ed : ∀ args w, (callFunc df args).run Tryz.prog w = .ok (.enter df args) w)
    {f : Nat → Nat} {a0 b : Nat} {w0 : World} {G : Nat → Prop} (hseq : Gives Tryz.prog gf lb f a0 b w0 G) {w : World} (hw0 : w0.heap.size ≤ w.heap.size) (hG : ∀ k, G k → k < w.heap.size ∧ w.heap[k]? = w0.heap[k]?)
    {I Ix : St} (hI : Hangs I) (hIx : Hangs Ix) {S0 : Nat → Prop} (h0 : I a0 w S0) (hGS : ∀ k, G k → ¬ S0 k) (hD : Does Tryz.prog df dlb f b I Ix) :
    Calls Tryz.prog 43 #[.func (.func gf) #[] lb, .func (.func df) #[] dlb] w fun e w' => (∃ v, e = .returned v) ∧ ∃ S', Kept S0 w w' ∧ More S0 w S' ∧ (I b w' S' ∨ ∃ q, Ix q w' S') := by
  refine callsIn_wide (n := 9).1 ?_
  refine callsIn_of_wp_marks Tryz.func43 rfl trivial ?_ rfl
  simp only [Tryz.ntmps43, List.size_toArray, List.length_cons, List.length_nil, Nat.reduceAdd, Nat.reduceSub, Array.replicate_succ, Array.replicate_zero, List.push_toArray, List.append_toArray, List.nil_append, List.cons_append]
  gi_wp2
  have hold := hI.old _ _ _ h0
  have hI0 : Box I w.heap.size (.cells #[.func (.func df) #[] dlb] 80) a0 (w.alloc (.cells #[.func (.func df) #[] dlb] 80)) (And1 S0 w.heap.size) :=
    ⟨S0, rfl, hI.kept _ w _ _ h0 (by simp) (fun k hs => Below.heap_alloc _ _ _ (hold k hs)), fun h => by have := hold _ h; omega, World.alloc_heap_new _ _⟩
  refine range_gives (n := 9) (gf := gf) (lb := lb) rfl eg rfl hseq (by simp; omega) (fun k hk => ⟨by have := (hG k hk).1; simp; omega, (Below.heap_alloc _ _ _ (hG k hk).1).trans (hG k hk).2⟩)
    (Box I w.heap.size (.cells #[.func (.func df) #[] dlb] 80)) (fun c q W S => c = .ret ∧ Box Ix w.heap.size (.cells #[.func (.func df) #[] dlb] 80) q W S) (Box.hangs hI _ _) (fun _ => hangs_and _ (Box.hangs hIx _ _)) hI0
    (fun k hk h => by rcases h with h | h; exact hGS k hk h; have := (hG k hk).1; omega)
    (fun q len => .cells #[.int .i64 len, .int .i64 (f q)] 79)
    (fun q len B => { tmps := #[.func (.func gf) #[] lb, .func (.func df) #[] dlb, undef, .pointer (some ⟨w.heap.size, 0, none⟩), .int .i64 q, .pointer (some ⟨B, 0, none⟩), .func (.func gf) #[] lb, .int .i64 q, sv len (f q), undef, undef, undef, undef, undef], defers := [] }) ?assign ?body ?done ?stop
  case assign =>
    intro l q len W K hK
    simp only [sv] at hK ⊢
    gi_wp2
    exact hK
  case body =>
    rintro l q len B W S ⟨S1, rfl, hi, hn, hbx⟩ hB hob h1 h2 h3
    have hc := hD q len W S1 hi h1 h2 h3
    have b0 := cell_box hbx
    obtain ⟨e0, e1⟩ := cells2' hob
    simp only [sv] at hc ⊢
    gi_wp2
    refine ⟨trivial, (CallsIn.inRound l (callsIn_wide.2 hc)).mono ?_⟩
    clear hc
    rintro e w3 ⟨S3, hk3, hm3, (⟨rfl, hj⟩ | ⟨rfl, hj⟩)⟩
    · have HF := Box.after hk3 hm3 hj hn hbx
      have HF : Hid (∃ S', Kept (And1 S1 w.heap.size) W w3 ∧ More (And1 S1 w.heap.size) W S' ∧ Box I w.heap.size (.cells #[.func (.func df) #[] dlb] 80) (q + len) w3 S') := HF
      clear hk3 hm3 hj
      gi_wp2
      exact HF.out
    · have HF := Box.after hk3 hm3 hj hn hbx
      have HF : Hid (∃ S', Kept (And1 S1 w.heap.size) W w3 ∧ More (And1 S1 w.heap.size) W S' ∧ Box Ix w.heap.size (.cells #[.func (.func df) #[] dlb] 80) (q + len) w3 S') := HF
      clear hk3 hm3 hj
      gi_wp2
      obtain ⟨S', z1, z2, z3⟩ := HF.out
      exact ⟨S', z1, z2, rfl, z3⟩
  case done =>
    rintro D W S' hk hm ⟨S1, rfl, hi, hn, hbx⟩ hD1 hD2 hD3
    have HF := Box.done (o' := .deferred none) hk hm hI hi hD1 hD2
    clear hk hm hi hn hbx
    gi_wp2
    refine ⟨by simp, .inl ⟨_, _, rfl, run_takeDeferred hD3, ?_⟩⟩
    exact ⟨_, results_none rfl _ _ _, ⟨_, rfl⟩, S1, HF.1, HF.2.1, .inl HF.2.2⟩
  case stop =>
    rintro D c q W S' hk hm ⟨rfl, S1, rfl, hi, hn, hbx⟩ hD1 hD2 hD3
    have HF := Box.done (o' := .deferred none) hk hm hIx hi hD1 hD2
    clear hk hm hi hn hbx
    gi_wp2
    refine ⟨by simp, .inl ⟨_, _, rfl, run_takeDeferred hD3, ?_⟩⟩
    exact ⟨_, results_none rfl _ _ _, ⟨_, rfl⟩, S1, HF.1, HF.2.1, .inr ⟨q, HF.2.2⟩⟩
end Go.Proofs.YtibmgpinfdcaoaaGreatDoor
