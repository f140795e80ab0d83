/-
  'fire'.
-/
import Derived.Test.YtffgcijicmfmlaaGreatDoorWSortM
namespace Go.Proofs.YtffgcijicmfmlaaGreatDoor
open Go.RowKit
set_option linter.unusedVariables false

/-- what slices.SortFunc does to a row of timers, by their numbers -/
def SortSpec : Prop := ∀ (xs : List Fi) (g m cap : Nat) (w : World), w.ownsRow 0 98 2 (.slice (some ⟨g, 0, none⟩) m cap) m (fcL xs) → m < 4611686018427387904 →
  Calls Tryz.prog 119 #[.slice (some ⟨g, 0, none⟩) m cap, .func (.func 120) #[] #[]] w fun ex w' => ex = .returned (.tuple #[]) ∧ ∃ A : List Fi, A.Perm xs ∧ A.Pairwise (fun x y => x.i ≤ y.i) ∧ w'.ownsRow 0 98 2 (.slice (some ⟨g, 0, none⟩) m cap) m (fcL A) ∧ Kept (fun j => j = g) w w'

theorem Iv.perm {n : Nat} {M : Int → Option (Int × Int)} {S : Nat → List Fi} {xs A : List Fi} (h : Iv n M S xs) (p : A.Perm xs) : Iv n M S A :=
  ⟨h.ok, h.at', fun x hx => h.pok x (p.mem_iff.1 hx), fun x hx => h.pat x (p.mem_iff.1 hx), fun x hx => h.pno x (p.mem_iff.1 hx), (p.pairwise_iff (fun {a b} h => Ne.symm h)).2 h.pnd, fun i t j hi => (h.back i t j hi).imp id (fun hm => p.mem_iff.2 hm)⟩
/-- the ticks but those of some timers -/
def tkBut (M : Int → Option (Int × Int)) (A : List Fi) (i : Int) : Option Int := if A.any (fun x => x.i == i) then none else tk M i

section
variable {P : Program} {md : Region.Mode} {ops : Array Oper} {Q : Exit → Act → World → Prop} {S : World → Prop} {fuel : Nat} {listed : Array Bool} {a : Act} {w : World}
theorem d_turnV (i : Nat) {oi : Oper} {v : Value} {w' : World} (hr : Region.ready md ops listed = [i]) (hi : ops[i]? = some oi) (hd : oi.dst = none) (hw : Region.wanted oi (yielded ops a.tmps) = true) (hrun : (execOp a.eval oi).run P w = .ok (.value v) w')
    (hS : S w') (h : wpAnyH P md ops Q S fuel (listed.setIfInBounds i true) a w') : wpAnyH P md ops Q S (fuel + 1) listed a w := by
  refine wpAnyH_ready hr (by simp) (AllReadyH.cons hi (fun K hK => ?_) AllReadyH.nil)
  rw [if_pos hw]
  unfold Oper.wp
  rw [hrun]
  exact hK.out _ _ hS (fun _ => by rw [hd]; exact h)
end
theorem er_del {o : Oper} {a : Act} {w w' : World} (m x : Operand) (ho : o.op = .call { callee := .builtin .delete, args := #[m, x], argTypes := #[90, 3] }) (u v : Value) (hm : a.eval m = u) (hx : a.eval x = v) (hr : (Builtin.delete_ #[90, 3] o.type #[u, v]).run Tryz.prog w = .ok (.tuple #[]) w') : (execOp a.eval o).run Tryz.prog w = .ok (.value (.tuple #[])) w' := by
  simp only [execOp, ho, resolve, invoke, builtin, Sem.run_bind, Sem.run_pure, Result.andThen_ok, List.map_toArray, List.map_cons, List.map_nil, hm, hx, hr]

set_option maxHeartbeats 2000000 in
set_option maxRecDepth 100000 in
theorem fire_any (hs : SortSpec) {w : World} {b mb n c : Nat} {M : Int → Option (Int × Int)} {S : Nat → List Fi} {V : Nat → Value} {xs : List Fi} (h : Wl w b mb n c M S V) (hi : Iv n M S xs) (g cap m : Nat) (hrow : w.ownsRow 0 98 2 (.slice (some ⟨g, 0, none⟩) m cap) m (fcL xs)) (hg : ¬ Fp b mb V g) (hm : m ≤ 65536) :
    Calls Tryz.prog 116 #[.pointer (some ⟨b, 0, none⟩), .slice (some ⟨g, 0, none⟩) m cap] w fun ex w' => ex = .returned (.slice (some ⟨g, 0, none⟩) m cap) ∧ ∃ A M', A.Perm xs ∧ A.Pairwise (fun x y => x.i ≤ y.i) ∧ w'.ownsRow 0 98 2 (.slice (some ⟨g, 0, none⟩) m cap) m (fcL A) ∧ Wl w' b mb n (c - m) M' S V ∧ Iv n M' S [] ∧ Kept (fun j => j = g ∨ j = mb) w w' ∧ ∀ i, tk M' i = tkBut M A i := by
  have cS := hs xs g m cap w hrow (by omega)
  have HWL : Hid (Wl w b mb n c M S V) := h
  have HI : Hid (Iv n M S xs) := hi
  have hgb : g ≠ b := fun e => hg (.inl e)
  have hgm : g ≠ mb := fun e => hg (.inr (.inl e))
  have HGF : Hid (¬ Fp b mb V g) := hg
  have hgl := (hrow.lt g rfl).2
  have HMX : Hid (m ≤ cap ∧ cap ≤ 9223372036854775807) := (by
    rcases owns_cells2 hrow with ⟨h1, _⟩ | ⟨g', cap', h1, _, _, h3, h4, _⟩
    · cases h1
    · injection h1 with _ _ e; subst e; exact ⟨h3, h4⟩)
  obtain ⟨hmc, hcx⟩ := HMX.out
  clear h hi hrow hg
  go_enter Tryz.func116, Tryz.ntmps116
  go_upto_region 2 with (go_at_call 119; refine cS.mono ?_; rintro ex w2 ⟨rfl, A, hA, hAs, hA2, hK2⟩)
  clear cS
  have hal := owns_len2 hA2
  have HA : Hid (A.Perm xs ∧ A.Pairwise (fun x y => x.i ≤ y.i) ∧ A.length = m) := ⟨hA, hAs, hal⟩
  have R2 : Hid (w2.ownsRow 0 98 2 (.slice (some ⟨g, 0, none⟩) m cap) m (fcL A)) := hA2
  have W2 : Hid (Wl w2 b mb n c M S V) := HWL.out.kept hK2 (fun j hj e => HGF.out (e ▸ hj))
  have I2 : Hid (Iv n M S A) := HI.out.perm hA
  have K2 : Hid (Kept (fun j => j = g ∨ j = mb) w w2) := hK2.mono (fun j e => .inl e)
  clear hA hAs hA2 hK2 hal
  go_wp2
  go_loopw [11] (fun d wr => ∃ (j : Nat) (M' : Int → Option (Int × Int)), j ≤ m ∧ d = .int .i64 j ∧ wr.ownsRow 0 98 2 (.slice (some ⟨g, 0, none⟩) m cap) m (fcL A) ∧ Wl wr b mb n (c - j) M' S V ∧ Iv n M' S (A.drop j) ∧ Kept (fun j => j = g ∨ j = mb) w wr ∧ ∀ i, tk M' i = tkBut M (A.take j) i) (fun d _ => m - (intOf d).toNat)
  case atStart => exact ⟨0, M, Nat.zero_le _, rfl, R2.out, W2.out, I2.out, K2.out, fun i => by unfold tkBut; simp⟩
  case round =>
    obtain ⟨j, M', hj, rfl, hR, hW, hI, hK, hT⟩ := hrel
    have HR : Hid (wr.ownsRow 0 98 2 (.slice (some ⟨g, 0, none⟩) m cap) m (fcL A)) := hR
    have HW : Hid (Wl wr b mb n (c - j) M' S V) := hW
    have HI2 : Hid (Iv n M' S (A.drop j)) := hI
    have HK : Hid (Kept (fun j => j = g ∨ j = mb) w wr) := hK
    have HT : Hid (∀ i, tk M' i = tkBut M (A.take j) i) := hT
    clear hR hW hI hK hT
    by_cases hlt : j < m
    · obtain ⟨x, hx⟩ : ∃ x, A[j]? = some x := ⟨_, List.getElem?_eq_getElem (by rw [HA.out.2.2]; exact hlt)⟩
      have hxl : A[j]'(by rw [HA.out.2.2]; exact hlt) = x := by rw [List.getElem?_eq_getElem (by rw [HA.out.2.2]; exact hlt)] at hx; injection hx
      have hdrop : A.drop j = x :: A.drop (j + 1) := by rw [List.drop_eq_getElem_cons (by rw [HA.out.2.2]; exact hlt), hxl]
      obtain ⟨r0, r1, _⟩ := row_at HR.out hx
      have hI3 := HI2.out
      rw [hdrop] at hI3
      have hok := hI3.pok x List.mem_cons_self
      obtain ⟨pj, hpj⟩ := hI3.pat x List.mem_cons_self
      have hx6 : I6w x.i := by unfold Ok at hok; unfold I6w; omega
      have HI3 : Hid (Iv n (updM M' x.i none) S (A.drop (j + 1))) := hI3.drop
      have HNN : Hid (M' x.i ≠ none) := (show M' x.i ≠ none by rw [hpj]; simp)
      have HT3 : Hid (∀ i, tk (updM M' x.i none) i = tkBut M (A.take (j + 1)) i) := (fun i => by
        have e1 : A.take (j + 1) = A.take j ++ [x] := by rw [List.take_add_one, hx]; rfl
        have e2 := HT.out i
        unfold tkBut at e2 ⊢
        rw [e1, List.any_append]
        by_cases e : i = x.i
        · subst e
          rw [tk_none.2 (updM_same _ _ _)]
          simp
        · have e3 : ([x].any fun y => y.i == i) = false := by simp; exact fun h => e h.symm
          rw [e3, Bool.or_false, ← e2]
          unfold tk
          rw [updM_ne _ _ e])
      have HX6 : Hid (I6w x.i) := hx6
      clear hx hxl hdrop hI3 hok hpj hx6
      obtain ⟨xt, xi⟩ := x
      dsimp only at r0 r1 HI3 HNN HT3 HX6
      go_upto_region 5 with fail
      have HQ := heap_last wr (.cells #[.int .i64 xt, .int .i64 xi] 98)
      have W3 : Hid (Wl (wr.alloc (.cells #[.int .i64 xt, .int .i64 xi] 98)) b mb n (c - j) M' S V) := HW.out.below ((Below.refl _ wr).alloc (Nat.le_refl _) _)
      have R3 : Hid ((wr.alloc (.cells #[.int .i64 xt, .int .i64 xi] 98)).ownsRow 0 98 2 (.slice (some ⟨g, 0, none⟩) m cap) m (fcL A)) := HR.out.alloc _
      have K3 : Hid (Kept (fun j => j = g ∨ j = mb) w (wr.alloc (.cells #[.int .i64 xt, .int .i64 xi] 98))) := HK.out.alloc _
      have hmq := HW.out.tm.lt
      generalize wr.alloc (.cells #[.int .i64 xt, .int .i64 xi] 98) = w3 at HQ W3 R3 K3 ⊢
      generalize wr.heap.size = q at HQ hmq ⊢
      have HQ : Hid (w3.heap[q]? = some (.cells #[.int .i64 xt, .int .i64 xi] 98)) := HQ
      have W3d : Hid (Wl w3.drew b mb n (c - j) M' S V) := W3.out.kept ((Kept.refl No w3).drew) (fun _ _ h => h)
      obtain ⟨w4, hr4, tm4, kp4⟩ := W3d.out.tm.del HX6.out 0
      rw [if_neg HNN.out, Nat.sub_sub] at tm4
      have W4 : Hid (Wl w4 b mb n (c - (j + 1)) (updM M' xi none) S V) := W3d.out.turn kp4 tm4
      have R4 : Hid (w4.ownsRow 0 98 2 (.slice (some ⟨g, 0, none⟩) m cap) m (fcL A)) := kp4.owns (show w3.drew.ownsRow 0 98 2 _ m (fcL A) from (((Kept.refl No w3).drew).owns R3.out (fun _ _ h => h))) (fun k hk e => by injection hk with hk; exact hgm (hk.trans e))
      have K4 : Hid (Kept (fun j => j = g ∨ j = mb) w w4) := (K3.out.drew).trans kp4 (fun j e => .inl (.inr e))
      have HQ4 : Hid (w4.heap[q]? = some (.cells #[.int .i64 xt, .int .i64 xi] 98)) := kp4.at' (show w3.drew.heap[q]? = _ from HQ.out) (by omega)
      have HR4 : Hid ((Builtin.delete_ #[90, 3] 0 #[.map (some mb), .int .i64 xi]).run Tryz.prog w3.drew = .ok (.tuple #[]) w4) := hr4
      clear tm4 kp4 hr4 r0 r1
      try simp only [Act.put, List.setIfInBounds_toArray, List.set_cons_zero, List.set_cons_succ]
      refine wp_region_held_drew (S := fun w' => w'.cell? ⟨b, 1, none⟩ = some (.map (some mb)) ∧ w'.cell? ⟨q, 1, none⟩ = some (.int .i64 xi)) (by kernel_rfl) ⟨W3d.out.map, cell_of_row (show w3.drew.heap[q]? = _ from HQ.out) rfl⟩ (fun hS => ?_)
      refine d_take 0 15 rfl rfl (by kernel_rfl) (by kernel_rfl) (by kernel_rfl) (fun _ _ _ h => h) rfl (fun w' hw' => er_mvw _ rfl (.pointer (some ⟨b, 0, none⟩)) rfl) hS ?_
      simp only [Act.put, List.setIfInBounds_toArray, List.set_cons_zero, List.set_cons_succ]
      refine d_take 1 16 rfl rfl (by kernel_rfl) (by kernel_rfl) (by kernel_rfl) (fun _ _ _ h => h) rfl (fun w' hw' => er_nil _ rfl ⟨b, 0, none⟩ rfl) hS ?_
      simp only [Act.put, List.setIfInBounds_toArray, List.set_cons_zero, List.set_cons_succ]
      refine d_take 2 17 rfl rfl (by kernel_rfl) (by kernel_rfl) (by kernel_rfl) (fun _ _ _ h => h) rfl (fun w' hw' => er_f69_1 _ rfl b rfl) hS ?_
      simp only [Act.put, List.setIfInBounds_toArray, List.set_cons_zero, List.set_cons_succ]
      refine d_take 3 18 rfl rfl (by kernel_rfl) (by kernel_rfl) (by kernel_rfl) (fun _ _ _ h => h) rfl (fun w' hw' => er_load63 _ rfl b 1 _ rfl hw'.1) hS ?_
      simp only [Act.put, List.setIfInBounds_toArray, List.set_cons_zero, List.set_cons_succ]
      refine d_take 4 19 rfl rfl (by kernel_rfl) (by kernel_rfl) (by kernel_rfl) (fun _ _ _ h => h) rfl (fun w' hw' => er_f32_1 _ rfl q rfl) hS ?_
      simp only [Act.put, List.setIfInBounds_toArray, List.set_cons_zero, List.set_cons_succ]
      refine d_take 5 20 rfl rfl (by kernel_rfl) (by kernel_rfl) (by kernel_rfl) (fun _ _ _ h => h) rfl (fun w' hw' => er_load3 _ rfl q 1 _ rfl hw'.2) hS ?_
      simp only [Act.put, List.setIfInBounds_toArray, List.set_cons_zero, List.set_cons_succ]
      refine d_turnV 6 (by kernel_rfl) rfl rfl rfl (er_del _ _ rfl (.map (some mb)) (.int .i64 xi) rfl rfl HR4.out) ⟨W4.out.map, cell_of_row HQ4.out rfl⟩ ?_
      refine wpAnyH_done (by kernel_rfl) ?_ _
      clear hS HR4 W3 W3d R3 K3 HQ HQ4
      go_wp2
      go_roundw
      case rel => exact ⟨j + 1, _, by omega, by go_num, R4.out, W4.out, HI3.out, K4.out, HT3.out⟩
      case measure => simp [intOf]; omega
    · have hjm : j = m := by omega
      subst hjm
      go_wp2
      go_ret
      have hd : A.drop j = [] := List.drop_eq_nil_of_le (by rw [HA.out.2.2]; exact Nat.le_refl _)
      have ht : A.take j = A := List.take_of_length_le (by rw [HA.out.2.2]; exact Nat.le_refl _)
      have hI := HI2.out
      have hT := HT.out
      rw [hd] at hI
      rw [ht] at hT
      exact ⟨rfl, A, M', HA.out.1, HA.out.2.1, HR.out, HW.out, hI, HK.out, hT⟩

end Go.Proofs.YtffgcijicmfmlaaGreatDoor
