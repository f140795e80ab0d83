/-
  all: a list of one's own of what is told.
-/
import Derived.Test.YtfjaajjljmbmbaaGreatDoorCLeast
import Derived.Test.YtfjaajjljmbmbaaGreatDoorCOwn
namespace Go.Proofs.YtfjaajjljmbmbaaGreatDoor
open Go.RowKit Go.Shelf Plain
attribute [local go_sem] Oper.semAt_some
set_option linter.unusedVariables false
set_option maxRecDepth 100000

/-- append of one thing onto a list of one's own, within a round -/
theorem wpListIn_app1 {F : Fence} {nn : Nat} {P : Program} {w : World} {ops : Array Oper} {rest : List Oper} {o : Oper} {a : Act} {Q : Exit → Act → World → Prop} (hgd : o.guard = none) (s x : Operand) (t e : TypeId)
    (ho : o.op = .call { callee := .builtin .append, args := #[s, x], argTypes := #[t, t] }) (z : Value) (bytes : Nat) (ht : P.underlying t = some (.slice e)) (hi : (P.info? e).map (fun i => (i.zero, i.size, i.bytes)) = some (some z, 1, bytes)) (hzs : z.cells.size = 1)
    (B : Nat) (v : Value) (n : Nat) (us : List Value) (hs : a.eval s = v) (hv : w.ownsRow B e 1 v n us) (hB : B ≤ w.heap.size) (ad : Addr) (c : Nat) (u : Value) (hx : a.eval x = .slice (some ad) 1 c) (hu : w.cell? ad = some u) (h1 : u.oneCell' = true) (hb : (n + 1) * bytes ≤ 140737488355328) (h63 : n + 1 ≤ maxLen)
    (h : ∀ ya yc w', Hid (w'.ownsRow B e 1 (.slice ya (n + 1) yc) (n + 1) (us ++ [u])) → Hid (w.grownBy w' v.ownBlock) → Hid ((Value.slice ya (n + 1) yc).ownBlock = v.ownBlock ∨ (Value.slice ya (n + 1) yc).ownBlock = some w.heap.size) → wpListIn F nn P ops Q rest (a.put o.dst (.slice ya (n + 1) yc)) w') : wpListIn F nn P ops Q (o :: rest) a w := by
  obtain ⟨i0, hi, hz0, hz1, hz2⟩ := info_parts hi
  have news : ∀ j y, [u][j]? = some y → w.cell? (ad.add j) = some y := by
    intro j y hy
    have hj : j = 0 := by
      have := (List.getElem?_eq_some_iff.1 hy).1
      simp at this
      exact this
    subst hj
    simp at hy
    subst hy
    simpa [Addr.add] using hu
  obtain ⟨v', w', hr, ho', hg, _, hl⟩ := run_append_own_at (P := P) w B t o.type e i0 z 1 bytes ht hi hz0 hz1 hz2 hzs (by decide) v n us hv ad 1 c [u] rfl news (by simpa using h1) h63 hb hB
  obtain ⟨ya, yn, yc, rfl⟩ := own_slice ho'
  have hyn : yn = n + 1 := by
    obtain ⟨_, ⟨_, h2⟩ | ⟨g, cap, cur, h2, _⟩⟩ := ho'
    · omega
    · injection h2
  subst hyn
  refine wpListIn_plain hgd fun K hK' => ?_
  unfold Oper.wpIn
  refine ⟨?_, ?_⟩
  · simp [Oper.about, ho, resolve, Target.leads, Sem.run_pure]
  · rw [Oper.semAt_plain F _ _ (by rw [ho]; intro c hc'; cases hc')]
    have he : (execOp a.eval o).run P w = .ok (.value (.slice ya (n + 1) yc)) w' := by
      unfold execOp
      simp only [ho, resolve, invoke, builtin, Sem.run_bind, Sem.run_pure, Result.andThen_ok, List.map_toArray, List.map_cons, List.map_nil, hs, hx, hr]
    rw [he]
    exact hK' _ _ (h ya yc w' ho' hg hl)

def AllS (bx : Nat) (v : Value) : Nat → Prop := fun k => k = bx ∨ v.ownBlock = some k
/-- the list in its box, behind q that were told -/
def AllI (bx B : Nat) (v : Nat → Int) : St := fun q W S => ∃ va vc, S = AllS bx (.slice va q vc) ∧ W.heap[bx]? = some (.cells #[.slice va q vc] 28) ∧ W.ownsRow B 3 1 (.slice va q vc) q ((List.range q).map (fun i => iv (v i))) ∧ bx < B
theorem owns_same {W W' : World} {B : Nat} {e : TypeId} {v : Value} {n : Nat} {us : List Value} (h : W.ownsRow B e 1 v n us) (hs : ∀ k, v.ownBlock = some k → W'.heap[k]? = W.heap[k]?) : W'.ownsRow B e 1 v n us := by
  obtain ⟨hl, h1 | ⟨g, cap, cur, hv, hb, hg, hr⟩⟩ := h
  · exact ⟨hl, .inl h1⟩
  · subst hv
    exact ⟨hl, .inr ⟨g, cap, cur, rfl, hb, (hs g rfl).trans hg, hr⟩⟩
theorem AllI.hangs (bx B : Nat) (v : Nat → Int) : Hangs (AllI bx B v) := by
  refine ⟨?_, ?_⟩
  · rintro q W S ⟨va, vc, rfl, hb, ho, hl⟩ k (hk | hk)
    · subst hk; exact heap_lt hb
    · exact (owns_at ho hk).2
  · rintro q W W' S ⟨va, vc, rfl, hb, ho, hl⟩ hs hk
    exact ⟨va, vc, rfl, (hk _ (.inl rfl)).trans hb, owns_same ho (fun k e => hk k (.inr e)), hl⟩
theorem owns_base {w : World} {B B' : Nat} {e : TypeId} {size : Nat} {v : Value} {n : Nat} {xs : List Value} (h : w.ownsRow B e size v n xs) (hB : B' ≤ B) : w.ownsRow B' e size v n xs := by
  obtain ⟨hl, h1 | ⟨g, cap, cur, hv, hb, hr⟩⟩ := h
  · exact ⟨hl, .inl h1⟩
  · exact ⟨hl, .inr ⟨g, cap, cur, hv, by omega, hr⟩⟩
theorem ldS {w : World} {g : Nat} {v : Value} (h : w.cell? ⟨g, 0, none⟩ = some v) (hv : v.oneCell' = true) : True := trivial

set_option maxHeartbeats 4000000 in
theorem all_any {gf b : Nat} {lb : Array Value} {v : Nat → Int} (eg : ∀ args w, (callFunc gf args).run Tryz.prog w = .ok (.enter gf args) w) (w : World) (hg : GivesN Tryz.prog gf lb (fun q => #[.int .i64 (v q)]) b w) (hb : b ≤ 17592186043904) :
    Calls Tryz.prog 17 #[.func (.func gf) #[] lb] w fun e w' => ∃ va vc, e = .returned (.slice va b vc) ∧ w'.ownsRow w.heap.size 3 1 (.slice va b vc) b ((List.range b).map (fun i => iv (v i))) ∧ Kept No w w' := by
  refine callsIn_wide (n := 9).1 ?_
  refine callsIn_of_wp_marks Tryz.func17 rfl trivial ?_ rfl
  simp only [Tryz.ntmps17, List.size_toArray, List.length_cons, List.length_nil, Nat.reduceAdd, Nat.reduceSub, Array.replicate_succ, Array.replicate_zero, List.push_toArray, List.append_toArray, List.nil_append, List.cons_append]
  gi_wp2
  have sz : (w.alloc (.cells #[.slice none 0 0] 28)).heap.size = w.heap.size + 1 := by simp
  have hI0 : AllI w.heap.size (w.heap.size + 1) v 0 (w.alloc (.cells #[.slice none 0 0] 28)) (AllS w.heap.size (.slice none 0 0)) := ⟨none, 0, rfl, alloc_new _ _, World.ownsRow_nil _ _ _ _, by omega⟩
  have ka : Kept No w (w.alloc (.cells #[.slice none 0 0] 28)) := (Kept.refl No w).alloc _
  have HK := hid ka
  generalize w.alloc (.cells #[.slice none 0 0] 28) = w1 at *
  refine range_list (n := 9) (gf := gf) (lb := lb) rfl eg (el := fun q => #[.int .i64 (v q)]) (fun _ => rfl) hg ka
    (AllI w.heap.size (w.heap.size + 1) v) (fun c q W S => False) (AllI.hangs _ _ _) (fun _ => ⟨fun q W S hi => hi.elim, fun q W W' S hi hs hk => hi⟩) hI0
    (fun k hk => by rcases hk with hk | hk; omega; cases hk)
    (fun q => { tmps := #[.func (.func gf) #[] lb, undef, .slice none 0 0, .pointer (some ⟨w.heap.size, 0, none⟩), .int .i64 (v q), .func (.func gf) #[] lb, .int .i64 (v q), undef, undef, undef, undef, undef], defers := [] }) ?assign ?body ?done ?stop
  case assign =>
    intro l q W K hq hK
    gi_wp2
    exact hK
  case body =>
    rintro l q W S ⟨va, vc, rfl, hbx, own, hlt⟩ hq
    have c0 := one hbx
    have hwl : w.heap.size + 1 ≤ W.heap.size := by have := heap_lt hbx; omega
    have AP : Hid ((W.alloc (.cells #[.int .i64 (v q)] 3)).ownsRow (w.heap.size + 1) 3 1 (.slice va q vc) q ((List.range q).map (fun i => iv (v i))) ∧ w.heap.size + 1 ≤ (W.alloc (.cells #[.int .i64 (v q)] 3)).heap.size ∧ (W.alloc (.cells #[.int .i64 (v q)] 3)).cell? ⟨W.heap.size, 0, none⟩ = some (.int .i64 (v q)) ∧ Kept No W (W.alloc (.cells #[.int .i64 (v q)] 3))) := ⟨own.alloc _, by rw [World.size_alloc]; omega, one (alloc_new W _), (Kept.refl No W).alloc _⟩
    have HO := hid own
    have HBX := hid hbx
    clear own hbx hI0 hg
    gi_wp2_with (gi_at_builtin; refine wpListIn_app1 rfl _ _ 28 3 rfl _ 8 Tryz.underlying28 Tryz.infoI rfl (w.heap.size + 1) (.slice va q vc) q _ rfl AP.out.1 AP.out.2.1 ⟨W.heap.size, 0, none⟩ 1 (.int .i64 (v q)) rfl AP.out.2.2.1 rfl (by omega) (by unfold maxLen; omega) ?_; intro ya yc wa own1 gr1 lo1; have KW := hid (show Kept (fun k => (Value.slice va q vc).ownBlock = some k) W wa from (AP.out.2.2.2.mono (fun _ h => h.elim)).grown gr1.out (fun k e => .inl e)); have hbxa := hid (KW.out.at' HBX.out (fun e => by have := (owns_at HO.out e).1; omega)); have c1 := one hbxa.out; have f1 := fz_blk hbxa.out 0)
    have hst : (List.range (q + 1)).map (fun i => iv (v i)) = (List.range q).map (fun i => iv (v i)) ++ [iv (v q)] := by rw [List.range_succ, List.map_append]; rfl
    have kb : Kept (fun k => k = w.heap.size) wa (wa.setCell ⟨w.heap.size, 0, none⟩ (.slice ya (q + 1) yc)) := (Kept.refl (fun k => k = w.heap.size) wa).setCell (p := ⟨w.heap.size, 0, none⟩) (.inl rfl) _
    have k2 : Kept (AllS w.heap.size (.slice va q vc)) W (wa.setCell ⟨w.heap.size, 0, none⟩ (.slice ya (q + 1) yc)) := (KW.out.mono (G := AllS w.heap.size (.slice va q vc)) (fun k e => .inr e)).trans kb (fun k e => .inl (.inl e))
    refine ⟨AllS w.heap.size (.slice ya (q + 1) yc), k2, fun k hk => ?_, ya, yc, rfl, ?_, ?_, by omega⟩
    · rcases hk with hk | hk
      · exact .inl (.inl hk)
      · rcases lo1.out with e | e
        · exact .inl (.inr (e ▸ hk))
        · rw [e] at hk
          injection hk with hk
          have := AP.out.2.2.2.size
          exact .inr (by omega)
    · exact set1 hbxa.out _
    · rw [hst]
      exact kb.owns own1.out (fun k e => by have := (owns_at own1.out e).1; omega)
  case done =>
    rintro D W S' hk hm ⟨va, vc, rfl, hbx, own, hlt⟩ hD1 hD2 hD3
    have hne : w.heap.size ≠ D := by omega
    have kw : Kept No w W := HK.out.trans hk (fun k e => by
      rcases e with e | e
      · exact .inr (by omega)
      · cases e)
    have c0 := one hbx
    have HF : Hid (W.ownsRow (w.heap.size + 1) 3 1 (.slice va b vc) b ((List.range b).map (fun i => iv (v i))) ∧ Kept No w W ∧ W.heap[D]? = some (.deferred (some [])) ∧ ¬ AllS w.heap.size (.slice va b vc) D) := ⟨own, kw, hD3, hD1⟩
    clear own hbx hI0 hg hk hm kw hD3 hD1
    gi_wp2
    refine ⟨by simp, .inl ⟨_, _, rfl, run_takeDeferred HF.out.2.2.1, ?_⟩⟩
    have kp : Kept (fun k => k = D) W (W.putObj D (.deferred none)) := kept_put (S := fun k => k = D) _ rfl
    refine ⟨_, results_tmp rfl _ _ _, va, vc, rfl, ?_, ?_⟩
    · exact owns_base (kp.owns HF.out.1 (fun k e h => HF.out.2.2.2 (.inr (h ▸ e)))) (by omega)
    · exact HF.out.2.1.trans kp (fun k e => .inr (by omega))
  case stop =>
    rintro D c q W S' hk hm h
    exact h.elim
end Go.Proofs.YtfjaajjljmbmbaaGreatDoor
