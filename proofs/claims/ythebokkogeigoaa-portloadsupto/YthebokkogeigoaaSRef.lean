/-
  The document's fits and Load.
-/
import Derived.Test.YthebokkogeigoaaSDat
import Derived.Test.YthebokkogeigoaaPWork
namespace Go.Proofs.Ythebokkogeigoaa
open Go.RowKit
set_option linter.unusedVariables false
set_option linter.unusedSimpArgs false
set_option maxRecDepth 100000

theorem all_getD {xs : List (List Int)} {f : List Int → Bool} {n : Nat} (hn : xs.length = n) : xs.all f = true ↔ ∀ j, j < n → f (xs.getD j []) = true := by
  subst hn
  rw [List.all_eq_true]
  constructor
  · intro h j hj
    exact h _ (by rw [List.getD_eq_getElem?_getD, List.getElem?_eq_getElem hj]; exact List.getElem_mem hj)
  · intro h x hx
    obtain ⟨j, hj, rfl⟩ := List.mem_iff_getElem.1 hx
    have := h j hj
    rwa [List.getD_eq_getElem?_getD, List.getElem?_eq_getElem hj] at this
set_option maxHeartbeats 4000000 in
theorem rfits_any {F : Nat → Prop} {A : Array Value} {s : Ps} (w : World) (p : Pr) (hk : p.kd = 0 ∨ p.kd = 1) (h : Vr w F A s) :
    Calls Try.prog 36 #[.agg #[.int .i64 p.pt, .int .i64 p.kd, .bool p.out, .int .i64 p.sz, .int .i64 p.dp, .int .i64 p.rf], .agg A] w fun e w' => e = .returned (.bool (fitS p s)) ∧ Kept No w w' := by
  obtain ⟨qa, qn, qc, da, dn, dc, rfl, hm, hz, hs⟩ := h
  obtain ⟨q, has, tk, d, lost⟩ := s
  simp only [Ps.val]
  obtain ⟨pt, kd, out, sz, dp, rf⟩ := p
  have hz1 := hz.len
  have hz2 := hz.cap
  have hz3 := hz.max
  have hm1 := hm.cap
  have hm2 := hm.max
  have hm0 := hm.len
  have hm3 := hm.sm
  rcases hk with hk | hk
  · have hk' : kd = 0 := hk
    subst hk'
    clear hk
    have e1 : fitS ⟨pt, 0, out, sz, dp, rf⟩ ⟨q, has, tk, d, lost⟩ = (!has || decide ((dn : Int) = sz)) := by unfold fitS; rw [if_pos rfl, ← hz1]
    rw [e1]
    have HB : Hid (((dn : Int) == sz) = decide ((dn : Int) = sz)) := by
      show ((dn : Int) == sz) = decide ((dn : Int) = sz)
      by_cases h : (dn : Int) = sz <;> simp [h]
    clear e1 hm hz hz1 hm0
    cases has
    · go_enter Try.func36, Try.ntmps36
      go_wp2
      go_ret
      exact ⟨rfl, ((Kept.refl No w).alloc _).alloc _⟩
    · go_enter Try.func36, Try.ntmps36
      go_wp2
      go_ret
      exact ⟨by simp; exact HB.out, ((Kept.refl No w).alloc _).alloc _⟩
  · have hk' : kd = 1 := hk
    subst hk'
    clear hk
    have e1 : fitS ⟨pt, 1, out, sz, dp, rf⟩ ⟨q, has, tk, d, lost⟩ = (q.all (fun x => decide ((x.length : Int) = sz)) && decide ((q.length : Int) ≤ dp)) := by unfold fitS; rw [if_neg (show ¬ (1 : Int) = 0 by decide)]
    rw [e1]
    have hq0 : q.length = qn := hm0
    have E2 : Hid ((∀ j, j < qn → ((q.getD j []).length : Int) = sz) → (q.all (fun x => decide ((x.length : Int) = sz)) && decide ((q.length : Int) ≤ dp)) = decide ((qn : Int) ≤ dp)) := fun H => by
      rw [(all_getD hq0).2 (fun j hj => decide_eq_true (H j hj)), Bool.true_and, hq0]
    have E3 : Hid (∀ j, j < qn → ((q.getD j []).length : Int) ≠ sz → (q.all (fun x => decide ((x.length : Int) = sz)) && decide ((q.length : Int) ≤ dp)) = false) := fun j hj hne => by
      have : q.all (fun x => decide ((x.length : Int) = sz)) = false := by
        rw [← Bool.not_eq_true]
        exact fun H => hne (of_decide_eq_true ((all_getD hq0).1 H j hj))
      rw [this]; rfl
    have HM := hid hm
    clear e1 hz hz1 hm0 hq0 hm
    obtain ⟨r, hr⟩ : ∃ r, r = (q.all (fun x => decide ((x.length : Int) = sz)) && decide ((q.length : Int) ≤ dp)) := ⟨_, rfl⟩
    rw [← hr]
    rw [← hr] at E2 E3
    clear hr
    go_enter Try.func36, Try.ntmps36
    go_upto_region 1 with fail
    have K1 : Kept No w ((w.alloc (.cells #[.int .i64 pt, .int .i64 1, .bool out, .int .i64 sz, .int .i64 dp, .int .i64 rf] 30)).alloc (.cells #[.slice qa qn qc, .bool has, .int .i64 tk, .slice da dn dc, .int .i64 lost] 61)) := ((Kept.refl No w).alloc _).alloc _
    have B1 : ((w.alloc (.cells #[.int .i64 pt, .int .i64 1, .bool out, .int .i64 sz, .int .i64 dp, .int .i64 rf] 30)).alloc (.cells #[.slice qa qn qc, .bool has, .int .i64 tk, .slice da dn dc, .int .i64 lost] 61)).heap[w.heap.size]? = some (.cells #[.int .i64 pt, .int .i64 1, .bool out, .int .i64 sz, .int .i64 dp, .int .i64 rf] 30) := ((Kept.refl No _).alloc _).at' (alloc_new w _) (fun e => e)
    have B2 : ((w.alloc (.cells #[.int .i64 pt, .int .i64 1, .bool out, .int .i64 sz, .int .i64 dp, .int .i64 rf] 30)).alloc (.cells #[.slice qa qn qc, .bool has, .int .i64 tk, .slice da dn dc, .int .i64 lost] 61)).heap[w.heap.size + 1]? = some (.cells #[.slice qa qn qc, .bool has, .int .i64 tk, .slice da dn dc, .int .i64 lost] 61) := by
      have := alloc_new (w.alloc (.cells #[.int .i64 pt, .int .i64 1, .bool out, .int .i64 sz, .int .i64 dp, .int .i64 rf] 30)) (.cells #[.slice qa qn qc, .bool has, .int .i64 tk, .slice da dn dc, .int .i64 lost] 61)
      rw [World.size_alloc] at this
      exact this
    generalize (w.alloc (.cells #[.int .i64 pt, .int .i64 1, .bool out, .int .i64 sz, .int .i64 dp, .int .i64 rf] 30)).alloc (.cells #[.slice qa qn qc, .bool has, .int .i64 tk, .slice da dn dc, .int .i64 lost] 61) = w2 at *
    have d1 : w2.cell? ⟨w.heap.size, 1, none⟩ = some (.int .i64 1) := (cell_blk B1 1).trans rfl
    have H2 := hid (And.intro K1 (And.intro B1 B2))
    clear K1 B1 B2
    go_wp2
    go_loopw [5] (fun i wr => ∃ (k : Nat), k ≤ qn ∧ i = .int .i64 k ∧ (∀ j, j < k → ((q.getD j []).length : Int) = sz) ∧ Kept No w2 wr) (fun i _ => qn - (intOf i).toNat)
    case atStart => exact ⟨0, Nat.zero_le _, rfl, fun j hj => by omega, Kept.refl _ _⟩
    case round =>
      clear d1
      obtain ⟨k, hk, rfl, hall, kr⟩ := hrel
      have c0 : wr.cell? ⟨w.heap.size + 1, 0, none⟩ = some (.slice qa qn qc) := kr.cell ((cell_blk H2.out.2.2 0).trans rfl) (fun e => e)
      have c3 : wr.cell? ⟨w.heap.size, 3, none⟩ = some (.int .i64 sz) := kr.cell ((cell_blk H2.out.2.1 3).trans rfl) (fun e => e)
      have c4 : wr.cell? ⟨w.heap.size, 4, none⟩ = some (.int .i64 dp) := kr.cell ((cell_blk H2.out.2.1 4).trans rfl) (fun e => e)
      have HA := hid hall
      have KW := hid (H2.out.1.trans kr (fun _ e => .inl e))
      have KR := hid kr
      by_cases hlt : k < qn
      · have hltz : (k : Int) < (qn : Int) := by omega
        obtain ⟨b, o, ea, en, ec, rfl, hb, hc, hz', hs'⟩ := HM.out.at' k hlt
        have cz := kr.cell (H2.out.1.cell hc (fun e => e)) (fun e => e)
        have hl := hz'.len
        have e1 := hz'.cap
        have e2 := hz'.max
        clear hz' hc hall kr
        by_cases hsz : (en : Int) = sz
        · have h1 : ((en : Int) != sz) = false := by simp [hsz]
          have HL : Hid (((q.getD k []).length : Int) = sz) := by show ((q.getD k []).length : Int) = sz; rw [hl]; exact hsz
          clear hl hsz
          go_wp2
          go_region
          go_wp2
          refine ⟨⟨k + 1, by omega, by go_num, fun j hj => ?_, by first | exact KR.out | exact KR.out.drew | exact KR.out.drewN _⟩, ?_⟩
          · by_cases h9 : j < k
            · exact HA.out j h9
            · obtain rfl : j = k := by omega
              exact HL.out
          · simp [intOf]; omega
        · have h1 : ((en : Int) != sz) = true := by simp [hsz]
          have HL : Hid (((q.getD k []).length : Int) ≠ sz) := by show ((q.getD k []).length : Int) ≠ sz; rw [hl]; exact hsz
          clear hl
          have HR := hid (E3.out k hlt HL.out)
          go_wp2
          go_region
          go_wp2
          go_ret
          exact ⟨by rw [HR.out]; rfl, by first | exact KW.out | exact KW.out.drew | exact KW.out.drewN _⟩
      · have hltz : ¬ (k : Int) < (qn : Int) := by omega
        obtain rfl : k = qn := by omega
        have HR := hid (E2.out HA.out)
        clear hall kr
        go_wp2
        go_ret
        exact ⟨by rw [HR.out]; rfl, KW.out⟩
end Go.Proofs.Ythebokkogeigoaa
