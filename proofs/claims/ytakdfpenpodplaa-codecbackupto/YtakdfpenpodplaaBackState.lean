/-
  The memory of CodecBack.
-/
import Derived.Test.YtakdfpenpodplaaBackPlain
import Derived.Test.YtakdfpenpodplaaOpenScript
namespace Go.Proofs.Ytakdfpenpodplaa
open Go.RowKit
set_option linter.unusedVariables false

/-- an operation with its values -/
structure OpW where
  d : OpD
  ba : Option Addr
  bn : Nat
  bc : Nat
  la : Option Addr
  ln : Nat
  lc : Nat
def cells7 (v : OpW) : List Value := [.int .i64 v.d.K, .int .i64 v.d.N, .int .i64 v.d.Wd, .bool v.d.Fl, .slice v.ba v.bn v.bc, .slice v.la v.ln v.lc, .int .i64 v.d.M]
theorem cells7_len (v : OpW) : (cells7 v).length = 7 := rfl
theorem cells7_one (v : OpW) : ∀ u ∈ cells7 v, u.oneCell' = true := by
  intro u hu
  simp [cells7] at hu
  rcases hu with rfl | rfl | rfl | rfl | rfl | rfl | rfl <;> rfl
theorem flat7_len (vs : List OpW) : ((vs.map cells7).flatten).length = vs.length * 7 := by
  induction vs with
  | nil => rfl
  | cons v vs ih => rw [List.map_cons, List.flatten_cons, List.length_append, ih, cells7_len, List.length_cons]; omega
theorem flat7_get : ∀ (vs : List OpW) (i : Nat) (v : OpW) (j : Nat), vs[i]? = some v → j < 7 → ((vs.map cells7).flatten)[i * 7 + j]? = (cells7 v)[j]? := by
  intro vs
  induction vs with
  | nil => intro i v j h _; simp at h
  | cons x vs ih =>
    intro i v j h hj
    rw [List.map_cons, List.flatten_cons]
    cases i with
    | zero =>
      simp at h
      subst h
      rw [Nat.zero_mul, Nat.zero_add, List.getElem?_append_left (by rw [cells7_len]; exact hj)]
    | succ i =>
      simp at h
      rw [List.getElem?_append_right (by rw [cells7_len]; omega), cells7_len, show (i + 1) * 7 + j - 7 = i * 7 + j from by omega]
      exact ih i v j h hj

/-- a row of operations, one of them -/
theorem row_at {w : World} {B : Nat} {l : Value} {m : Nat} {vs : List OpW} (h : w.ownsRow B 43 7 l m ((vs.map cells7).flatten)) {i : Nat} {v : OpW} (hv : vs[i]? = some v) :
    ∃ g cap, l = .slice (some ⟨g, 0, none⟩) m cap ∧ OpAt w g (0 + i * 7) v.d.K v.d.N v.d.Wd v.d.Fl v.ba v.bn v.bc v.la v.ln v.lc v.d.M := by
  have hc := h
  have hl := h.1
  rw [flat7_len] at hl
  have hi : i < vs.length := (List.getElem?_eq_some_iff.1 hv).1
  obtain ⟨_, ⟨rfl, h0⟩ | ⟨g, cap, cur, rfl, hb, hg, hn, hm, _, _⟩⟩ := h
  · omega
  · refine ⟨g, cap, rfl, ?_⟩
    have each : ∀ j u, j < 7 → (cells7 v)[j]? = some u → w.cell? ⟨g, i * 7 + j, none⟩ = some u := by
      intro j u hj hu
      have h1 := hc.cells (g := g) rfl (i * 7 + j) u (by rw [flat7_get vs i v j hv hj]; exact hu)
      rw [add_none, Nat.zero_add] at h1
      exact h1
    rw [Nat.zero_add]
    exact ⟨each 0 _ (by omega) rfl, each 1 _ (by omega) rfl, each 2 _ (by omega) rfl, each 3 _ (by omega) rfl, each 4 _ (by omega) rfl, each 5 _ (by omega) rfl, each 6 _ (by omega) rfl⟩
theorem row_shape {w : World} {B : Nat} {l : Value} {m : Nat} {xs : List Value} (h : w.ownsRow B 43 7 l m xs) : ∃ a c, l = .slice a m c := by
  obtain ⟨_, ⟨rfl, h0⟩ | ⟨g, cap, cur, rfl, _⟩⟩ := h
  · exact ⟨none, 0, by rw [h0]⟩
  · exact ⟨_, cap, rfl⟩

def fitD (d : OpD) : OpD := ⟨d.K, fitN d.K d.N, d.Wd, d.Fl, d.xs, if d.K = 7 then fitZ d.zs else d.zs, fitM d.K d.M d.zs⟩
def encD (d : OpD) : List Nat := enc d.K d.N d.Wd d.Fl d.xs d.zs
def FitD (d : OpD) : Prop := Fit d.K d.N d.Wd d.xs d.zs d.M
theorem fitD_Fit (d : OpD) (hW : -9223372036854775808 ≤ d.Wd ∧ d.Wd ≤ 9223372036854775807) (hx : ∀ x ∈ d.xs, x < 256) (hl : d.zs.length ≤ 1048576) : FitD (fitD d) := by
  refine ⟨fun h => ?_, fun h => ?_, fun h => ?_, hW, hx, fun h => ?_⟩
  · have h' : d.K = 1 := h
    show 0 ≤ fitN d.K d.N ∧ fitN d.K d.N < 256
    unfold fitN; rw [if_pos h']; omega
  · have h' : d.K = 2 := h
    show 0 ≤ fitN d.K d.N ∧ fitN d.K d.N < 65536
    unfold fitN; rw [if_neg (by omega), if_pos h']; omega
  · have h' : d.K = 3 := h
    show 0 ≤ fitN d.K d.N ∧ fitN d.K d.N < 4294967296
    unfold fitN; rw [if_neg (by omega), if_neg (by omega), if_pos h']; omega
  · have h' : d.K = 7 := h
    have e : (fitD d).zs = fitZ d.zs := if_pos h'
    have e2 : (fitD d).M = d.zs.length + d.M % 8 := if_pos h'
    have e3 : (fitZ d.zs).length = d.zs.length := by simp [fitZ]
    rw [e, e2, e3]
    refine ⟨fun z hz => ?_, by omega, hl⟩
    unfold fitZ at hz; rw [List.mem_map] at hz
    obtain ⟨y, _, rfl⟩ := hz
    omega
theorem fitD_len (d : OpD) : (fitD d).xs.length + (fitD d).zs.length + 1 = d.xs.length + d.zs.length + 1 := by
  show d.xs.length + (if d.K = 7 then fitZ d.zs else d.zs).length + 1 = _
  split
  · simp [fitZ]
  · rfl

/-- the bytes of the first k -/
def tot (os : List OpD) (k : Nat) : List Nat := ((os.take k).map (fun d => encD (fitD d))).flatten
def rst (os : List OpD) (k : Nat) : List Nat := ((os.drop k).map (fun d => encD (fitD d))).flatten
theorem tot_succ (os : List OpD) (k : Nat) (d : OpD) (h : os[k]? = some d) : tot os (k + 1) = tot os k ++ encD (fitD d) := by
  unfold tot; rw [List.take_add_one, h]; simp
theorem rst_cons (os : List OpD) (k : Nat) (d : OpD) (h : os[k]? = some d) : rst os k = encD (fitD d) ++ rst os (k + 1) := by
  unfold rst
  have hk : k < os.length := (List.getElem?_eq_some_iff.1 h).1
  rw [List.drop_eq_getElem_cons hk]
  rw [List.getElem?_eq_getElem hk] at h
  injection h with h
  rw [h]; simp
theorem rst_zero (os : List OpD) : rst os 0 = tot os os.length := by unfold rst tot; simp
theorem rst_end (os : List OpD) : rst os os.length = [] := by unfold rst; simp
theorem tot_len (os : List OpD) (k : Nat) : (tot os k).length ≤ 8 * (os.map (fun d => d.xs.length + d.zs.length + 1)).sum := by
  have gen : ∀ l : List OpD, ((l.map (fun d => encD (fitD d))).flatten).length ≤ 8 * (l.map (fun d => d.xs.length + d.zs.length + 1)).sum := by
    intro l
    induction l with
    | nil => simp
    | cons d l ih =>
      rw [List.map_cons, List.flatten_cons, List.length_append, List.map_cons, List.sum_cons]
      have h1 : (encD (fitD d)).length ≤ 8 * ((fitD d).xs.length + (fitD d).zs.length + 1) := enc_len
      rw [fitD_len] at h1
      omega
  have h1 := gen (os.take k)
  have h2 : ((os.take k).map (fun d => d.xs.length + d.zs.length + 1)).sum ≤ (os.map (fun d => d.xs.length + d.zs.length + 1)).sum := by
    have e : os.map (fun d => d.xs.length + d.zs.length + 1) = (os.take k).map (fun d => d.xs.length + d.zs.length + 1) ++ (os.drop k).map (fun d => d.xs.length + d.zs.length + 1) := by rw [← List.map_append, List.take_append_drop]
    rw [e, List.sum_append]; omega
  unfold tot; omega
theorem one_weight {os : List OpD} {k : Nat} {d : OpD} (h : os[k]? = some d) : d.xs.length + d.zs.length + 1 ≤ (os.map (fun d => d.xs.length + d.zs.length + 1)).sum := by
  induction os generalizing k with
  | nil => simp at h
  | cons x os ih =>
    rw [List.map_cons, List.sum_cons]
    cases k with
    | zero => simp at h; subst h; omega
    | succ k => simp at h; have := ih h; omega

/-- what the first loop keeps -/
structure S1 (w : World) (os : List OpD) (p k : Nat) (l : Value) (wr : World) (vs : List OpW) (Fw FL : Nat → Prop) : Prop where
  ds : vs.map (·.d) = (os.take k).map fitD
  wrt : Wr wr Fw p (tot os k) 0
  own : wr.ownsRow w.heap.size 43 7 l k ((vs.map cells7).flatten)
  lw : ∀ g, l.ownBlock = some g → ¬ Fw g ∧ ¬ FL g
  zs : ∀ v ∈ vs, v.d.K = 7 → Zs wr FL v.la v.ln v.lc v.d.zs
  bs : ∀ v ∈ vs, v.d.K = 6 → Bs w (fun _ => True) v.ba v.bn v.bc v.d.xs
  dis : ∀ k, FL k → ¬ Fw k
  hiW : ∀ k, Fw k → w.heap.size ≤ k
  hiL : ∀ k, FL k → w.heap.size ≤ k
  ltL : ∀ k, FL k → k < wr.heap.size
  bel : Below w.heap.size w wr

theorem Zs.mono {w : World} {F G : Nat → Prop} {a : Option Addr} {n c : Nat} {xs : List Int} (h : Zs w F a n c xs) (hF : ∀ k, F k → G k) : Zs w G a n c xs :=
  ⟨h.len, h.cap, h.max, h.nil, fun i hi => by obtain ⟨b, o, e, hb, hc⟩ := h.at' i hi; exact ⟨b, o, e, hF b hb, hc⟩⟩

/-- one round, up to the call of write -/
theorem S1.mid {w : World} {os : List OpD} {p k : Nat} {l : Value} {wr w1 w2 : World} {vs : List OpW} {Fw FL G' : Nat → Prop} (h : S1 w os p k l wr vs Fw FL) (hb1 : Below wr.heap.size wr w1) {o1 o2 : Obj}
    (hG : ∀ j, G' j → wr.heap.size ≤ j ∧ j < w1.heap.size) {v : OpW} (hZ : v.d.K = 7 → Zs w1 G' v.la v.ln v.lc v.d.zs) {l2 : Value}
    (own2 : w2.ownsRow w.heap.size 43 7 l2 (k + 1) ((vs.map cells7).flatten ++ cells7 v)) (grow2 : ((w1.alloc o1).alloc o2).grownBy w2 l.ownBlock) (at2 : l2.ownBlock = l.ownBlock ∨ l2.ownBlock = some ((w1.alloc o1).alloc o2).heap.size) :
    Wr w2 Fw p (tot os k) 0 ∧ (v.d.K = 7 → Zs w2 G' v.la v.ln v.lc v.d.zs) ∧ (∀ j, G' j → ¬ Fw j) ∧ (∀ u ∈ vs, u.d.K = 7 → Zs w2 FL u.la u.ln u.lc u.d.zs) ∧ (∀ g, l2.ownBlock = some g → ¬ Fw g ∧ ¬ FL g ∧ ¬ G' g ∧ g < w2.heap.size) ∧ Below w.heap.size w w2 ∧ w1.heap.size ≤ w2.heap.size := by
  have hk1 : Kept No wr ((w1.alloc o1).alloc o2) := ((Kept.of_below (F := No) hb1).alloc o1).alloc o2
  have hsz : ((w1.alloc o1).alloc o2).heap.size = w1.heap.size + 2 := by simp
  have hk2 : Kept (fun g => l.ownBlock = some g) ((w1.alloc o1).alloc o2) w2 := ⟨grow2.os, grow2.tape, grow2.output, grow2.size, fun j hj hn => grow2.block j hj (fun e => hn e.symm)⟩
  have hs2 := grow2.size
  have hs1 := hb1.size
  have hkw1 : Kept No w1 ((w1.alloc o1).alloc o2) := ((Kept.refl No w1).alloc o1).alloc o2
  have hlt : ∀ g, l.ownBlock = some g → g < wr.heap.size := fun g hg => (h.own.lt g hg).2
  refine ⟨(h.wrt.kept hk1 (fun _ _ h => h)).kept hk2 (fun b hb e => (h.lw b e).1 hb), fun hK => ((hZ hK).kept hkw1 (fun _ _ h => h)).kept hk2 (fun b hb e => by have := hG b hb; have := hlt b e; omega), fun j hj hf => by have := hG j hj; have := h.wrt.flt j hf; omega,
    fun u hu hK => ((h.zs u hu hK).kept hk1 (fun _ _ h => h)).kept hk2 (fun b hb e => (h.lw b e).2 hb), fun g hg => ?_, ?_, by omega⟩
  · have hgl := (own2.lt g hg).2
    rcases at2 with h1 | h1
    · rw [h1] at hg
      have := h.lw g hg
      exact ⟨this.1, this.2, fun hgg => by have := hG g hgg; have := hlt g hg; omega, hgl⟩
    · rw [h1] at hg; injection hg with hg
      exact ⟨fun hf => by have := h.wrt.flt g hf; omega, fun hf => by have := h.ltL g hf; omega, fun hgg => by have := hG g hgg; omega, hgl⟩
  · exact (h.bel.trans (hk1.below0.mono h.bel.size)).trans (hk2.below (fun g hg => (h.own.lt g hg).1) (by rw [hsz]; have := h.bel.size; omega))

/-- one round, whole -/
theorem S1.step {w : World} {os : List OpD} {p k : Nat} {l l2 : Value} {wr w2 w3 : World} {vs : List OpW} {Fw FL G' : Nat → Prop} {v : OpW} {d : OpD} (h : S1 w os p k l wr vs Fw FL) (hd : os[k]? = some d) (hv : v.d = fitD d)
    (hwr : wr.heap.size ≤ w2.heap.size) (own2 : w2.ownsRow w.heap.size 43 7 l2 (k + 1) ((vs.map cells7).flatten ++ cells7 v)) (hZ : v.d.K = 7 → Zs w2 G' v.la v.ln v.lc v.d.zs) (hG : ∀ j, G' j → wr.heap.size ≤ j ∧ j < w2.heap.size)
    (hGF : ∀ j, G' j → ¬ Fw j) (hZs : ∀ u ∈ vs, u.d.K = 7 → Zs w2 FL u.la u.ln u.lc u.d.zs) (hl2 : ∀ g, l2.ownBlock = some g → ¬ Fw g ∧ ¬ FL g ∧ ¬ G' g ∧ g < w2.heap.size) (hbel : Below w.heap.size w w2)
    (hB : v.d.K = 6 → Bs w (fun _ => True) v.ba v.bn v.bc v.d.xs) (hw : WrDid Fw p (tot os (k + 1)) 0 w2 w3) : ∃ vs' Fw' FL', S1 w os p (k + 1) l2 w3 vs' Fw' FL' := by
  obtain ⟨F', hw3, hk, hs⟩ := hw
  have hF : ∀ j, F' j → ¬ (FL j ∨ G' j) := by
    intro j hj hf
    rcases hs j hj with h1 | h1
    · rcases hf with h2 | h2
      · exact h.dis j h2 h1
      · exact hGF j h2 h1
    · rcases hf with h2 | h2
      · have := h.ltL j h2; omega
      · have := (hG j h2).2; omega
  refine ⟨vs ++ [v], F', fun j => FL j ∨ G' j, ?_, hw3, ?_, ?_, ?_, ?_, fun j hj hf => hF j hf hj, ?_, ?_, ?_, hbel.trans (hk.below h.hiW hbel.size)⟩
  · rw [List.map_append, h.ds, List.take_add_one, hd, List.map_append]; simp [hv]
  · rw [List.map_append, List.flatten_append]
    have e : (([v].map cells7).flatten) = cells7 v := by simp
    rw [e]
    exact hk.owns own2 (fun g hg => (hl2 g hg).1)
  · intro g hg
    have h1 := hl2 g hg
    refine ⟨fun hf => ?_, fun hf => by rcases hf with h2 | h2; exact h1.2.1 h2; exact h1.2.2.1 h2⟩
    rcases hs g hf with h2 | h2
    · exact h1.1 h2
    · have := h1.2.2.2; omega
  · intro u hu hK
    rcases List.mem_append.1 hu with h1 | h1
    · exact ((hZs u h1 hK).kept hk (fun b hb => h.dis b hb)).mono (fun j hj => .inl hj)
    · simp at h1; subst h1
      exact ((hZ hK).kept hk (fun b hb => hGF b hb)).mono (fun j hj => .inr hj)
  · intro u hu hK
    rcases List.mem_append.1 hu with h1 | h1
    · exact h.bs u h1 hK
    · simp at h1; subst h1; exact hB hK
  · intro j hj
    rcases hs j hj with h1 | h1
    · exact h.hiW j h1
    · exact Nat.le_trans hbel.size h1
  · intro j hj
    rcases hj with h1 | h1
    · exact h.hiL j h1
    · exact Nat.le_trans h.bel.size (hG j h1).1
  · intro j hj
    rcases hj with h1 | h1
    · exact Nat.lt_of_lt_of_le (h.ltL j h1) (Nat.le_trans hwr hk.size)
    · exact Nat.lt_of_lt_of_le (hG j h1).2 hk.size

theorem cell_seven (w : World) (v : OpW) (o1 : Obj) (t : TypeId) : ∀ j u, (cells7 v)[j]? = some u → ((w.alloc o1).alloc (.cells (cells7 v).toArray t)).cell? ((⟨w.heap.size + 1, 0, none⟩ : Addr).add j) = some u := by
  intro j u hu
  have h := heap_alloc2_new w o1 (.cells (cells7 v).toArray t)
  rw [add_none, Nat.zero_add]
  unfold World.cell?
  simp only [h]
  simpa using hu

end Go.Proofs.Ytakdfpenpodplaa
