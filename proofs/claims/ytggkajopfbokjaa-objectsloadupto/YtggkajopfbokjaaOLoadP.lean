/-
  objects: what Load is handed in; no walk.
-/
import Derived.Test.YtggkajopfbokjaaOState
import Derived.Laws.CopyOwn
namespace Go.Proofs.Ytggkajopfbokjaa
open Go.RowKit
set_option linter.unusedVariables false
set_option maxRecDepth 100000

/-- a state that is read -/
structure Or (w : World) (F : Nat → Prop) (ts te tb : Value) (cs : List Int) (us : List Value) (lvs : List Value) (mss : List (List Value)) (xss : List (List (List Int))) : Prop where
  sems : ∃ a c, ts = .slice a cs.length c ∧ Zs w F a cs.length c cs
  evs : ∃ a c, te = .slice a us.length c ∧ Vs w F a us.length c us
  bufs : ∃ a c, tb = .slice a lvs.length c ∧ Vs w F a lvs.length c lvs
  len1 : mss.length = lvs.length
  len2 : xss.length = lvs.length
  ent : ∀ (i : Nat) (lv : Value) (ms : List Value) (xs : List (List Int)), lvs[i]? = some lv → mss[i]? = some ms → xss[i]? = some xs → (∃ a c, lv = .slice a ms.length c ∧ Vs w F a ms.length c ms) ∧ xs.length = ms.length ∧ ∀ (j : Nat) (v : Value) (x : List Int), ms[j]? = some v → xs[j]? = some x → ∃ a c, v = .slice a x.length c ∧ Zs w F a x.length c x
theorem Or.kept {w w' : World} {F G : Nat → Prop} {ts te tb : Value} {cs : List Int} {us lvs : List Value} {mss : List (List Value)} {xss : List (List (List Int))} (h : Or w F ts te tb cs us lvs mss xss) (K : Kept G w w') (hd : ∀ b, F b → ¬ G b) : Or w' F ts te tb cs us lvs mss xss := by
  refine ⟨?_, ?_, ?_, h.len1, h.len2, fun i lv ms xs h1 h2 h3 => ?_⟩
  · obtain ⟨a, c, e, z⟩ := h.sems
    exact ⟨a, c, e, z.kept K hd⟩
  · obtain ⟨a, c, e, z⟩ := h.evs
    exact ⟨a, c, e, z.kept K hd⟩
  · obtain ⟨a, c, e, z⟩ := h.bufs
    exact ⟨a, c, e, z.kept K hd⟩
  · obtain ⟨⟨a, c, e, z⟩, h4, h5⟩ := h.ent i lv ms xs h1 h2 h3
    exact ⟨⟨a, c, e, z.kept K hd⟩, h4, fun j v x hv hx => by obtain ⟨a, c, e, z⟩ := h5 j v x hv hx; exact ⟨a, c, e, z.kept K hd⟩⟩
theorem Vs.mono {w : World} {F G : Nat → Prop} {a : Option Addr} {n c : Nat} {us : List Value} (h : Vs w F a n c us) (hF : ∀ k, F k → G k) : Vs w G a n c us :=
  ⟨h.len, h.cap, h.max, h.nil, fun i u hu => by obtain ⟨b, o, e, hb, hc⟩ := h.at' i u hu; exact ⟨b, o, e, hF b hb, hc⟩⟩
/-- what State told may be read -/
theorem Told.or {w w' : World} {ts te tb : Value} {S : So} (h : Told w w' ts te tb S) : ∃ lvs mss, lvs.length = S.nb ∧ Or w' (fun k => w.heap.size ≤ k ∧ k < w'.heap.size) ts te tb ((List.range S.ns).map S.cnt) (evL S) lvs mss (xsL S S.nb) := by
  obtain ⟨lvs, mss, h1, h2, h3, h4, h5⟩ := h
  have e1 : cntL S S.ns = ((List.range S.ns).map S.cnt).map iv := by simp [cntL, iv]
  have l1 : ((List.range S.ns).map S.cnt).length = S.ns := by simp
  have l2 : (evL S).length = S.ne := by simp [evL]
  refine ⟨lvs, mss, h4, ?_, ?_, ?_, h3.len1, h3.len2, fun i lv ms xs q1 q2 q3 => ?_⟩
  · rw [e1] at h1
    obtain ⟨a, c, e, z⟩ := Zs.of_owns (xs := (List.range S.ns).map S.cnt) (by rw [l1]; exact h1)
    exact ⟨a, c, e, z.mono (fun k hk => owns_at h1 hk)⟩
  · obtain ⟨a, c, e, z⟩ := Vs.of_owns (us := evL S) (by rw [l2]; exact h2)
    exact ⟨a, c, e, z.mono (fun k hk => owns_at h2 hk)⟩
  · obtain ⟨a, c, e, z⟩ := Vs.of_owns h3.own
    exact ⟨a, c, e, z.mono (fun k hk => owns_at h3.own hk)⟩
  · have L := h3.ent i lv ms xs q1 q2 q3
    refine ⟨?_, L.len, fun j v x hv hx => ?_⟩
    · obtain ⟨a, c, e, z⟩ := Vs.of_owns L.own
      exact ⟨a, c, e, z.mono (fun k hk => owns_at L.own hk)⟩
    · have ho := L.msg j v x hv hx
      obtain ⟨a, c, e, z⟩ := Zs.of_owns ho
      exact ⟨a, c, e, z.mono (fun k hk => owns_at ho hk)⟩

section
variable {w w' : World} {B b : Nat} {sv ev bv : Value} {S : So}
theorem St.base {B' : Nat} (h : St w B b sv ev bv S) (hB : B' ≤ B) : St w B' b sv ev bv S := by
  have rc : ∀ {t k n : Nat} {v : Value} {f : Nat → Nat → Value}, Rc w B t k v n f → Rc w B' t k v n f := fun h => by
    rcases h with h | ⟨g, cap, cs, h1, h2, h3⟩
    · exact .inl h
    · exact .inr ⟨g, cap, cs, h1, by omega, h3⟩
  refine ⟨h.box, by have := h.low; omega, rc h.sems, rc h.evs, rc h.bufs, fun i hi => ?_, h.len, fun i j v x hi hv hx => owns_base (h.msg i j v x hi hv hx) hB, h.far, h.mfar⟩
  rcases h.its i hi with h | ⟨g, o, cap, cs, h1, h2, h3⟩
  · exact .inl h
  · exact .inr ⟨g, o, cap, cs, h1, by omega, h3⟩
/-- the events are others -/
def So.evTo (S : So) (f : Nat → Bool) : So := { S with ev := f }
theorem St.ev_turn (h : St w B b sv ev bv S) (K : Kept (fun k => ev.ownBlock = some k) w w') {f : Nat → Bool} (hr : Rc w' B 4 1 ev S.ne (fun i _ => .bool (f i))) : Did w w' B b sv ev bv S (S.evTo f) := by
  have tag : ∀ k cs t, w.heap[k]? = some (.cells cs t (0, 0)) → t ≠ 4 → ¬ ev.ownBlock = some k := fun k cs t h1 h2 h3 => by
    obtain ⟨_, cs', h4⟩ := h.evs.blk h3
    exact h2 (two_tags h1 h4)
  refine ⟨⟨K.at' h.box (tag _ _ _ h.box (by decide)), h.low, h.sems.kept K (fun k hk => ?_), hr, h.bufs.kept K (fun k hk => ?_), fun j hj => (h.its j hj).kept K (fun k hk => ?_), h.len, fun a c v y ha hv hy => K.owns (h.msg a c v y ha hv hy) (fun k hk => ?_), h.far, h.mfar⟩, K.mono (fun k hk => .inr (.inr (.inl hk))), fun k hk => .inl hk, fun k hk => .inl hk⟩
  · obtain ⟨_, cs, h2⟩ := h.sems.blk hk
    exact tag k _ _ h2 (by decide)
  · obtain ⟨_, cs, h2⟩ := h.bufs.blk hk
    exact tag k _ _ h2 (by decide)
  · obtain ⟨_, cs, h2⟩ := (h.its j hj).blk hk
    exact tag k _ _ h2 (by decide)
  · obtain ⟨_, cs, h2⟩ := owns_blk (h.msg a c v y ha hv hy) hk
    exact tag k _ _ h2 (by decide)
end
theorem setRow_kept (w : World) (g : Nat) (cs : Array Value) : Kept (fun k => k = g) w (w.setRow g cs) :=
  ⟨rfl, rfl, rfl, by simp [World.setRow], fun k hk hn => setRow_other w g k cs (by omega)⟩
/-- 'copy' of n flags onto n flags -/
theorem run_copy_ev {w : World} {B : Nat} {ev : Value} {n : Nat} {g : Nat → Nat → Value} (h : Rc w B 4 1 ev n g) (hne : n ≤ 4095) {F : Nat → Prop} {a : Option Addr} {c : Nat} {us : List Value} {f : Nat → Bool} (hz : Vs w F a n c us) (hf : ∀ i, i < n → us[i]? = some (.bool (f i))) (ty : TypeId) :
    ∃ r w', (Builtin.copy_ #[35, 35] ty #[ev, .slice a n c]).run Try.prog w = .ok r w' ∧ Rc w' B 4 1 ev n (fun i _ => .bool (f i)) ∧ Kept (fun k => ev.ownBlock = some k) w w' := by
  have hsz : (Try.prog.info? 4).map (·.size) = some 1 := by kernel_rfl
  by_cases h0 : n = 0
  · subst h0
    obtain ⟨ea, ec, rfl, _⟩ := h.shape
    refine ⟨_, w, run_copy_none (P := Try.prog) w 35 35 ty 4 ea a 0 ec 0 c Try.underlying35 hsz rfl, h.congr (fun i j hi => by omega), Kept.refl _ _⟩
  · have hlen := hz.len
    obtain ⟨b2, o2, rfl, _, _⟩ := hz.at' 0 _ (hf 0 (by omega))
    rcases h with ⟨_, h⟩ | ⟨q, cap, cur, rfl, hB, hq, hn, hm, hc⟩
    · omega
    · have hcur : n ≤ cur.size := by
        have h1 := hc (n - 1) 0 (by omega) (by omega)
        rw [cell_blk hq] at h1
        obtain ⟨h2, _⟩ := Array.getElem?_eq_some_iff.1 h1
        omega
      have h1 : ∀ u ∈ us, u.oneCell' = true := fun u hu => by
        obtain ⟨i, hi, e⟩ := List.mem_iff_getElem.1 hu
        have h2 := hf i (by omega)
        rw [List.getElem?_eq_getElem hi, e] at h2
        injection h2 with h2
        subst h2
        rfl
      have key := run_copy_row (P := Try.prog) w 35 35 ty 4 q 0 n cap ⟨b2, o2, none⟩ n c cur 4 us Try.underlying35 hsz hq (by rw [hlen]; simp) hz.news (by omega) h1
      refine ⟨_, _, key, .inr ⟨q, cap, _, rfl, hB, setRow_heap w q _ _ _ _ hq, hn, hm, fun i j hi hj => ?_⟩, (setRow_kept w q _).mono (fun k e => by subst e; rfl)⟩
      have hj0 : j = 0 := by omega
      subst hj0
      rw [cell_blk (setRow_heap w q _ _ _ _ hq)]
      simp only [Nat.mul_one, Nat.add_zero, List.take_zero, List.nil_append, List.getElem?_toArray]
      rw [List.getElem?_append_left (by omega)]
      exact hf i hi
/-- the objects, loaded -/
def soFull (n : Nat) (p q : Nat → Int) (ne : Nat) (f : Nat → Bool) (m : Nat) (p' q' : Nat → Int) (it : Nat → Value) (ms : Nat → List Value) (xs : Nat → List (List Int)) : So := { ns := n, cnt := p, mx := q, ne := ne, ev := f, nb := m, it := it, ms := ms, xs := xs, dp := q', sz := p' }
/-- the numbers behind k rounds -/
def ck (cs : List Int) (p : Nat → Int) (k : Nat) : Nat → Int := fun i => if i < k then cs.getD i 0 else p i
theorem ck_succ (cs : List Int) (p : Nat → Int) (k : Nat) : upd (ck cs p k) k (cs.getD k 0) = ck cs p (k + 1) := by
  funext i
  unfold upd ck
  by_cases h : i = k
  · subst h; rw [if_pos rfl, if_pos (by omega)]
  · rw [if_neg h]
    by_cases h2 : i < k
    · rw [if_pos h2, if_pos (by omega)]
    · rw [if_neg h2, if_neg (by omega)]
/-- the messages behind m buffers and j messages of the next -/
def xf (xss : List (List (List Int))) (m j : Nat) : Nat → List (List Int) := fun i => if i < m then xss.getD i [] else if i = m then (xss.getD m []).take j else []
theorem xf_zero (xss : List (List (List Int))) (m : Nat) : xf xss m 0 m = [] := by simp [xf]
theorem xf_at (xss : List (List (List Int))) (m j : Nat) : xf xss m j m = (xss.getD m []).take j := by simp [xf]
theorem xf_more (xss : List (List (List Int))) (m j : Nat) {x : List Int} (hx : (xss.getD m [])[j]? = some x) : upd (xf xss m j) m ((xss.getD m []).take j ++ [x]) = xf xss m (j + 1) := by
  funext i
  unfold upd xf
  by_cases h : i = m
  · subst h
    rw [if_pos rfl, if_neg (by omega), if_pos rfl, List.take_add_one, hx]
    rfl
  · rw [if_neg h, if_neg h, if_neg h]
theorem xf_next (xss : List (List (List Int))) (m j : Nat) (hj : j = (xss.getD m []).length) : xf xss m j = xf xss (m + 1) 0 := by
  funext i
  unfold xf
  by_cases h : i < m
  · rw [if_pos h, if_pos (by omega)]
  · rw [if_neg h]
    by_cases h2 : i = m
    · subst h2
      rw [if_pos rfl, if_pos (by omega), hj, List.take_length]
    · rw [if_neg h2, if_neg (by omega)]
      split <;> simp
theorem xf_start (xss : List (List (List Int))) : xf xss 0 0 = fun _ => [] := by
  funext i
  unfold xf
  rw [if_neg (by omega)]
  split <;> simp
/-- may a state be loaded? -/
def okB (xs : List (List Int)) (sz dp : Int) : Prop := ∀ j, j < xs.length → (j : Int) < dp ∧ ((xs.getD j []).length : Int) = sz
def okL (n ne nb : Nat) (q : Nat → Int) (p' q' : Nat → Int) (cs : List Int) (us lvs : List Value) (xss : List (List (List Int))) : Prop :=
  cs.length = n ∧ us.length = ne ∧ lvs.length = nb ∧ (∀ i, i < n → 0 ≤ cs.getD i 0 ∧ cs.getD i 0 ≤ q i) ∧ ∀ i, i < nb → okB (xss.getD i []) (p' i) (q' i)
end Go.Proofs.Ytggkajopfbokjaa
