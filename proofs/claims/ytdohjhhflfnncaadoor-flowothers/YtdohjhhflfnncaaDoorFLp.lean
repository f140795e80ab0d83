/-
  FlowOthers: what it stands on.
-/
import Derived.Test.YtdohjhhflfnncaaDoorFCo
import Derived.Test.YtdohjhhflfnncaaDoorFSn
import Derived.Test.YtdohjhhflfnncaaDoorFWrk
import Derived.Test.YtdohjhhflfnncaaDoorFTrm
namespace Go.Proofs.YtdohjhhflfnncaaDoor
open Go.RowKit
set_option linter.unusedVariables false
set_option maxRecDepth 100000

theorem edG_len (n : Nat) (f : Int) (ts : List Int) : (edG n f ts).length ≤ ts.length := by
  unfold edG
  rw [List.length_map]
  exact List.length_filter_le _ _
theorem partsL_len (ps : List Po) (ts : List Int) : (partsL ps ts).length ≤ ts.length + 1 := by
  unfold partsL
  have h1 := Lib.compact_length_le (sortL (toL ps ts))
  have h2 : (sortL (toL ps ts)).length = (toL ps ts).length := by unfold sortL; simp
  have h3 : (toL ps ts).length ≤ ts.length + 1 := by unfold toL; split <;> simp
  omega
theorem edC_len (n : Nat) (ps : List Po) (x : Ch) : (edC n ps x).length ≤ x.dst.length + 1 := by
  unfold edC
  split
  · exact Nat.le_trans (edG_len _ _ _) (partsL_len _ _)
  · simp
theorem edg_len (n : Nat) (ps : List Po) : ∀ (L : List Ch), (∀ x ∈ L, x.dst.length ≤ 70) → (edg n ps L).length ≤ L.length * 71
  | [], _ => by simp [edg]
  | x :: L, h => by
    have h1 := edg_len n ps L (fun y hy => h y (by simp [hy]))
    have h2 := edC_len n ps x
    have h3 := h x (by simp)
    show (edC n ps x ++ edg n ps L).length ≤ _
    rw [List.length_append, List.length_cons, Nat.succ_mul]
    omega
theorem trmL_dst (L : List Ch) : ∀ x ∈ trmL L, x.dst.length ≤ 70 := by
  intro x hx
  unfold trmL at hx
  obtain ⟨y, _, rfl⟩ := List.mem_map.1 hx
  show (y.dst.take 70).length ≤ 70
  rw [List.length_take]; omega
/-- what trimmed answers may be read -/
theorem trm_rd {w w' : World} {F : Nat → Prop} {a1 a2 : Option Addr} {n1 c1 n2 c2 n0 : Nat} {ps : List Po} {L : List Ch} (hq : Ls 6 elPo w' F a1 n1 c1 ps) (hc : Ls 5 elCh w' (fun k => F k ∨ w.heap.size ≤ k) a2 n2 c2 (trmL L)) (hn : n0 ≤ 40) : Rd w' (fun k => F k ∨ w.heap.size ≤ k) a1 n1 c1 a2 n2 c2 n0 ps (trmL L) := by
  refine ⟨hq.mono (fun k h => .inl h) (fun _ _ h => h), hc, fun x hx => by have := trmL_dst L x hx; omega, by omega, ?_⟩
  have h1 := edg_len n0 ps (trmL L) (trmL_dst L)
  have h2 : (trmL L).length ≤ 70 := by rw [trmL_len]; omega
  have h3 : (trmL L).length * 71 ≤ 70 * 71 := Nat.mul_le_mul_right _ h2
  omega

theorem each_A {F : Nat → Prop} {w : World} {a : Option Addr} {n c : Nat} {xs : List Pn} (h : Ls 21 elPn w F a n c xs) : ∃ AS : List (Array Value), Ls 21 elA w F a n c AS ∧ ∀ (i : Nat) (A : Array Value), AS[i]? = some A → ∃ x ∈ xs, elPn w F A.toList x := by
  have hf : ∀ i, ∃ A : Array Value, i < n → ∃ x b o, xs[i]? = some x ∧ a = some ⟨b, o, none⟩ ∧ F b ∧ w.rangeAt b (o + i * 21) A.toList ∧ A.size = 21 ∧ elPn w F A.toList x := fun i => by
    by_cases hi : i < n
    · obtain ⟨x, hx⟩ : ∃ x, xs[i]? = some x := ⟨_, List.getElem?_eq_getElem (by rw [h.len]; exact hi)⟩
      obtain ⟨b, o, cs, e, hb, hl, hr, hE⟩ := h.at' i x hx
      exact ⟨cs.toArray, fun _ => ⟨x, b, o, hx, e, hb, by simpa using hr, by simpa using hl, by simpa using hE⟩⟩
    · exact ⟨#[], fun h => absurd h hi⟩
  obtain ⟨f, hf⟩ := Classical.axiomOfChoice hf
  have hat : ∀ i A, ((List.range n).map f)[i]? = some A → i < n ∧ A = f i := fun i A hA => by
    rw [List.getElem?_map] at hA
    obtain ⟨k, hk, rfl⟩ := Option.map_eq_some_iff.1 hA
    have hlt := (List.getElem?_eq_some_iff.1 hk).1
    rw [List.length_range] at hlt
    rw [List.getElem?_range hlt] at hk
    injection hk with hk
    exact ⟨hlt, by rw [hk]⟩
  refine ⟨(List.range n).map f, ⟨by simp, h.cap, h.max, h.nil, fun i A hA => ?_⟩, fun i A hA => ?_⟩
  · obtain ⟨hi, rfl⟩ := hat i A hA
    obtain ⟨x, b, o, hx, e, hb, hr, hs, hE⟩ := hf i hi
    refine ⟨b, o, (f i).toList, e, hb, by simpa using hs, hr, rfl, hs, ?_⟩
    obtain ⟨⟨_, _, _, _, _, _, _, _, _, _, _, _, _, _, _, _, _, _, hl, _⟩, _⟩ := hE
    have : f i = (f i).toList.toArray := by simp
    rw [this, hl]
    simp [Value.oneCell']
  · obtain ⟨hi, rfl⟩ := hat i A hA
    obtain ⟨x, b, o, hx, e, hb, hr, hs, hE⟩ := hf i hi
    exact ⟨x, List.mem_of_getElem? hx, hE⟩
theorem rangeAt_two {w : World} {b o : Nat} {l r : List Value} (h1 : w.rangeAt b o l) (h2 : w.rangeAt b (o + l.length) r) : w.rangeAt b o (l ++ r) := fun j v hv => by
  by_cases hj : j < l.length
  · rw [List.getElem?_append_left hj] at hv
    exact h1 j v hv
  · rw [List.getElem?_append_right (by omega)] at hv
    have := h2 _ _ hv
    rw [show o + l.length + (j - l.length) = o + j by omega] at this
    exact this
theorem rangeAt_take {w : World} {b o : Nat} {l : List Value} (h : w.rangeAt b o l) (m : Nat) : w.rangeAt b o (l.take m) := fun j v hv => by
  rw [List.getElem?_take] at hv
  split at hv
  · exact h j v hv
  · cases hv
theorem rangeAt_drop {w : World} {b o : Nat} {l : List Value} (h : w.rangeAt b o l) (m : Nat) : w.rangeAt b (o + m) (l.drop m) := fun j v hv => by
  rw [List.getElem?_drop] at hv
  rw [Nat.add_assoc]
  exact h _ v hv
/-- 'with', the server of another -/
def srv (A W : Array Value) : Array Value := (A.toList.take 4 ++ W.toList.drop 4).toArray
theorem srv_size {A W : Array Value} (h : A.size = 21) (h' : W.size = 21) : (srv A W).size = 21 := by simp [srv, h, h']
theorem srv_one {A W : Array Value} (h : A.all (·.oneCell') = true) (h' : W.all (·.oneCell') = true) : (srv A W).all (·.oneCell') = true := by
  refine Array.all_eq_true_iff_forall_mem.2 fun v hv => ?_
  rw [srv, List.mem_toArray, List.mem_append] at hv
  rcases hv with hv | hv
  · exact Array.all_eq_true_iff_forall_mem.1 h v (by simpa using List.mem_of_mem_take hv)
  · exact Array.all_eq_true_iff_forall_mem.1 h' v (by simpa using List.mem_of_mem_drop hv)
theorem srv_at {A W : Array Value} (h : A.size = 21) {k : Nat} (hk : k < 4) : (srv A W)[k]? = A[k]? := by
  rw [srv, List.getElem?_toArray, List.getElem?_append_left (by simp [h]; omega), List.getElem?_take, if_pos hk, Array.getElem?_toList]
theorem srv_server {F : Nat → Prop} {w : World} {A W : Array Value} {x : Pn} (h : elPn w F A.toList x) (hA : A.size = 21) : Calls Tryd.prog 24 #[.agg A, .agg (srv A W)] w fun e w' => e = .returned (.bool true) ∧ Kept No w w' := by
  obtain ⟨⟨c0, m0, d0, c1, m1, d1, c2, m2, d2, c3, m3, d3, c4, m4, d4, c5, m5, d5, hl, _⟩, _⟩ := h
  have g := arr_at hl
  exact server_yes w (g 0) (g 1) (g 2) (g 3) ((srv_at hA (by omega)).trans (g 0)) ((srv_at hA (by omega)).trans (g 1)) ((srv_at hA (by omega)).trans (g 2)) ((srv_at hA (by omega)).trans (g 3))
theorem srv_serverr {F : Nat → Prop} {w : World} {A W : Array Value} {x : Pn} (h : elPn w F A.toList x) (hA : A.size = 21) : Calls Tryd.prog 24 #[.agg (srv A W), .agg A] w fun e w' => e = .returned (.bool true) ∧ Kept No w w' := by
  obtain ⟨⟨c0, m0, d0, c1, m1, d1, c2, m2, d2, c3, m3, d3, c4, m4, d4, c5, m5, d5, hl, _⟩, _⟩ := h
  have g := arr_at hl
  exact server_yes w ((srv_at hA (by omega)).trans (g 0)) ((srv_at hA (by omega)).trans (g 1)) ((srv_at hA (by omega)).trans (g 2)) ((srv_at hA (by omega)).trans (g 3)) (g 0) (g 1) (g 2) (g 3)
theorem Tw.self {F : Nat → Prop} {w : World} {A : Array Value} {x : Pn} (h : elPn w F A.toList x) (hA : A.size = 21) : Tw w F A A x := ⟨hA, hA, h, fun _ _ => rfl⟩
/-- the image against itself -/
theorem Pp.self {F : Nat → Prop} {w : World} {a : Option Addr} {n c : Nat} {AS : List (Array Value)} (h : Ls 21 elA w F a n c AS) (he : ∀ (i : Nat) (A : Array Value), AS[i]? = some A → ∃ x, elPn w F A.toList x) : Pp w F F a c a c n AS AS :=
  ⟨h, h, fun i A B hA hB W K => by
    rw [hA] at hB
    injection hB with hB
    subst hB
    obtain ⟨x, hx⟩ := he i A hA
    obtain ⟨b, o, cs, _, _, _, _, ⟨_, hs, _⟩⟩ := h.at' i A hA
    exact (Tw.self (elPn_kept K (fun _ _ h => h) _ _ hx) hs).server⟩
end Go.Proofs.YtdohjhhflfnncaaDoor
