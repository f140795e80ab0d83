/-
  A list with a mark behind it: append(append([]T{}, l...), mark): no walk.
-/
import Derived.Test.YtggkajopfbokjaaOShort
namespace Go.Proofs.Ytggkajopfbokjaa
open Go.RowKit
set_option linter.unusedVariables false
set_option maxRecDepth 100000

/-- a list of n things of k cells, a mark behind it in its own memory -/
def Rw (w : World) (B : Nat) (t : TypeId) (k : Nat) (v : Value) (n : Nat) (xs mk : List Value) : Prop :=
  ∃ g c, v = .slice (some ⟨g, 0, none⟩) n c ∧ n + 1 ≤ c ∧ c ≤ 9223372036854775807 ∧ w.ownsRow B t k (.slice (some ⟨g, 0, none⟩) (n + 1) c) (n + 1) (xs ++ mk)
theorem Rw.kept {w w' : World} {F : Nat → Prop} {B : Nat} {t : TypeId} {k : Nat} {v : Value} {n : Nat} {xs mk : List Value} (h : Rw w B t k v n xs mk) (K : Kept F w w') (hF : ∀ g, v.ownBlock = some g → ¬ F g) : Rw w' B t k v n xs mk := by
  obtain ⟨g, c, rfl, h1, h2, h3⟩ := h
  exact ⟨g, c, rfl, h1, h2, K.owns h3 hF⟩
theorem Rw.blk {w : World} {B : Nat} {t : TypeId} {k : Nat} {v : Value} {n : Nat} {xs mk : List Value} (h : Rw w B t k v n xs mk) {g : Nat} (hg : v.ownBlock = some g) : B ≤ g ∧ ∃ cs, w.heap[g]? = some (.cells cs t (0, 0)) := by
  obtain ⟨g', c, rfl, h1, h2, h3⟩ := h
  exact owns_blk h3 hg
section
variable {P : Program} {w : World}
/-- things that are read: n of k cells -/
structure Vk (w : World) (F : Nat → Prop) (a : Option Addr) (n c k : Nat) (us : List Value) : Prop where
  len : us.length = n * k
  cap : n ≤ c
  max : c ≤ 9223372036854775807
  nil : a = none → c = 0
  news : ∀ ad, a = some ad → ∀ (i : Nat) u, us[i]? = some u → F ad.block ∧ w.cell? (ad.add i) = some u
theorem Vk.kept {w' : World} {F G : Nat → Prop} {a : Option Addr} {n c k : Nat} {us : List Value} (h : Vk w F a n c k us) (K : Kept G w w') (hd : ∀ b, F b → ¬ G b) : Vk w' F a n c k us :=
  ⟨h.len, h.cap, h.max, h.nil, fun ad ha i u hu => by obtain ⟨h1, h2⟩ := h.news ad ha i u hu; exact ⟨h1, K.cell h2 (by rw [show (ad.add i).block = ad.block by unfold Addr.add; split <;> rfl]; exact hd _ h1)⟩⟩
/-- the first append: onto a list of nothing in a block of its own -/
theorem ap1 {F : Nat → Prop} {B : Nat} (t ty e : TypeId) (z : Value) (k bytes : Nat) (ht : P.underlying t = some (.slice e)) (hi : (P.info? e).map (fun i => (i.zero, i.size, i.bytes)) = some (some z, k, bytes)) (hzs : z.cells.size = k) (hk : 0 < k) {g : Nat} (hg : w.heap[g]? = some (.cells #[] e)) (hB : B ≤ g)
    {a : Option Addr} {n c : Nat} {us : List Value} (hv : Vk w F a n c k us) (h1 : ∀ u ∈ us, u.oneCell' = true) (hn : n * bytes ≤ 140737488355328) :
    ∃ v' w', (Builtin.append_ #[t, t] ty #[.slice (some ⟨g, 0, none⟩) 0 0, .slice a n c]).run P w = .ok v' w' ∧ w'.ownsRow B e k v' n us ∧ Kept (fun j => j = g) w w' ∧ (∃ a' c', v' = .slice (some a') n c') := by
  obtain ⟨i0, hi, hz0, hz1, hz2⟩ := info_parts hi
  have own0 : w.ownsRow B e k (.slice (some ⟨g, 0, none⟩) 0 0) 0 [] := ⟨by simp, .inr ⟨g, 0, #[], rfl, hB, hg, Nat.le_refl _, by unfold maxLen; omega, by simp, by simp⟩⟩
  have hgl := heap_lt hg
  cases a with
  | none =>
    have hc0 := hv.nil rfl
    have hn0 : n = 0 := by have := hv.cap; omega
    have hu : us = [] := List.eq_nil_of_length_eq_zero (by rw [hv.len, hn0]; simp)
    subst hc0 hn0 hu
    refine ⟨_, w, ?_, own0, Kept.refl _ _, _, _, rfl⟩
    simp [Builtin.append_, run_underlying ht, sizeOf, typeInfo, hi, Builtin.lenOf, Builtin.firstCells, loadCells, loadCellsFrom, storeCells]
  | some ad =>
    have hcp := hv.cap
    have hmx := hv.max
    obtain ⟨v', w', hr, ho, hgr, hnil, hl⟩ := run_append_own_at (P := P) w B t ty e i0 z k bytes ht hi hz0 hz1 hz2 hzs hk (.slice (some ⟨g, 0, none⟩) 0 0) 0 [] own0 ad n c us hv.len (fun j u hu => (hv.news ad rfl j u hu).2) h1 (by unfold maxLen; omega) (by rw [Nat.zero_add]; exact hn) (by omega)
    rw [Nat.zero_add, List.nil_append] at ho
    refine ⟨v', w', hr, ho, (Kept.refl (fun j => j = g) w).grown hgr (fun j e => .inl (by simp [Value.ownBlock] at e; exact e.symm)), ?_⟩
    obtain ⟨_, ⟨h2, _⟩ | ⟨g2, cap2, cur2, h2, _⟩⟩ := ho
    · exact absurd (hnil.1 h2).1 (by simp)
    · exact ⟨_, _, h2⟩
/-- the second: the mark -/
theorem ap2 {B : Nat} (t ty e : TypeId) (z : Value) (k bytes : Nat) (ht : P.underlying t = some (.slice e)) (hi : (P.info? e).map (fun i => (i.zero, i.size, i.bytes)) = some (some z, k, bytes)) (hzs : z.cells.size = k) (hk : 0 < k) {v : Value} {n : Nat} {us : List Value} (hv : w.ownsRow B e k v n us) (hB : B ≤ w.heap.size)
    {h : Nat} {mk : Array Value} (hm : w.heap[h]? = some (.cells mk e)) (hml : mk.size = k) (h1 : ∀ u ∈ mk.toList, u.oneCell' = true) (h63 : n + 1 ≤ maxLen) (hn : (n + 1) * bytes ≤ 140737488355328) :
    ∃ g c w', (Builtin.append_ #[t, t] ty #[v, .slice (some ⟨h, 0, none⟩) 1 1]).run P w = .ok (.slice (some ⟨g, 0, none⟩) (n + 1) c) w' ∧ Rw w' B e k (.slice (some ⟨g, 0, none⟩) n c) n us mk.toList ∧ Kept (fun j => v.ownBlock = some j) w w' ∧ n + 1 ≤ c ∧ c ≤ 9223372036854775807 := by
  obtain ⟨i0, hi, hz0, hz1, hz2⟩ := info_parts hi
  obtain ⟨v', w', hr, ho, hgr, _, _⟩ := run_append_own_at (P := P) w B t ty e i0 z k bytes ht hi hz0 hz1 hz2 hzs hk v n us hv ⟨h, 0, none⟩ 1 1 mk.toList (by simp [hml]) (fun j u hu => by
    rw [add_none, Nat.zero_add, cell_blk hm]
    simpa using hu) h1 h63 hn hB
  have ho2 := ho
  obtain ⟨_, ⟨_, h2⟩ | ⟨g, c, cur, rfl, _, _, h3, h4, _⟩⟩ := ho
  · omega
  · unfold maxLen at h4
    exact ⟨g, c, w', hr, ⟨g, c, rfl, h3, h4, ho2⟩, (Kept.refl (fun j => v.ownBlock = some j) w).grown hgr (fun j e => .inl e), h3, h4⟩
/-- what the three orders end with -/
def FinR (wd X : World) (B : Nat) (e : TypeId) (k : Nat) (g n c : Nat) (us mk : List Value) : Prop := Rw X B e k (.slice (some ⟨g, 0, none⟩) n c) n us mk ∧ Kept No wd X ∧ n + 1 ≤ c ∧ c ≤ 9223372036854775807
theorem ord3 {F : Nat → Prop} {B : Nat} (wd : World) (t ty e : TypeId) (z : Value) (k bytes : Nat) (ht : P.underlying t = some (.slice e)) (hi : (P.info? e).map (fun i => (i.zero, i.size, i.bytes)) = some (some z, k, bytes)) (hzs : z.cells.size = k) (hk : 0 < k)
    {a : Option Addr} {n c : Nat} {us : List Value} (hv : Vk wd F a n c k us) (h1 : ∀ u ∈ us, u.oneCell' = true) (hn : (n + 1) * bytes ≤ 140737488355328) (h63 : n + 1 ≤ maxLen) (hB : B ≤ wd.heap.size) {mk : Array Value} (hml : mk.size = k) (hm1 : ∀ u ∈ mk.toList, u.oneCell' = true) :
    (∃ v8 X2 g c' X4, (Builtin.append_ #[t, t] ty #[.slice (some ⟨wd.heap.size, 0, none⟩) 0 0, .slice a n c]).run P (wd.alloc (.cells #[] e)) = .ok v8 X2 ∧ Kept No wd X2 ∧ (Builtin.append_ #[t, t] ty #[v8, .slice (some ⟨X2.heap.size, 0, none⟩) 1 1]).run P (X2.alloc (.cells mk e)) = .ok (.slice (some ⟨g, 0, none⟩) (n + 1) c') X4 ∧ FinR wd X4 B e k g n c' us mk.toList) ∧
    (∃ v8 X3 g c' X4, (Builtin.append_ #[t, t] ty #[.slice (some ⟨wd.heap.size, 0, none⟩) 0 0, .slice a n c]).run P ((wd.alloc (.cells #[] e)).alloc (.cells mk e)) = .ok v8 X3 ∧ Kept No wd X3 ∧ (Builtin.append_ #[t, t] ty #[v8, .slice (some ⟨(wd.alloc (.cells #[] e)).heap.size, 0, none⟩) 1 1]).run P X3 = .ok (.slice (some ⟨g, 0, none⟩) (n + 1) c') X4 ∧ FinR wd X4 B e k g n c' us mk.toList) ∧
    (∃ v8 X3 g c' X4, (Builtin.append_ #[t, t] ty #[.slice (some ⟨(wd.alloc (.cells mk e)).heap.size, 0, none⟩) 0 0, .slice a n c]).run P ((wd.alloc (.cells mk e)).alloc (.cells #[] e)) = .ok v8 X3 ∧ Kept No wd X3 ∧ (Builtin.append_ #[t, t] ty #[v8, .slice (some ⟨wd.heap.size, 0, none⟩) 1 1]).run P X3 = .ok (.slice (some ⟨g, 0, none⟩) (n + 1) c') X4 ∧ FinR wd X4 B e k g n c' us mk.toList) := by
  have hn1 : n * bytes ≤ 140737488355328 := Nat.le_trans (Nat.mul_le_mul_right _ (by omega)) hn
  have ownKept : ∀ {X X' : World} {v8 : Value}, Kept No wd X → X.ownsRow wd.heap.size e k v8 n us → Kept (fun j => v8.ownBlock = some j) X X' → Kept No wd X' := fun k1 ho k2 => k1.trans k2 (fun j ej => .inr (owns_blk ho ej).1)
  refine ⟨?_, ?_, ?_⟩
  · have k1 : Kept No wd (wd.alloc (.cells #[] e)) := (Kept.refl No wd).alloc _
    obtain ⟨v8, X2, r8, o8, k8, _⟩ := ap1 (P := P) (w := wd.alloc (.cells #[] e)) (B := wd.heap.size) t ty e z k bytes ht hi hzs hk (alloc_new wd _) (Nat.le_refl _) (hv.kept k1 (fun _ _ e => e)) h1 hn1
    have k2 : Kept No wd X2 := k1.trans k8 (fun j ej => .inr (by omega))
    obtain ⟨g, c', X4, r11, rw4, k11, h3, h4⟩ := ap2 (P := P) (w := X2.alloc (.cells mk e)) (B := wd.heap.size) t ty e z k bytes ht hi hzs hk (o8.alloc _) (by have := k2.size; rw [World.size_alloc]; omega) (alloc_new X2 _) hml hm1 h63 hn
    obtain ⟨g', c2, e1, q1, q2, q3⟩ := rw4
    exact ⟨v8, X2, g, c', X4, r8, k2, r11, ⟨g', c2, e1, q1, q2, owns_base q3 hB⟩, ownKept (k2.alloc _) (o8.alloc _) k11, h3, h4⟩
  · have k1 : Kept No wd ((wd.alloc (.cells #[] e)).alloc (.cells mk e)) := ((Kept.refl No wd).alloc _).alloc _
    have hs1 : (wd.alloc (.cells #[] e)).heap.size = wd.heap.size + 1 := World.size_alloc _ _
    obtain ⟨v8, X3, r8, o8, k8, _⟩ := ap1 (P := P) (w := (wd.alloc (.cells #[] e)).alloc (.cells mk e)) (B := wd.heap.size) (g := wd.heap.size) t ty e z k bytes ht hi hzs hk (((Kept.refl No _).alloc _).at' (alloc_new wd _) (fun e => e)) (Nat.le_refl _) (hv.kept k1 (fun _ _ e => e)) h1 hn1
    have k2 : Kept No wd X3 := k1.trans k8 (fun j ej => .inr (by omega))
    obtain ⟨g, c', X4, r11, rw4, k11, h3, h4⟩ := ap2 (P := P) (w := X3) (B := wd.heap.size) t ty e z k bytes ht hi hzs hk o8 k2.size (k8.at' (alloc_new (wd.alloc (.cells #[] e)) (.cells mk e)) (by omega)) hml hm1 h63 hn
    obtain ⟨g', c2, e1, q1, q2, q3⟩ := rw4
    exact ⟨v8, X3, g, c', X4, r8, k2, r11, ⟨g', c2, e1, q1, q2, owns_base q3 hB⟩, ownKept k2 o8 k11, h3, h4⟩
  · have k1 : Kept No wd ((wd.alloc (.cells mk e)).alloc (.cells #[] e)) := ((Kept.refl No wd).alloc _).alloc _
    have hs1 : (wd.alloc (.cells mk e)).heap.size = wd.heap.size + 1 := World.size_alloc _ _
    obtain ⟨v8, X3, r8, o8, k8, _⟩ := ap1 (P := P) (w := (wd.alloc (.cells mk e)).alloc (.cells #[] e)) (B := wd.heap.size) t ty e z k bytes ht hi hzs hk (alloc_new _ _) (by omega) (hv.kept k1 (fun _ _ e => e)) h1 hn1
    have k2 : Kept No wd X3 := k1.trans k8 (fun j ej => .inr (by omega))
    obtain ⟨g, c', X4, r11, rw4, k11, h3, h4⟩ := ap2 (P := P) (w := X3) (B := wd.heap.size) (h := wd.heap.size) t ty e z k bytes ht hi hzs hk o8 k2.size (k8.at' (((Kept.refl No _).alloc _).at' (alloc_new wd _) (fun e => e)) (by omega)) hml hm1 h63 hn
    obtain ⟨g', c2, e1, q1, q2, q3⟩ := rw4
    exact ⟨v8, X3, g, c', X4, r8, k2, r11, ⟨g', c2, e1, q1, q2, owns_base q3 hB⟩, ownKept k2 o8 k11, h3, h4⟩
end
end Go.Proofs.Ytggkajopfbokjaa
