/-
  'copy' into a row that is known, the world behind it told by blocks; no dump.
-/
import Derived.Test.YtijeaonldhccmaaDoorHeap
import Derived.Laws.CopyOwn
namespace Go.Proofs.YtijeaonldhccmaaDoor
open Go.RowKit
set_option linter.unusedVariables false

/-- the words behind a write of ds from d on -/
def laid (xs : List Int) (d : Nat) (ds : List Int) : List Int := xs.take d ++ (ds ++ xs.drop (d + ds.length))
theorem laid_length {xs ds : List Int} {d : Nat} (h : d + ds.length ≤ xs.length) : (laid xs d ds).length = xs.length := by simp [laid]; omega
theorem laid_none (xs : List Int) (d : Nat) : laid xs d [] = xs := by simp [laid]
theorem laid_get {xs ds : List Int} {d : Nat} (h : d + ds.length ≤ xs.length) (i : Nat) : (laid xs d ds).getD i 0 = if d ≤ i ∧ i < d + ds.length then ds.getD (i - d) 0 else xs.getD i 0 := by
  unfold laid
  by_cases h1 : i < d
  · rw [if_neg (by omega)]
    simp only [List.getD]
    rw [List.getElem?_append_left (by simp; omega), List.getElem?_take_of_lt h1]
  · by_cases h2 : i < d + ds.length
    · rw [if_pos ⟨by omega, h2⟩]
      simp only [List.getD]
      rw [List.getElem?_append_right (by simp; omega), List.length_take, Nat.min_eq_left (by omega), List.getElem?_append_left (by omega)]
    · rw [if_neg (by omega)]
      simp only [List.getD]
      rw [List.getElem?_append_right (by simp; omega), List.length_take, Nat.min_eq_left (by omega), List.getElem?_append_right (by omega), List.getElem?_drop]
      congr 2; omega

theorem setRow_kept (w : World) (g : Nat) (cs : Array Value) : Kept (fun k => k = g) w (w.setRow g cs) :=
  ⟨rfl, rfl, rfl, by simp [World.setRow], fun k hk hn => setRow_other w g k cs (by omega)⟩

theorem copy_run {P : Program} {w : World} (dT sT ty : TypeId) (elem : TypeId) (hu : P.underlying dT = some (.slice elem)) (hsz : (P.info? elem).map (·.size) = some 1)
    (dp sp : Option Addr) (dLen dCap sLen sCap : Nat)
    (B : Nat) (vm : Value) (xs ys : List Int) (hm : Mm w B vm xs ys) (off : Nat) (ds : List Int) (hn : ds.length = Nat.min sLen dLen)
    (F : Nat → Prop) (hz2 : Zs w F sp sLen sCap ds)
    (hpos : 0 < ds.length → ∃ b cap, vm = .slice (some ⟨b, 0, none⟩) xs.length cap ∧ dp = some ⟨b, off, none⟩)
    (hfit : off + ds.length ≤ xs.length) :
    ∃ w', (Builtin.copy_ #[dT, sT] ty #[.slice dp dLen dCap, .slice sp sLen sCap]).run P w = .ok (goInt ds.length) w' ∧ Hid (Mm w' B vm (laid xs off ds) ys ∧ Kept (fun k => vm.ownBlock = some k) w w') := by
  by_cases h0 : ds.length = 0
  · obtain rfl : ds = [] := List.eq_nil_of_length_eq_zero h0
    refine ⟨w, run_copy_none (P := P) w dT sT ty elem dp sp dLen dCap sLen sCap hu hsz (by simpa using hn.symm), ?_⟩
    exact ⟨by rw [laid_none]; exact hm, Kept.refl _ _⟩
  · obtain ⟨b, cap, rfl, rfl⟩ := hpos (by omega)
    obtain ⟨cap', cur, hv, hg, hB, hnn, hmm, hs', ht⟩ := hm.blk (g := b) rfl
    injection hv with _ _ h3
    subst h3
    obtain ⟨b2, o2, rfl, _, _⟩ := hz2.at' 0 (by have := hz2.len; omega)
    have key := run_copy_row (P := P) w dT sT ty elem b off dLen dCap ⟨b2, o2, none⟩ sLen sCap cur 2 (ds.map iv) hu hsz hg (by rw [List.length_map]; exact hn) hz2.news (by rw [List.length_map]; omega) (iv_one _)
    rw [List.length_map, List.append_assoc] at key
    refine ⟨_, key, ?_, (setRow_kept w b _).mono fun k e => by subst e; rfl⟩
    have hl := laid_length hfit
    have hset := setRow_heap w b _ (cur.toList.take off ++ (ds.map iv ++ cur.toList.drop (off + ds.length))).toArray _ _ hg
    have hc : cur.toList.length = cap := by rw [Array.length_toList]; exact hs'
    have := Mm.mk' (B := B) (xs := laid xs off ds) (ys := ys) (cap := cap) hset hB (by rw [hl]; exact hnn) hmm (by simp; omega) (by
      rw [hl]
      have e1 : (laid xs off ds ++ ys).map iv = ((xs ++ ys).map iv).take off ++ (ds.map iv ++ ((xs ++ ys).map iv).drop (off + ds.length)) := by
        unfold laid
        simp only [List.map_append, List.map_take, List.map_drop, List.append_assoc]
        rw [List.take_append_of_le_length (by simp; omega), List.drop_append_of_le_length (by simp; omega)]
      rw [e1, ← ht]
      apply List.ext_getElem?
      intro i
      simp only [List.getElem?_append, List.getElem?_take, List.getElem?_drop, List.length_take, List.length_map, hc]
      rw [Nat.min_eq_left (show off ≤ cap by omega)]
      rw [Nat.min_eq_left (show off ≤ min (xs.length + ys.length) cap by omega)]
      by_cases h1 : i < off
      · simp [h1]
      · by_cases h2 : i - off < ds.length
        · simp [h1, h2]; omega
        · simp only [h1, h2, if_false]
          by_cases h3 : i < xs.length + ys.length
          · rw [if_pos h3, if_pos (by omega)]
          · rw [if_neg h3, if_neg (by omega)])
    rw [hl] at this
    exact this

end Go.Proofs.YtijeaonldhccmaaDoor
