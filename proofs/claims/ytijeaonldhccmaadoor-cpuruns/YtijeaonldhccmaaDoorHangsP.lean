/-
  'CpuHangs': plain; new rows.
-/
import Derived.Test.YtijeaonldhccmaaDoorKeeps
import Derived.Test.YtijeaonldhccmaaDoorCodeRow
import Derived.OwnWalk
namespace Go.Proofs.YtijeaonldhccmaaDoor
open Go.RowKit
set_option linter.unusedVariables false

theorem infoI : (Tryd.prog.info? 30).map (fun i => (i.zero, i.size, i.bytes)) = some (some (.agg #[.int .u8 0, .int .u8 0, .int .u8 0, .int .u8 0, .int .i32 0]), 5, 8) := by kernel_rfl
theorem infoW : (Tryd.prog.info? 2).map (fun i => (i.zero, i.size, i.bytes)) = some (some (.int .i64 0), 1, 8) := by kernel_rfl
theorem new_five (w : World) (x : Ins) : ∀ j u, (ic x)[j]? = some u → (w.alloc (.cells #[.int .u8 x.o, .int .u8 x.a, .int .u8 x.b, .int .u8 x.c, .int .i32 x.n] 30)).cell? ((⟨w.heap.size, 0, none⟩ : Addr).add j) = some u := by
  intro j u hj
  rw [add_none, Nat.zero_add]
  refine (cell_of_row _ _ _ _ _ _ (heap_alloc_last w _)).trans ?_
  simpa [ic] using hj
theorem ic_one (x : Ins) : ∀ u ∈ ic x, u.oneCell' = true := by
  intro u hu; simp [ic] at hu; rcases hu with rfl | rfl | rfl | rfl | rfl <;> rfl

/-- the code with all other instructions made others -/
def mixI (xs ys : List Ins) (pc : Int) (i : Nat) : Ins := if (i : Int) ≠ pc ∧ i < ys.length then ys.getD i ins0 else xs.getD i ins0
def mixC (xs ys : List Ins) (pc : Int) (k : Nat) : List Ins := (List.range k).map (mixI xs ys pc)
theorem mixC_succ (xs ys : List Ins) (pc : Int) (k : Nat) : mixC xs ys pc (k + 1) = mixC xs ys pc k ++ [mixI xs ys pc k] := by unfold mixC; rw [List.range_succ, List.map_append]; rfl
theorem mixC_length (xs ys : List Ins) (pc : Int) (k : Nat) : (mixC xs ys pc k).length = k := by simp [mixC]
theorem mixC_ok {xs ys : List Ins} {pc : Int} (hx : ∀ i, i < xs.length → (xs.getD i ins0).ok) (hy : ∀ i, i < ys.length → (ys.getD i ins0).ok) (k : Nat) (hk : k ≤ xs.length) : ∀ x ∈ mixC xs ys pc k, x.ok := by
  intro x h
  unfold mixC at h
  rw [List.mem_map] at h
  obtain ⟨i, hi, rfl⟩ := h
  rw [List.mem_range] at hi
  unfold mixI
  split
  · rename_i h; exact hy i h.2
  · exact hx i (by omega)
def mixW1 (ms zs : List Int) (rd : Int) (i : Nat) : Int := if (i : Int) ≠ rd ∧ i < zs.length then zs.getD i 0 else ms.getD i 0
def mixW (ms zs : List Int) (rd : Int) (k : Nat) : List Int := (List.range k).map (mixW1 ms zs rd)
theorem mixW_succ (ms zs : List Int) (rd : Int) (k : Nat) : mixW ms zs rd (k + 1) = mixW ms zs rd k ++ [mixW1 ms zs rd k] := by unfold mixW; rw [List.range_succ, List.map_append]; rfl
theorem mixW_length (ms zs : List Int) (rd : Int) (k : Nat) : (mixW ms zs rd k).length = k := by simp [mixW]

/-- the word that is read -/
def rdA (xs : List Ins) (R : Nat → Int) (pc : Int) : Int :=
  if 0 ≤ pc ∧ pc < xs.length ∧ (xs.getD pc.toNat ins0).o = 5 ∧ (xs.getD pc.toNat ins0).b < 16 then wrap64 (R (xs.getD pc.toNat ins0).b + (xs.getD pc.toNat ins0).n) else -1

theorem mmVal_mix (ms zs : List Int) (A : Int) : mmVal (mixW ms zs A ms.length) A = mmVal ms A := by
  unfold mmVal
  rw [mixW_length]
  split
  · rename_i h
    have h2 := wi_iff.1 h
    unfold mixW
    have hl : A.toNat < ms.length := by omega
    have e : ((List.range ms.length).map (mixW1 ms zs A)).getD A.toNat 0 = mixW1 ms zs A A.toNat := by simp [List.getD, hl]
    rw [e]
    unfold mixW1
    rw [if_neg (by rw [Int.toNat_of_nonneg (by omega)]; simp)]
  · rfl

theorem doE_mem {n o a b c : Nat} {N : Int} {ms ms' : List Int} {fx : Int} {R : Nat → Int} {pc : Int} (hl : ms'.length = ms.length) (h5 : o = 5 → mmVal ms' (wrap64 (R b + N)) = mmVal ms (wrap64 (R b + N))) :
    doE n ⟨o, a, b, c, N⟩ ms' fx R pc = doE n ⟨o, a, b, c, N⟩ ms fx R pc := by
  unfold doE
  rw [hl]
  by_cases ho : o = 5
  · rw [h5 ho]
  · dsimp only
    rw [if_neg ho, if_neg ho]

theorem stepE_mix (xs ys : List Ins) (ms zs : List Int) (fx : Int) (R : Nat → Int) (pc : Int) :
    stepE (mixC xs ys pc xs.length) (mixW ms zs (rdA xs R pc) ms.length) fx R pc = stepE xs ms fx R pc := by
  unfold stepE
  rw [mixC_length]
  by_cases h : 0 ≤ pc ∧ pc < xs.length
  · rw [if_pos h, if_pos h]
    have hl : pc.toNat < xs.length := by omega
    have e : (mixC xs ys pc xs.length).getD pc.toNat ins0 = xs.getD pc.toNat ins0 := by
      have : ((List.range xs.length).map (mixI xs ys pc)).getD pc.toNat ins0 = mixI xs ys pc pc.toNat := by simp [List.getD, hl]
      unfold mixC
      rw [this]
      unfold mixI
      rw [if_neg (by rw [Int.toNat_of_nonneg h.1]; simp)]
    rw [e]
    have hrd : rdA xs R pc = if (xs.getD pc.toNat ins0).o = 5 ∧ (xs.getD pc.toNat ins0).b < 16 then wrap64 (R (xs.getD pc.toNat ins0).b + (xs.getD pc.toNat ins0).n) else -1 := by
      unfold rdA
      simp [h.1, h.2]
    generalize rdA xs R pc = A at hrd ⊢
    generalize xs.getD pc.toNat ins0 = x at hrd ⊢
    unfold opE
    cases hlg : x.lg with
    | false => rfl
    | true =>
      rw [if_pos rfl, if_pos rfl]
      obtain ⟨o, a, b, c, N⟩ := x
      have hf := lg_fields hlg
      refine doE_mem (mixW_length _ _ _ _) ?_
      intro h5
      subst h5
      rw [if_pos ⟨rfl, hf.2.2.2.1⟩] at hrd
      dsimp only at hrd
      rw [← hrd]
      exact mmVal_mix ms zs A
  · rw [if_neg h, if_neg h]

end Go.Proofs.YtijeaonldhccmaaDoor
