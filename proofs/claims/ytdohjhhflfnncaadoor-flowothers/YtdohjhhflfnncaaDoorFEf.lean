/-
  slices.EqualFunc of partitions; sameChannel, EqualFunc of channels; sameFrame.
-/
import Derived.Test.YtdohjhhflfnncaaDoorFSm
import Derived.Laws.Tables
import Derived.Deep.MidRow
namespace Go.Proofs.YtdohjhhflfnncaaDoor
open Go.RowKit
set_option linter.unusedVariables false
set_option maxRecDepth 100000

def Z21 : Array Value := #[.int .i64 0, .int .i64 0, .int .i64 0, .int .i64 0, .int .i64 0, .int .i64 0, .slice none 0 0, .slice none 0 0, .slice none 0 0, .int .i64 0, .int .i64 0, .int .i64 0, .int .i64 0, .int .i64 0, .int .i64 0, .int .i64 0, .int .i64 0, .int .i64 0, .slice none 0 0, .slice none 0 0, .slice none 0 0]
theorem er_ldX {w : World} {a : Act} {o : Oper} (t : TypeId) (x : Operand) (ho : o.op = .load t x) (pv v : Value) (hx : a.eval x = pv) (hr : (Instr.loadAt t pv).run Tryd.prog w = .ok v w) : (execOp a.eval o).run Tryd.prog w = .ok (.value v) w := by
  simp only [execOp, ho, hx, Sem.run_bind, hr]; rfl
theorem er_alP {w : World} {a : Act} {o : Oper} (ho : o.op = .alloc 37) : (execOp a.eval o).run Tryd.prog w = .ok (.value (.pointer (some ⟨w.heap.size, 0, none⟩))) (w.alloc (.cells Z21 37)) := by
  simp only [execOp, ho]
  simp [go_sem]
  rfl
theorem Kept.setRow {F : Nat → Prop} {a w : World} (h : Kept F a w) {g : Nat} (hg : F g ∨ a.heap.size ≤ g) (cs : Array Value) : Kept F a (w.setRow g cs) :=
  h.trans (show Kept (fun k => k = g) w (w.setRow g cs) from ⟨rfl, rfl, rfl, by simp [World.setRow], fun k _ hk => setRow_other w g k cs hk⟩) (fun k e => by subst e; exact hg)
/-- a partition's cells, whatever they are -/
structure elA (w : World) (F : Nat → Prop) (cs : List Value) (A : Array Value) : Prop where
  eq : cs = A.toList
  sz : A.size = 21
  one : A.all (·.oneCell') = true
theorem elA_kept {G : Nat → Prop} {w w' : World} {F : Nat → Prop} (k : Kept G w w') (hd : ∀ b, F b → ¬ G b) : ∀ cs x, elA w F cs x → elA w' F cs x := fun _ _ h => ⟨h.eq, h.sz, h.one⟩
theorem ldA {w : World} {b o : Nat} {A : Array Value} (h : w.rangeAt b o A.toList) (hl : A.size = 21) : (Instr.loadAt 37 (.pointer (some ⟨b, o, none⟩))).run Tryd.prog w = .ok (.agg A) w := by
  have := run_loadAt_mid (P := Tryd.prog) w b o 37 A.toList _ h Tryd.underlying37 rfl (by rw [Array.length_toList, hl]; kernel_rfl)
  rw [Array.toArray_toList] at this
  exact this

set_option maxHeartbeats 8000000 in
theorem eqParts_yes {F G : Nat → Prop} {a a' : Option Addr} {n c c' : Nat} {AS BS : List (Array Value)} (w : World) (h : Ls 21 elA w F a n c AS) (h' : Ls 21 elA w G a' n c' BS) (hn : n ≤ 1000000)
    (hs : ∀ (i : Nat) (A B : Array Value), AS[i]? = some A → BS[i]? = some B → ∀ W, Kept No w W → Calls Tryd.prog 24 #[.agg A, .agg B] W fun e W' => e = .returned (.bool true) ∧ Kept No W W') :
    Calls Tryd.prog 23 #[.slice a n c, .slice a' n c', .func (.func 24) #[] #[]] w fun e w' => e = .returned (.bool true) ∧ Kept No w w' := by
  have HH : Hid (Ls 21 elA w F a n c AS ∧ Ls 21 elA w G a' n c' BS ∧ AS.length = n ∧ BS.length = n) := ⟨h, h', h.len, h'.len⟩
  have HS := hid hs
  have hcap := h.cap
  have hmax := h.max
  have hcap' := h'.cap
  have hmax' := h'.max
  clear h h' hs
  go_enter Tryd.func23, Tryd.ntmps23
  go_wp2
  go_loopw [17] (fun y wr => ∃ i : Nat, y = .int .i64 i ∧ i ≤ n ∧ Kept No w wr) (fun y _ => n - (intOf y).toNat)
  case atStart => exact ⟨0, rfl, Nat.zero_le _, Kept.refl _ _⟩
  case round =>
    obtain ⟨i, rfl, hi, hk⟩ := hrel
    by_cases hlt : i < n
    · have hiz : (i : Int) < (n : Int) := by omega
      obtain ⟨A, hA⟩ : ∃ A, AS[i]? = some A := ⟨_, List.getElem?_eq_getElem (by rw [HH.out.2.2.1]; exact hlt)⟩
      obtain ⟨B, hB⟩ : ∃ B, BS[i]? = some B := ⟨_, List.getElem?_eq_getElem (by rw [HH.out.2.2.2]; exact hlt)⟩
      obtain ⟨b, o, cs, rfl, _, _, hr, ⟨rfl, hsz, hall⟩⟩ := HH.out.1.at' i A hA
      obtain ⟨b', o', cs', rfl, _, _, hr', ⟨rfl, hsz', hall'⟩⟩ := HH.out.2.1.at' i B hB
      have LA : Hid ((Instr.loadAt 37 (.pointer (some ⟨b, o + i * 21, none⟩))).run Tryd.prog wr = .ok (.agg A) wr) := ldA (rangeAt_kept hr hk (fun h => h)) hsz
      have kA : Kept No wr ((wr.alloc (.cells Z21 37)).setRow wr.heap.size A) := ((Kept.refl No wr).alloc _).setRow (.inr (Nat.le_refl _)) _
      have bA : ((wr.alloc (.cells Z21 37)).setRow wr.heap.size A).heap[wr.heap.size]? = some (.cells A 37) := setRow_heap _ _ Z21 _ _ (0, 0) (alloc_new wr _)
      have HR : Hid (Kept No w wr ∧ Kept No wr ((wr.alloc (.cells Z21 37)).setRow wr.heap.size A) ∧ ((wr.alloc (.cells Z21 37)).setRow wr.heap.size A).heap[wr.heap.size]? = some (.cells A 37) ∧ A.size = 21 ∧ B.size = 21 ∧ A.all (·.oneCell') = true ∧ B.all (·.oneCell') = true ∧ w.rangeAt b' (o' + i * 21) B.toList ∧ AS[i]? = some A ∧ BS[i]? = some B) := ⟨hk, kA, bA, hsz, hsz', hall, hall', hr', hA, hB⟩
      clear hk kA bA hsz hsz' hall hall' hr hr' hA hB
      go_upto_region 6 with (first
        | (refine l_take 21 rfl rfl (er_ldX 37 (.tmp 20) rfl (.pointer (some ⟨b, o + i * 21, none⟩)) (.agg A) rfl LA.out) ?_)
        | (refine l_make 8 rfl rfl (er_alP rfl) ?_)
        | (refine wpList_store_row rfl 37 (.tmp 8) (.tmp 21) rfl wr.heap.size A rfl rfl _ Z21 (alloc_new wr _) (by rw [HR.out.2.2.2.1]; exact Tryd.infoPt) (by rw [HR.out.2.2.2.1]; rfl) HR.out.2.2.2.2.2.1 ?_))
      obtain ⟨q, hq⟩ : ∃ q, wr.heap.size = q := ⟨_, rfl⟩
      rw [hq] at HR ⊢
      generalize (wr.alloc (.cells Z21 37)).setRow q A = w1 at *
      have kw1 := HR.out.1.trans HR.out.2.1 (fun _ h => .inl h)
      have LB : Hid ((Instr.loadAt 37 (.pointer (some ⟨b', o' + i * 21, none⟩))).run Tryd.prog w1 = .ok (.agg B) w1) := ldA (rangeAt_kept HR.out.2.2.2.2.2.2.2.1 kw1 (fun h => h)) HR.out.2.2.2.2.1
      have kB : Kept No w1 ((w1.alloc (.cells Z21 37)).setRow w1.heap.size B) := ((Kept.refl No w1).alloc _).setRow (.inr (Nat.le_refl _)) _
      have bB : ((w1.alloc (.cells Z21 37)).setRow w1.heap.size B).heap[w1.heap.size]? = some (.cells B 37) := setRow_heap _ _ Z21 _ _ (0, 0) (alloc_new w1 _)
      have H1 : Hid (Kept No w ((w1.alloc (.cells Z21 37)).setRow w1.heap.size B) ∧ ((w1.alloc (.cells Z21 37)).setRow w1.heap.size B).heap[q]? = some (.cells A 37) ∧ ((w1.alloc (.cells Z21 37)).setRow w1.heap.size B).heap[w1.heap.size]? = some (.cells B 37)) := ⟨kw1.trans kB (fun _ h => .inl h), kB.at' HR.out.2.2.1 (fun h => h), bB⟩
      clear kw1 kB bB LA hq
      go_upto_region 7 with (first
        | (refine l_take 25 rfl rfl (er_ldX 37 (.tmp 24) rfl (.pointer (some ⟨b', o' + i * 21, none⟩)) (.agg B) rfl LB.out) ?_)
        | (refine l_make 9 rfl rfl (er_alP rfl) ?_)
        | (refine wpList_store_row rfl 37 (.tmp 9) (.tmp 25) rfl w1.heap.size B rfl rfl _ Z21 (alloc_new w1 _) (by rw [HR.out.2.2.2.2.1]; exact Tryd.infoPt) (by rw [HR.out.2.2.2.2.1]; rfl) HR.out.2.2.2.2.2.2.1 ?_))
      obtain ⟨q2, hq2⟩ : ∃ q2, w1.heap.size = q2 := ⟨_, rfl⟩
      rw [hq2] at H1 ⊢
      generalize (w1.alloc (.cells Z21 37)).setRow q2 B = w2 at *
      have cS := HS.out i A B HR.out.2.2.2.2.2.2.2.2.1 HR.out.2.2.2.2.2.2.2.2.2 w2 H1.out.1
      clear LB hq2
      go_wp2_with (first
        | (refine l_take 27 rfl rfl (er_ldP _ rfl q A rfl H1.out.2.1 HR.out.2.2.2.1) ?_)
        | (refine l_take 28 rfl rfl (er_ldP _ rfl q2 B rfl H1.out.2.2 HR.out.2.2.2.2.1) ?_)
        | (go_at_call 24; refine cS.mono ?_; rintro e w3 ⟨rfl, k3⟩; have H3 := hid (H1.out.1.trans k3 (fun _ h => .inl h)); clear k3 cS))
      go_roundw
      case rel => exact ⟨i + 1, by go_num, by omega, H3.out⟩
      case measure => simp [intOf]; omega
    · have hiz : ¬ (i : Int) < (n : Int) := by omega
      go_wp2
      go_ret
      exact ⟨rfl, hk⟩
end Go.Proofs.YtdohjhhflfnncaaDoor
