/-
  One text: YCopy.
-/
import Derived.Test.YtnmhcnppdhdhfaaGreatDoorG42
namespace Go.Proofs.YtnmhcnppdhdhfaaGreatDoor
open Go.RowKit
set_option linter.unusedVariables false
set_option maxRecDepth 100000

section
variable {o : Oper} {a : Act} {w : World}
theorem er_fIm0c (x : Operand) (ho : o.op = .fieldAddr 26 x 0) (g : Nat) (hx : a.eval x = .pointer (some ⟨g, 0, none⟩)) : (execOp a.eval o).run Tryz.prog w = .ok (.value (.pointer (some ⟨g, 0, none⟩))) w := by simp only [execOp, ho, hx]; simp [go_sem]
theorem er_fIm2 (x : Operand) (ho : o.op = .fieldAddr 26 x 2) (g : Nat) (hx : a.eval x = .pointer (some ⟨g, 0, none⟩)) : (execOp a.eval o).run Tryz.prog w = .ok (.value (.pointer (some ⟨g, 2, none⟩))) w := by simp only [execOp, ho, hx]; simp [go_sem, add_none]
theorem er_ldSP (x : Operand) (ho : o.op = .load 22 x) (g off : Nat) (v : Value) (hx : a.eval x = .pointer (some ⟨g, off, none⟩)) (hc : w.cell? ⟨g, off, none⟩ = some v) : (execOp a.eval o).run Tryz.prog w = .ok (.value v) w := by
  simp only [execOp, ho, hx]; simp [go_sem, hc]
theorem er_ldSC (x : Operand) (ho : o.op = .load 24 x) (g off : Nat) (v : Value) (hx : a.eval x = .pointer (some ⟨g, off, none⟩)) (hc : w.cell? ⟨g, off, none⟩ = some v) : (execOp a.eval o).run Tryz.prog w = .ok (.value v) w := by
  simp only [execOp, ho, hx]; simp [go_sem, hc]
theorem er_stSP (x y : Operand) (ho : o.op = .store 22 x y) (g off : Nat) (u v : Value) (hv : ∃ p n c, v = .slice p n c) (hx : a.eval x = .pointer (some ⟨g, off, none⟩)) (hy : a.eval y = v) (hr : w.cell? ⟨g, off, none⟩ = some u) (hf : w.frozen? ⟨g, off, none⟩ = false) : (execOp a.eval o).run Tryz.prog w = .ok .skip (w.setCell ⟨g, off, none⟩ v) := by
  obtain ⟨p, n, c, rfl⟩ := hv
  simp only [execOp, ho, hx, hy]; simp [go_sem, hr, hf]
theorem er_stSC (x y : Operand) (ho : o.op = .store 24 x y) (g off : Nat) (u v : Value) (hv : ∃ p n c, v = .slice p n c) (hx : a.eval x = .pointer (some ⟨g, off, none⟩)) (hy : a.eval y = v) (hr : w.cell? ⟨g, off, none⟩ = some u) (hf : w.frozen? ⟨g, off, none⟩ = false) : (execOp a.eval o).run Tryz.prog w = .ok .skip (w.setCell ⟨g, off, none⟩ v) := by
  obtain ⟨p, n, c, rfl⟩ := hv
  simp only [execOp, ho, hx, hy]; simp [go_sem, hr, hf]
theorem er_idxCh (x y : Operand) (ho : o.op = .indexAddr 24 x y) (b off n c d : Nat) (hd : d < n) (hn : n ≤ 9223372036854775807) (hx : a.eval x = .slice (some ⟨b, off, none⟩) n c) (hy : a.eval y = .int .i64 d) : (execOp a.eval o).run Tryz.prog w = .ok (.value (.pointer (some ⟨b, off + d * 5, none⟩))) w := by
  simp only [execOp, ho, hx, hy]
  simp [go_sem, add_none]
  omega
end
theorem elPn_len {w : World} {F : Nat → Prop} {cs : List Value} {x : Pn} (h : elPn w F cs x) : cs.length = 21 := by
  obtain ⟨a0, n0, c0, a1, n1, c1, a2, n2, c2, a3, n3, c3, a4, n4, c4, a5, n5, c5, rfl, _⟩ := h.sl
  rfl
theorem elCh_len {w : World} {F : Nat → Prop} {cs : List Value} {x : Ch} (h : elCh w F cs x) : cs.length = 5 := by
  obtain ⟨a, n, c, rfl, _⟩ := h.sl
  rfl
theorem elCh_one {w : World} {F : Nat → Prop} {cs : List Value} {x : Ch} (h : elCh w F cs x) : ∀ v ∈ cs, v.oneCell' = true := by
  obtain ⟨a, n, c, rfl, _⟩ := h.sl
  intro v hv
  simp only [List.mem_cons, List.not_mem_nil, or_false] at hv
  rcases hv with rfl | rfl | rfl | rfl | rfl <;> rfl
theorem mPn : ∀ (w : World) (F G : Nat → Prop), (∀ k, F k → G k) → ∀ cs x, elPn w F cs x → elPn w G cs x := fun w F G h => elPn_mono h
theorem mCh : ∀ (w : World) (F G : Nat → Prop), (∀ k, F k → G k) → ∀ cs x, elCh w F cs x → elCh w G cs x := fun w F G h => elCh_mono h
theorem kPn : ∀ (G : Nat → Prop) (w w' : World) (F : Nat → Prop), Kept G w w' → (∀ b, F b → ¬ G b) → ∀ cs x, elPn w F cs x → elPn w' F cs x := fun G w w' F k h => elPn_kept k h
theorem kCh : ∀ (G : Nat → Prop) (w w' : World) (F : Nat → Prop), Kept G w w' → (∀ b, F b → ¬ G b) → ∀ cs x, elCh w F cs x → elCh w' F cs x := fun G w w' F k h => elCh_kept k h

theorem box_Bk {w w2 : World} {cs : List Value} (hl : cs.length = 21) (h1 : ∀ v ∈ cs, v.oneCell' = true) (h : (Instr.storeAt 48 (.pointer (some ⟨w.heap.size, 0, none⟩)) (.agg cs.toArray)).run Tryz.prog (w.alloc (.cells #[.int .i64 0, .int .i64 0, .int .i64 0, .int .i64 0, .int .i64 0, .int .i64 0, .slice none 0 0, .slice none 0 0, .slice none 0 0, .int .i64 0, .int .i64 0, .int .i64 0, .int .i64 0, .int .i64 0, .int .i64 0, .int .i64 0, .int .i64 0, .int .i64 0, .slice none 0 0, .slice none 0 0, .slice none 0 0] 48)) = .ok () w2) : Bk w2 w.heap.size cs 48 := by
  have hb : Bk (w.alloc (.cells #[.int .i64 0, .int .i64 0, .int .i64 0, .int .i64 0, .int .i64 0, .int .i64 0, .slice none 0 0, .slice none 0 0, .slice none 0 0, .int .i64 0, .int .i64 0, .int .i64 0, .int .i64 0, .int .i64 0, .int .i64 0, .int .i64 0, .int .i64 0, .int .i64 0, .slice none 0 0, .slice none 0 0, .slice none 0 0] 48)) w.heap.size [.int .i64 0, .int .i64 0, .int .i64 0, .int .i64 0, .int .i64 0, .int .i64 0, .slice none 0 0, .slice none 0 0, .slice none 0 0, .int .i64 0, .int .i64 0, .int .i64 0, .int .i64 0, .int .i64 0, .int .i64 0, .int .i64 0, .int .i64 0, .int .i64 0, .slice none 0 0, .slice none 0 0, .slice none 0 0] 48 := heap_alloc_new w _
  have ht : (w.alloc (.cells #[.int .i64 0, .int .i64 0, .int .i64 0, .int .i64 0, .int .i64 0, .int .i64 0, .slice none 0 0, .slice none 0 0, .slice none 0 0, .int .i64 0, .int .i64 0, .int .i64 0, .int .i64 0, .int .i64 0, .int .i64 0, .int .i64 0, .int .i64 0, .int .i64 0, .slice none 0 0, .slice none 0 0, .slice none 0 0] 48)).there w.heap.size 0 21 := by
    intro j hj
    rw [Nat.zero_add]
    refine ⟨?_, hb.fz j⟩
    obtain ⟨v, hv⟩ : ∃ v, ([.int .i64 0, .int .i64 0, .int .i64 0, .int .i64 0, .int .i64 0, .int .i64 0, .slice none 0 0, .slice none 0 0, .slice none 0 0, .int .i64 0, .int .i64 0, .int .i64 0, .int .i64 0, .int .i64 0, .int .i64 0, .int .i64 0, .int .i64 0, .int .i64 0, .slice none 0 0, .slice none 0 0, .slice none 0 0] : List Value)[j]? = some v := ⟨_, List.getElem?_eq_getElem (by simpa using hj)⟩
    rw [hb.cell hv]; rfl
  have e := run_storeAt_mid (P := Tryz.prog) _ w.heap.size 0 48 cs.toArray (by simpa [hl] using ht) (by rw [sizePn]; simp [hl]) (all_oneCell_toArray h1)
  rw [e] at h
  injection h with _ h
  have h2 := Bk.setCells cs _ _ 0 hb
  have h3 := setL_all cs [] [.int .i64 0, .int .i64 0, .int .i64 0, .int .i64 0, .int .i64 0, .int .i64 0, .slice none 0 0, .slice none 0 0, .slice none 0 0, .int .i64 0, .int .i64 0, .int .i64 0, .int .i64 0, .int .i64 0, .int .i64 0, .int .i64 0, .int .i64 0, .int .i64 0, .slice none 0 0, .slice none 0 0, .slice none 0 0] (by rw [hl]; rfl)
  rw [List.nil_append, List.nil_append] at h3
  have h4 : setL [.int .i64 0, .int .i64 0, .int .i64 0, .int .i64 0, .int .i64 0, .int .i64 0, .slice none 0 0, .slice none 0 0, .slice none 0 0, .int .i64 0, .int .i64 0, .int .i64 0, .int .i64 0, .int .i64 0, .int .i64 0, .int .i64 0, .int .i64 0, .int .i64 0, .slice none 0 0, .slice none 0 0, .slice none 0 0] 0 cs = cs := h3
  rw [h4] at h2
  rw [← h]
  exact h2
theorem box_BkCh {w w2 : World} {cs : List Value} (hl : cs.length = 5) (h1 : ∀ v ∈ cs, v.oneCell' = true) (h : (Instr.storeAt 65 (.pointer (some ⟨w.heap.size, 0, none⟩)) (.agg cs.toArray)).run Tryz.prog (w.alloc (.cells #[.int .i64 0, .int .i64 0, .slice none 0 0, .int .i64 0, .int .i64 0] 65)) = .ok () w2) : Bk w2 w.heap.size cs 65 := by
  have hb : Bk (w.alloc (.cells #[.int .i64 0, .int .i64 0, .slice none 0 0, .int .i64 0, .int .i64 0] 65)) w.heap.size [.int .i64 0, .int .i64 0, .slice none 0 0, .int .i64 0, .int .i64 0] 65 := heap_alloc_new w _
  have ht : (w.alloc (.cells #[.int .i64 0, .int .i64 0, .slice none 0 0, .int .i64 0, .int .i64 0] 65)).there w.heap.size 0 5 := by
    intro j hj
    rw [Nat.zero_add]
    refine ⟨?_, hb.fz j⟩
    obtain ⟨v, hv⟩ : ∃ v, ([.int .i64 0, .int .i64 0, .slice none 0 0, .int .i64 0, .int .i64 0] : List Value)[j]? = some v := ⟨_, List.getElem?_eq_getElem (by simpa using hj)⟩
    rw [hb.cell hv]; rfl
  have e := run_storeAt_mid (P := Tryz.prog) _ w.heap.size 0 65 cs.toArray (by simpa [hl] using ht) (by rw [sizeECh]; simp [hl]) (all_oneCell_toArray h1)
  rw [e] at h
  injection h with _ h
  have h2 := Bk.setCells cs _ _ 0 hb
  have h3 := setL_all cs [] [.int .i64 0, .int .i64 0, .slice none 0 0, .int .i64 0, .int .i64 0] (by rw [hl]; rfl)
  rw [List.nil_append, List.nil_append] at h3
  have h4 : setL [.int .i64 0, .int .i64 0, .slice none 0 0, .int .i64 0, .int .i64 0] 0 cs = cs := h3
  rw [h4] at h2
  rw [← h]
  exact h2
/-- while the partitions are copied -/
structure CpA (w : World) (vx : List Value) (l : List Pn) (hi : Nat) (Fs Ps : Nat → Nat → Prop) (vP : Value) (k : Nat) (wr : World) : Prop where
  r1 : Bk wr w.heap.size vx 26
  r2 : Bk wr (w.heap.size + 1) [.slice none 0 0, .slice none 0 0, .slice none 0 0] 26
  r3 : Bk wr (w.heap.size + 2) [vP, .slice none 0 0, .slice none 0 0] 26
  kp : Kept No w wr
  gr : GrP (w.heap.size + 3) hi Fs Ps vP l k wr
/-- while the channels are copied; the partitions and the ports are there -/
structure CpC (w : World) (vx : List Value) (ps : List Pn) (qs : List Po) (l : List Ch) (T0 T : Nat) (a0 : Option Addr) (n0 c0 : Nat) (a1 : Option Addr) (n1 c1 : Nat) (F : Nat → Prop) (vC : Value) (k : Nat) (wr : World) : Prop where
  r1 : Bk wr w.heap.size vx 26
  r2 : Bk wr (w.heap.size + 1) [.slice none 0 0, .slice none 0 0, .slice none 0 0] 26
  r3 : Bk wr (w.heap.size + 2) [.slice a0 n0 c0, .slice a1 n1 c1, vC] 26
  kp : Kept No w wr
  top : w.heap.size + 3 ≤ T0 ∧ T0 ≤ T ∧ T ≤ wr.heap.size
  lp : LsP wr (w.heap.size + 3) T0 a0 n0 c0 ps
  lq : Ls 6 elPo wr (fun g => T0 ≤ g ∧ g < T) a1 n1 c1 qs
  gr : Gr 65 5 elCh T F vC l k wr
/-- an image whose partitions' processes lie apart -/
structure ImP (w : World) (lo T hi : Nat) (a0 : Option Addr) (n0 c0 : Nat) (a1 : Option Addr) (n1 c1 : Nat) (a2 : Option Addr) (n2 c2 : Nat) (x : Im) : Prop where
  le : lo ≤ T ∧ T ≤ hi ∧ hi ≤ w.heap.size
  ps : LsP w lo T a0 n0 c0 x.parts
  qs : Ls 6 elPo w (fun g => T ≤ g ∧ g < hi) a1 n1 c1 x.ports
  cs : Ls 5 elCh w (fun g => T ≤ g ∧ g < hi) a2 n2 c2 x.chans
theorem ImP.img {w : World} {lo T hi : Nat} {a0 : Option Addr} {n0 c0 : Nat} {a1 : Option Addr} {n1 c1 : Nat} {a2 : Option Addr} {n2 c2 : Nat} {x : Im} (h : ImP w lo T hi a0 n0 c0 a1 n1 c1 a2 n2 c2 x) : Img w (fun g => lo ≤ g ∧ g < hi) a0 n0 c0 a1 n1 c1 a2 n2 c2 x := by
  have hl := h.le
  exact ⟨h.ps.ls.mono (fun g hg => ⟨by omega, by omega⟩) (mPn _ _ _ (fun g hg => ⟨by omega, by omega⟩)), h.qs.mono (fun g hg => ⟨by omega, by omega⟩) (fun _ _ h => h), h.cs.mono (fun g hg => ⟨by omega, by omega⟩) (mCh _ _ _ (fun g hg => ⟨by omega, by omega⟩))⟩
set_option maxHeartbeats 32000000 in
theorem copy_apart (a0 : Option Addr) (n0 c0 : Nat) (a1 : Option Addr) (n1 c1 : Nat) (a2 : Option Addr) (n2 c2 : Nat) (x : Im) (w : World) (hI : Img w (Hn w) a0 n0 c0 a1 n1 c1 a2 n2 c2 x) (hS : szIm x) :
    Calls Tryz.prog 7 #[.agg #[.slice a0 n0 c0, .slice a1 n1 c1, .slice a2 n2 c2]] w fun ex w' => ∃ b0 m0 d0 b1 m1 d1 b2 m2 d2 lo T, ex = .returned (.agg #[.slice b0 m0 d0, .slice b1 m1 d1, .slice b2 m2 d2]) ∧ w.heap.size ≤ lo ∧ ImP w' lo T w'.heap.size b0 m0 d0 b1 m1 d1 b2 m2 d2 x ∧ Kept No w w' := by
  obtain ⟨i0, hi, hz0, hz1, hz2⟩ := info_parts Tryz.infEPn
  obtain ⟨j0, ji, jz0, jz1, jz2⟩ := info_parts Tryz.infECh
  have HI : Hid (Img w (Hn w) a0 n0 c0 a1 n1 c1 a2 n2 c2 x) := hI
  have HS : Hid (szIm x) := hS
  have hln := hI.ps.len
  have hlc := hI.cs.len
  have hlq := hI.qs.len
  have hcap0 := hI.ps.cap
  have hmax0 := hI.ps.max
  have hcap2 := hI.cs.cap
  have hmax2 := hI.cs.max
  have hb0 : n0 * 264 ≤ 140737488351232 := by rw [← hln]; exact hS.1
  have hb1 : n1 * 48 ≤ 140737488351232 := by rw [← hlq]; exact hS.2.1
  have hb2 : n2 * 56 ≤ 140737488351232 := by rw [← hlc]; exact hS.2.2.1
  have HLN : Hid (x.parts.length = n0 ∧ x.ports.length = n1 ∧ x.chans.length = n2) := ⟨hln, hlq, hlc⟩
  have hA0 : CpA w [.slice a0 n0 c0, .slice a1 n1 c1, .slice a2 n2 c2] x.parts (w.heap.size + 3) (fun _ => No) (fun _ => No) (.slice none 0 0) 0 (((w.alloc (.cells #[.slice a0 n0 c0, .slice a1 n1 c1, .slice a2 n2 c2] 26)).alloc (.cells #[.slice none 0 0, .slice none 0 0, .slice none 0 0] 26)).alloc (.cells #[.slice none 0 0, .slice none 0 0, .slice none 0 0] 26)) := by
    refine ⟨?_, ?_, ?_, (((Kept.refl No w).alloc _).alloc _).alloc _, GrP.new _ _ _ (by simp)⟩
    · show _ = _
      rw [heap_alloc_old _ _ (by simp; omega), heap_alloc_old _ _ (by simp)]
      exact heap_alloc_new w _
    · show _ = _
      rw [heap_alloc_old _ _ (by simp)]
      exact heap_alloc2_new w _ _
    · have h := heap_alloc2_new (w.alloc (.cells #[.slice a0 n0 c0, .slice a1 n1 c1, .slice a2 n2 c2] 26)) (.cells #[.slice none 0 0, .slice none 0 0, .slice none 0 0] 26) (.cells #[.slice none 0 0, .slice none 0 0, .slice none 0 0] 26)
      rw [size_alloc] at h
      exact h
  have HA0 : Hid (CpA w [.slice a0 n0 c0, .slice a1 n1 c1, .slice a2 n2 c2] x.parts (w.heap.size + 3) (fun _ => No) (fun _ => No) (.slice none 0 0) 0 (((w.alloc (.cells #[.slice a0 n0 c0, .slice a1 n1 c1, .slice a2 n2 c2] 26)).alloc (.cells #[.slice none 0 0, .slice none 0 0, .slice none 0 0] 26)).alloc (.cells #[.slice none 0 0, .slice none 0 0, .slice none 0 0] 26))) := hA0
  clear hI hS hln hlc hlq hA0
  go_enter Tryz.func7, Tryz.ntmps7
  go_upto_region 2 with fail
  generalize ((w.alloc (.cells #[.slice a0 n0 c0, .slice a1 n1 c1, .slice a2 n2 c2] 26)).alloc (.cells #[.slice none 0 0, .slice none 0 0, .slice none 0 0] 26)).alloc (.cells #[.slice none 0 0, .slice none 0 0, .slice none 0 0] 26) = wA at *
  go_wp2
  go_loopw [4] (fun i wr => ∃ (k hi : Nat) (Fs Ps : Nat → Nat → Prop) (vP : Value), k ≤ n0 ∧ i = .int .i64 k ∧ CpA w [.slice a0 n0 c0, .slice a1 n1 c1, .slice a2 n2 c2] x.parts hi Fs Ps vP k wr) (fun i _ => n0 - (intOf i).toNat)
  case atStart => exact ⟨0, _, _, _, .slice none 0 0, by omega, rfl, HA0.out⟩
  case round =>
    obtain ⟨k, top, Fs, Ps, vP, hk, rfl, hcp⟩ := hrel
    have HC : Hid (CpA w [.slice a0 n0 c0, .slice a1 n1 c1, .slice a2 n2 c2] x.parts top Fs Ps vP k wr) := hcp
    have q0 := hcp.r1.cell (j := 0) rfl
    by_cases hlt : k < n0
    · obtain ⟨p, hp⟩ : ∃ p, x.parts[k]? = some p := ⟨_, List.getElem?_eq_getElem (by rw [HLN.out.1]; exact hlt)⟩
      have hsz : szPn p := HS.out.2.2.2.1 p (List.mem_of_getElem? hp)
      obtain ⟨b, of, cs0, rfl, hGb, hcl, hr, hE⟩ := HI.out.ps.at' k p hp
      have hrg : wr.rangeAt b (of + k * 21) cs0 := rangeAt_kept hr hcp.kp (fun h => h)
      have hld : (Instr.loadAt 48 (.pointer (some ⟨b, of + k * 21, none⟩))).run Tryz.prog wr = .ok (.agg cs0.toArray) wr := run_loadAt_mid wr b (of + k * 21) _ cs0 _ hrg Tryz.underlying48 rfl (by rw [hcl]; exact sizePn)
      obtain ⟨w1, hst, hld1, hk1⟩ := box_Pn wr cs0 hcl (elPn_one hE)
      have HLD : Hid ((Instr.loadAt 48 (.pointer (some ⟨b, of + k * 21, none⟩))).run Tryz.prog wr = .ok (.agg cs0.toArray) wr) := hld
      have HST : Hid ((Instr.storeAt 48 (.pointer (some ⟨wr.heap.size, 0, none⟩)) (.agg cs0.toArray)).run Tryz.prog (wr.alloc (.cells #[.int .i64 0, .int .i64 0, .int .i64 0, .int .i64 0, .int .i64 0, .int .i64 0, .slice none 0 0, .slice none 0 0, .slice none 0 0, .int .i64 0, .int .i64 0, .int .i64 0, .int .i64 0, .int .i64 0, .int .i64 0, .int .i64 0, .int .i64 0, .int .i64 0, .slice none 0 0, .slice none 0 0, .slice none 0 0] 48)) = .ok () w1) := hst
      have hbx : Bk w1 wr.heap.size cs0 48 := box_Bk hcl (elPn_one hE) hst
      have HK1 : Hid (Kept No wr w1) := hk1
      have HP : Hid (x.parts[k]? = some p) := hp
      clear hcp hrg hld hst hld1 hk1 hr hGb hp
      go_upto_region 5 with fail
      refine wp_region_lit ?_
      try simp only [Act.put, List.setIfInBounds_toArray, List.set_cons_zero, List.set_cons_succ]
      refine l_take 15 rfl rfl (er_fIm0c _ rfl w.heap.size rfl) ?_
      simp only [Act.put, List.setIfInBounds_toArray, List.set_cons_zero, List.set_cons_succ]
      refine l_take 16 rfl rfl (er_ldSP _ rfl w.heap.size 0 _ rfl q0) ?_
      simp only [Act.put, List.setIfInBounds_toArray, List.set_cons_zero, List.set_cons_succ]
      refine l_take 17 rfl rfl (er_mv _ rfl (.int .i64 k) rfl) ?_
      simp only [Act.put, List.setIfInBounds_toArray, List.set_cons_zero, List.set_cons_succ]
      refine l_take 18 rfl rfl (er_idxPn _ _ rfl b of n0 c0 k hlt (by omega) rfl rfl) ?_
      simp only [Act.put, List.setIfInBounds_toArray, List.set_cons_zero, List.set_cons_succ]
      refine l_take 19 rfl rfl (er_ld _ _ rfl _ _ rfl HLD.out) ?_
      simp only [Act.put, List.setIfInBounds_toArray, List.set_cons_zero, List.set_cons_succ]
      refine l_make 5 rfl rfl (er_alPn rfl) ?_
      simp only [Act.put, List.setIfInBounds_toArray, List.set_cons_zero, List.set_cons_succ]
      refine l_turn rfl rfl (er_st _ _ _ rfl _ _ rfl rfl HST.out) ?_
      obtain ⟨b5, hb5⟩ : ∃ b5, b5 = wr.heap.size := ⟨_, rfl⟩
      rw [← hb5] at hbx ⊢
      have HB5 : Hid (b5 = wr.heap.size) := hb5
      have hlt1 : b5 < w1.heap.size := hbx.lt
      have HLT1 : Hid (b5 < w1.heap.size) := hlt1
      obtain ⟨a6, m6, d6, a7, m7, d7, a8, m8, d8, a18, m18, d18, a19, m19, d19, a20, m20, d20, rfl, hl6, hl7, hl8, hl18, hl19, hl20⟩ := hE.sl
      have hokp := hE.ok
      have HOKP : Hid (okPn p) := hokp
      have KW1 : Hid (Kept No w w1) := HC.out.kp.trans HK1.out (fun _ h => h.elim)
      have B1 : Hid (Bk w1 b5 [.int .i64 p.pe, .int .i64 p.bu, .int .i64 p.off, .int .i64 p.pr, .int .i64 p.wo, .int .i64 p.fi, .slice a6 m6 d6, .slice a7 m7 d7, .slice a8 m8 d8, .int .i64 p.ha, .int .i64 p.h0, .int .i64 p.h1, .int .i64 p.h2, .int .i64 p.h3, .int .i64 p.h4, .int .i64 p.h5, .int .i64 p.h6, .int .i64 p.h7, .slice a18 m18 d18, .slice a19 m19 d19, .slice a20 m20 d20] 48) := hbx

      have HL6 : Hid (Ls 1 elI w (Hn w) a6 m6 d6 p.init) := hl6
      have hs6 : m6 * 8 ≤ 140737488355328 := by have h := hsz; unfold szPn at h; rw [hl6.len, hl7.len, hl8.len, hl18.len, hl19.len, hl20.len] at h; have := h.1; simp only [reachBytes] at this; omega
      have HL7 : Hid (Ls 5 elIns w (Hn w) a7 m7 d7 p.code) := hl7
      have hs7 : m7 * 8 ≤ 140737488355328 := by have h := hsz; unfold szPn at h; rw [hl6.len, hl7.len, hl8.len, hl18.len, hl19.len, hl20.len] at h; have := h.2.1; simp only [reachBytes] at this; omega
      have HL8 : Hid (Ls 6 elPrc w (Hn w) a8 m8 d8 p.procs) := hl8
      have hs8 : m8 * 48 ≤ 140737488355328 := by have h := hsz; unfold szPn at h; rw [hl6.len, hl7.len, hl8.len, hl18.len, hl19.len, hl20.len] at h; have := h.2.2.1; simp only [reachBytes] at this; omega
      have HL18 : Hid (Ls 2 elSm w (Hn w) a18 m18 d18 p.sems) := hl18
      have hs18 : m18 * 16 ≤ 140737488355328 := by have h := hsz; unfold szPn at h; rw [hl6.len, hl7.len, hl8.len, hl18.len, hl19.len, hl20.len] at h; have := h.2.2.2.1; simp only [reachBytes] at this; omega
      have HL19 : Hid (Ls 1 elB w (Hn w) a19 m19 d19 p.evs) := hl19
      have hs19 : m19 * 1 ≤ 140737488355328 := by have h := hsz; unfold szPn at h; rw [hl6.len, hl7.len, hl8.len, hl18.len, hl19.len, hl20.len] at h; have := h.2.2.2.2.1; simp only [reachBytes] at this; omega
      have HL20 : Hid (Ls 2 elBf w (Hn w) a20 m20 d20 p.bufs) := hl20
      have hs20 : m20 * 16 ≤ 140737488355328 := by have h := hsz; unfold szPn at h; rw [hl6.len, hl7.len, hl8.len, hl18.len, hl19.len, hl20.len] at h; have := h.2.2.2.2.2; simp only [reachBytes] at this; omega
      clear hl6 hl7 hl8 hl18 hl19 hl20 hE hokp hb5 hlt1 hbx hsz q0 HLD HST
      have q6 := (B1.out.kept ((Kept.refl No w1).alloc (.cells #[] 2)) (fun h => h)).cell (j := 6) rfl
      have hls : Ls 1 elI (w1.alloc (.cells #[] 2)) (Hn w) a6 m6 d6 p.init := HL6.out.kept (KW1.out.alloc _) (fun _ _ h => h) (elI_kept (KW1.out.alloc _) (fun _ _ h => h))
      have HLS : Hid (Ls 1 elI (w1.alloc (.cells #[] 2)) (Hn w) a6 m6 d6 p.init) := hls
      clear hls
      go_upto_region 7 with (at_builtin; refine copyI rfl _ _ rfl w1.heap.size rfl (madeK w1 _ _) (by simp) a6 m6 d6 rfl (Hn w) p.init HLS.out hs6 ?_; intro y6 z6 v1 HN6 KN6; have g6 : Bk v1 b5 [.int .i64 p.pe, .int .i64 p.bu, .int .i64 p.off, .int .i64 p.pr, .int .i64 p.wo, .int .i64 p.fi, .slice a6 m6 d6, .slice a7 m7 d7, .slice a8 m8 d8, .int .i64 p.ha, .int .i64 p.h0, .int .i64 p.h1, .int .i64 p.h2, .int .i64 p.h3, .int .i64 p.h4, .int .i64 p.h5, .int .i64 p.h6, .int .i64 p.h7, .slice a18 m18 d18, .slice a19 m19 d19, .slice a20 m20 d20] 48 := (B1.out.kept ((Kept.refl No w1).alloc (.cells #[] 2)) (fun h => h)).kept KN6.out (fun e => by have := B1.out.lt; omega); have GB6 : Hid (Bk v1 b5 [.int .i64 p.pe, .int .i64 p.bu, .int .i64 p.off, .int .i64 p.pr, .int .i64 p.wo, .int .i64 p.fi, .slice a6 m6 d6, .slice a7 m7 d7, .slice a8 m8 d8, .int .i64 p.ha, .int .i64 p.h0, .int .i64 p.h1, .int .i64 p.h2, .int .i64 p.h3, .int .i64 p.h4, .int .i64 p.h5, .int .i64 p.h6, .int .i64 p.h7, .slice a18 m18 d18, .slice a19 m19 d19, .slice a20 m20 d20] 48) := g6; have u6 := g6.cell (j := 6) rfl; have f6 := g6.fz 6; clear g6)
      have KV1 : Hid (Kept (fun k => k = w1.heap.size) w1 v1) := ((Kept.refl (fun k => k = w1.heap.size) w1).alloc _).trans KN6.out (fun _ h => .inl h)
      have KS1 : Hid (Kept (fun k => k = b5) v1 (v1.setCell ⟨b5, 6, none⟩ (.slice y6 m6 z6))) := (Kept.refl (fun k => k = b5) v1).setCell (p := ⟨b5, 6, none⟩) (.inl rfl) _
      have B2 : Hid (Bk (v1.setCell ⟨b5, 6, none⟩ (.slice y6 m6 z6)) b5 [.int .i64 p.pe, .int .i64 p.bu, .int .i64 p.off, .int .i64 p.pr, .int .i64 p.wo, .int .i64 p.fi, .slice y6 m6 z6, .slice a7 m7 d7, .slice a8 m8 d8, .int .i64 p.ha, .int .i64 p.h0, .int .i64 p.h1, .int .i64 p.h2, .int .i64 p.h3, .int .i64 p.h4, .int .i64 p.h5, .int .i64 p.h6, .int .i64 p.h7, .slice a18 m18 d18, .slice a19 m19 d19, .slice a20 m20 d20] 48) := GB6.out.set 6 _
      have SV1 : Hid (w1.heap.size ≤ v1.heap.size) := KV1.out.size
      generalize (v1.setCell ⟨b5, 6, none⟩ (.slice y6 m6 z6)) = w2 at *
      have KW2 : Hid (Kept No w w2) := (KW1.out.trans KV1.out (fun k e => .inr (by have := KW1.out.size; omega))).trans KS1.out (fun k e => .inr (by have := HC.out.kp.size; have := HB5.out; omega))
      have SW1 : Hid (w1.heap.size ≤ w2.heap.size) := Nat.le_trans SV1.out KS1.out.size
      have XL6 : Hid (Ls 1 elI w2 (In b5 w2.heap.size) y6 m6 z6 p.init) := (HN6.out.1.inn (lo := b5) (hi := w2.heap.size) (fun g hg => Nat.lt_of_lt_of_le (HN6.out.2.1 g hg) KS1.out.size) (by have := B1.out.lt; have := HLT1.out; have := SW1.out; omega) (fun _ _ h => h)).kept KS1.out (fun g hg e => by have := hg.1; have := HLT1.out; have := SW1.out; omega) (elI_kept KS1.out (fun g hg e => by have := hg.1; have := HLT1.out; have := SW1.out; omega))
      clear HN6 KN6 q6 u6 f6 GB6 HLS HL6 hs6
      have q7 := (B2.out.kept ((Kept.refl No w2).alloc (.cells #[] 84)) (fun h => h)).cell (j := 7) rfl
      have hls : Ls 5 elIns (w2.alloc (.cells #[] 84)) (Hn w) a7 m7 d7 p.code := HL7.out.kept (KW2.out.alloc _) (fun _ _ h => h) (elIns_kept (KW2.out.alloc _) (fun _ _ h => h))
      have HLS : Hid (Ls 5 elIns (w2.alloc (.cells #[] 84)) (Hn w) a7 m7 d7 p.code) := hls
      clear hls
      go_upto_region 8 with (at_builtin; refine copyIns rfl _ _ rfl w2.heap.size rfl (madeK w2 _ _) (by simp) a7 m7 d7 rfl (Hn w) p.code HLS.out hs7 ?_; intro y7 z7 v2 HN7 KN7; have g7 : Bk v2 b5 [.int .i64 p.pe, .int .i64 p.bu, .int .i64 p.off, .int .i64 p.pr, .int .i64 p.wo, .int .i64 p.fi, .slice y6 m6 z6, .slice a7 m7 d7, .slice a8 m8 d8, .int .i64 p.ha, .int .i64 p.h0, .int .i64 p.h1, .int .i64 p.h2, .int .i64 p.h3, .int .i64 p.h4, .int .i64 p.h5, .int .i64 p.h6, .int .i64 p.h7, .slice a18 m18 d18, .slice a19 m19 d19, .slice a20 m20 d20] 48 := (B2.out.kept ((Kept.refl No w2).alloc (.cells #[] 84)) (fun h => h)).kept KN7.out (fun e => by have := B2.out.lt; omega); have GB7 : Hid (Bk v2 b5 [.int .i64 p.pe, .int .i64 p.bu, .int .i64 p.off, .int .i64 p.pr, .int .i64 p.wo, .int .i64 p.fi, .slice y6 m6 z6, .slice a7 m7 d7, .slice a8 m8 d8, .int .i64 p.ha, .int .i64 p.h0, .int .i64 p.h1, .int .i64 p.h2, .int .i64 p.h3, .int .i64 p.h4, .int .i64 p.h5, .int .i64 p.h6, .int .i64 p.h7, .slice a18 m18 d18, .slice a19 m19 d19, .slice a20 m20 d20] 48) := g7; have u7 := g7.cell (j := 7) rfl; have f7 := g7.fz 7; clear g7)
      have KV2 : Hid (Kept (fun k => k = w2.heap.size) w2 v2) := ((Kept.refl (fun k => k = w2.heap.size) w2).alloc _).trans KN7.out (fun _ h => .inl h)
      have KS2 : Hid (Kept (fun k => k = b5) v2 (v2.setCell ⟨b5, 7, none⟩ (.slice y7 m7 z7))) := (Kept.refl (fun k => k = b5) v2).setCell (p := ⟨b5, 7, none⟩) (.inl rfl) _
      have B3 : Hid (Bk (v2.setCell ⟨b5, 7, none⟩ (.slice y7 m7 z7)) b5 [.int .i64 p.pe, .int .i64 p.bu, .int .i64 p.off, .int .i64 p.pr, .int .i64 p.wo, .int .i64 p.fi, .slice y6 m6 z6, .slice y7 m7 z7, .slice a8 m8 d8, .int .i64 p.ha, .int .i64 p.h0, .int .i64 p.h1, .int .i64 p.h2, .int .i64 p.h3, .int .i64 p.h4, .int .i64 p.h5, .int .i64 p.h6, .int .i64 p.h7, .slice a18 m18 d18, .slice a19 m19 d19, .slice a20 m20 d20] 48) := GB7.out.set 7 _
      have SV2 : Hid (w2.heap.size ≤ v2.heap.size) := KV2.out.size
      generalize (v2.setCell ⟨b5, 7, none⟩ (.slice y7 m7 z7)) = w3 at *
      have KW3 : Hid (Kept No w w3) := (KW2.out.trans KV2.out (fun k e => .inr (by have := KW2.out.size; omega))).trans KS2.out (fun k e => .inr (by have := HC.out.kp.size; have := HB5.out; omega))
      have SW2 : Hid (w2.heap.size ≤ w3.heap.size) := Nat.le_trans SV2.out KS2.out.size
      have XL7 : Hid (Ls 5 elIns w3 (In b5 w3.heap.size) y7 m7 z7 p.code) := (HN7.out.1.inn (lo := b5) (hi := w3.heap.size) (fun g hg => Nat.lt_of_lt_of_le (HN7.out.2.1 g hg) KS2.out.size) (by have := B1.out.lt; have := HLT1.out; have := SW1.out; have := SW2.out; omega) (fun _ _ h => h)).kept KS2.out (fun g hg e => by have := hg.1; have := HLT1.out; have := SW1.out; have := SW2.out; omega) (elIns_kept KS2.out (fun g hg e => by have := hg.1; have := HLT1.out; have := SW1.out; have := SW2.out; omega))
      have XL6 : Hid (Ls 1 elI w3 (In b5 w2.heap.size) y6 m6 z6 p.init) := ((XL6.out.kept KV2.out (fun g hg e => by have := hg.2; have := SW1.out; have := SW2.out; omega) (elI_kept KV2.out (fun g hg e => by have := hg.2; have := SW1.out; have := SW2.out; omega))).kept KS2.out (fun g hg e => by have := hg.1; have := HLT1.out; have := SW1.out; have := SW2.out; omega) (elI_kept KS2.out (fun g hg e => by have := hg.1; have := HLT1.out; have := SW1.out; have := SW2.out; omega)))
      clear HN7 KN7 q7 u7 f7 GB7 HLS HL7 hs7
      have q8 := (B3.out.kept ((Kept.refl No w3).alloc (.cells #[] 54)) (fun h => h)).cell (j := 8) rfl
      have hls : Ls 6 elPrc (w3.alloc (.cells #[] 54)) (Hn w) a8 m8 d8 p.procs := HL8.out.kept (KW3.out.alloc _) (fun _ _ h => h) (elPrc_kept (KW3.out.alloc _) (fun _ _ h => h))
      have HLS : Hid (Ls 6 elPrc (w3.alloc (.cells #[] 54)) (Hn w) a8 m8 d8 p.procs) := hls
      clear hls
      go_upto_region 9 with (at_builtin; refine copyPrc rfl _ _ rfl w3.heap.size rfl (madeK w3 _ _) (by simp) a8 m8 d8 rfl (Hn w) p.procs HLS.out hs8 ?_; intro y8 z8 v3 HN8 KN8; have g8 : Bk v3 b5 [.int .i64 p.pe, .int .i64 p.bu, .int .i64 p.off, .int .i64 p.pr, .int .i64 p.wo, .int .i64 p.fi, .slice y6 m6 z6, .slice y7 m7 z7, .slice a8 m8 d8, .int .i64 p.ha, .int .i64 p.h0, .int .i64 p.h1, .int .i64 p.h2, .int .i64 p.h3, .int .i64 p.h4, .int .i64 p.h5, .int .i64 p.h6, .int .i64 p.h7, .slice a18 m18 d18, .slice a19 m19 d19, .slice a20 m20 d20] 48 := (B3.out.kept ((Kept.refl No w3).alloc (.cells #[] 54)) (fun h => h)).kept KN8.out (fun e => by have := B3.out.lt; omega); have GB8 : Hid (Bk v3 b5 [.int .i64 p.pe, .int .i64 p.bu, .int .i64 p.off, .int .i64 p.pr, .int .i64 p.wo, .int .i64 p.fi, .slice y6 m6 z6, .slice y7 m7 z7, .slice a8 m8 d8, .int .i64 p.ha, .int .i64 p.h0, .int .i64 p.h1, .int .i64 p.h2, .int .i64 p.h3, .int .i64 p.h4, .int .i64 p.h5, .int .i64 p.h6, .int .i64 p.h7, .slice a18 m18 d18, .slice a19 m19 d19, .slice a20 m20 d20] 48) := g8; have u8 := g8.cell (j := 8) rfl; have f8 := g8.fz 8; clear g8)
      have KV3 : Hid (Kept (fun k => k = w3.heap.size) w3 v3) := ((Kept.refl (fun k => k = w3.heap.size) w3).alloc _).trans KN8.out (fun _ h => .inl h)
      have KS3 : Hid (Kept (fun k => k = b5) v3 (v3.setCell ⟨b5, 8, none⟩ (.slice y8 m8 z8))) := (Kept.refl (fun k => k = b5) v3).setCell (p := ⟨b5, 8, none⟩) (.inl rfl) _
      have B4 : Hid (Bk (v3.setCell ⟨b5, 8, none⟩ (.slice y8 m8 z8)) b5 [.int .i64 p.pe, .int .i64 p.bu, .int .i64 p.off, .int .i64 p.pr, .int .i64 p.wo, .int .i64 p.fi, .slice y6 m6 z6, .slice y7 m7 z7, .slice y8 m8 z8, .int .i64 p.ha, .int .i64 p.h0, .int .i64 p.h1, .int .i64 p.h2, .int .i64 p.h3, .int .i64 p.h4, .int .i64 p.h5, .int .i64 p.h6, .int .i64 p.h7, .slice a18 m18 d18, .slice a19 m19 d19, .slice a20 m20 d20] 48) := GB8.out.set 8 _
      have SV3 : Hid (w3.heap.size ≤ v3.heap.size) := KV3.out.size
      generalize (v3.setCell ⟨b5, 8, none⟩ (.slice y8 m8 z8)) = w4 at *
      have KW4 : Hid (Kept No w w4) := (KW3.out.trans KV3.out (fun k e => .inr (by have := KW3.out.size; omega))).trans KS3.out (fun k e => .inr (by have := HC.out.kp.size; have := HB5.out; omega))
      have SW3 : Hid (w3.heap.size ≤ w4.heap.size) := Nat.le_trans SV3.out KS3.out.size
      have XR8 : Hid (∀ g, (Value.slice y8 m8 z8).ownBlock = some g → w3.heap.size ≤ g ∧ g < w4.heap.size) := fun g hg => ⟨by obtain ⟨q, hq⟩ := HN8.out.2.2; exact hq g hg, Nat.lt_of_lt_of_le (HN8.out.2.1 g hg) KS3.out.size⟩
      have XL8 : Hid (Ls 6 elPrc w4 (fun g => (Value.slice y8 m8 z8).ownBlock = some g) y8 m8 z8 p.procs) := (HN8.out.1.kept KS3.out (fun g hg e => by have := hg.1; have := HLT1.out; have := SW1.out; have := SW2.out; have := SW3.out; omega) (elPrc_kept KS3.out (fun g hg e => by have := hg.1; have := HLT1.out; have := SW1.out; have := SW2.out; have := SW3.out; omega))).mono (fun g hg => hg.2) (fun _ _ h => h)
      have XF8 : Hid (∀ g, (Value.slice y8 m8 z8).ownBlock = some g → ∀ j, w4.frozen? ⟨g, j, none⟩ = false) := fun g hg => fz_kept KS3.out (fun e => by have := XR8.out g hg; have := HLT1.out; have := SW1.out; have := SW2.out; have := SW3.out; omega) (HN8.out.2.1 g hg) (by obtain ⟨q, hq⟩ := HN8.out.2.2; exact q g hg)
      have XL6 : Hid (Ls 1 elI w4 (In b5 w2.heap.size) y6 m6 z6 p.init) := ((XL6.out.kept KV3.out (fun g hg e => by have := hg.2; have := SW1.out; have := SW2.out; have := SW3.out; omega) (elI_kept KV3.out (fun g hg e => by have := hg.2; have := SW1.out; have := SW2.out; have := SW3.out; omega))).kept KS3.out (fun g hg e => by have := hg.1; have := HLT1.out; have := SW1.out; have := SW2.out; have := SW3.out; omega) (elI_kept KS3.out (fun g hg e => by have := hg.1; have := HLT1.out; have := SW1.out; have := SW2.out; have := SW3.out; omega)))
      have XL7 : Hid (Ls 5 elIns w4 (In b5 w3.heap.size) y7 m7 z7 p.code) := ((XL7.out.kept KV3.out (fun g hg e => by have := hg.2; have := SW1.out; have := SW2.out; have := SW3.out; omega) (elIns_kept KV3.out (fun g hg e => by have := hg.2; have := SW1.out; have := SW2.out; have := SW3.out; omega))).kept KS3.out (fun g hg e => by have := hg.1; have := HLT1.out; have := SW1.out; have := SW2.out; have := SW3.out; omega) (elIns_kept KS3.out (fun g hg e => by have := hg.1; have := HLT1.out; have := SW1.out; have := SW2.out; have := SW3.out; omega)))
      clear HN8 KN8 q8 u8 f8 GB8 HLS HL8 hs8
      have q18 := (B4.out.kept ((Kept.refl No w4).alloc (.cells #[] 195)) (fun h => h)).cell (j := 18) rfl
      have hls : Ls 2 elSm (w4.alloc (.cells #[] 195)) (Hn w) a18 m18 d18 p.sems := HL18.out.kept (KW4.out.alloc _) (fun _ _ h => h) (elSm_kept (KW4.out.alloc _) (fun _ _ h => h))
      have HLS : Hid (Ls 2 elSm (w4.alloc (.cells #[] 195)) (Hn w) a18 m18 d18 p.sems) := hls
      clear hls
      go_upto_region 10 with (at_builtin; refine copySm rfl _ _ rfl w4.heap.size rfl (madeK w4 _ _) (by simp) a18 m18 d18 rfl (Hn w) p.sems HLS.out hs18 ?_; intro y18 z18 v4 HN18 KN18; have g18 : Bk v4 b5 [.int .i64 p.pe, .int .i64 p.bu, .int .i64 p.off, .int .i64 p.pr, .int .i64 p.wo, .int .i64 p.fi, .slice y6 m6 z6, .slice y7 m7 z7, .slice y8 m8 z8, .int .i64 p.ha, .int .i64 p.h0, .int .i64 p.h1, .int .i64 p.h2, .int .i64 p.h3, .int .i64 p.h4, .int .i64 p.h5, .int .i64 p.h6, .int .i64 p.h7, .slice a18 m18 d18, .slice a19 m19 d19, .slice a20 m20 d20] 48 := (B4.out.kept ((Kept.refl No w4).alloc (.cells #[] 195)) (fun h => h)).kept KN18.out (fun e => by have := B4.out.lt; omega); have GB18 : Hid (Bk v4 b5 [.int .i64 p.pe, .int .i64 p.bu, .int .i64 p.off, .int .i64 p.pr, .int .i64 p.wo, .int .i64 p.fi, .slice y6 m6 z6, .slice y7 m7 z7, .slice y8 m8 z8, .int .i64 p.ha, .int .i64 p.h0, .int .i64 p.h1, .int .i64 p.h2, .int .i64 p.h3, .int .i64 p.h4, .int .i64 p.h5, .int .i64 p.h6, .int .i64 p.h7, .slice a18 m18 d18, .slice a19 m19 d19, .slice a20 m20 d20] 48) := g18; have u18 := g18.cell (j := 18) rfl; have f18 := g18.fz 18; clear g18)
      have KV4 : Hid (Kept (fun k => k = w4.heap.size) w4 v4) := ((Kept.refl (fun k => k = w4.heap.size) w4).alloc _).trans KN18.out (fun _ h => .inl h)
      have KS4 : Hid (Kept (fun k => k = b5) v4 (v4.setCell ⟨b5, 18, none⟩ (.slice y18 m18 z18))) := (Kept.refl (fun k => k = b5) v4).setCell (p := ⟨b5, 18, none⟩) (.inl rfl) _
      have B5 : Hid (Bk (v4.setCell ⟨b5, 18, none⟩ (.slice y18 m18 z18)) b5 [.int .i64 p.pe, .int .i64 p.bu, .int .i64 p.off, .int .i64 p.pr, .int .i64 p.wo, .int .i64 p.fi, .slice y6 m6 z6, .slice y7 m7 z7, .slice y8 m8 z8, .int .i64 p.ha, .int .i64 p.h0, .int .i64 p.h1, .int .i64 p.h2, .int .i64 p.h3, .int .i64 p.h4, .int .i64 p.h5, .int .i64 p.h6, .int .i64 p.h7, .slice y18 m18 z18, .slice a19 m19 d19, .slice a20 m20 d20] 48) := GB18.out.set 18 _
      have SV4 : Hid (w4.heap.size ≤ v4.heap.size) := KV4.out.size
      generalize (v4.setCell ⟨b5, 18, none⟩ (.slice y18 m18 z18)) = w5 at *
      have KW5 : Hid (Kept No w w5) := (KW4.out.trans KV4.out (fun k e => .inr (by have := KW4.out.size; omega))).trans KS4.out (fun k e => .inr (by have := HC.out.kp.size; have := HB5.out; omega))
      have SW4 : Hid (w4.heap.size ≤ w5.heap.size) := Nat.le_trans SV4.out KS4.out.size
      have XL18 : Hid (Ls 2 elSm w5 (In (w4.heap.size - 1) w5.heap.size) y18 m18 z18 p.sems) := (HN18.out.1.inn (lo := (w4.heap.size - 1)) (hi := w5.heap.size) (fun g hg => Nat.lt_of_lt_of_le (HN18.out.2.1 g hg) KS4.out.size) (by have := B1.out.lt; have := HLT1.out; have := SW1.out; have := SW2.out; have := SW3.out; have := SW4.out; omega) (fun _ _ h => h)).kept KS4.out (fun g hg e => by have := hg.1; have := HLT1.out; have := SW1.out; have := SW2.out; have := SW3.out; have := SW4.out; omega) (elSm_kept KS4.out (fun g hg e => by have := hg.1; have := HLT1.out; have := SW1.out; have := SW2.out; have := SW3.out; have := SW4.out; omega))
      have XL6 : Hid (Ls 1 elI w5 (In b5 w2.heap.size) y6 m6 z6 p.init) := ((XL6.out.kept KV4.out (fun g hg e => by have := hg.2; have := SW1.out; have := SW2.out; have := SW3.out; have := SW4.out; omega) (elI_kept KV4.out (fun g hg e => by have := hg.2; have := SW1.out; have := SW2.out; have := SW3.out; have := SW4.out; omega))).kept KS4.out (fun g hg e => by have := hg.1; have := HLT1.out; have := SW1.out; have := SW2.out; have := SW3.out; have := SW4.out; omega) (elI_kept KS4.out (fun g hg e => by have := hg.1; have := HLT1.out; have := SW1.out; have := SW2.out; have := SW3.out; have := SW4.out; omega)))
      have XL7 : Hid (Ls 5 elIns w5 (In b5 w3.heap.size) y7 m7 z7 p.code) := ((XL7.out.kept KV4.out (fun g hg e => by have := hg.2; have := SW1.out; have := SW2.out; have := SW3.out; have := SW4.out; omega) (elIns_kept KV4.out (fun g hg e => by have := hg.2; have := SW1.out; have := SW2.out; have := SW3.out; have := SW4.out; omega))).kept KS4.out (fun g hg e => by have := hg.1; have := HLT1.out; have := SW1.out; have := SW2.out; have := SW3.out; have := SW4.out; omega) (elIns_kept KS4.out (fun g hg e => by have := hg.1; have := HLT1.out; have := SW1.out; have := SW2.out; have := SW3.out; have := SW4.out; omega)))
      have XF8 : Hid (∀ g, (Value.slice y8 m8 z8).ownBlock = some g → ∀ j, w5.frozen? ⟨g, j, none⟩ = false) := fun g hg => fz_kept KS4.out (fun e => by have := XR8.out g hg; have := HLT1.out; have := SW1.out; have := SW2.out; have := SW3.out; have := SW4.out; omega) (by have := XR8.out g hg; have := SV4.out; have := SW1.out; have := SW2.out; have := SW3.out; have := SW4.out; omega) (fz_kept KV4.out (fun e => by have := XR8.out g hg; have := SW1.out; have := SW2.out; have := SW3.out; have := SW4.out; omega) (by have := XR8.out g hg; have := SW1.out; have := SW2.out; have := SW3.out; have := SW4.out; omega) (XF8.out g hg))
      have XL8 : Hid (Ls 6 elPrc w5 (fun g => (Value.slice y8 m8 z8).ownBlock = some g) y8 m8 z8 p.procs) := ((XL8.out.kept KV4.out (fun g hg e => by have := XR8.out g hg; have := SW1.out; have := SW2.out; have := SW3.out; have := SW4.out; omega) (elPrc_kept KV4.out (fun g hg e => by have := XR8.out g hg; have := SW1.out; have := SW2.out; have := SW3.out; have := SW4.out; omega))).kept KS4.out (fun g hg e => by have := XR8.out g hg; have := HLT1.out; have := SW1.out; have := SW2.out; have := SW3.out; have := SW4.out; omega) (elPrc_kept KS4.out (fun g hg e => by have := XR8.out g hg; have := HLT1.out; have := SW1.out; have := SW2.out; have := SW3.out; have := SW4.out; omega)))
      clear HN18 KN18 q18 u18 f18 GB18 HLS HL18 hs18
      have q19 := (B5.out.kept ((Kept.refl No w5).alloc (.cells #[] 4)) (fun h => h)).cell (j := 19) rfl
      have hls : Ls 1 elB (w5.alloc (.cells #[] 4)) (Hn w) a19 m19 d19 p.evs := HL19.out.kept (KW5.out.alloc _) (fun _ _ h => h) (elB_kept (KW5.out.alloc _) (fun _ _ h => h))
      have HLS : Hid (Ls 1 elB (w5.alloc (.cells #[] 4)) (Hn w) a19 m19 d19 p.evs) := hls
      clear hls
      go_upto_region 11 with (at_builtin; refine copyB rfl _ _ rfl w5.heap.size rfl (madeK w5 _ _) (by simp) a19 m19 d19 rfl (Hn w) p.evs HLS.out hs19 ?_; intro y19 z19 v5 HN19 KN19; have g19 : Bk v5 b5 [.int .i64 p.pe, .int .i64 p.bu, .int .i64 p.off, .int .i64 p.pr, .int .i64 p.wo, .int .i64 p.fi, .slice y6 m6 z6, .slice y7 m7 z7, .slice y8 m8 z8, .int .i64 p.ha, .int .i64 p.h0, .int .i64 p.h1, .int .i64 p.h2, .int .i64 p.h3, .int .i64 p.h4, .int .i64 p.h5, .int .i64 p.h6, .int .i64 p.h7, .slice y18 m18 z18, .slice a19 m19 d19, .slice a20 m20 d20] 48 := (B5.out.kept ((Kept.refl No w5).alloc (.cells #[] 4)) (fun h => h)).kept KN19.out (fun e => by have := B5.out.lt; omega); have GB19 : Hid (Bk v5 b5 [.int .i64 p.pe, .int .i64 p.bu, .int .i64 p.off, .int .i64 p.pr, .int .i64 p.wo, .int .i64 p.fi, .slice y6 m6 z6, .slice y7 m7 z7, .slice y8 m8 z8, .int .i64 p.ha, .int .i64 p.h0, .int .i64 p.h1, .int .i64 p.h2, .int .i64 p.h3, .int .i64 p.h4, .int .i64 p.h5, .int .i64 p.h6, .int .i64 p.h7, .slice y18 m18 z18, .slice a19 m19 d19, .slice a20 m20 d20] 48) := g19; have u19 := g19.cell (j := 19) rfl; have f19 := g19.fz 19; clear g19)
      have KV5 : Hid (Kept (fun k => k = w5.heap.size) w5 v5) := ((Kept.refl (fun k => k = w5.heap.size) w5).alloc _).trans KN19.out (fun _ h => .inl h)
      have KS5 : Hid (Kept (fun k => k = b5) v5 (v5.setCell ⟨b5, 19, none⟩ (.slice y19 m19 z19))) := (Kept.refl (fun k => k = b5) v5).setCell (p := ⟨b5, 19, none⟩) (.inl rfl) _
      have B6 : Hid (Bk (v5.setCell ⟨b5, 19, none⟩ (.slice y19 m19 z19)) b5 [.int .i64 p.pe, .int .i64 p.bu, .int .i64 p.off, .int .i64 p.pr, .int .i64 p.wo, .int .i64 p.fi, .slice y6 m6 z6, .slice y7 m7 z7, .slice y8 m8 z8, .int .i64 p.ha, .int .i64 p.h0, .int .i64 p.h1, .int .i64 p.h2, .int .i64 p.h3, .int .i64 p.h4, .int .i64 p.h5, .int .i64 p.h6, .int .i64 p.h7, .slice y18 m18 z18, .slice y19 m19 z19, .slice a20 m20 d20] 48) := GB19.out.set 19 _
      have SV5 : Hid (w5.heap.size ≤ v5.heap.size) := KV5.out.size
      generalize (v5.setCell ⟨b5, 19, none⟩ (.slice y19 m19 z19)) = w6 at *
      have KW6 : Hid (Kept No w w6) := (KW5.out.trans KV5.out (fun k e => .inr (by have := KW5.out.size; omega))).trans KS5.out (fun k e => .inr (by have := HC.out.kp.size; have := HB5.out; omega))
      have SW5 : Hid (w5.heap.size ≤ w6.heap.size) := Nat.le_trans SV5.out KS5.out.size
      have XL19 : Hid (Ls 1 elB w6 (In (w4.heap.size - 1) w6.heap.size) y19 m19 z19 p.evs) := (HN19.out.1.inn (lo := (w4.heap.size - 1)) (hi := w6.heap.size) (fun g hg => Nat.lt_of_lt_of_le (HN19.out.2.1 g hg) KS5.out.size) (by have := B1.out.lt; have := HLT1.out; have := SW1.out; have := SW2.out; have := SW3.out; have := SW4.out; have := SW5.out; omega) (fun _ _ h => h)).kept KS5.out (fun g hg e => by have := hg.1; have := HLT1.out; have := SW1.out; have := SW2.out; have := SW3.out; have := SW4.out; have := SW5.out; omega) (elB_kept KS5.out (fun g hg e => by have := hg.1; have := HLT1.out; have := SW1.out; have := SW2.out; have := SW3.out; have := SW4.out; have := SW5.out; omega))
      have XL6 : Hid (Ls 1 elI w6 (In b5 w2.heap.size) y6 m6 z6 p.init) := ((XL6.out.kept KV5.out (fun g hg e => by have := hg.2; have := SW1.out; have := SW2.out; have := SW3.out; have := SW4.out; have := SW5.out; omega) (elI_kept KV5.out (fun g hg e => by have := hg.2; have := SW1.out; have := SW2.out; have := SW3.out; have := SW4.out; have := SW5.out; omega))).kept KS5.out (fun g hg e => by have := hg.1; have := HLT1.out; have := SW1.out; have := SW2.out; have := SW3.out; have := SW4.out; have := SW5.out; omega) (elI_kept KS5.out (fun g hg e => by have := hg.1; have := HLT1.out; have := SW1.out; have := SW2.out; have := SW3.out; have := SW4.out; have := SW5.out; omega)))
      have XL7 : Hid (Ls 5 elIns w6 (In b5 w3.heap.size) y7 m7 z7 p.code) := ((XL7.out.kept KV5.out (fun g hg e => by have := hg.2; have := SW1.out; have := SW2.out; have := SW3.out; have := SW4.out; have := SW5.out; omega) (elIns_kept KV5.out (fun g hg e => by have := hg.2; have := SW1.out; have := SW2.out; have := SW3.out; have := SW4.out; have := SW5.out; omega))).kept KS5.out (fun g hg e => by have := hg.1; have := HLT1.out; have := SW1.out; have := SW2.out; have := SW3.out; have := SW4.out; have := SW5.out; omega) (elIns_kept KS5.out (fun g hg e => by have := hg.1; have := HLT1.out; have := SW1.out; have := SW2.out; have := SW3.out; have := SW4.out; have := SW5.out; omega)))
      have XF8 : Hid (∀ g, (Value.slice y8 m8 z8).ownBlock = some g → ∀ j, w6.frozen? ⟨g, j, none⟩ = false) := fun g hg => fz_kept KS5.out (fun e => by have := XR8.out g hg; have := HLT1.out; have := SW1.out; have := SW2.out; have := SW3.out; have := SW4.out; have := SW5.out; omega) (by have := XR8.out g hg; have := SV5.out; have := SW1.out; have := SW2.out; have := SW3.out; have := SW4.out; have := SW5.out; omega) (fz_kept KV5.out (fun e => by have := XR8.out g hg; have := SW1.out; have := SW2.out; have := SW3.out; have := SW4.out; have := SW5.out; omega) (by have := XR8.out g hg; have := SW1.out; have := SW2.out; have := SW3.out; have := SW4.out; have := SW5.out; omega) (XF8.out g hg))
      have XL8 : Hid (Ls 6 elPrc w6 (fun g => (Value.slice y8 m8 z8).ownBlock = some g) y8 m8 z8 p.procs) := ((XL8.out.kept KV5.out (fun g hg e => by have := XR8.out g hg; have := SW1.out; have := SW2.out; have := SW3.out; have := SW4.out; have := SW5.out; omega) (elPrc_kept KV5.out (fun g hg e => by have := XR8.out g hg; have := SW1.out; have := SW2.out; have := SW3.out; have := SW4.out; have := SW5.out; omega))).kept KS5.out (fun g hg e => by have := XR8.out g hg; have := HLT1.out; have := SW1.out; have := SW2.out; have := SW3.out; have := SW4.out; have := SW5.out; omega) (elPrc_kept KS5.out (fun g hg e => by have := XR8.out g hg; have := HLT1.out; have := SW1.out; have := SW2.out; have := SW3.out; have := SW4.out; have := SW5.out; omega)))
      have XL18 : Hid (Ls 2 elSm w6 (In (w4.heap.size - 1) w5.heap.size) y18 m18 z18 p.sems) := ((XL18.out.kept KV5.out (fun g hg e => by have := hg.2; have := SW1.out; have := SW2.out; have := SW3.out; have := SW4.out; have := SW5.out; omega) (elSm_kept KV5.out (fun g hg e => by have := hg.2; have := SW1.out; have := SW2.out; have := SW3.out; have := SW4.out; have := SW5.out; omega))).kept KS5.out (fun g hg e => by have := hg.1; have := HLT1.out; have := SW1.out; have := SW2.out; have := SW3.out; have := SW4.out; have := SW5.out; omega) (elSm_kept KS5.out (fun g hg e => by have := hg.1; have := HLT1.out; have := SW1.out; have := SW2.out; have := SW3.out; have := SW4.out; have := SW5.out; omega)))
      clear HN19 KN19 q19 u19 f19 GB19 HLS HL19 hs19
      have q20 := (B6.out.kept ((Kept.refl No w6).alloc (.cells #[] 200)) (fun h => h)).cell (j := 20) rfl
      have hls : Ls 2 elBf (w6.alloc (.cells #[] 200)) (Hn w) a20 m20 d20 p.bufs := HL20.out.kept (KW6.out.alloc _) (fun _ _ h => h) (elBf_kept (KW6.out.alloc _) (fun _ _ h => h))
      have HLS : Hid (Ls 2 elBf (w6.alloc (.cells #[] 200)) (Hn w) a20 m20 d20 p.bufs) := hls
      clear hls
      go_upto_region 12 with (at_builtin; refine copyBf rfl _ _ rfl w6.heap.size rfl (madeK w6 _ _) (by simp) a20 m20 d20 rfl (Hn w) p.bufs HLS.out hs20 ?_; intro y20 z20 v6 HN20 KN20; have g20 : Bk v6 b5 [.int .i64 p.pe, .int .i64 p.bu, .int .i64 p.off, .int .i64 p.pr, .int .i64 p.wo, .int .i64 p.fi, .slice y6 m6 z6, .slice y7 m7 z7, .slice y8 m8 z8, .int .i64 p.ha, .int .i64 p.h0, .int .i64 p.h1, .int .i64 p.h2, .int .i64 p.h3, .int .i64 p.h4, .int .i64 p.h5, .int .i64 p.h6, .int .i64 p.h7, .slice y18 m18 z18, .slice y19 m19 z19, .slice a20 m20 d20] 48 := (B6.out.kept ((Kept.refl No w6).alloc (.cells #[] 200)) (fun h => h)).kept KN20.out (fun e => by have := B6.out.lt; omega); have GB20 : Hid (Bk v6 b5 [.int .i64 p.pe, .int .i64 p.bu, .int .i64 p.off, .int .i64 p.pr, .int .i64 p.wo, .int .i64 p.fi, .slice y6 m6 z6, .slice y7 m7 z7, .slice y8 m8 z8, .int .i64 p.ha, .int .i64 p.h0, .int .i64 p.h1, .int .i64 p.h2, .int .i64 p.h3, .int .i64 p.h4, .int .i64 p.h5, .int .i64 p.h6, .int .i64 p.h7, .slice y18 m18 z18, .slice y19 m19 z19, .slice a20 m20 d20] 48) := g20; have u20 := g20.cell (j := 20) rfl; have f20 := g20.fz 20; clear g20)
      have KV6 : Hid (Kept (fun k => k = w6.heap.size) w6 v6) := ((Kept.refl (fun k => k = w6.heap.size) w6).alloc _).trans KN20.out (fun _ h => .inl h)
      have KS6 : Hid (Kept (fun k => k = b5) v6 (v6.setCell ⟨b5, 20, none⟩ (.slice y20 m20 z20))) := (Kept.refl (fun k => k = b5) v6).setCell (p := ⟨b5, 20, none⟩) (.inl rfl) _
      have B7 : Hid (Bk (v6.setCell ⟨b5, 20, none⟩ (.slice y20 m20 z20)) b5 [.int .i64 p.pe, .int .i64 p.bu, .int .i64 p.off, .int .i64 p.pr, .int .i64 p.wo, .int .i64 p.fi, .slice y6 m6 z6, .slice y7 m7 z7, .slice y8 m8 z8, .int .i64 p.ha, .int .i64 p.h0, .int .i64 p.h1, .int .i64 p.h2, .int .i64 p.h3, .int .i64 p.h4, .int .i64 p.h5, .int .i64 p.h6, .int .i64 p.h7, .slice y18 m18 z18, .slice y19 m19 z19, .slice y20 m20 z20] 48) := GB20.out.set 20 _
      have SV6 : Hid (w6.heap.size ≤ v6.heap.size) := KV6.out.size
      generalize (v6.setCell ⟨b5, 20, none⟩ (.slice y20 m20 z20)) = w7 at *
      have KW7 : Hid (Kept No w w7) := (KW6.out.trans KV6.out (fun k e => .inr (by have := KW6.out.size; omega))).trans KS6.out (fun k e => .inr (by have := HC.out.kp.size; have := HB5.out; omega))
      have SW6 : Hid (w6.heap.size ≤ w7.heap.size) := Nat.le_trans SV6.out KS6.out.size
      have XL20 : Hid (Ls 2 elBf w7 (In (w4.heap.size - 1) w7.heap.size) y20 m20 z20 p.bufs) := (HN20.out.1.inn (lo := (w4.heap.size - 1)) (hi := w7.heap.size) (fun g hg => Nat.lt_of_lt_of_le (HN20.out.2.1 g hg) KS6.out.size) (by have := B1.out.lt; have := HLT1.out; have := SW1.out; have := SW2.out; have := SW3.out; have := SW4.out; have := SW5.out; have := SW6.out; omega) (fun _ _ h => h)).kept KS6.out (fun g hg e => by have := hg.1; have := HLT1.out; have := SW1.out; have := SW2.out; have := SW3.out; have := SW4.out; have := SW5.out; have := SW6.out; omega) (elBf_kept KS6.out (fun g hg e => by have := hg.1; have := HLT1.out; have := SW1.out; have := SW2.out; have := SW3.out; have := SW4.out; have := SW5.out; have := SW6.out; omega))
      have XL6 : Hid (Ls 1 elI w7 (In b5 w2.heap.size) y6 m6 z6 p.init) := ((XL6.out.kept KV6.out (fun g hg e => by have := hg.2; have := SW1.out; have := SW2.out; have := SW3.out; have := SW4.out; have := SW5.out; have := SW6.out; omega) (elI_kept KV6.out (fun g hg e => by have := hg.2; have := SW1.out; have := SW2.out; have := SW3.out; have := SW4.out; have := SW5.out; have := SW6.out; omega))).kept KS6.out (fun g hg e => by have := hg.1; have := HLT1.out; have := SW1.out; have := SW2.out; have := SW3.out; have := SW4.out; have := SW5.out; have := SW6.out; omega) (elI_kept KS6.out (fun g hg e => by have := hg.1; have := HLT1.out; have := SW1.out; have := SW2.out; have := SW3.out; have := SW4.out; have := SW5.out; have := SW6.out; omega)))
      have XL7 : Hid (Ls 5 elIns w7 (In b5 w3.heap.size) y7 m7 z7 p.code) := ((XL7.out.kept KV6.out (fun g hg e => by have := hg.2; have := SW1.out; have := SW2.out; have := SW3.out; have := SW4.out; have := SW5.out; have := SW6.out; omega) (elIns_kept KV6.out (fun g hg e => by have := hg.2; have := SW1.out; have := SW2.out; have := SW3.out; have := SW4.out; have := SW5.out; have := SW6.out; omega))).kept KS6.out (fun g hg e => by have := hg.1; have := HLT1.out; have := SW1.out; have := SW2.out; have := SW3.out; have := SW4.out; have := SW5.out; have := SW6.out; omega) (elIns_kept KS6.out (fun g hg e => by have := hg.1; have := HLT1.out; have := SW1.out; have := SW2.out; have := SW3.out; have := SW4.out; have := SW5.out; have := SW6.out; omega)))
      have XF8 : Hid (∀ g, (Value.slice y8 m8 z8).ownBlock = some g → ∀ j, w7.frozen? ⟨g, j, none⟩ = false) := fun g hg => fz_kept KS6.out (fun e => by have := XR8.out g hg; have := HLT1.out; have := SW1.out; have := SW2.out; have := SW3.out; have := SW4.out; have := SW5.out; have := SW6.out; omega) (by have := XR8.out g hg; have := SV6.out; have := SW1.out; have := SW2.out; have := SW3.out; have := SW4.out; have := SW5.out; have := SW6.out; omega) (fz_kept KV6.out (fun e => by have := XR8.out g hg; have := SW1.out; have := SW2.out; have := SW3.out; have := SW4.out; have := SW5.out; have := SW6.out; omega) (by have := XR8.out g hg; have := SW1.out; have := SW2.out; have := SW3.out; have := SW4.out; have := SW5.out; have := SW6.out; omega) (XF8.out g hg))
      have XL8 : Hid (Ls 6 elPrc w7 (fun g => (Value.slice y8 m8 z8).ownBlock = some g) y8 m8 z8 p.procs) := ((XL8.out.kept KV6.out (fun g hg e => by have := XR8.out g hg; have := SW1.out; have := SW2.out; have := SW3.out; have := SW4.out; have := SW5.out; have := SW6.out; omega) (elPrc_kept KV6.out (fun g hg e => by have := XR8.out g hg; have := SW1.out; have := SW2.out; have := SW3.out; have := SW4.out; have := SW5.out; have := SW6.out; omega))).kept KS6.out (fun g hg e => by have := XR8.out g hg; have := HLT1.out; have := SW1.out; have := SW2.out; have := SW3.out; have := SW4.out; have := SW5.out; have := SW6.out; omega) (elPrc_kept KS6.out (fun g hg e => by have := XR8.out g hg; have := HLT1.out; have := SW1.out; have := SW2.out; have := SW3.out; have := SW4.out; have := SW5.out; have := SW6.out; omega)))
      have XL18 : Hid (Ls 2 elSm w7 (In (w4.heap.size - 1) w5.heap.size) y18 m18 z18 p.sems) := ((XL18.out.kept KV6.out (fun g hg e => by have := hg.2; have := SW1.out; have := SW2.out; have := SW3.out; have := SW4.out; have := SW5.out; have := SW6.out; omega) (elSm_kept KV6.out (fun g hg e => by have := hg.2; have := SW1.out; have := SW2.out; have := SW3.out; have := SW4.out; have := SW5.out; have := SW6.out; omega))).kept KS6.out (fun g hg e => by have := hg.1; have := HLT1.out; have := SW1.out; have := SW2.out; have := SW3.out; have := SW4.out; have := SW5.out; have := SW6.out; omega) (elSm_kept KS6.out (fun g hg e => by have := hg.1; have := HLT1.out; have := SW1.out; have := SW2.out; have := SW3.out; have := SW4.out; have := SW5.out; have := SW6.out; omega)))
      have XL19 : Hid (Ls 1 elB w7 (In (w4.heap.size - 1) w6.heap.size) y19 m19 z19 p.evs) := ((XL19.out.kept KV6.out (fun g hg e => by have := hg.2; have := SW1.out; have := SW2.out; have := SW3.out; have := SW4.out; have := SW5.out; have := SW6.out; omega) (elB_kept KV6.out (fun g hg e => by have := hg.2; have := SW1.out; have := SW2.out; have := SW3.out; have := SW4.out; have := SW5.out; have := SW6.out; omega))).kept KS6.out (fun g hg e => by have := hg.1; have := HLT1.out; have := SW1.out; have := SW2.out; have := SW3.out; have := SW4.out; have := SW5.out; have := SW6.out; omega) (elB_kept KS6.out (fun g hg e => by have := hg.1; have := HLT1.out; have := SW1.out; have := SW2.out; have := SW3.out; have := SW4.out; have := SW5.out; have := SW6.out; omega)))
      clear HN20 KN20 q20 u20 f20 GB20 HLS HL20 hs20
      have HEL : Hid (elPq w7 (fun g => b5 < g ∧ g < w7.heap.size ∧ ¬ ((Value.slice y8 m8 z8).ownBlock = some g)) (fun g => (Value.slice y8 m8 z8).ownBlock = some g) [.int .i64 p.pe, .int .i64 p.bu, .int .i64 p.off, .int .i64 p.pr, .int .i64 p.wo, .int .i64 p.fi, .slice y6 m6 z6, .slice y7 m7 z7, .slice y8 m8 z8, .int .i64 p.ha, .int .i64 p.h0, .int .i64 p.h1, .int .i64 p.h2, .int .i64 p.h3, .int .i64 p.h4, .int .i64 p.h5, .int .i64 p.h6, .int .i64 p.h7, .slice y18 m18 z18, .slice y19 m19 z19, .slice y20 m20 z20] p) := ⟨⟨y6, m6, z6, y7, m7, z7, y8, m8, z8, y18, m18, z18, y19, m19, z19, y20, m20, z20, rfl, XL6.out.mono (fun g hg => ⟨by have := hg.1; have := HLT1.out; have := SW1.out; have := SW2.out; have := SW3.out; have := SW4.out; have := SW5.out; have := SW6.out; omega, by have := hg.2; have := SW1.out; have := SW2.out; have := SW3.out; have := SW4.out; have := SW5.out; have := SW6.out; omega, fun e => by have := XR8.out g e; have := hg.1; have := hg.2; have := SW1.out; have := SW2.out; have := SW3.out; have := SW4.out; have := SW5.out; have := SW6.out; omega⟩) (fun _ _ h => h), XL7.out.mono (fun g hg => ⟨by have := hg.1; have := HLT1.out; have := SW1.out; have := SW2.out; have := SW3.out; have := SW4.out; have := SW5.out; have := SW6.out; omega, by have := hg.2; have := SW1.out; have := SW2.out; have := SW3.out; have := SW4.out; have := SW5.out; have := SW6.out; omega, fun e => by have := XR8.out g e; have := hg.1; have := hg.2; have := SW1.out; have := SW2.out; have := SW3.out; have := SW4.out; have := SW5.out; have := SW6.out; omega⟩) (fun _ _ h => h), XL8.out, XL18.out.mono (fun g hg => ⟨by have := hg.1; have := HLT1.out; have := SW1.out; have := SW2.out; have := SW3.out; have := SW4.out; have := SW5.out; have := SW6.out; omega, by have := hg.2; have := SW1.out; have := SW2.out; have := SW3.out; have := SW4.out; have := SW5.out; have := SW6.out; omega, fun e => by have := XR8.out g e; have := hg.1; have := hg.2; have := SW1.out; have := SW2.out; have := SW3.out; have := SW4.out; have := SW5.out; have := SW6.out; omega⟩) (fun _ _ h => h), XL19.out.mono (fun g hg => ⟨by have := hg.1; have := HLT1.out; have := SW1.out; have := SW2.out; have := SW3.out; have := SW4.out; have := SW5.out; have := SW6.out; omega, by have := hg.2; have := SW1.out; have := SW2.out; have := SW3.out; have := SW4.out; have := SW5.out; have := SW6.out; omega, fun e => by have := XR8.out g e; have := hg.1; have := hg.2; have := SW1.out; have := SW2.out; have := SW3.out; have := SW4.out; have := SW5.out; have := SW6.out; omega⟩) (fun _ _ h => h), XL20.out.mono (fun g hg => ⟨by have := hg.1; have := HLT1.out; have := SW1.out; have := SW2.out; have := SW3.out; have := SW4.out; have := SW5.out; have := SW6.out; omega, by have := hg.2; have := SW1.out; have := SW2.out; have := SW3.out; have := SW4.out; have := SW5.out; have := SW6.out; omega, fun e => by have := XR8.out g e; have := hg.1; have := hg.2; have := SW1.out; have := SW2.out; have := SW3.out; have := SW4.out; have := SW5.out; have := SW6.out; omega⟩) (fun _ _ h => h)⟩, HOKP.out⟩
      have HXP : Hid (∀ g, (Value.slice y8 m8 z8).ownBlock = some g → b5 ≤ g ∧ g < w7.heap.size) := fun g e => ⟨by have := XR8.out g e; have := HLT1.out; have := SW1.out; have := SW2.out; have := SW3.out; have := SW4.out; have := SW5.out; have := SW6.out; omega, by have := XR8.out g e; have := SW1.out; have := SW2.out; have := SW3.out; have := SW4.out; have := SW5.out; have := SW6.out; omega⟩
      obtain ⟨C, hC⟩ : ∃ C : List Value, C = [.int .i64 p.pe, .int .i64 p.bu, .int .i64 p.off, .int .i64 p.pr, .int .i64 p.wo, .int .i64 p.fi, .slice y6 m6 z6, .slice y7 m7 z7, .slice y8 m8 z8, .int .i64 p.ha, .int .i64 p.h0, .int .i64 p.h1, .int .i64 p.h2, .int .i64 p.h3, .int .i64 p.h4, .int .i64 p.h5, .int .i64 p.h6, .int .i64 p.h7, .slice y18 m18 z18, .slice y19 m19 z19, .slice y20 m20 z20] := ⟨_, rfl⟩
      rw [← hC] at HEL B7
      have HEN : Hid (elPn w7 (fun _ => True) C p) := HEL.out.pn (fun _ _ => trivial) (fun _ _ => trivial)
      clear hC XR8 XL6 XL7 XL8 XL18 XL19 XL20
      have KR : Hid (Kept No wr w7) := ((((((((((((HK1.out.trans KV1.out (fun k e => .inr (by have := HLT1.out; have := HB5.out;  omega))).trans KS1.out (fun k e => .inr (by have := HB5.out; omega))).trans KV2.out (fun k e => .inr (by have := HLT1.out; have := HB5.out; have := SW1.out; omega))).trans KS2.out (fun k e => .inr (by have := HB5.out; omega))).trans KV3.out (fun k e => .inr (by have := HLT1.out; have := HB5.out; have := SW1.out; have := SW2.out; omega))).trans KS3.out (fun k e => .inr (by have := HB5.out; omega))).trans KV4.out (fun k e => .inr (by have := HLT1.out; have := HB5.out; have := SW1.out; have := SW2.out; have := SW3.out; omega))).trans KS4.out (fun k e => .inr (by have := HB5.out; omega))).trans KV5.out (fun k e => .inr (by have := HLT1.out; have := HB5.out; have := SW1.out; have := SW2.out; have := SW3.out; have := SW4.out; omega))).trans KS5.out (fun k e => .inr (by have := HB5.out; omega))).trans KV6.out (fun k e => .inr (by have := HLT1.out; have := HB5.out; have := SW1.out; have := SW2.out; have := SW3.out; have := SW4.out; have := SW5.out; omega))).trans KS6.out (fun k e => .inr (by have := HB5.out; omega)))
      have hgr := HC.out.gr
      have hhi := hgr.hi
      have g7 : GrP (w.heap.size + 3) top Fs Ps vP x.parts k w7 := hgr.kept KR.out (fun _ _ _ _ h => h) (fun _ _ h => h)
      have r17 := HC.out.r1.kept KR.out (fun h => h)
      have r27 := HC.out.r2.kept KR.out (fun h => h)
      have r37 := HC.out.r3.kept KR.out (fun h => h)
      have hw3 : w.heap.size + 3 ≤ wr.heap.size := HC.out.r3.lt
      obtain ⟨⟨css, t1, t2, t3, t4⟩, t5, t6, t7⟩ := g7
      have hvP : ∀ g, vP.ownBlock = some g → g < wr.heap.size := by
        obtain ⟨⟨css', s1, _⟩, _⟩ := hgr
        exact fun g hg => (s1.lt g hg).2
      have hCl := elPn_len HEN.out
      have hld7 : (Instr.loadAt 48 (.pointer (some ⟨b5, 0, none⟩))).run Tryz.prog w7 = .ok (.agg C.toArray) w7 := run_loadAt_mid w7 b5 0 _ C _ (fun j v hv => by rw [Nat.zero_add]; exact B7.out.cell hv) Tryz.underlying48 rfl (by rw [hCl]; exact sizePn)
      have hsz7 := KR.out.size
      have happ := run_append_own_at (P := Tryz.prog) (w7.alloc (.cells C.toArray 48)) (w.heap.size + 3) 22 22 48 i0 (.agg #[.int .i64 0, .int .i64 0, .int .i64 0, .int .i64 0, .int .i64 0, .int .i64 0, .slice none 0 0, .slice none 0 0, .slice none 0 0, .int .i64 0, .int .i64 0, .int .i64 0, .int .i64 0, .int .i64 0, .int .i64 0, .int .i64 0, .int .i64 0, .int .i64 0, .slice none 0 0, .slice none 0 0, .slice none 0 0]) 21 264 Tryz.underlying22 hi hz0 hz1 hz2 rfl (by decide) vP k css.flatten (t1.alloc _) ⟨w7.heap.size, 0, none⟩ 1 1 C (by rw [hCl]) (cells_new w7 C _ _ rfl) (elPn_one HEN.out) (by unfold maxLen; omega) (by omega) (by simp; omega)
      obtain ⟨v4, w8, hrun, own8, grow8, _, hat8⟩ := happ
      obtain ⟨va, vn, vc, hv4⟩ := own_slice own8
      subst hv4
      have k78 : Kept (fun k => vP.ownBlock = some k) w7 w8 := ((Kept.refl (fun k => vP.ownBlock = some k) w7).alloc _).grown grow8 (fun k hk => .inl hk)
      have hat : (Value.slice va vn vc).ownBlock = vP.ownBlock ∨ ∃ g, (Value.slice va vn vc).ownBlock = some g ∧ w7.heap.size ≤ g := by
        rcases hat8 with h | h
        · exact .inl h
        · exact .inr ⟨_, h, by simp⟩
      have g8 := GrP.snoc (b := b5) (hi' := w7.heap.size) t1 t2 t3 t4 t5 t6 t7 HP.out hCl HEL.out (fun g hg e => by have h1 := hvP g e; have h3 := HB5.out; rcases hg with hg | hg; (· have := hg.1; omega); (· have := HXP.out g hg; omega)) (by have := HB5.out; omega) (by have := HB5.out; omega) t7 (fun g hg => by rcases hg with hg | hg; (· exact ⟨Nat.le_of_lt hg.1, hg.2.1⟩); (· exact HXP.out g hg)) (Nat.le_refl _) (fun g hp hf => hf.2.2 hp) XF8.out own8 k78 hat
      have hn3 : ∀ j, j < w.heap.size + 3 → ¬ (vP.ownBlock = some j) := fun j hj e => by have := (t1.lt j e).1; omega
      have r18 := r17.kept k78 (hn3 _ (by omega))
      have r28 := r27.kept k78 (hn3 _ (by omega))
      have r38 := r37.kept k78 (hn3 _ (by omega))
      have ks : Kept (fun k => k = w.heap.size + 2) w8 (w8.setCell ⟨w.heap.size + 2, 0, none⟩ (.slice va vn vc)) := (Kept.refl (fun k => k = w.heap.size + 2) w8).setCell (p := ⟨w.heap.size + 2, 0, none⟩) (.inl rfl) _
      have HEND : Hid (CpA w [.slice (some ⟨b, of, none⟩) n0 c0, .slice a1 n1 c1, .slice a2 n2 c2] x.parts w7.heap.size (fun i => if i = k then (fun g => b5 < g ∧ g < w7.heap.size ∧ ¬ ((Value.slice y8 m8 z8).ownBlock = some g)) else Fs i) (fun i => if i = k then (fun g => (Value.slice y8 m8 z8).ownBlock = some g) else Ps i) (.slice va vn vc) (k + 1) (w8.setCell ⟨w.heap.size + 2, 0, none⟩ (.slice va vn vc))) := by
        refine ⟨r18.kept ks (fun e => by omega), r28.kept ks (fun e => by omega), r38.set 0 _, ?_, ?_⟩
        · exact ((HC.out.kp.trans KR.out (fun _ h => h.elim)).trans k78 (fun g hg => .inr (by have := (t1.lt g hg).1; omega))).trans ks (fun g e => .inr (by omega))
        · refine g8.kept ks (fun g h1 h2 h3 e => by omega) (fun g hg e => ?_)
          have := (own8.lt g hg).1
          omega
      have HRUN : Hid ((Builtin.append_ #[22, 22] 22 #[vP, .slice (some ⟨w7.heap.size, 0, none⟩) 1 1]).run Tryz.prog (w7.alloc (.cells C.toArray 48)) = .ok (.slice va vn vc) w8) := hrun
      have HLD7 : Hid ((Instr.loadAt 48 (.pointer (some ⟨b5, 0, none⟩))).run Tryz.prog w7 = .ok (.agg C.toArray) w7) := hld7
      have c0' := r37.cell (j := 0) rfl
      have c8 := r38.cell (j := 0) rfl
      have f8 := r38.fz 0
      clear hgr hhi XF8 HXP t1 t2 t3 t4 t5 t6 t7 hvP hld7 hrun own8 grow8 hat8 k78 hat g8 hn3 r17 r18 r27 r28 r37 r38 ks
      refine wp_region_lit ?_
      try simp only [Act.put, List.setIfInBounds_toArray, List.set_cons_zero, List.set_cons_succ]
      refine l_take 50 rfl rfl (er_fIm0c _ rfl (w.heap.size + 2) rfl) ?_
      simp only [Act.put, List.setIfInBounds_toArray, List.set_cons_zero, List.set_cons_succ]
      refine l_take 51 rfl rfl (er_ldSP _ rfl (w.heap.size + 2) 0 _ rfl c0') ?_
      simp only [Act.put, List.setIfInBounds_toArray, List.set_cons_zero, List.set_cons_succ]
      refine l_take 52 rfl rfl (er_ld _ _ rfl _ _ rfl HLD7.out) ?_
      simp only [Act.put, List.setIfInBounds_toArray, List.set_cons_zero, List.set_cons_succ]
      refine l_make 53 rfl rfl (er_bsPn _ rfl C hCl (elPn_one HEN.out) rfl) ?_
      simp only [Act.put, List.setIfInBounds_toArray, List.set_cons_zero, List.set_cons_succ]
      refine l_make 54 rfl rfl (er_appPn (.tmp 51) (.tmp 53) rfl vP _ (.slice va vn vc) rfl rfl HRUN.out) ?_
      simp only [Act.put, List.setIfInBounds_toArray, List.set_cons_zero, List.set_cons_succ]
      refine l_take 55 rfl rfl (er_fIm0c _ rfl (w.heap.size + 2) rfl) ?_
      simp only [Act.put, List.setIfInBounds_toArray, List.set_cons_zero, List.set_cons_succ]
      refine l_turn rfl rfl (er_stSP _ _ rfl (w.heap.size + 2) 0 vP (.slice va vn vc) ⟨va, vn, vc, rfl⟩ rfl rfl c8 f8) ?_
      clear HRUN HLD7 c0' c8 f8
      generalize w8.setCell ⟨w.heap.size + 2, 0, none⟩ (.slice va vn vc) = w9 at *
      go_wp2
      go_roundw
      case rel => exact ⟨k + 1, _, _, _, .slice va vn vc, by omega, by go_num, HEND.out⟩
      case measure => simp [intOf]; omega
    · have hkn : k = n0 := by omega
      subst hkn
      obtain ⟨va, vn, vc, hvP⟩ : ∃ a m c, vP = .slice a m c := by
        obtain ⟨⟨css, t1, _⟩, _⟩ := hcp.gr
        exact own_slice t1
      subst hvP
      have hvn : vn = k := by
        obtain ⟨⟨css, t1, _⟩, _⟩ := hcp.gr
        obtain ⟨_, ⟨q1, q2⟩ | ⟨g, cap, cur, q1, _⟩⟩ := t1
        · injection q1 with _ q3 _; omega
        · injection q1
      subst hvn
      have hwr3 : w.heap.size + 3 ≤ wr.heap.size := hcp.r3.lt
      have HW3 : Hid (w.heap.size + 3 ≤ wr.heap.size) := hwr3
      have hlp : LsP wr (w.heap.size + 3) wr.heap.size va vn vc x.parts := hcp.gr.ls HLN.out.1
      have HLP : Hid (LsP wr (w.heap.size + 3) wr.heap.size va vn vc x.parts) := hlp
      -- the ports
      have kal : Kept No wr (wr.alloc (.cells #[] 138)) := (Kept.refl No wr).alloc _
      have q1 := (hcp.r1.kept kal (fun h => h)).cell (j := 1) rfl
      have HLS : Hid (Ls 6 elPo (wr.alloc (.cells #[] 138)) (Hn w) a1 n1 c1 x.ports) := HI.out.qs.kept (hcp.kp.trans kal (fun _ h => h.elim)) (fun _ _ h => h) (elPo_kept (hcp.kp.trans kal (fun _ h => h.elim)) (fun _ _ h => h))
      clear hcp hlp kal
      go_upto_region 14 with (at_builtin; refine copyPo rfl _ _ rfl wr.heap.size rfl (madeK wr _ _) (by simp) a1 n1 c1 rfl (Hn w) x.ports HLS.out (by omega) ?_; intro ya yc v1 HN KN; have g3 : Bk v1 (w.heap.size + 2) [.slice va vn vc, .slice none 0 0, .slice none 0 0] 26 := (HC.out.r3.kept ((Kept.refl No wr).alloc (.cells #[] 138)) (fun h => h)).kept KN.out (fun e => by have := HW3.out; omega); have GB : Hid (Bk v1 (w.heap.size + 2) [.slice va vn vc, .slice none 0 0, .slice none 0 0] 26) := g3; have u1 := g3.cell (j := 1) rfl; have f1 := g3.fz 1; clear g3)
      have KV : Hid (Kept (fun k => k = wr.heap.size) wr v1) := ((Kept.refl (fun k => k = wr.heap.size) wr).alloc _).trans KN.out (fun _ h => .inl h)
      have hC0 : CpC w [.slice a0 vn c0, .slice a1 n1 c1, .slice a2 n2 c2] x.parts x.ports x.chans wr.heap.size v1.heap.size va vn vc ya n1 yc No (.slice none 0 0) 0 (v1.setCell ⟨w.heap.size + 2, 1, none⟩ (.slice ya n1 yc)) := by
        have hw3 := HW3.out
        have ks : Kept (fun k => k = w.heap.size + 2) v1 (v1.setCell ⟨w.heap.size + 2, 1, none⟩ (.slice ya n1 yc)) := (Kept.refl (fun k => k = w.heap.size + 2) v1).setCell (p := ⟨w.heap.size + 2, 1, none⟩) (.inl rfl) _
        have sv := KV.out.size
        refine ⟨(HC.out.r1.kept KV.out (fun e => by omega)).kept ks (fun e => by omega), (HC.out.r2.kept KV.out (fun e => by omega)).kept ks (fun e => by omega), GB.out.set 1 _, (HC.out.kp.trans KV.out (fun k e => .inr (by omega))).trans ks (fun k e => .inr (by omega)), ⟨by omega, by omega, ks.size⟩, ?_, ?_, Gr.new _ _ _ _ _ _⟩
        · exact (HLP.out.kept KV.out (Nat.le_refl _) (fun g h1 h2 e => by omega)).kept ks (by omega) (fun g h1 h2 e => by omega)
        · have h1 := HN.out.1.mono (G := fun g => wr.heap.size ≤ g ∧ g < v1.heap.size) (fun g hg => ⟨hg.1, HN.out.2.1 g hg.2⟩) (fun _ _ h => h)
          exact h1.kept ks (fun g hg e => by omega) (elPo_kept ks (fun g hg e => by omega))
      have HC0 : Hid (CpC w [.slice a0 vn c0, .slice a1 n1 c1, .slice a2 n2 c2] x.parts x.ports x.chans wr.heap.size v1.heap.size va vn vc ya n1 yc No (.slice none 0 0) 0 (v1.setCell ⟨w.heap.size + 2, 1, none⟩ (.slice ya n1 yc))) := hC0
      clear hC0 HN KN u1 f1 q1 GB KV HLS HLP HC
      generalize v1.setCell ⟨w.heap.size + 2, 1, none⟩ (.slice ya n1 yc) = wC at *
      obtain ⟨T, hT⟩ : ∃ T, T = v1.heap.size := ⟨_, rfl⟩
      rw [← hT] at HC0
      clear hT
      obtain ⟨T0, hT0⟩ : ∃ T0, T0 = wr.heap.size := ⟨_, rfl⟩
      rw [← hT0] at HC0
      clear hT0 HW3
      go_wp2
      go_loopw [6] (fun i wq => ∃ (j : Nat) (F : Nat → Prop) (vC : Value), j ≤ n2 ∧ i = .int .i64 j ∧ CpC w [.slice a0 vn c0, .slice a1 n1 c1, .slice a2 n2 c2] x.parts x.ports x.chans T0 T va vn vc ya n1 yc F vC j wq) (fun i _ => n2 - (intOf i).toNat)
      case atStart => exact ⟨0, No, .slice none 0 0, by omega, rfl, HC0.out⟩
      case round =>
        obtain ⟨j, F, vC, hj, rfl, hcp⟩ := hrel
        clear HC0
        have HC : Hid (CpC w [.slice a0 vn c0, .slice a1 n1 c1, .slice a2 n2 c2] x.parts x.ports x.chans T0 T va vn vc ya n1 yc F vC j wr) := hcp
        have q2 := hcp.r1.cell (j := 2) rfl
        by_cases hlt2 : j < n2
        · obtain ⟨p, hp⟩ : ∃ p, x.chans[j]? = some p := ⟨_, List.getElem?_eq_getElem (by rw [HLN.out.2.2]; exact hlt2)⟩
          have hsz : szCh p := HS.out.2.2.2.2 p (List.mem_of_getElem? hp)
          obtain ⟨b, of, cs0, rfl, hGb, hcl, hr, hE⟩ := HI.out.cs.at' j p hp
          have hrg : wr.rangeAt b (of + j * 5) cs0 := rangeAt_kept hr hcp.kp (fun h => h)
          have hld : (Instr.loadAt 65 (.pointer (some ⟨b, of + j * 5, none⟩))).run Tryz.prog wr = .ok (.agg cs0.toArray) wr := run_loadAt_mid wr b (of + j * 5) _ cs0 _ hrg Tryz.underlying65 rfl (by rw [hcl]; exact sizeECh)
          obtain ⟨w1, hst, hld1, hk1⟩ := box_ChE wr cs0 hcl (elCh_one hE)
          have HLD : Hid ((Instr.loadAt 65 (.pointer (some ⟨b, of + j * 5, none⟩))).run Tryz.prog wr = .ok (.agg cs0.toArray) wr) := hld
          have HST : Hid ((Instr.storeAt 65 (.pointer (some ⟨wr.heap.size, 0, none⟩)) (.agg cs0.toArray)).run Tryz.prog (wr.alloc (.cells #[.int .i64 0, .int .i64 0, .slice none 0 0, .int .i64 0, .int .i64 0] 65)) = .ok () w1) := hst
          have hbx : Bk w1 wr.heap.size cs0 65 := box_BkCh hcl (elCh_one hE) hst
          have HK1 : Hid (Kept No wr w1) := hk1
          have HP : Hid (x.chans[j]? = some p) := hp
          clear hcp hrg hld hst hld1 hk1 hr hGb hp
          go_upto_region 17 with fail
          refine wp_region_lit ?_
          try simp only [Act.put, List.setIfInBounds_toArray, List.set_cons_zero, List.set_cons_succ]
          refine l_take 68 rfl rfl (er_fIm2 _ rfl w.heap.size rfl) ?_
          simp only [Act.put, List.setIfInBounds_toArray, List.set_cons_zero, List.set_cons_succ]
          refine l_take 69 rfl rfl (er_ldSC _ rfl w.heap.size 2 _ rfl q2) ?_
          simp only [Act.put, List.setIfInBounds_toArray, List.set_cons_zero, List.set_cons_succ]
          refine l_take 70 rfl rfl (er_mv _ rfl (.int .i64 j) rfl) ?_
          simp only [Act.put, List.setIfInBounds_toArray, List.set_cons_zero, List.set_cons_succ]
          refine l_take 71 rfl rfl (er_idxCh _ _ rfl b of n2 c2 j hlt2 (by omega) rfl rfl) ?_
          simp only [Act.put, List.setIfInBounds_toArray, List.set_cons_zero, List.set_cons_succ]
          refine l_take 72 rfl rfl (er_ld _ _ rfl _ _ rfl HLD.out) ?_
          simp only [Act.put, List.setIfInBounds_toArray, List.set_cons_zero, List.set_cons_succ]
          refine l_make 7 rfl rfl (er_alChE rfl) ?_
          simp only [Act.put, List.setIfInBounds_toArray, List.set_cons_zero, List.set_cons_succ]
          refine l_turn rfl rfl (er_st _ _ _ rfl _ _ rfl rfl HST.out) ?_
          obtain ⟨b5, hb5⟩ : ∃ b5, b5 = wr.heap.size := ⟨_, rfl⟩
          rw [← hb5] at hbx ⊢
          have HB5 : Hid (b5 = wr.heap.size) := hb5
          have hlt1 : b5 < w1.heap.size := hbx.lt
          have HLT1 : Hid (b5 < w1.heap.size) := hlt1
          obtain ⟨a6, m6, d6, rfl, hl6⟩ := hE.sl
          have HOKP : Hid (okCh p) := hE.ok
          have KW1 : Hid (Kept No w w1) := HC.out.kp.trans HK1.out (fun _ h => h.elim)
          have B1 : Hid (Bk w1 b5 [.int .i64 p.kd, .int .i64 p.fr, .slice a6 m6 d6, .int .i64 p.ph, .int .i64 p.pe] 65) := hbx
          have hs6 : m6 * 8 ≤ 140737488355328 := by have h := hsz; unfold szCh at h; rw [hl6.len] at h; simp only [reachBytes] at h; omega
          have q6 := (B1.out.kept ((Kept.refl No w1).alloc (.cells #[] 3)) (fun h => h)).cell (j := 2) rfl
          have HLS : Hid (Ls 1 elI (w1.alloc (.cells #[] 3)) (Hn w) a6 m6 d6 p.dst) := hl6.kept (KW1.out.alloc _) (fun _ _ h => h) (elI_kept (KW1.out.alloc _) (fun _ _ h => h))
          clear hl6 hE hb5 hlt1 hbx hsz q2 HLD HST
          go_upto_region 19 with (at_builtin; refine copyTo rfl _ _ rfl w1.heap.size rfl (madeK w1 _ _) (by simp) a6 m6 d6 rfl (Hn w) p.dst HLS.out hs6 ?_; intro y6 z6 v1' HN KN; have g6 : Bk v1' b5 [.int .i64 p.kd, .int .i64 p.fr, .slice a6 m6 d6, .int .i64 p.ph, .int .i64 p.pe] 65 := (B1.out.kept ((Kept.refl No w1).alloc (.cells #[] 3)) (fun h => h)).kept KN.out (fun e => by have := B1.out.lt; omega); have GB : Hid (Bk v1' b5 [.int .i64 p.kd, .int .i64 p.fr, .slice a6 m6 d6, .int .i64 p.ph, .int .i64 p.pe] 65) := g6; have u6 := g6.cell (j := 2) rfl; have f6 := g6.fz 2; clear g6)
          have KV : Hid (Kept (fun k => k = w1.heap.size) w1 v1') := ((Kept.refl (fun k => k = w1.heap.size) w1).alloc _).trans KN.out (fun _ h => .inl h)
          have KS : Hid (Kept (fun k => k = b5) v1' (v1'.setCell ⟨b5, 2, none⟩ (.slice y6 m6 z6))) := (Kept.refl (fun k => k = b5) v1').setCell (p := ⟨b5, 2, none⟩) (.inl rfl) _
          have B7 : Hid (Bk (v1'.setCell ⟨b5, 2, none⟩ (.slice y6 m6 z6)) b5 [.int .i64 p.kd, .int .i64 p.fr, .slice y6 m6 z6, .int .i64 p.ph, .int .i64 p.pe] 65) := GB.out.set 2 _
          generalize v1'.setCell ⟨b5, 2, none⟩ (.slice y6 m6 z6) = w7 at *
          have XL : Hid (Ls 1 elI w7 (In b5 w7.heap.size) y6 m6 z6 p.dst) := (HN.out.1.inn (lo := b5) (hi := w7.heap.size) (fun g hg => Nat.lt_of_lt_of_le (HN.out.2.1 g hg) KS.out.size) (B1.out.lt) (fun _ _ h => h)).kept KS.out (fun g hg e => by have := hg.1; omega) (elI_kept KS.out (fun g hg e => by have := hg.1; omega))
          have HEL : Hid (elCh w7 (In b5 w7.heap.size) [.int .i64 p.kd, .int .i64 p.fr, .slice y6 m6 z6, .int .i64 p.ph, .int .i64 p.pe] p) := ⟨⟨y6, m6, z6, rfl, XL.out⟩, HOKP.out⟩
          obtain ⟨C, hC⟩ : ∃ C : List Value, C = [.int .i64 p.kd, .int .i64 p.fr, .slice y6 m6 z6, .int .i64 p.ph, .int .i64 p.pe] := ⟨_, rfl⟩
          rw [← hC] at HEL B7
          clear hC XL HN KN q6 u6 f6 GB HLS hs6
          have KR : Hid (Kept No wr w7) := ((HK1.out.trans KV.out (fun k e => .inr (by have := HLT1.out; have := HB5.out; omega))).trans KS.out (fun k e => .inr (by have := HB5.out; omega)))
          have hgr := HC.out.gr
          have g7 : Gr 65 5 elCh T F vC x.chans j w7 := hgr.kept KR.out (fun _ _ h => h) (fun _ _ h => h) (elCh_kept KR.out (fun _ _ h => h))
          have r17 := HC.out.r1.kept KR.out (fun h => h)
          have r27 := HC.out.r2.kept KR.out (fun h => h)
          have r37 := HC.out.r3.kept KR.out (fun h => h)
          have hTT := HC.out.top
          obtain ⟨⟨css, t1, t2, t3, t4⟩, t5, t6⟩ := g7
          have hvC : ∀ g, vC.ownBlock = some g → g < wr.heap.size := by
            obtain ⟨⟨css', s1, _⟩, _⟩ := hgr
            exact fun g hg => (s1.lt g hg).2
          have hCl := elCh_len HEL.out
          have hld7 : (Instr.loadAt 65 (.pointer (some ⟨b5, 0, none⟩))).run Tryz.prog w7 = .ok (.agg C.toArray) w7 := run_loadAt_mid w7 b5 0 _ C _ (fun j v hv => by rw [Nat.zero_add]; exact B7.out.cell hv) Tryz.underlying65 rfl (by rw [hCl]; exact sizeECh)
          have hsz7 := KR.out.size
          have happ := run_append_own_at (P := Tryz.prog) (w7.alloc (.cells C.toArray 65)) T 24 24 65 j0 (.agg #[.int .i64 0, .int .i64 0, .slice none 0 0, .int .i64 0, .int .i64 0]) 5 56 Tryz.underlying24 ji jz0 jz1 jz2 rfl (by decide) vC j css.flatten (t1.alloc _) ⟨w7.heap.size, 0, none⟩ 1 1 C (by rw [hCl]) (cells_new w7 C _ _ rfl) (elCh_one HEL.out) (by unfold maxLen; omega) (by omega) (by simp; omega)
          obtain ⟨v4, w8, hrun, own8, grow8, _, hat8⟩ := happ
          obtain ⟨ua, un, uc, hv4⟩ := own_slice own8
          subst hv4
          have k78 : Kept (fun k => vC.ownBlock = some k) w7 w8 := ((Kept.refl (fun k => vC.ownBlock = some k) w7).alloc _).grown grow8 (fun k hk => .inl hk)
          have hat : (Value.slice ua un uc).ownBlock = vC.ownBlock ∨ ∃ g, (Value.slice ua un uc).ownBlock = some g ∧ w7.heap.size ≤ g := by
            rcases hat8 with h | h
            · exact .inl h
            · exact .inr ⟨_, h, by simp⟩
          have g8 := Gr.snoc mCh kCh t1 t2 t3 t4 t5 t6 HP.out hCl HEL.out (fun g hg e => by have h1 := hvC g e; have h2 := hg.1; have h3 := HB5.out; omega) (fun g hg => ⟨by have h2 := hg.1; have h3 := HB5.out; omega, hg.2⟩) own8 k78 hat
          have hnT : ∀ q, q < T → ¬ (vC.ownBlock = some q) := fun q hq e => by have := (t1.lt q e).1; omega
          have r18 := r17.kept k78 (hnT _ (by omega))
          have r28 := r27.kept k78 (hnT _ (by omega))
          have r38 := r37.kept k78 (hnT _ (by omega))
          have ks : Kept (fun k => k = w.heap.size + 2) w8 (w8.setCell ⟨w.heap.size + 2, 2, none⟩ (.slice ua un uc)) := (Kept.refl (fun k => k = w.heap.size + 2) w8).setCell (p := ⟨w.heap.size + 2, 2, none⟩) (.inl rfl) _
          have kall : Kept (fun k => vC.ownBlock = some k) wr w8 := (KR.out.mono (G := fun k => vC.ownBlock = some k) (fun _ h => h.elim)).trans k78 (fun _ h => .inl h)
          have HEND : Hid (CpC w [.slice a0 vn c0, .slice a1 n1 c1, .slice (some ⟨b, of, none⟩) n2 c2] x.parts x.ports x.chans T0 T va vn vc ya n1 yc (fun g => F g ∨ In b5 w7.heap.size g) (.slice ua un uc) (j + 1) (w8.setCell ⟨w.heap.size + 2, 2, none⟩ (.slice ua un uc))) := by
            refine ⟨r18.kept ks (fun e => by omega), r28.kept ks (fun e => by omega), r38.set 2 _, ?_, ⟨hTT.1, hTT.2.1, Nat.le_trans (Nat.le_trans hTT.2.2 kall.size) ks.size⟩, ?_, ?_, ?_⟩
            · exact ((HC.out.kp.trans KR.out (fun _ h => h.elim)).trans k78 (fun g hg => .inr (by have := (t1.lt g hg).1; omega))).trans ks (fun g e => .inr (by omega))
            · exact (HC.out.lp.kept kall (by omega) (fun g h1 h2 => hnT g (by omega))).kept ks (by have := kall.size; omega) (fun g h1 h2 e => by omega)
            · exact (HC.out.lq.kept kall (fun g hg => hnT g hg.2) (elPo_kept kall (fun g hg => hnT g hg.2))).kept ks (fun g hg e => by omega) (elPo_kept ks (fun g hg e => by omega))
            · refine g8.kept ks (fun g hg e => by have := (g8.lt g hg).1; omega) (fun g hg e => ?_) (elCh_kept ks (fun g hg e => by have := (g8.lt g hg).1; omega))
              have := (own8.lt g hg).1
              omega
          have HRUN : Hid ((Builtin.append_ #[24, 24] 24 #[vC, .slice (some ⟨w7.heap.size, 0, none⟩) 1 1]).run Tryz.prog (w7.alloc (.cells C.toArray 65)) = .ok (.slice ua un uc) w8) := hrun
          have HLD7 : Hid ((Instr.loadAt 65 (.pointer (some ⟨b5, 0, none⟩))).run Tryz.prog w7 = .ok (.agg C.toArray) w7) := hld7
          have c0' := r37.cell (j := 2) rfl
          have c8 := r38.cell (j := 2) rfl
          have f8 := r38.fz 2
          clear hgr t1 t2 t3 t4 t5 t6 hvC hld7 hrun own8 grow8 hat8 k78 hat g8 hnT r17 r18 r27 r28 r37 r38 ks kall
          refine wp_region_lit ?_
          try simp only [Act.put, List.setIfInBounds_toArray, List.set_cons_zero, List.set_cons_succ]
          refine l_take 78 rfl rfl (er_fIm2 _ rfl (w.heap.size + 2) rfl) ?_
          simp only [Act.put, List.setIfInBounds_toArray, List.set_cons_zero, List.set_cons_succ]
          refine l_take 79 rfl rfl (er_ldSC _ rfl (w.heap.size + 2) 2 _ rfl c0') ?_
          simp only [Act.put, List.setIfInBounds_toArray, List.set_cons_zero, List.set_cons_succ]
          refine l_take 80 rfl rfl (er_ld _ _ rfl _ _ rfl HLD7.out) ?_
          simp only [Act.put, List.setIfInBounds_toArray, List.set_cons_zero, List.set_cons_succ]
          refine l_make 81 rfl rfl (er_bsCh _ rfl C hCl (elCh_one HEL.out) rfl) ?_
          simp only [Act.put, List.setIfInBounds_toArray, List.set_cons_zero, List.set_cons_succ]
          refine l_make 82 rfl rfl (er_appCh (.tmp 79) (.tmp 81) rfl vC _ (.slice ua un uc) rfl rfl HRUN.out) ?_
          simp only [Act.put, List.setIfInBounds_toArray, List.set_cons_zero, List.set_cons_succ]
          refine l_take 83 rfl rfl (er_fIm2 _ rfl (w.heap.size + 2) rfl) ?_
          simp only [Act.put, List.setIfInBounds_toArray, List.set_cons_zero, List.set_cons_succ]
          refine l_turn rfl rfl (er_stSC _ _ rfl (w.heap.size + 2) 2 vC (.slice ua un uc) ⟨ua, un, uc, rfl⟩ rfl rfl c8 f8) ?_
          clear HRUN HLD7 c0' c8 f8
          generalize w8.setCell ⟨w.heap.size + 2, 2, none⟩ (.slice ua un uc) = w9 at *
          go_wp2
          go_roundw
          case rel => exact ⟨j + 1, _, .slice ua un uc, by omega, by go_num, HEND.out⟩
          case measure => simp [intOf]; omega
        · have hjn : j = n2 := by omega
          subst hjn
          obtain ⟨ua, un, uc, hvC⟩ : ∃ a m c, vC = .slice a m c := by
            obtain ⟨⟨css, t1, _⟩, _⟩ := hcp.gr
            exact own_slice t1
          subst hvC
          have hun : un = j := by
            obtain ⟨⟨css, t1, _⟩, _⟩ := hcp.gr
            obtain ⟨_, ⟨q1, q2⟩ | ⟨g, cap, cur, q1, _⟩⟩ := t1
            · injection q1 with _ q3 _; omega
            · injection q1
          subst hun
          have hlc : Ls 5 elCh wr (fun g => T ≤ g ∧ g < wr.heap.size) ua un uc x.chans := by
            have g := hcp.gr
            rw [← HLN.out.2.2] at g
            have := g.ls (by decide) mCh
            rw [HLN.out.2.2] at this
            exact this
          have HLC : Hid (Ls 5 elCh wr (fun g => T ≤ g ∧ g < wr.heap.size) ua un uc x.chans) := hlc
          have y0 := hcp.r3.cell (j := 0) rfl
          have y1 := hcp.r3.cell (j := 1) rfl
          have y2 := hcp.r3.cell (j := 2) rfl
          have z0 := hcp.r2.cell (j := 0) rfl
          have z1 := hcp.r2.cell (j := 1) rfl
          have z2 := hcp.r2.cell (j := 2) rfl
          have f0 := hcp.r2.fz 0
          have f1 := hcp.r2.fz 1
          have f2 := hcp.r2.fz 2
          clear hcp hlc
          go_wp2
          have hld := set3 HC.out.r2 (.slice va vn vc) (.slice ya n1 yc) (.slice ua un uc)
          refine bodyPost_ret (results_cell_row rfl _ _ (w.heap.size + 1) 26 #[.slice va vn vc, .slice ya n1 yc, .slice ua un uc] (0, 0) _ rfl hld Tryz.underlying26 rfl (by kernel_rfl)) rfl ?_
          have ks := setK3 wr (w.heap.size + 1) (.slice va vn vc) (.slice ya n1 yc) (.slice ua un uc)
          have hT := HC.out.top
          have hss := ks.size
          refine ⟨va, vn, vc, ya, n1, yc, ua, un, uc, w.heap.size + 3, T0, rfl, by omega, ⟨⟨hT.1, by omega, Nat.le_refl _⟩, ?_, ?_, ?_⟩, HC.out.kp.trans ks (fun k e => .inr (by omega))⟩
          · exact HC.out.lp.kept ks (by omega) (fun g h1 h2 e => by omega)
          · exact (HC.out.lq.kept ks (fun g hg e => by omega) (elPo_kept ks (fun g hg e => by omega))).mono (fun g hg => ⟨by omega, by omega⟩) (fun _ _ h => h)
          · exact (HLC.out.kept ks (fun g hg e => by omega) (elCh_kept ks (fun g hg e => by omega))).mono (fun g hg => ⟨by omega, by omega⟩) (mCh _ _ _ (fun g hg => ⟨by omega, by omega⟩))


end Go.Proofs.YtnmhcnppdhdhfaaGreatDoor
