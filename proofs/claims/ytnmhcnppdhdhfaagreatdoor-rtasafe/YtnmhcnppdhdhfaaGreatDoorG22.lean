/-
  One text: CChF, CChG.
-/
import Derived.Test.YtnmhcnppdhdhfaaGreatDoorG14
import Derived.Test.YtnmhcnppdhdhfaaGreatDoorG21
namespace Go.Proofs.YtnmhcnppdhdhfaaGreatDoor
open Go.RowKit
set_option linter.unusedVariables false
set_option linter.unusedSimpArgs false
set_option maxRecDepth 100000

def dPo : Po := ⟨0, 0, false, 0, 0, 0⟩
def poAt (ps : List Po) (k : Int) : Po := ps.getD (k.toNat - 1) dPo
def fitB (ps : List Po) (k : Int) (out : Bool) (kd : Int) : Bool := inB k 1 ps.length && ((poAt ps k).out == out && (poAt ps k).kd == kd)
def goesB (ps : List Po) (kd : Int) : Int → List Int → Bool
  | _, [] => true
  | l, x :: r => (decide (l < x) && fitB ps x false kd) && goesB ps kd x r
def ownFromB (L : List Ch) (fr : Int) : Bool := fr == 0 || !(L.any (fun o => o.fr == fr))
def ownToB (L : List Ch) (dst : List Int) : Bool := !(dst.any (fun k => L.any (fun o => o.dst.any (fun x => k == x))))
def oneSizeB (ps : List Po) (fr : Int) : List Int → Bool
  | [] => true
  | x :: r => (fr == 0 || (poAt ps fr).sz == (poAt ps x).sz) && !((x :: r).any (fun k => (poAt ps k).sz != (poAt ps x).sz))
def timesB (c : Ch) : Bool := if c.kd = 1 ∧ c.fr ≠ 0 then inB c.pe 1 1048576 && inB c.ph 0 (wrap64 (c.pe - 1)) else (c.pe == 0 && c.ph == 0)

theorem po_at {F : Nat → Prop} {a : Option Addr} {n c : Nat} {ps : List Po} {w : World} (h : Ls 6 elPo w F a n c ps) {k : Int} (h1 : 1 ≤ k) (h2 : k ≤ n) :
    ∃ (i : Nat) (b o : Nat), k = i + 1 ∧ i < n ∧ a = some ⟨b, o, none⟩ ∧ okPo (poAt ps k) ∧ w.cell? ⟨b, o + i * 6, none⟩ = some (.int .i64 (poAt ps k).pt) ∧ w.cell? ⟨b, o + i * 6 + 1, none⟩ = some (.int .i64 (poAt ps k).kd) ∧ w.cell? ⟨b, o + i * 6 + 2, none⟩ = some (.bool (poAt ps k).out) ∧ w.cell? ⟨b, o + i * 6 + 3, none⟩ = some (.int .i64 (poAt ps k).sz) ∧ w.cell? ⟨b, o + i * 6 + 4, none⟩ = some (.int .i64 (poAt ps k).dp) ∧ w.cell? ⟨b, o + i * 6 + 5, none⟩ = some (.int .i64 (poAt ps k).rf) := by
  obtain ⟨i, rfl⟩ : ∃ i : Nat, k = i + 1 := ⟨(k - 1).toNat, by omega⟩
  have hin : i < n := by omega
  have hp : poAt ps ((i : Int) + 1) = ps.getD i dPo := by unfold poAt; rw [show ((i : Int) + 1).toNat - 1 = i by omega]
  have hx : ps[i]? = some (ps.getD i dPo) := by rw [List.getD, List.getElem?_eq_getElem (by rw [h.len]; exact hin)]; rfl
  obtain ⟨b, o, cs, e, hb, hl, hr, hE⟩ := h.at' i _ hx
  obtain ⟨rfl, hok⟩ := hE
  rw [hp]
  have r0 := hr 0 _ rfl
  rw [Nat.add_zero] at r0
  exact ⟨i, b, o, rfl, hin, e, hok, r0, hr 1 _ rfl, hr 2 _ rfl, hr 3 _ rfl, hr 4 _ rfl, hr 5 _ rfl⟩

set_option maxHeartbeats 4000000 in
theorem fits_any {F : Nat → Prop} {a : Option Addr} {n c : Nat} {ps : List Po} (k kd : Int) (out : Bool) (w : World) (h : Ls 6 elPo w F a n c ps) :
    Calls Tryz.prog 186 #[.slice a n c, .int .i64 k, .bool out, .int .i64 kd] w fun e w' => e = .returned (.bool (fitB ps k out kd)) ∧ Kept No w w' := by
  have hn : n ≤ 9223372036854775807 := Nat.le_trans h.cap h.max
  have q := within_any k 1 n
  have hl := h.len
  cases hb : inB k 1 n
  · rw [show fitB ps k out kd = false by unfold fitB; rw [hl, hb]; rfl]
    rw [hb] at q
    have HK : Hid (Kept No w w) := Kept.refl No w
    clear h hb
    go_enter Tryz.func186, Tryz.ntmps186
    go_wp2_with (go_at_call 106; refine (q _).mono ?_; rintro e w' ⟨rfl, rfl⟩)
    go_ret
    exact ⟨rfl, HK.out⟩
  · have hr : 1 ≤ k ∧ k ≤ n := by simp [inB] at hb; exact hb
    obtain ⟨i, b, o, rfl, hin, rfl, hok, r0, r1, r2, r3, r4, r5⟩ := po_at h hr.1 hr.2
    rw [show fitB ps ((i : Int) + 1) out kd = ((poAt ps ((i : Int) + 1)).out == out && (poAt ps ((i : Int) + 1)).kd == kd) by unfold fitB; rw [hl, hb]; rfl]
    rw [hb] at q
    generalize poAt ps ((i : Int) + 1) = y at *
    obtain ⟨y0, y1, y2, y3, y4, y5⟩ := y
    simp only at r0 r1 r2 r3 r4 r5 ⊢
    have HK : Hid (∀ o, Kept No w (w.alloc o)) := fun o => (Kept.refl No w).alloc o
    clear h hb hl hok hr
    cases h1 : (y2 == out)
    · go_enter Tryz.func186, Tryz.ntmps186
      go_wp2_with (go_at_call 106; refine (q _).mono ?_; rintro e w' ⟨rfl, rfl⟩)
      go_ret
      exact ⟨rfl, HK.out _⟩
    cases h2 : (y1 == kd)
    · go_enter Tryz.func186, Tryz.ntmps186
      go_wp2_with (go_at_call 106; refine (q _).mono ?_; rintro e w' ⟨rfl, rfl⟩)
      go_ret
      exact ⟨rfl, HK.out _⟩
    · go_enter Tryz.func186, Tryz.ntmps186
      go_wp2_with (go_at_call 106; refine (q _).mono ?_; rintro e w' ⟨rfl, rfl⟩)
      go_ret
      exact ⟨rfl, HK.out _⟩

theorem crow1 (kd fr : Int) (ta : Option Addr) (tn tc : Nat) (ph pe : Int) (w : World) :
    Calls Tryz.prog 135 #[.agg #[.int .i64 kd, .int .i64 fr, .slice ta tn tc, .int .i64 ph, .int .i64 pe]] w fun e w' => e = .returned (.bool (kd == 0 || kd == 1)) ∧ Kept No w w' := by
  have HK : Hid (∀ o, Kept No w (w.alloc o)) := fun o => (Kept.refl No w).alloc o
  have hc := fun w => isKind_any kd w
  generalize (kd == 0 || kd == 1) = z at *
  go_enter Tryz.func135, Tryz.ntmps135
  go_wp2_with (go_at_call 130; refine (hc _).mono ?_; rintro e w' ⟨rfl, rfl⟩)
  go_ret
  exact ⟨rfl, HK.out _⟩
theorem comesFrom_any {F : Nat → Prop} {a : Option Addr} {n c : Nat} {ps : List Po} (kd fr : Int) (ta : Option Addr) (tn tc : Nat) (ph pe : Int) (w : World) (h : Ls 6 elPo w F a n c ps) :
    Calls Tryz.prog 137 #[.slice a n c, .agg #[.int .i64 kd, .int .i64 fr, .slice ta tn tc, .int .i64 ph, .int .i64 pe]] w fun e w' => e = .returned (.bool (fr == 0 || fitB ps fr true kd)) ∧ Kept No w w' := by
  have HK : Hid (∀ o, Kept No w (w.alloc o)) := fun o => (Kept.refl No w).alloc o
  have hc := fits_any fr kd true (w.alloc (.cells #[.int .i64 kd, .int .i64 fr, .slice ta tn tc, .int .i64 ph, .int .i64 pe] 65)) (lsPo_keep h (HK.out _))
  clear h
  cases hz : (fr == 0)
  · generalize fitB ps fr true kd = z at *
    go_enter Tryz.func137, Tryz.ntmps137
    go_wp2_with (go_at_call 186; refine hc.mono ?_; rintro e w' ⟨rfl, k2⟩)
    go_ret
    exact ⟨rfl, (HK.out _).trans k2 (fun _ h => h.elim)⟩
  · clear hc
    go_enter Tryz.func137, Tryz.ntmps137
    go_wp2
    go_ret
    exact ⟨rfl, HK.out _⟩
theorem crow2 {F : Nat → Prop} {a : Option Addr} {n c : Nat} {ps : List Po} (kd fr : Int) (ta : Option Addr) (tn tc : Nat) (ph pe : Int) (g : Nat) (w : World) (h : Ls 6 elPo w F a n c ps) (hg : w.cell? ⟨g, 0, none⟩ = some (.slice a n c)) :
    Calls Tryz.prog 136 #[.agg #[.int .i64 kd, .int .i64 fr, .slice ta tn tc, .int .i64 ph, .int .i64 pe], .pointer (some ⟨g, 0, none⟩)] w fun e w' => e = .returned (.bool (fr == 0 || fitB ps fr true kd)) ∧ Kept No w w' := by
  have HK : Hid (∀ o, Kept No w (w.alloc o)) := fun o => (Kept.refl No w).alloc o
  have hc := comesFrom_any kd fr ta tn tc ph pe (w.alloc (.cells #[.int .i64 kd, .int .i64 fr, .slice ta tn tc, .int .i64 ph, .int .i64 pe] 65)) (lsPo_keep h (HK.out _))
  have hg' := (HK.out (.cells #[.int .i64 kd, .int .i64 fr, .slice ta tn tc, .int .i64 ph, .int .i64 pe] 65)).cell hg (fun h => h)
  clear h hg
  generalize (fr == 0 || fitB ps fr true kd) = z at *
  go_enter Tryz.func136, Tryz.ntmps136
  go_wp2_with (go_at_call 137; refine hc.mono ?_; rintro e w' ⟨rfl, k2⟩)
  go_ret
  exact ⟨rfl, (HK.out _).trans k2 (fun _ h => h.elim)⟩
theorem hasOwnFrom1_prd (g : Nat) (fr : Int) (w : World) (hg : w.cell? ⟨g, 1, none⟩ = some (.int .i64 fr)) : PrdC 188 #[.pointer (some ⟨g, 0, none⟩)] (fun o => o.fr == fr) w := by
  intro W x F a n c ho hl K
  have hc : W.cell? ⟨g, 1, none⟩ = some (.int .i64 fr) := K.cell hg (fun h => h)
  have KA : Kept No W (W.alloc (.cells #[.int .i64 x.kd, .int .i64 x.fr, .slice a n c, .int .i64 x.ph, .int .i64 x.pe] 65)) := (Kept.refl No W).alloc _
  have hc' := KA.cell hc (fun h => h)
  have HK : Hid (Kept No W (W.alloc (.cells #[.int .i64 x.kd, .int .i64 x.fr, .slice a n c, .int .i64 x.ph, .int .i64 x.pe] 65))) := KA
  clear K ho hl KA hg
  go_enter Tryz.func188, Tryz.ntmps188
  go_wp2
  go_ret
  exact ⟨rfl, HK.out⟩
theorem eg_of {f : Nat} {fn : Func} (h1 : Tryz.prog.funcs[f]? = some fn) (h : Enters Tryz.prog f) : ∀ args w, (callFunc f args).run Tryz.prog w = .ok (.enter f args) w := h
theorem hasOwnFrom_any {F : Nat → Prop} {a : Option Addr} {n c : Nat} {L : List Ch} (kd fr : Int) (ta : Option Addr) (tn tc : Nat) (ph pe : Int) (w : World) (h : Ls 5 elCh w F a n c L) :
    Calls Tryz.prog 138 #[.agg #[.int .i64 kd, .int .i64 fr, .slice ta tn tc, .int .i64 ph, .int .i64 pe], .slice a n c] w fun e w' => e = .returned (.bool (ownFromB L fr)) ∧ Kept No w w' := by
  have HK : Hid (∀ o, Kept No w (w.alloc o)) := fun o => (Kept.refl No w).alloc o
  unfold ownFromB
  have hmf : ∀ (fn : Fn) (first cap : Array Value) (w : World), (Instr.makeFunc fn first cap).run Tryz.prog w = .ok (.func fn first cap) w := fun _ _ _ _ => rfl
  have hc := containsC_any (p := fun o => o.fr == fr) (g := 188) (lb := #[.pointer (some ⟨w.heap.size, 0, none⟩)]) (enters_of Tryz.func188 (by kernel_rfl) rfl) (w.alloc (.cells #[.int .i64 kd, .int .i64 fr, .slice ta tn tc, .int .i64 ph, .int .i64 pe] 65)) (hasOwnFrom1_prd w.heap.size fr _ (by simp)) (h.kept (HK.out _) (fun _ _ h => h) (elCh_kept (HK.out _) (fun _ _ h => h)))
  clear h
  cases hz : (fr == 0)
  · generalize L.any (fun o => o.fr == fr) = z at *
    go_enter Tryz.func138, Tryz.ntmps138
    go_wp2_with (go_at_call 187; refine hc.mono ?_; rintro e w' ⟨rfl, k2⟩)
    go_ret
    exact ⟨rfl, (HK.out _).trans k2 (fun _ h => h.elim)⟩
  · clear hc
    go_enter Tryz.func138, Tryz.ntmps138
    go_wp2
    go_ret
    exact ⟨rfl, HK.out _⟩

theorem hasOwnTo11_prd (g : Nat) (k : Int) (w : World) (hg : w.cell? ⟨g, 0, none⟩ = some (.int .i64 k)) : PrdC 190 #[.pointer (some ⟨g, 0, none⟩)] (fun o => o.dst.any (fun x => k == x)) w := by
  intro W x F a n c ho hl K
  have hc : W.cell? ⟨g, 0, none⟩ = some (.int .i64 k) := K.cell hg (fun h => h)
  have KA : Kept No W (W.alloc (.cells #[.int .i64 x.kd, .int .i64 x.fr, .slice a n c, .int .i64 x.ph, .int .i64 x.pe] 65)) := (Kept.refl No W).alloc _
  have hc' := KA.cell hc (fun h => h)
  have cp := containsI_any k _ (hl.kept KA (fun _ _ h => h) (elI_kept KA (fun _ _ h => h)))
  have HK : Hid (Kept No W (W.alloc (.cells #[.int .i64 x.kd, .int .i64 x.fr, .slice a n c, .int .i64 x.ph, .int .i64 x.pe] 65))) := KA
  clear K ho hl KA hg
  show Calls Tryz.prog 190 #[.agg #[.int .i64 x.kd, .int .i64 x.fr, .slice a n c, .int .i64 x.ph, .int .i64 x.pe], .pointer (some ⟨g, 0, none⟩)] W fun e W' => e = .returned (.bool (x.dst.any (fun x => k == x))) ∧ Kept No W W'
  generalize x.dst.any (fun x => k == x) = z at *
  go_enter Tryz.func190, Tryz.ntmps190
  go_wp2_with (go_at_call 191; refine cp.mono ?_; rintro e w2 ⟨rfl, k2⟩)
  go_ret
  exact ⟨rfl, HK.out.trans k2 (fun _ h => .inl h)⟩
theorem hasOwnTo1_prd {F : Nat → Prop} {a : Option Addr} {n c : Nat} {L : List Ch} (g : Nat) (w : World) (h : Ls 5 elCh w F a n c L) (zs : List Int) (hg : w.cell? ⟨g, 0, none⟩ = some (.slice a n c)) : Prd 189 #[.pointer (some ⟨g, 0, none⟩)] (fun k => L.any (fun o => o.dst.any (fun x => k == x))) w zs := by
  intro W x hx K
  have hmf : ∀ (fn : Fn) (first cap : Array Value) (w : World), (Instr.makeFunc fn first cap).run Tryz.prog w = .ok (.func fn first cap) w := fun _ _ _ _ => rfl
  have KA : Kept No W (W.alloc (.cells #[.int .i64 x] 3)) := (Kept.refl No W).alloc _
  have hc' := KA.cell (K.cell hg (fun h => h)) (fun h => h)
  have K2 : Kept No w (W.alloc (.cells #[.int .i64 x] 3)) := K.trans KA (fun _ h => h.elim)
  have cp := containsC_any (p := fun o => o.dst.any (fun y => x == y)) (g := 190) (lb := #[.pointer (some ⟨W.heap.size, 0, none⟩)]) (enters_of Tryz.func190 (by kernel_rfl) rfl) (W.alloc (.cells #[.int .i64 x] 3)) (hasOwnTo11_prd W.heap.size x _ (by simp)) (h.kept K2 (fun _ _ h => h) (elCh_kept K2 (fun _ _ h => h)))
  have HK : Hid (Kept No W (W.alloc (.cells #[.int .i64 x] 3))) := KA
  clear K hx KA hg h K2
  show Calls Tryz.prog 189 #[.int .i64 x, .pointer (some ⟨g, 0, none⟩)] W fun e W' => e = .returned (.bool (L.any (fun o => o.dst.any (fun y => x == y)))) ∧ Kept No W W'
  generalize L.any (fun o => o.dst.any (fun y => x == y)) = z at *
  go_enter Tryz.func189, Tryz.ntmps189
  go_wp2_with (go_at_call 187; refine cp.mono ?_; rintro e w2 ⟨rfl, k2⟩)
  go_ret
  exact ⟨rfl, HK.out.trans k2 (fun _ h => .inl h)⟩
theorem hasOwnTo_any {F : Nat → Prop} {a : Option Addr} {n c : Nat} {L : List Ch} (kd fr : Int) (ta : Option Addr) (tn tc : Nat) (dst : List Int) (ph pe : Int) (w : World) (h : Ls 5 elCh w F a n c L) (hT : Ls 1 elI w F ta tn tc dst) :
    Calls Tryz.prog 141 #[.agg #[.int .i64 kd, .int .i64 fr, .slice ta tn tc, .int .i64 ph, .int .i64 pe], .slice a n c] w fun e w' => e = .returned (.bool (ownToB L dst)) ∧ Kept No w w' := by
  have hmf : ∀ (fn : Fn) (first cap : Array Value) (w : World), (Instr.makeFunc fn first cap).run Tryz.prog w = .ok (.func fn first cap) w := fun _ _ _ _ => rfl
  have HK : Hid (Kept No w ((w.alloc (.cells #[.int .i64 kd, .int .i64 fr, .slice ta tn tc, .int .i64 ph, .int .i64 pe] 65)).alloc (.cells #[.slice a n c] 24))) := ((Kept.refl No w).alloc _).alloc _
  unfold ownToB
  have hc := containsN_any (p := fun k => L.any (fun o => o.dst.any (fun x => k == x))) (g := 189) (lb := #[.pointer (some ⟨w.heap.size + 1, 0, none⟩)]) (enters_of Tryz.func189 (by kernel_rfl) rfl) ((w.alloc (.cells #[.int .i64 kd, .int .i64 fr, .slice ta tn tc, .int .i64 ph, .int .i64 pe] 65)).alloc (.cells #[.slice a n c] 24)) (hasOwnTo1_prd (w.heap.size + 1) _ (h.kept HK.out (fun _ _ h => h) (elCh_kept HK.out (fun _ _ h => h))) dst (by simp)) (hT.kept HK.out (fun _ _ h => h) (elI_kept HK.out (fun _ _ h => h)))
  clear h hT
  generalize dst.any (fun k => L.any (fun o => o.dst.any (fun x => k == x))) = z at *
  go_enter Tryz.func141, Tryz.ntmps141
  go_wp2_with (go_at_call 192; refine hc.mono ?_; rintro e w' ⟨rfl, k2⟩)
  go_ret
  exact ⟨rfl, HK.out.trans k2 (fun _ h => h.elim)⟩
theorem crow7 (kd fr : Int) (ta : Option Addr) (tn tc : Nat) (ph pe : Int) (w : World) (hn : tn ≤ 9223372036854775807) :
    Calls Tryz.prog 144 #[.agg #[.int .i64 kd, .int .i64 fr, .slice ta tn tc, .int .i64 ph, .int .i64 pe]] w fun e w' => e = .returned (.bool (fr != 0 || decide (0 < tn))) ∧ Kept No w w' := by
  have HK : Hid (∀ o, Kept No w (w.alloc o)) := fun o => (Kept.refl No w).alloc o
  cases hz : (fr != 0)
  · go_enter Tryz.func144, Tryz.ntmps144
    go_wp2
    go_ret
    exact ⟨rfl, HK.out _⟩
  · go_enter Tryz.func144, Tryz.ntmps144
    go_wp2
    go_ret
    exact ⟨rfl, HK.out _⟩
theorem hasTimes_any (kd fr : Int) (ta : Option Addr) (tn tc : Nat) (ph pe : Int) (d : List Int) (w : World) :
    Calls Tryz.prog 145 #[.agg #[.int .i64 kd, .int .i64 fr, .slice ta tn tc, .int .i64 ph, .int .i64 pe]] w fun e w' => e = .returned (.bool (timesB ⟨kd, fr, d, ph, pe⟩)) ∧ Kept No w w' := by
  have HK : Hid (∀ o, Kept No w (w.alloc o)) := fun o => (Kept.refl No w).alloc o
  have q1 := within_any pe 1 1048576
  have q2 := within_any ph 0 (wrap64 (pe - 1))
  cases h1 : (kd == 1)
  · rw [show timesB ⟨kd, fr, d, ph, pe⟩ = (pe == 0 && ph == 0) by unfold timesB; rw [if_neg (by simp at h1; simp [h1])]]
    cases h3 : (pe == 0)
    · go_enter Tryz.func145, Tryz.ntmps145
      go_wp2
      go_ret
      exact ⟨rfl, HK.out _⟩
    · go_enter Tryz.func145, Tryz.ntmps145
      go_wp2
      go_ret
      exact ⟨rfl, HK.out _⟩
  · cases h2 : (fr != 0)
    · rw [show timesB ⟨kd, fr, d, ph, pe⟩ = (pe == 0 && ph == 0) by unfold timesB; rw [if_neg (by simp at h2; simp [h2])]]
      cases h3 : (pe == 0)
      · go_enter Tryz.func145, Tryz.ntmps145
        go_wp2
        go_ret
        exact ⟨rfl, HK.out _⟩
      · go_enter Tryz.func145, Tryz.ntmps145
        go_wp2
        go_ret
        exact ⟨rfl, HK.out _⟩
    · rw [show timesB ⟨kd, fr, d, ph, pe⟩ = (inB pe 1 1048576 && inB ph 0 (wrap64 (pe - 1))) by unfold timesB; rw [if_pos (by simp at h1 h2; simp [h1, h2])]]
      cases h3 : inB pe 1 1048576
      · rw [h3] at q1
        clear h3
        go_enter Tryz.func145, Tryz.ntmps145
        go_wp2_with (go_at_call 106; refine (q1 _).mono ?_; rintro e w' ⟨rfl, rfl⟩)
        go_ret
        exact ⟨rfl, HK.out _⟩
      · clear q1 q2
        go_enter Tryz.func145, Tryz.ntmps145
        go_wp2_with (go_at_call 106; refine (within_any _ _ _ _).mono ?_; rintro e w' ⟨rfl, rfl⟩)
        go_ret
        exact ⟨rfl, HK.out _⟩
end Go.Proofs.YtnmhcnppdhdhfaaGreatDoor

namespace Go.Proofs.YtnmhcnppdhdhfaaGreatDoor
open Go.RowKit
set_option linter.unusedVariables false
set_option linter.unusedSimpArgs false
set_option maxRecDepth 100000

set_option maxHeartbeats 8000000 in
theorem goesTo_any {F : Nat → Prop} {a : Option Addr} {n c : Nat} {ps : List Po} (kd fr : Int) (ta : Option Addr) (tn tc : Nat) (dst : List Int) (ph pe : Int) (w : World) (h : Ls 6 elPo w F a n c ps) (hT : Ls 1 elI w F ta tn tc dst) :
    Calls Tryz.prog 140 #[.slice a n c, .agg #[.int .i64 kd, .int .i64 fr, .slice ta tn tc, .int .i64 ph, .int .i64 pe]] w fun e w' => e = .returned (.bool (goesB ps kd 0 dst)) ∧ Kept No w w' := by
  have K0 : Kept No w (w.alloc (.cells #[.int .i64 kd, .int .i64 fr, .slice ta tn tc, .int .i64 ph, .int .i64 pe] 65)) := (Kept.refl No w).alloc _
  have hl := hT.len
  have hm := hT.max
  have hcap := hT.cap
  have HM : Hid (∀ w', Kept No (w.alloc (.cells #[.int .i64 kd, .int .i64 fr, .slice ta tn tc, .int .i64 ph, .int .i64 pe] 65)) w' → w'.cell? ⟨w.heap.size, 0, none⟩ = some (.int .i64 kd) ∧ Kept No w w') := fun w' k => ⟨k.cell (by simp) (fun h => h), K0.trans k (fun _ h => h.elim)⟩
  have HP : Hid (Ls 6 elPo w F a n c ps) := h
  have HT : Hid (Ls 1 elI w F ta tn tc dst) := hT
  have HG : Hid (goesB ps kd 0 (dst.drop 0) = goesB ps kd 0 dst) := by show goesB ps kd 0 (dst.drop 0) = _; rw [List.drop_zero]
  clear K0 h hT
  obtain ⟨G, hG⟩ : ∃ G, goesB ps kd 0 dst = G := ⟨_, rfl⟩
  rw [hG] at HG ⊢
  clear hG
  go_enter Tryz.func140, Tryz.ntmps140
  go_wp2
  go_loopw [5, 11] (fun l i wr => ∃ (k : Nat) (z : Int), k ≤ tn ∧ i = .int .i64 k ∧ l = .int .i64 z ∧ Kept No (w.alloc (.cells #[.int .i64 kd, .int .i64 fr, .slice ta tn tc, .int .i64 ph, .int .i64 pe] 65)) wr ∧ goesB ps kd z (dst.drop k) = G) (fun _ i _ => tn - (intOf i).toNat)
  case atStart => exact ⟨0, 0, by omega, rfl, rfl, Kept.refl _ _, HG.out⟩
  case round =>
    obtain ⟨k, l, hk, rfl, rfl, K, hg⟩ := hrel
    by_cases hlt : k < tn
    · have hkz : k < dst.length := by omega
      have hx : dst[k]? = some dst[k] := List.getElem?_eq_getElem hkz
      obtain ⟨b, o, cs, rfl, hF, hcl, hr, rfl, hI⟩ := HT.out.at' k _ hx
      obtain ⟨m0, KW⟩ := HM.out wr K
      have d : wr.cell? ⟨b, o + k, none⟩ = some (.int .i64 dst[k]) := by
        have := KW.cell (hr 0 _ rfl) (fun h => h)
        rw [Nat.mul_one, Nat.add_zero] at this
        exact this
      rw [List.drop_eq_getElem_cons hkz] at hg
      have HK : Hid (Kept No (w.alloc (.cells #[.int .i64 kd, .int .i64 fr, .slice (some ⟨b, o, none⟩) tn tc, .int .i64 ph, .int .i64 pe] 65)) wr) := K
      obtain ⟨z, hz⟩ : ∃ z, z = dst[k] := ⟨_, rfl⟩
      rw [← hz] at d hg
      have cf := fits_any z kd false wr (lsPo_keep HP.out KW)
      have hltz : (k : Int) < (tn : Int) := by omega
      clear K hr hI hx hz KW
      by_cases hle : z ≤ l
      · have HGG : Hid (G = false) := by show G = false; rw [← hg]; simp only [goesB]; rw [decide_eq_false (by omega)]; rfl
        clear hg cf
        go_wp2
        go_ret
        exact ⟨by rw [HGG.out]; rfl, (HM.out _ HK.out).2⟩
      · cases hB : fitB ps z false kd with
        | false =>
          have HGG : Hid (G = false) := by show G = false; rw [← hg]; simp only [goesB]; rw [hB]; simp
          rw [hB] at cf
          clear hg hB
          go_wp2_with (go_at_call 186; refine cf.mono ?_; rintro e w2 ⟨rfl, k2⟩)
          go_ret
          exact ⟨by rw [HGG.out]; rfl, (HM.out _ (HK.out.trans k2 (fun _ h => h.elim))).2⟩
        | true =>
          have HGG : Hid (goesB ps kd z (dst.drop (k + 1)) = G) := by show goesB ps kd z (dst.drop (k + 1)) = G; rw [← hg]; simp only [goesB]; rw [hB, decide_eq_true (by omega)]; rfl
          rw [hB] at cf
          clear hg hB
          go_wp2_with (go_at_call 186; refine cf.mono ?_; rintro e w2 ⟨rfl, k2⟩)
          go_roundw
          case rel => exact ⟨k + 1, z, by omega, by go_num, rfl, HK.out.trans k2 (fun _ h => h.elim), HGG.out⟩
          case measure => simp [intOf]; omega
    · have hkn : k = tn := by omega
      subst hkn
      have HGG : Hid (G = true) := by show G = true; rw [← hg, ← hl, List.drop_length]; rfl
      have HK : Hid (Kept No w wr) := (HM.out _ K).2
      clear hg K
      go_wp2
      go_ret
      exact ⟨by rw [HGG.out]; rfl, HK.out⟩

theorem crow4 {F : Nat → Prop} {a : Option Addr} {n c : Nat} {ps : List Po} (kd fr : Int) (ta : Option Addr) (tn tc : Nat) (dst : List Int) (ph pe : Int) (g : Nat) (w : World) (h : Ls 6 elPo w F a n c ps) (hT : Ls 1 elI w F ta tn tc dst) (hg : w.cell? ⟨g, 0, none⟩ = some (.slice a n c)) :
    Calls Tryz.prog 139 #[.agg #[.int .i64 kd, .int .i64 fr, .slice ta tn tc, .int .i64 ph, .int .i64 pe], .pointer (some ⟨g, 0, none⟩)] w fun e w' => e = .returned (.bool (goesB ps kd 0 dst)) ∧ Kept No w w' := by
  have HK : Hid (∀ o, Kept No w (w.alloc o)) := fun o => (Kept.refl No w).alloc o
  have hc := goesTo_any kd fr ta tn tc dst ph pe (w.alloc (.cells #[.int .i64 kd, .int .i64 fr, .slice ta tn tc, .int .i64 ph, .int .i64 pe] 65)) (lsPo_keep h (HK.out _)) (hT.kept (HK.out _) (fun _ _ h => h) (elI_kept (HK.out _) (fun _ _ h => h)))
  have hg' := (HK.out (.cells #[.int .i64 kd, .int .i64 fr, .slice ta tn tc, .int .i64 ph, .int .i64 pe] 65)).cell hg (fun h => h)
  clear h hg hT
  generalize goesB ps kd 0 dst = z at *
  go_enter Tryz.func139, Tryz.ntmps139
  go_wp2_with (go_at_call 140; refine hc.mono ?_; rintro e w' ⟨rfl, k2⟩)
  go_ret
  exact ⟨rfl, (HK.out _).trans k2 (fun _ h => h.elim)⟩

set_option maxHeartbeats 2000000 in
theorem oneSize1_prd {F : Nat → Prop} {a : Option Addr} {n c : Nat} {ps : List Po} (g1 g2 : Nat) (s : Int) (k : Int) (w : World) (h : Ls 6 elPo w F a n c ps) (hg1 : w.cell? ⟨g1, 0, none⟩ = some (.slice a n c)) (hg2 : w.cell? ⟨g2, 0, none⟩ = some (.int .i64 s)) (h1 : 1 ≤ k) (h2 : k ≤ n) :
    Calls Tryz.prog 193 #[.int .i64 k, .pointer (some ⟨g1, 0, none⟩), .pointer (some ⟨g2, 0, none⟩)] w fun e w' => e = .returned (.bool ((poAt ps k).sz != s)) ∧ Kept No w w' := by
  obtain ⟨i, b, o, rfl, hin, rfl, hok, r0, r1, r2, r3, r4, r5⟩ := po_at h h1 h2
  have hn : n ≤ 9223372036854775807 := Nat.le_trans h.cap h.max
  clear h
  generalize poAt ps ((i : Int) + 1) = y at *
  obtain ⟨y0, y1, y2, y3, y4, y5⟩ := y
  simp only at r0 r1 r2 r3 r4 r5 ⊢
  have HK : Hid (Kept No w w) := Kept.refl No w
  clear r0 r1 r2 r4 r5 hok h1 h2
  go_enter Tryz.func193, Tryz.ntmps193
  go_upto_region 1 with fail
  go_region
  all_goals (try go_wp2)
  all_goals (go_ret; exact ⟨rfl, HK.out.drewN _⟩)
theorem szs {x : Int} {k : Nat} (h : x = (k : Int) + 1) : wrap64 (x - 1) = (k : Int) → True := fun _ => trivial

set_option maxHeartbeats 8000000 in
theorem hasOneSize_any {F : Nat → Prop} {a : Option Addr} {n c : Nat} {ps : List Po} (kd fr : Int) (ta : Option Addr) (tn tc : Nat) (dst : List Int) (ph pe : Int) (w : World) (h : Ls 6 elPo w F a n c ps) (hT : Ls 1 elI w F ta tn tc dst) (hfr : fr = 0 ∨ (1 ≤ fr ∧ fr ≤ n)) (hd : ∀ z ∈ dst, 1 ≤ z ∧ z ≤ n) :
    Calls Tryz.prog 143 #[.slice a n c, .agg #[.int .i64 kd, .int .i64 fr, .slice ta tn tc, .int .i64 ph, .int .i64 pe]] w fun e w' => e = .returned (.bool (oneSizeB ps fr dst)) ∧ Kept No w w' := by
  have hn : n ≤ 9223372036854775807 := Nat.le_trans h.cap h.max
  have hl := hT.len
  have htm : tn ≤ 9223372036854775807 := Nat.le_trans hT.cap hT.max
  have K0 : Kept No w ((w.alloc (.cells #[.slice a n c] 23)).alloc (.cells #[.int .i64 kd, .int .i64 fr, .slice ta tn tc, .int .i64 ph, .int .i64 pe] 65)) := ((Kept.refl No w).alloc _).alloc _
  have HKA : Hid (Kept No w ((w.alloc (.cells #[.slice a n c] 23)).alloc (.cells #[.int .i64 kd, .int .i64 fr, .slice ta tn tc, .int .i64 ph, .int .i64 pe] 65))) := K0
  cases dst with
  | nil =>
    simp only [List.length_nil] at hl
    subst hl
    clear h hT hd hfr K0
    go_enter Tryz.func143, Tryz.ntmps143
    go_wp2
    go_ret
    exact ⟨rfl, HKA.out⟩
  | cons x r =>
    obtain ⟨hx1, hx2⟩ := hd x (List.mem_cons_self ..)
    obtain ⟨b, o, cs, rfl, hF, hcl, hr, rfl, hI⟩ := hT.at' 0 x rfl
    have h0 := hr 0 _ rfl
    simp only [Nat.zero_mul, Nat.add_zero] at h0
    obtain ⟨i, pb, po, hxi, hin, rfl, hok, r0, r1, r2, r3, r4, r5⟩ := po_at h hx1 hx2
    have ht0 : 0 < tn := by simp at hl; omega
    have g0 := K0.cell h0 (fun h => h)
    have g3 := K0.cell r3 (fun h => h)
    have HS : Hid (∀ W, Kept No w W → ∀ q1 q2 s, s = (poAt ps x).sz → W.cell? ⟨q1, 0, none⟩ = some (.slice (some ⟨pb, po, none⟩) n c) → W.cell? ⟨q2, 0, none⟩ = some (.int .i64 s) → Calls Tryz.prog 192 #[.slice (some ⟨b, o, none⟩) tn tc, .func (.func 193) #[] #[.pointer (some ⟨q1, 0, none⟩), .pointer (some ⟨q2, 0, none⟩)]] W fun e w' => e = .returned (.bool ((x :: r).any (fun k => (poAt ps k).sz != s))) ∧ Kept No W w') := by
      intro W hW q1 q2 s hs hq1 hq2
      refine containsN_any (F := F) (enters_of Tryz.func193 (by kernel_rfl) rfl) W ?_ (hT.kept hW (fun _ _ h => h) (elI_kept hW (fun _ _ h => h)))
      intro W2 y hy K2
      exact oneSize1_prd q1 q2 s y W2 (lsPo_keep h (hW.trans K2 (fun _ h => h.elim))) (K2.cell hq1 (fun h => h)) (K2.cell hq2 (fun h => h)) (hd y hy).1 (hd y hy).2
    have HO : Hid (oneSizeB ps fr (x :: r) = ((fr == 0 || (poAt ps fr).sz == (poAt ps x).sz) && !((x :: r).any (fun k => (poAt ps k).sz != (poAt ps x).sz)))) := rfl
    obtain ⟨s, hs⟩ : ∃ s, s = (poAt ps x).sz := ⟨_, rfl⟩
    rw [← hs] at g3 HO
    have HSS : Hid (s = (poAt ps x).sz) := hs
    have hmf : ∀ (fn : Fn) (first cap : Array Value) (w : World), (Instr.makeFunc fn first cap).run Tryz.prog w = .ok (.func fn first cap) w := fun _ _ _ _ => rfl
    obtain ⟨Z, hZ⟩ : ∃ Z, Z = (x :: r).any (fun k => (poAt ps k).sz != s) := ⟨_, rfl⟩
    rw [← hZ] at HO
    have HZ : Hid (Z = (x :: r).any (fun k => (poAt ps k).sz != s)) := hZ
    have hne : ¬ ((tn : Int) = 0) := by omega
    have HF : Hid (fr = 0 ∨ ∃ (j : Nat), fr = j + 1 ∧ j < n ∧ ∀ W, Kept No w W → W.cell? ⟨pb, po + j * 6 + 3, none⟩ = some (.int .i64 (poAt ps fr).sz)) := by
      rcases hfr with hfr | ⟨f1, f2⟩
      · exact .inl hfr
      · obtain ⟨j, b', o', hj, hjn, e, _, _, _, _, s3, _⟩ := po_at h f1 f2
        simp only [Option.some.injEq, Addr.mk.injEq, and_true] at e
        obtain ⟨rfl, rfl⟩ := e
        exact .inr ⟨j, hj, hjn, fun W hW => hW.cell s3 (fun h => h)⟩
    generalize oneSizeB ps fr (x :: r) = R at *
    clear h hT hd hfr K0 hl hr hI hok r0 r1 r2 r3 r4 r5 h0 hF hs hZ hx2
    subst hxi
    have HM : Hid (∀ W, Kept No ((w.alloc (.cells #[.slice (some ⟨pb, po, none⟩) n c] 23)).alloc (.cells #[.int .i64 kd, .int .i64 fr, .slice (some ⟨b, o, none⟩) tn tc, .int .i64 ph, .int .i64 pe] 65)) W → W.cell? ⟨w.heap.size, 0, none⟩ = some (.slice (some ⟨pb, po, none⟩) n c) ∧ W.cell? ⟨w.heap.size + 1, 1, none⟩ = some (.int .i64 fr) ∧ W.cell? ⟨w.heap.size + 1, 2, none⟩ = some (.slice (some ⟨b, o, none⟩) tn tc) ∧ W.cell? ⟨b, o, none⟩ = some (.int .i64 ((i : Int) + 1)) ∧ W.cell? ⟨pb, po + i * 6 + 3, none⟩ = some (.int .i64 s)) := fun W k => ⟨k.cell (by simp) (fun h => h), k.cell (by simp) (fun h => h), k.cell (by simp) (fun h => h), k.cell g0 (fun h => h), k.cell g3 (fun h => h)⟩
    go_enter Tryz.func143, Tryz.ntmps143
    go_upto_region 3 with fail
    generalize (w.alloc (.cells #[.slice (some ⟨pb, po, none⟩) n c] 23)).alloc (.cells #[.int .i64 kd, .int .i64 fr, .slice (some ⟨b, o, none⟩) tn tc, .int .i64 ph, .int .i64 pe] 65) = w0 at *
    obtain ⟨m1, m2, m3, m4, m5⟩ := HM.out w0 (Kept.refl No w0)
    obtain ⟨a1, a2, a3, a4, a5⟩ := HM.out (w0.alloc (.cells #[.int .i64 0] 3)) ((Kept.refl No w0).alloc _)
    have hi0 : (0 : Int) ≤ (i : Int) := by omega
    have hi1 : (i : Int) < (n : Int) := by omega
    have hi2 : IntKind.i64.wrap (i : Int) = (i : Int) := IntWalk.i64_in _ ⟨by omega, by omega⟩
    clear g0 g3
    go_region
    have k5 : Kept No w0 (w0.alloc (.cells #[.int .i64 s] 3)).drew := ((Kept.refl No w0).alloc _).drew
    have d5 : (w0.alloc (.cells #[.int .i64 s] 3)).drew.cell? ⟨w0.heap.size, 0, none⟩ = some (.int .i64 s) := by simp
    have H5 : Hid (Kept No w0 (w0.alloc (.cells #[.int .i64 s] 3)).drew) := k5
    have H6 : Hid (Kept No w (w0.alloc (.cells #[.int .i64 s] 3)).drew) := HKA.out.trans k5 (fun _ h => h.elim)
    obtain ⟨g5, hg5⟩ : ∃ g, w0.heap.size = g := ⟨_, rfl⟩
    rw [hg5] at d5
    rw [hg5]
    clear m1 m2 m3 m4 m5 a1 a2 a3 a4 a5 hg5 k5
    generalize (w0.alloc (.cells #[.int .i64 s] 3)).drew = w5 at *
    have cS := HS.out w5 H6.out w.heap.size g5 s HSS.out (HM.out w5 H5.out).1 d5
    rw [← HZ.out] at cS
    have hpk : ∀ (b1 : Bool) (u v : Value), True := fun _ _ _ => trivial
    rcases HF.out with hf | ⟨j, hfj, hjn, hcj⟩
    · have HR : Hid (R = !Z) := by show R = !Z; rw [HO.out, hf]; rfl
      subst hf
      obtain ⟨m1, m2, m3, m4, m5⟩ := HM.out w5 H5.out
      have hz : ((0 : Int) != 0) = false := rfl
      clear cS
      go_upto_region 4 with fail
      go_region
      have H7 : Hid (Kept No w5 w5.drew) := (Kept.refl No w5).drew
      have cS := HS.out w5.drew (H6.out.drew) w.heap.size g5 s HSS.out (HM.out w5.drew (H5.out.trans H7.out (fun _ h => h.elim))).1 (H7.out.cell d5 (fun h => h))
      rw [← HZ.out] at cS
      have HE := H6.out.drew
      have H8 : Hid (Kept No w w5.drew) := HE
      obtain ⟨x1, x2, x3, x4, x5⟩ := HM.out w5.drew (H5.out.trans H7.out (fun _ h => h.elim))
      clear HE m1 m2 m3 m4 m5 d5 H5 H6 H7 HS HM HF HO HZ HKA HSS
      generalize w5.drew = w6 at *
      go_wp2_with (go_at_call 192; refine cS.mono ?_; rintro e w' ⟨rfl, k2⟩)
      go_ret
      exact ⟨by rw [HR.out]; rfl, H8.out.trans k2 (fun _ h => h.elim)⟩
    · have hc6 := hcj w5 H6.out
      have hfz : (fr == 0) = false := by simp; omega
      have hj0 : (0 : Int) ≤ (j : Int) := by omega
      have hj1 : (j : Int) < (n : Int) := by omega
      have hj2 : IntKind.i64.wrap (j : Int) = (j : Int) := IntWalk.i64_in _ ⟨by omega, by omega⟩
      have HR : Hid (R = ((poAt ps fr).sz == s && !Z)) := by show R = _; rw [HO.out, hfz]; rfl
      generalize (poAt ps fr).sz = s2 at *
      subst hfj
      have hfn : ¬ ((j : Int) + 1 = 0) := by omega
      have hft : (((j : Int) + 1) != 0) = true := by simp; omega
      obtain ⟨m1, m2, m3, m4, m5⟩ := HM.out w5 H5.out
      clear cS hcj
      cases hq : (s2 == s)
      · have hne2 : ¬ s2 = s := by simpa using hq
        have hnt : (s2 != s) = true := by simpa using hq
        go_upto_region 4 with fail
        go_region
        have H8 : Hid (Kept No w w5.drew) := H6.out.drew
        clear m1 m2 m3 m4 m5 d5 H5 H6 HS HM HF HO HZ HKA HSS hc6
        generalize w5.drew = w6 at *
        go_wp2
        go_ret
        exact ⟨by rw [HR.out, hq]; rfl, H8.out⟩
      · have heq2 : s2 = s := by simpa using hq
        subst heq2
        go_upto_region 4 with fail
        go_region
        have H7 : Hid (Kept No w5 w5.drew) := (Kept.refl No w5).drew
        have cS := HS.out w5.drew (H6.out.drew) w.heap.size g5 s2 HSS.out (HM.out w5.drew (H5.out.trans H7.out (fun _ h => h.elim))).1 (H7.out.cell d5 (fun h => h))
        rw [← HZ.out] at cS
        have H8 : Hid (Kept No w w5.drew) := H6.out.drew
        obtain ⟨x1, x2, x3, x4, x5⟩ := HM.out w5.drew (H5.out.trans H7.out (fun _ h => h.elim))
        clear m1 m2 m3 m4 m5 d5 H5 H6 H7 HS HM HF HO HZ HKA HSS hc6
        generalize w5.drew = w6 at *
        go_wp2_with (go_at_call 192; refine cS.mono ?_; rintro e w' ⟨rfl, k2⟩)
        go_ret
        exact ⟨by rw [HR.out, hq]; rfl, H8.out.trans k2 (fun _ h => h.elim)⟩
end Go.Proofs.YtnmhcnppdhdhfaaGreatDoor
