/-
  One text: DLaw, DKnown.
-/
import Derived.Test.YtffgcijicmfmlaaGreatDoorDNews
namespace Go.Proofs.YtffgcijicmfmlaaGreatDoor
open Go.RowKit Plain
set_option linter.unusedVariables false
set_option maxRecDepth 100000

theorem sameInts_yes {g g' n c c' : Nat} {r : Nat → Int} (w : World) (h : Ct w g n r) (h' : Ct w g' n r) (hn : n ≤ 32) : Calls Tryz.prog 13 #[.slice (some ⟨g, 0, none⟩) n c, .slice (some ⟨g', 0, none⟩) n c'] w fun e w' => e = .returned (.bool true) ∧ Kept No w w' := by
  have HC : Hid (Ct w g n r ∧ Ct w g' n r) := ⟨h, h'⟩
  clear h h'
  go_enter Tryz.func13, Tryz.ntmps13
  go_wp2
  go_loopw [5] (fun x wr => ∃ k : Nat, k ≤ n ∧ x = .int .i64 k ∧ Kept No w wr) (fun x _ => n - (intOf x).toNat)
  case atStart => exact ⟨0, Nat.zero_le _, rfl, Kept.refl No w⟩
  case round =>
    obtain ⟨k, hk, rfl, hkr⟩ := hrel
    have HK : Hid (Kept No w wr) := hkr
    clear hkr
    by_cases hlt : k < n
    · have x1 := (HC.out.1.keep HK.out).at' k hlt
      have x2 := (HC.out.2.keep HK.out).at' k hlt
      generalize r k = R at *
      go_wp2
      go_quiet (fail)
      go_wp2
      go_roundw
      case rel => exact ⟨k + 1, by omega, by go_num, HK.out.drewN _⟩
      case measure => simp [intOf]; omega
    · have hke : k = n := by omega
      subst hke
      go_wp2
      go_ret
      exact ⟨rfl, HK.out⟩

theorem eachF_neD {r : Nat → Int} {first : Int} : ∀ {n : Nat} {p : Int × Int}, eachF r first n = some p → p.1 ≠ 0
  | 0, p, h => by cases h
  | n + 1, p, h => by
    rw [eachF] at h
    cases he : eachF r first n with
    | some q => rw [he] at h; injection h with h; subst h; exact eachF_neD he
    | none =>
      rw [he] at h
      simp only at h
      by_cases h0 : r n = 0
      · rw [if_pos h0] at h; cases h
      · rw [if_neg h0] at h; injection h with h; subst h; exact h0
theorem tim_neD {xs : List Srv} {n : Nat} {p : Int × Int} (h : timF xs n = some p) : p.1 ≠ 0 := by
  unfold timF at h
  cases hf : findF xs n with
  | some q =>
    rw [hf] at h
    injection h with h
    subst h
    unfold findF at hf
    by_cases h32 : n ≤ 32
    · rw [if_pos h32] at hf; exact eachF_neD hf
    · rw [if_neg h32] at hf; injection hf with hf; subst hf; decide
  | none =>
    rw [hf] at h
    unfold togF at h
    by_cases hb : lcmB (zP xs) n 1048576 = true
    · rw [if_pos hb] at h
      by_cases hr : relF (lcmV (zP xs) n 1048576) xs n ≤ 65536
      · rw [if_pos hr] at h; cases h
      · rw [if_neg hr] at h; injection h with h; subst h; decide
    · rw [if_neg hb] at h; injection h with h; subst h; decide

theorem newD_no {F : Nat → Prop} {a : Option Addr} {c : Nat} {xs : List Srv} {p : Int × Int} (w : World) (hg : Gl w) (h : Sv w F a xs.length c xs) (ht : timF xs xs.length = some p) :
    Calls Tryz.prog 26 #[.slice a xs.length c] w fun e w' => e = .returned (.tuple #[.pointer none, .int .i64 p.1]) ∧ Kept No w w' := by
  have hp := tim_neD ht
  have hc := hyper_any F a xs.length c xs w hg h
  rw [(tim_no ht).1, (tim_no ht).2] at hc
  generalize p.1 = pe at *
  clear h hg ht
  go_enter Tryz.func26, Tryz.ntmps26
  go_wp2_with (go_at_call 25; refine hc.mono ?_; rintro e w1 ⟨rfl, hk1⟩; have HK1 : Hid (Kept No w w1) := hk1; clear hk1 hc)
  go_ret2
  exact ⟨rfl, HK1.out⟩
theorem able_no {F : Nat → Prop} {a : Option Addr} {c : Nat} {xs : List Srv} {p : Int × Int} (w : World) (hg : Gl w) (h : Sv w F a xs.length c xs) (ht : timF xs xs.length = some p) :
    Calls Tryz.prog 9 #[.slice a xs.length c] w fun e w' => e = .returned (.tuple #[.pointer none, .int .i64 0, .bool true]) ∧ Kept No w w' := by
  have hp := tim_neD ht
  have hc := hyper_any F a xs.length c xs w hg h
  rw [(tim_no ht).1, (tim_no ht).2] at hc
  have HN : Hid (∀ W, Kept No w W → Calls Tryz.prog 26 #[.slice a xs.length c] W fun e w' => e = .returned (.tuple #[.pointer none, .int .i64 p.1]) ∧ Kept No W w') := fun W hk => newD_no W (hg.kept hk) (h.keep hk) ht
  generalize p.1 = pe at *
  clear h hg ht
  have hb : (pe != 0) = true := bne_iff_ne.2 hp
  go_enter Tryz.func9, Tryz.ntmps9
  go_wp2_with (first
    | (go_at_call 25; refine hc.mono ?_; rintro e w1 ⟨rfl, hk1⟩; have HK1 : Hid (Kept No w w1) := hk1; have hn := HN.out w1 hk1; clear hk1 hc)
    | (go_at_call 26; refine hn.mono ?_; rintro e w2 ⟨rfl, hk2⟩; have HK2 : Hid (Kept No w w2) := HK1.out.trans hk2 (fun _ h => h.elim); clear hk2 hn))
  go_ret3
  exact ⟨rfl, HK2.out⟩
/-- a dispatcher of xs at t, its blocks between lo and hi -/
def Dm (w : World) (d : Nat) (lo hi : Nat) (xs : List Srv) (t : Nat) : Prop := ∃ gR bW a c FS FW, Dp w d gR bW a c FS FW xs t ∧ (∀ k, Fd d gR FS FW k → lo ≤ k ∧ k < hi) ∧ hi ≤ w.heap.size
theorem able_yes {F : Nat → Prop} {a : Option Addr} {c : Nat} {xs : List Srv} (w : World) (hg : Gl w) (h : Sv w F a xs.length c xs) (ht : timF xs xs.length = none) :
    Calls Tryz.prog 9 #[.slice a xs.length c] w fun e w' => ∃ d, e = .returned (.tuple #[.pointer (some ⟨d, 0, none⟩), .int .i64 (hyp xs), .bool true]) ∧ Dm w' d w.heap.size w'.heap.size xs 0 ∧ Kept No w w' := by
  have hc := hyper_any F a xs.length c xs w hg h
  rw [(tim_yes ht).1, (tim_yes ht).2] at hc
  have HN : Hid (∀ W, Kept No w W → Calls Tryz.prog 26 #[.slice a xs.length c] W fun e w' => ∃ d, e = .returned (.tuple #[.pointer (some ⟨d, 0, none⟩), .int .i64 0]) ∧ Dm w' d w.heap.size w'.heap.size xs 0 ∧ Kept No W w') := fun W hk => (newD_yes W (hg.kept hk) (h.keep hk) ht).mono (by
    rintro e w' ⟨d, gR, bW, a', c', FS, FW, rfl, h1, h2, h3⟩
    exact ⟨d, rfl, ⟨gR, bW, a', c', FS, FW, h1, fun k hk' => ⟨by have := (h2 k hk').1; have := hk.size; omega, (h2 k hk').2⟩, Nat.le_refl _⟩, h3⟩)
  have q2 : ∀ (w : World) (d : Nat), (binOp .eql 24 (.pointer (some ⟨d, 0, none⟩)) (.pointer none)).run Tryz.prog w = .ok (.bool false) w := fun w d => by rfl
  clear h hg ht
  generalize hyp xs = H at hc
  go_enter Tryz.func9, Tryz.ntmps9
  go_wp2_with (first
    | (go_at_call 25; refine hc.mono ?_; rintro e w1 ⟨rfl, hk1⟩; have HK1 : Hid (Kept No w w1) := hk1; have hn := HN.out w1 hk1; clear hk1 hc)
    | (go_at_call 26; refine hn.mono ?_; rintro e w2 ⟨d, rfl, hd2, hk2⟩; have HK2 : Hid (Kept No w w2 ∧ Dm w2 d w.heap.size w2.heap.size xs 0) := ⟨HK1.out.trans hk2 (fun _ h => h.elim), hd2⟩; clear hk2 hd2 hn))
  go_ret3
  exact ⟨d, rfl, HK2.out.2, HK2.out.1⟩
end Go.Proofs.YtffgcijicmfmlaaGreatDoor

namespace Go.Proofs.YtffgcijicmfmlaaGreatDoor
open Go.RowKit Plain
set_option linter.unusedVariables false
set_option maxRecDepth 100000

/-- a dispatcher of xs at t, its blocks in R -/
def Dn (w : World) (d : Nat) (R : Nat → Prop) (xs : List Srv) (t : Nat) : Prop := ∃ gR bW a c FS FW, Dp w d gR bW a c FS FW xs t ∧ ∀ k, Fd d gR FS FW k → R k
theorem Dm.dn {w : World} {d lo hi : Nat} {xs : List Srv} {t : Nat} (h : Dm w d lo hi xs t) : Dn w d (fun k => lo ≤ k ∧ k < hi) xs t := by
  obtain ⟨gR, bW, a, c, FS, FW, h1, h2, _⟩ := h
  exact ⟨gR, bW, a, c, FS, FW, h1, h2⟩
section
variable {w w' : World} {d : Nat} {R : Nat → Prop} {xs : List Srv} {t : Nat}
theorem Dn.kept {G : Nat → Prop} (h : Dn w d R xs t) (hk : Kept G w w') (hG : ∀ k, R k → ¬ G k) : Dn w' d R xs t := by
  obtain ⟨gR, bW, a, c, FS, FW, h1, h2⟩ := h
  exact ⟨gR, bW, a, c, FS, FW, h1.kept hk (fun k hk' => hG k (h2 k hk')), h2⟩
theorem Dn.keep (h : Dn w d R xs t) (hk : Kept No w w') : Dn w' d R xs t := h.kept hk (fun _ _ h => h)
theorem Dn.mono {Q : Nat → Prop} (h : Dn w d R xs t) (hR : ∀ k, R k → Q k) : Dn w d Q xs t := by
  obtain ⟨gR, bW, a, c, FS, FW, h1, h2⟩ := h
  exact ⟨gR, bW, a, c, FS, FW, h1, fun k hk => hR k (h2 k hk)⟩
theorem occ_dn (hv : Vd xs) (h : Dn w d R xs t) : Calls Tryz.prog 15 #[.pointer (some ⟨d, 0, none⟩)] w fun e w' => e = .returned (.int .i64 (Rule.occ (sys xs) t)) ∧ Kept No w w' := by
  obtain ⟨gR, bW, a, c, FS, FW, h1, h2⟩ := h
  exact occ_now hv h1
theorem until_dn (hv : Vd xs) (h : Dn w d R xs t) (ht : t < 1099511627776) : Calls Tryz.prog 16 #[.pointer (some ⟨d, 0, none⟩)] w fun e w' => e = .returned (.int .i64 (Rule.until' (sys xs) t)) ∧ Kept No w w' := by
  obtain ⟨gR, bW, a, c, FS, FW, h1, h2⟩ := h
  exact until_now hv h1 ht
theorem now_dn (h : Dn w d R xs t) : Calls Tryz.prog 12 #[.pointer (some ⟨d, 0, none⟩)] w fun e w' => e = .returned (.int .i64 t) ∧ Kept No w w' := by
  obtain ⟨gR, bW, a, c, FS, FW, ⟨L, h1, _⟩, h2⟩ := h
  exact (now_any h1).mono (by rintro e w' ⟨rfl, rfl⟩; exact ⟨rfl, Kept.refl No _⟩)
theorem rests_dn (hv : Vd xs) (h : Dn w d R xs t) : Calls Tryz.prog 14 #[.pointer (some ⟨d, 0, none⟩)] w fun e w' => ∃ g c, e = .returned (.slice (some ⟨g, 0, none⟩) xs.length c) ∧ w.heap.size ≤ g ∧ xs.length ≤ c ∧ c ≤ 9223372036854775807 ∧ Ct w' g xs.length (fun i => (Rule.rest (sys xs) t i : Int)) ∧ Kept No w w' := by
  obtain ⟨gR, bW, a, c, FS, FW, ⟨L, h1, _⟩, h2⟩ := h
  exact (restsD_any h1 hv.num).mono (by rintro e w' ⟨g', c', rfl, q1, q2, q3, q4, _, q5⟩; exact ⟨g', c', rfl, q1, q2, q3, q4, q5⟩)
theorem bad_dn (h : Dn w d R xs t) (x : Int) (hx : x < t ∨ 1099511627775 < x) : Calls Tryz.prog 11 #[.pointer (some ⟨d, 0, none⟩), .int .i64 x] w fun e w' => e = .returned (.int .i64 2) ∧ w' = w := by
  obtain ⟨gR, bW, a, c, FS, FW, h1, h2⟩ := h
  exact advance_bad h1 x hx
theorem good_dn (hv : Vd xs) (h : Dn w d R xs t) (x : Nat) (h1 : t ≤ x) (h2 : x < 1099511627776) : Calls Tryz.prog 11 #[.pointer (some ⟨d, 0, none⟩), .int .i64 x] w fun e w' => e = .returned (.int .i64 0) ∧ Dn w' d (fun k => R k ∨ w.heap.size ≤ k) xs x ∧ Kept R w w' := by
  obtain ⟨gR, bW, a, c, FS, FW, q1, q2⟩ := h
  refine (advance_good hv q1 x h1 h2).mono ?_
  rintro e w' ⟨rfl, ⟨FW', g1, g2⟩, g3⟩
  refine ⟨rfl, ⟨gR, bW, a, c, FS, FW', g1, fun k hk => ?_⟩, g3.mono (fun k hk => ?_)⟩
  · rcases hk with h | h | h | h
    · exact .inl (q2 k (.inl h))
    · exact .inl (q2 k (.inr (.inl h)))
    · exact .inl (q2 k (.inr (.inr (.inl h))))
    · rcases g2 k h with h' | h'
      · exact .inl (q2 k (.inr (.inr (.inr h'))))
      · exact .inr h'
  · rcases hk with h | h | h
    · exact q2 k (.inl h)
    · exact q2 k (.inr (.inl h))
    · exact q2 k (.inr (.inr (.inr h)))
end

def xs0 : List Srv := [⟨5, 2, 4, 9⟩, ⟨10, 6, 0, 1⟩]
theorem tim0 : timF xs0 xs0.length = none := by decide +kernel
theorem kn1 : Rule.occ (sys xs0) 0 = 2 := by decide +kernel
theorem kn2 : Rule.until' (sys xs0) 0 = 4 := by decide +kernel
theorem kn3 : Rule.occ (sys xs0) 4 = 1 := by decide +kernel
theorem kn4 : ∀ i, i < 2 → (Rule.rest (sys xs0) 4 i : Int) = 2 := by decide +kernel
theorem sv0' {W : World} {g : Nat} (hb : W.heap[g]? = some (.cells #[.int .i64 5, .int .i64 2, .int .i64 4, .int .i64 9, .int .i64 10, .int .i64 6, .int .i64 0, .int .i64 1] 36)) : Sv W (fun k => k = g) (some ⟨g, 0, none⟩) xs0.length 2 xs0 := by
  refine ⟨rfl, Nat.le_refl _, by omega, (fun h => by cases h), fun i x hx => ?_⟩
  match i, hx with
  | 0, hx =>
    have hx' : x = ⟨5, 2, 4, 9⟩ := by simpa [xs0] using hx.symm
    subst hx'
    refine ⟨⟨by constructor <;> decide, by constructor <;> decide, by constructor <;> decide, by constructor <;> decide⟩, g, 0, rfl, rfl, ?_, ?_, ?_, ?_⟩ <;> simp [World.cell?, hb]
  | 1, hx =>
    have hx' : x = ⟨10, 6, 0, 1⟩ := by simpa [xs0] using hx.symm
    subst hx'
    refine ⟨⟨by constructor <;> decide, by constructor <;> decide, by constructor <;> decide, by constructor <;> decide⟩, g, 0, rfl, rfl, ?_, ?_, ?_, ?_⟩ <;> simp [World.cell?, hb]
  | i + 2, hx => simp [xs0] at hx
theorem sv0 (w : World) : Sv (w.alloc (.cells #[.int .i64 5, .int .i64 2, .int .i64 4, .int .i64 9, .int .i64 10, .int .i64 6, .int .i64 0, .int .i64 1] 36)) (fun k => k = w.heap.size) (some ⟨w.heap.size, 0, none⟩) xs0.length 2 xs0 := sv0' (World.alloc_heap_new _ _)


set_option maxHeartbeats 4000000 in
theorem known_any (w : World) (hg : Gl w) : Calls Tryz.prog 10 #[] w fun e w' => e = .returned (.bool true) ∧ Kept No w w' := by
  have hv0 := vd_of tim0
  have k1 : Kept No w (w.alloc (.cells #[.int .i64 5, .int .i64 2, .int .i64 4, .int .i64 9, .int .i64 10, .int .i64 6, .int .i64 0, .int .i64 1] 36)) := (Kept.refl No w).alloc _
  have hn := newD_yes (w.alloc (.cells #[.int .i64 5, .int .i64 2, .int .i64 4, .int .i64 9, .int .i64 10, .int .i64 6, .int .i64 0, .int .i64 1] 36)) (hg.kept k1) (sv0 w) tim0
  have HN : Hid (Calls Tryz.prog 26 #[.slice (some ⟨w.heap.size, 0, none⟩) 2 2] (w.alloc (.cells #[.int .i64 5, .int .i64 2, .int .i64 4, .int .i64 9, .int .i64 10, .int .i64 6, .int .i64 0, .int .i64 1] 36)) fun e w' => ∃ d, e = .returned (.tuple #[.pointer (some ⟨d, 0, none⟩), .int .i64 0]) ∧ Dn w' d (fun k => w.heap.size ≤ k) xs0 0 ∧ Kept No w w') := hn.mono (by
    rintro e w' ⟨d, gR, bW, a', c', FS, FW, rfl, h1, h2, h3⟩
    exact ⟨d, rfl, ⟨gR, bW, a', c', FS, FW, h1, fun k hk => by have := (h2 k hk).1; simp at this; omega⟩, k1.trans h3 (fun _ h => h.elim)⟩)
  have HV : Hid (Vd xs0) := hv0
  have q2 : ∀ (w : World) (d : Nat), (binOp .eql 24 (.pointer (some ⟨d, 0, none⟩)) (.pointer none)).run Tryz.prog w = .ok (.bool false) w := fun w d => by rfl
  clear hn k1 hg hv0
  have hnn := HN.out
  go_enter Tryz.func10, Tryz.ntmps10
  go_upto_region 2 with (go_at_call 26; refine hnn.mono ?_; rintro e w1 ⟨d, rfl, hd1, hk1⟩; have H1 : Hid (Dn w1 d (fun k => w.heap.size ≤ k) xs0 0 ∧ Kept No w w1) := ⟨hd1, hk1⟩; clear hd1 hk1 hnn)
  have o1 := occ_dn HV.out H1.out.1
  rw [kn1] at o1
  go_upto_region 4 with (first
    | (go_at_call 15; refine o1.mono ?_; rintro e w2 ⟨rfl, hk2⟩; have H2 : Hid (Dn w2 d (fun k => w.heap.size ≤ k) xs0 0 ∧ Kept No w w2) := ⟨H1.out.1.keep hk2, H1.out.2.trans hk2 (fun _ h => h.elim)⟩; have o2 := until_dn HV.out H2.out.1 (by omega); rw [kn2] at o2; clear hk2 o1)
    | (go_at_call 16; refine o2.mono ?_; rintro e w3 ⟨rfl, hk3⟩; have H3 : Hid (Dn w3 d (fun k => w.heap.size ≤ k) xs0 0 ∧ Kept No w w3) := ⟨H2.out.1.keep hk3, H2.out.2.trans hk3 (fun _ h => h.elim)⟩; have o3 := good_dn HV.out H3.out.1 4 (by omega) (by omega); rw [show ((4 : Nat) : Int) = 4 from rfl] at o3; clear hk3 o2)
    | (go_at_call 11; refine o3.mono ?_; rintro e w4 ⟨rfl, hd4, hk4⟩; have H4 : Hid (Dn w4 d (fun k => w.heap.size ≤ k) xs0 4 ∧ Kept No w w4) := ⟨hd4.mono (fun k hk => (by have := H3.out.2.size; rcases hk with h | h; exact h; omega)), H3.out.2.trans hk4 (fun j hj => .inr hj)⟩; clear hd4 hk4 o3))
  have o4 := occ_dn HV.out H4.out.1
  rw [kn3] at o4
  go_wp2_with (first
    | (go_at_call 15; refine o4.mono ?_; rintro e w5 ⟨rfl, hk5⟩; have H5 : Hid (Dn w5 d (fun k => w.heap.size ≤ k) xs0 4 ∧ Kept No w w5) := ⟨H4.out.1.keep hk5, H4.out.2.trans hk5 (fun _ h => h.elim)⟩; have o5 := now_dn H5.out.1; rw [show ((4 : Nat) : Int) = 4 from rfl] at o5; clear hk5 o4)
    | (go_at_call 12; refine o5.mono ?_; rintro e w6 ⟨rfl, hk6⟩; have H6 : Hid (Dn w6 d (fun k => w.heap.size ≤ k) xs0 4 ∧ Kept No w w6) := ⟨H5.out.1.keep hk6, H5.out.2.trans hk6 (fun _ h => h.elim)⟩; have o6 := rests_dn HV.out H6.out.1; rw [show xs0.length = 2 from rfl] at o6; clear hk6 o5)
    | (go_at_call 14; refine o6.mono ?_; rintro e w7 ⟨g, cc, rfl, _, hcc, _, hct, hk7⟩; have H7 : Hid (Ct w7 g 2 (fun i => (Rule.rest (sys xs0) 4 i : Int)) ∧ Kept No w w7) := ⟨hct, H6.out.2.trans hk7 (fun _ h => h.elim)⟩; have o7 : Calls Tryz.prog 13 #[.slice (some ⟨g, 0, none⟩) 2 cc, .slice (some ⟨w7.heap.size, 0, none⟩) 2 2] (w7.alloc (.cells #[.int .i64 2, .int .i64 2] 3)) fun e w' => e = .returned (.bool true) ∧ Kept No (w7.alloc (.cells #[.int .i64 2, .int .i64 2] 3)) w' := (by
        have ka : Kept No w7 (w7.alloc (.cells #[.int .i64 2, .int .i64 2] 3)) := (Kept.refl No w7).alloc _
        have hb := World.alloc_heap_new w7 (.cells #[.int .i64 2, .int .i64 2] 3)
        refine sameInts_yes (r := fun _ => 2) _ ((hct.keep ka).like kn4) ⟨fun i hi => ?_, fun i => by simp only [World.frozen?]; rw [hb]; rfl, by simp⟩ (by omega)
        match i, hi with
        | 0, _ => simp only [World.cell?, hb]; rfl
        | 1, _ => simp only [World.cell?, hb]; rfl); clear hct hk7 o6)
    | (go_at_call 13; refine o7.mono ?_; rintro e w8 ⟨rfl, hk8⟩; have H8 : Hid (Kept No w w8) := (H7.out.2.alloc _).trans hk8 (fun _ h => h.elim); clear hk8 o7))
  go_ret
  exact ⟨rfl, H8.out⟩
end Go.Proofs.YtffgcijicmfmlaaGreatDoor
