/-
  One text: DObj, DOcc, DChange, DSet.
-/
import Derived.Test.YtffgcijicmfmlaaGreatDoorDClone
import Derived.Test.YtffgcijicmfmlaaGreatDoorOAll
import Derived.Test.YtffgcijicmfmlaaGreatDoorWSort
import Derived.BigQuiet
namespace Go.Proofs.YtffgcijicmfmlaaGreatDoor
open Go.RowKit Plain
set_option linter.unusedVariables false
set_option maxRecDepth 100000

/-- the wheel as the dispatcher holds it -/
def wif (b : Nat) : Value := .iface 74 (.pointer (some ⟨b, 0, none⟩))
/-- block d is a dispatcher: its servers, its hyperperiod, its tick, its rests, its wheel -/
structure Dr (w : World) (d gR bW : Nat) (a : Option Addr) (c : Nat) (FS FW : Nat → Prop) (xs : List Srv) (now : Nat) (r : Nat → Int) (nw : Nat) (L : List Fi) : Prop where
  c0 : w.cell? ⟨d, 0, none⟩ = some (.slice a xs.length c)
  c1 : w.cell? ⟨d, 1, none⟩ = some (.int .i64 (hyp xs))
  c2 : w.cell? ⟨d, 2, none⟩ = some (.int .i64 now)
  c3 : w.cell? ⟨d, 3, none⟩ = some (.slice (some ⟨gR, 0, none⟩) xs.length xs.length)
  c4 : w.cell? ⟨d, 4, none⟩ = some (wif bW)
  fz : ∀ i, w.frozen? ⟨d, i, none⟩ = false
  sv : Sv w FS a xs.length c xs
  ct : Ct w gR xs.length r
  wh : Wh w FW bW nw L
  sl : ∀ k, FS k → k < w.heap.size
  ap : d ≠ gR ∧ ¬ FS d ∧ ¬ FW d ∧ ¬ FS gR ∧ ¬ FW gR ∧ ∀ k, FS k → ¬ FW k
/-- its blocks -/
def Fd (d gR : Nat) (FS FW : Nat → Prop) : Nat → Prop := fun k => k = d ∨ k = gR ∨ FS k ∨ FW k
theorem Dr.kept {w w' : World} {G : Nat → Prop} {d gR bW : Nat} {a : Option Addr} {c : Nat} {FS FW : Nat → Prop} {xs : List Srv} {now : Nat} {r : Nat → Int} {nw : Nat} {L : List Fi} (h : Dr w d gR bW a c FS FW xs now r nw L) (hk : Kept G w w') (hG : ∀ k, Fd d gR FS FW k → ¬ G k) : Dr w' d gR bW a c FS FW xs now r nw L := by
  have hd : ¬ G d := hG d (.inl rfl)
  have hlt : d < w.heap.size := cell_lt h.c0
  refine ⟨hk.cell h.c0 hd, hk.cell h.c1 hd, hk.cell h.c2 hd, hk.cell h.c3 hd, hk.cell h.c4 hd, fun i => ?_, h.sv.kept hk (fun b hb => hG b (.inr (.inr (.inl hb)))), h.ct.over hk (hG gR (.inr (.inl rfl))), h.wh.kept hk (fun b hb => hG b (.inr (.inr (.inr hb)))), fun k hk' => Nat.lt_of_lt_of_le (h.sl k hk') hk.size, h.ap⟩
  have e := hk.block d hlt hd
  have := h.fz i
  simp only [World.frozen?] at this ⊢
  rw [e]; exact this
theorem Dr.keep {w w' : World} {d gR bW : Nat} {a : Option Addr} {c : Nat} {FS FW : Nat → Prop} {xs : List Srv} {now : Nat} {r : Nat → Int} {nw : Nat} {L : List Fi} (h : Dr w d gR bW a c FS FW xs now r nw L) (hk : Kept No w w') : Dr w' d gR bW a c FS FW xs now r nw L := h.kept hk (fun _ _ h => h)

theorem neq_if (w : World) (b : Nat) : (binOp .neq 54 (wif b) .nilIface).run Tryz.prog w = .ok (.bool true) w := by rfl
theorem neq_dp (w : World) (d : Nat) : (binOp .neq 24 (.pointer (some ⟨d, 0, none⟩)) (.pointer none)).run Tryz.prog w = .ok (.bool true) w := by rfl

section
variable {w : World} {d gR bW : Nat} {a : Option Addr} {c : Nat} {FS FW : Nat → Prop} {xs : List Srv} {now : Nat} {r : Nat → Int} {nw : Nat} {L : List Fi}
theorem isMade_yes (h : Dr w d gR bW a c FS FW xs now r nw L) : Calls Tryz.prog 27 #[.pointer (some ⟨d, 0, none⟩)] w fun e w' => e = .returned (.bool true) ∧ w' = w := by
  have c4 := h.c4
  have q1 := neq_if
  have q2 := neq_dp
  unfold wif at c4 q1
  clear h
  go_enter Tryz.func27, Tryz.ntmps27
  go_wp2
  go_ret
  exact ⟨rfl, rfl⟩
theorem now_any (h : Dr w d gR bW a c FS FW xs now r nw L) : Calls Tryz.prog 12 #[.pointer (some ⟨d, 0, none⟩)] w fun e w' => e = .returned (.int .i64 now) ∧ w' = w := by
  have c2 := h.c2
  have hm := isMade_yes h
  clear h
  go_enter Tryz.func12, Tryz.ntmps12
  go_wp2_with (go_at_call 27; refine hm.mono ?_; rintro e w1 ⟨rfl, hw1⟩; obtain rfl := hw1.symm)
  go_ret
  exact ⟨rfl, rfl⟩
theorem restsD_any (h : Dr w d gR bW a c FS FW xs now r nw L) (hn : xs.length ≤ 32) : Calls Tryz.prog 14 #[.pointer (some ⟨d, 0, none⟩)] w fun e w' => ∃ g' c', e = .returned (.slice (some ⟨g', 0, none⟩) xs.length c') ∧ w.heap.size ≤ g' ∧ xs.length ≤ c' ∧ c' ≤ 9223372036854775807 ∧ Ct w' g' xs.length r ∧ w'.ownsRow w.heap.size 3 1 (.slice (some ⟨g', 0, none⟩) xs.length c') xs.length ((List.range xs.length).map fun i => .int .i64 (r i)) ∧ Kept No w w' := by
  have c3 := h.c3
  have hm := isMade_yes h
  have hc := clone_int w h.ct hn
  clear h
  go_enter Tryz.func14, Tryz.ntmps14
  go_wp2_with (first
    | (go_at_call 27; refine hm.mono ?_; rintro e w1 ⟨rfl, hw1⟩; obtain rfl := hw1.symm)
    | (go_at_call 30; refine hc.mono ?_; rintro e w2 ⟨g', c', rfl, hq⟩; have HQ : Hid (w.heap.size ≤ g' ∧ xs.length ≤ c' ∧ c' ≤ 9223372036854775807 ∧ Ct w2 g' xs.length r ∧ w2.ownsRow w.heap.size 3 1 (.slice (some ⟨g', 0, none⟩) xs.length c') xs.length ((List.range xs.length).map fun i => .int .i64 (r i)) ∧ Kept No w w2) := hq; clear hq hc))
  go_ret
  exact ⟨g', c', rfl, HQ.out⟩
end
end Go.Proofs.YtffgcijicmfmlaaGreatDoor

namespace Go.Proofs.YtffgcijicmfmlaaGreatDoor
open Go.RowKit Plain
set_option linter.unusedVariables false
set_option maxRecDepth 100000

theorem pick_yes0 {s : Rule.Sys} {r : Nat → Nat} {k : Nat} (h : 0 < r k) (h0 : Rule.pick s r k = 0) : Rule.pick s r (k + 1) = k + 1 := by
  rw [Rule.pick]; exact if_pos ⟨h, .inl h0⟩
theorem pick_yes1 {s : Rule.Sys} {r : Nat → Nat} {k p : Nat} (h : 0 < r k) (h0 : Rule.pick s r k = p + 1) (hq : s.pr p < s.pr k) : Rule.pick s r (k + 1) = k + 1 := by
  rw [Rule.pick]; exact if_pos ⟨h, .inr (by rw [h0, Nat.add_sub_cancel]; exact hq)⟩
theorem pick_no0 {s : Rule.Sys} {r : Nat → Nat} {k : Nat} (h : r k = 0) : Rule.pick s r (k + 1) = Rule.pick s r k := by
  rw [Rule.pick]; exact if_neg (fun h' => by omega)
theorem pick_no1 {s : Rule.Sys} {r : Nat → Nat} {k p : Nat} (h0 : Rule.pick s r k = p + 1) (hq : ¬ s.pr p < s.pr k) : Rule.pick s r (k + 1) = p + 1 := by
  rw [Rule.pick, h0]; exact if_neg (fun h' => by
    rcases h'.2 with h1 | h1
    · omega
    · rw [Nat.add_sub_cancel] at h1; exact hq h1)
theorem gs_get {xs : List Srv} {i : Nat} (h : i < xs.length) : xs[i]? = some (gs xs i) := by
  unfold gs; rw [List.getD_eq_getElem?_getD, List.getElem?_eq_getElem h]; rfl
theorem Sv.gs4 {w : World} {F : Nat → Prop} {a : Option Addr} {n c : Nat} {xs : List Srv} (h : Sv w F a n c xs) {i : Nat} (hi : i < xs.length) : (gs xs i).ok ∧ ∃ b o, a = some ⟨b, o, none⟩ ∧ F b ∧ w.cell? ⟨b, o + i * 4, none⟩ = some (.int .i64 (gs xs i).p) ∧ w.cell? ⟨b, o + i * 4 + 1, none⟩ = some (.int .i64 (gs xs i).b) ∧ w.cell? ⟨b, o + i * 4 + 2, none⟩ = some (.int .i64 (gs xs i).o) ∧ w.cell? ⟨b, o + i * 4 + 3, none⟩ = some (.int .i64 (gs xs i).q) := h.at' i _ (gs_get hi)
theorem cells4r {w : World} {z : Nat} {v0 v1 v2 v3 : Value} {t : TypeId} (h : w.heap[z]? = some (.cells #[v0, v1, v2, v3] t)) : w.cell? ⟨z, 0, none⟩ = some v0 ∧ w.cell? ⟨z, 1, none⟩ = some v1 ∧ w.cell? ⟨z, 2, none⟩ = some v2 ∧ w.cell? ⟨z, 3, none⟩ = some v3 := by
  simp only [World.cell?, h]
  exact ⟨rfl, rfl, rfl, rfl⟩

set_option maxHeartbeats 2000000 in
theorem occupant_any {w : World} {d gR bW : Nat} {a : Option Addr} {c : Nat} {FS FW : Nat → Prop} {xs : List Srv} {now : Nat} {r : Nat → Nat} {nw : Nat} {L : List Fi} (h : Dr w d gR bW a c FS FW xs now (fun i => (r i : Int)) nw L) (hn : xs.length ≤ 32) (hb : ∀ i, i < xs.length → r i ≤ 1048576) :
    Calls Tryz.prog 15 #[.pointer (some ⟨d, 0, none⟩)] w fun e w' => e = .returned (.int .i64 (Rule.pick (sys xs) r xs.length)) ∧ Kept No w w' := by
  have HD : Hid (Dr w d gR bW a c FS FW xs now (fun i => (r i : Int)) nw L ∧ ∀ i, i < xs.length → r i ≤ 1048576) := ⟨h, hb⟩
  have hm := isMade_yes h
  have c0 := h.c0
  have hcap := h.sv.cap
  have hmax := h.sv.max
  clear h hb
  go_enter Tryz.func15, Tryz.ntmps15
  go_wp2_with (go_at_call 27; refine hm.mono ?_; rintro e w1 ⟨rfl, hw1⟩; obtain rfl := hw1.symm; clear hm)
  clear c0
  go_loopw [3, 14] (fun v x wr => ∃ k : Nat, k ≤ xs.length ∧ x = .int .i64 k ∧ v = .int .i64 (Rule.pick (sys xs) r k) ∧ Kept No w wr) (fun _ x _ => xs.length - (intOf x).toNat)
  case atStart => exact ⟨0, Nat.zero_le _, rfl, rfl, Kept.refl No w⟩
  case round =>
    obtain ⟨k, hk, rfl, rfl, hw⟩ := hrel
    have HK : Hid (Kept No w wr) := hw
    clear hw
    have hple := Rule.pick_le (sys xs) r k
    by_cases hlt : k < xs.length
    · have hD := HD.out.1.keep HK.out
      obtain ⟨hok, b, o, rfl, hbb, e0, e1, e2, e3⟩ := hD.sv.gs4 hlt
      have HX : Hid ((gs xs k).q = (sys xs).pr k) := rfl
      clear hD
      generalize hgk : gs xs k = x at *
      obtain ⟨xp, xb, xo, xq⟩ := x
      dsimp only at e0 e1 e2 e3 HX
      have hq6 : I6 xq := hok.2.2.2
      unfold I6 at hq6
      go_upto_region 7 with fail
      have kal : Kept No w (wr.alloc (.cells #[.int .i64 xp, .int .i64 xb, .int .i64 xo, .int .i64 xq] 36)) := HK.out.alloc _
      have b2 := World.alloc_heap_new wr (.cells #[.int .i64 xp, .int .i64 xb, .int .i64 xo, .int .i64 xq] 36)
      have HK2 : Hid (Kept No w (wr.alloc (.cells #[.int .i64 xp, .int .i64 xb, .int .i64 xo, .int .i64 xq] 36))) := kal
      clear kal e0 e1 e2 e3
      generalize wr.alloc (.cells #[.int .i64 xp, .int .i64 xb, .int .i64 xo, .int .i64 xq] 36) = wq at *
      obtain ⟨z0, z1, z2, z3⟩ := cells4r b2
      generalize hz : wr.heap.size = z at *
      clear hz b2 z0 z1 z2
      have hD := HD.out.1.keep HK2.out
      have c0 := hD.c0
      have c3 := hD.c3
      have x1 := hD.ct.at' k hlt
      have x2 := HD.out.2 k hlt
      by_cases h0 : r k = 0
      · have HP : Hid (Rule.pick (sys xs) r (k + 1) = Rule.pick (sys xs) r k) := pick_no0 h0
        generalize r k = R at *
        have hR' : decide (0 < R) = false := decide_eq_false (by omega)
        clear x2 h0 hD z3 hq6
        generalize hpk : Rule.pick (sys xs) r k = pk at *
        go_quiet (fail)
        go_wp2
        go_roundw
        case rel => exact ⟨k + 1, by omega, by go_num, by rw [HP.out], HK2.out.drewN _⟩
        case measure => simp [intOf]; omega
      · have h1 : 0 < r k := by omega
        by_cases hz : Rule.pick (sys xs) r k = 0
        · have HP : Hid (Rule.pick (sys xs) r (k + 1) = k + 1) := pick_yes0 h1 hz
          rw [hz]
          generalize r k = R at *
          clear h0 hz hD z3 hq6 hple
          go_quiet (fail)
          go_wp2
          go_roundw
          case rel => exact ⟨k + 1, by omega, by go_num, by rw [HP.out]; go_num, HK2.out.drewN _⟩
          case measure => simp [intOf]; omega
        · obtain ⟨p, hp⟩ : ∃ p, Rule.pick (sys xs) r k = p + 1 := ⟨Rule.pick (sys xs) r k - 1, by omega⟩
          have hpx : p < xs.length := by omega
          obtain ⟨hokp, b', o', he, _, f0, f1, f2, f3⟩ := hD.sv.gs4 hpx
          simp only [Option.some.injEq, Addr.mk.injEq, and_true] at he
          obtain ⟨rfl, rfl⟩ := he
          have hp6 : I6 (gs xs p).q := hokp.2.2.2
          unfold I6 at hp6
          have HXP : Hid ((gs xs p).q = (sys xs).pr p) := rfl
          clear f0 f1 f2 hD
          generalize (gs xs p).q = qp at *
          by_cases hq : qp < xq
          · have HP : Hid (Rule.pick (sys xs) r (k + 1) = k + 1) := pick_yes1 h1 hp (by rw [← HXP.out, ← HX.out]; exact hq)
            generalize Rule.pick (sys xs) r k = P1 at *
            generalize r k = R at *
            have eI : (P1 : Int) - 1 = (p : Int) := by omega
            have hz' : ((P1 : Int) == 0) = false := beq_eq_false_iff_ne.2 (by omega)
            have hpi : (p : Int) < (xs.length : Int) := by omega
            clear h0 hz hp
            go_quiet (fail)
            go_wp2
            go_roundw
            case rel => exact ⟨k + 1, by omega, by go_num, by rw [HP.out]; go_num, HK2.out.drewN _⟩
            case measure => simp [intOf]; omega
          · have HP : Hid (Rule.pick (sys xs) r (k + 1) = Rule.pick (sys xs) r k) := by rw [hp]; exact pick_no1 hp (by rw [← HXP.out, ← HX.out]; exact hq)
            generalize Rule.pick (sys xs) r k = P1 at *
            generalize r k = R at *
            have eI : (P1 : Int) - 1 = (p : Int) := by omega
            have hz' : ((P1 : Int) == 0) = false := beq_eq_false_iff_ne.2 (by omega)
            have hq' : decide (qp < xq) = false := decide_eq_false hq
            have hpi : (p : Int) < (xs.length : Int) := by omega
            clear h0 hz hp hq
            go_quiet (fail)
            go_wp2
            go_roundw
            case rel => exact ⟨k + 1, by omega, by go_num, by rw [HP.out], HK2.out.drewN _⟩
            case measure => simp [intOf]; omega
    · have hke : k = xs.length := by omega
      subst hke
      go_wp2
      go_ret
      exact ⟨rfl, HK.out⟩
end Go.Proofs.YtffgcijicmfmlaaGreatDoor

namespace Go.Proofs.YtffgcijicmfmlaaGreatDoor
open Go.RowKit Plain
set_option linter.unusedVariables false
set_option maxRecDepth 100000

theorem m_next (b : Nat) (w : World) : (method 321 74 (.pointer (some ⟨b, 0, none⟩)) "Next").run Tryz.prog w = .ok (112, .pointer (some ⟨b, 0, none⟩)) w := by kernel_rfl
theorem m_arm (b : Nat) (w : World) : (method 321 74 (.pointer (some ⟨b, 0, none⟩)) "Arm").run Tryz.prog w = .ok (110, .pointer (some ⟨b, 0, none⟩)) w := by kernel_rfl
theorem m_adv (b : Nat) (w : World) : (method 321 74 (.pointer (some ⟨b, 0, none⟩)) "Advance").run Tryz.prog w = .ok (109, .pointer (some ⟨b, 0, none⟩)) w := by kernel_rfl

/-- the tick of the first timer (none: MaxTick) -/
def hdT (L : List Fi) : Int := (L.head?.map Fi.t).getD 1099511627776
theorem hd_none {L : List Fi} (h : L = []) : hdT L = 1099511627776 := by subst h; rfl
/-- Next's answer -/
theorem next_hd {w : World} {F : Nat → Prop} {b n : Nat} {L : List Fi} (h : Wh w F b n L) : Calls Tryz.prog 112 #[.pointer (some ⟨b, 0, none⟩)] w fun ex w' => (∃ x : Int, ∃ ok : Bool, ex = .returned (.tuple #[.int .i64 x, .bool ok]) ∧ (ok = true → x = hdT L ∧ 0 ≤ x ∧ x < 1099511627776) ∧ (ok = false → hdT L = 1099511627776)) ∧ Kept No w w' := by
  have hok := h.ok
  refine (next_wh h).mono ?_
  rintro ex w' ⟨rfl, hb⟩
  refine ⟨⟨_, _, rfl, ?_, ?_⟩, Kept.of_below hb⟩
  · intro ho
    cases L with
    | nil => cases ho
    | cons y r =>
      have := hok y (List.mem_cons_self)
      unfold Ok at this
      refine ⟨rfl, ?_, ?_⟩
      · show 0 ≤ y.t; omega
      · show y.t < _; omega
  · intro ho
    cases L with
    | nil => rfl
    | cons y r => cases ho
theorem hdT_le {w : World} {F : Nat → Prop} {b n : Nat} {L : List Fi} (h : Wh w F b n L) : 0 ≤ hdT L ∧ hdT L ≤ 1099511627776 := by
  have hok := h.ok
  cases L with
  | nil => exact ⟨by show (0 : Int) ≤ 1099511627776; omega, Int.le_refl _⟩
  | cons y r =>
    have := hok y (List.mem_cons_self)
    unfold Ok at this
    exact ⟨by show 0 ≤ y.t; omega, by show y.t ≤ _; omega⟩

set_option maxHeartbeats 1000000 in
theorem changeOf_none {w : World} {d gR bW : Nat} {a : Option Addr} {c : Nat} {FS FW : Nat → Prop} {xs : List Srv} {now : Nat} {r : Nat → Int} {nw : Nat} {L : List Fi} (h : Dr w d gR bW a c FS FW xs now r nw L) :
    Calls Tryz.prog 31 #[.pointer (some ⟨d, 0, none⟩), .int .i64 0] w fun e w' => e = .returned (.int .i64 (hdT L)) ∧ Kept No w w' := by
  have c4 := h.c4
  unfold wif at c4
  have hx := next_hd h.wh
  have hm := fun w => m_next bW w
  clear h
  go_enter Tryz.func31, Tryz.ntmps31
  go_upto_region 3 with (go_at_call 112; refine hx.mono ?_; rintro e w1 ⟨⟨x, ok, rfl, hx1, hx2⟩, hk1⟩; have HK1 : Hid (Kept No w w1) := hk1; clear hk1 hx)
  cases ok with
  | false =>
    have HE : Hid (hdT L = 1099511627776) := hx2 rfl
    clear hx1 hx2
    go_wp2
    go_ret
    exact ⟨by rw [HE.out]; rfl, HK1.out⟩
  | true =>
    obtain ⟨e1, e2, e3⟩ := hx1 rfl
    have HE : Hid (x = hdT L) := e1
    have em : min (1099511627776 : Int) x = x := by omega
    clear hx1 hx2 e1
    go_wp2
    go_ret
    exact ⟨by rw [← HE.out]; first | rfl | (simp [em]), HK1.out⟩

set_option maxHeartbeats 2000000 in
theorem changeOf_some {w : World} {d gR bW : Nat} {a : Option Addr} {c : Nat} {FS FW : Nat → Prop} {xs : List Srv} {now : Nat} {r : Nat → Int} {nw : Nat} {L : List Fi} (h : Dr w d gR bW a c FS FW xs now r nw L) (j : Nat) (hj : j < xs.length) (hn : xs.length ≤ 32) (hr : 0 ≤ r j ∧ r j ≤ 1048576) (hnow : now < 1099511627776) :
    Calls Tryz.prog 31 #[.pointer (some ⟨d, 0, none⟩), .int .i64 ((j : Int) + 1)] w fun e w' => e = .returned (.int .i64 (min (hdT L) ((now : Int) + r j))) ∧ Kept No w w' := by
  have c4 := h.c4
  unfold wif at c4
  have hx := next_hd h.wh
  have hm := fun w => m_next bW w
  have HD : Hid (Dr w d gR bW a c FS FW xs now r nw L) := h
  clear h
  have eI : ((j : Int) + 1) - 1 = (j : Int) := by omega
  go_enter Tryz.func31, Tryz.ntmps31
  go_upto_region 3 with (go_at_call 112; refine hx.mono ?_; rintro e w1 ⟨⟨x, ok, rfl, hx1, hx2⟩, hk1⟩; have HK1 : Hid (Kept No w w1) := hk1; clear hk1 hx)
  have hD := HD.out.keep HK1.out
  have c2 := hD.c2
  have c3 := hD.c3
  have x1 := hD.ct.at' j hj
  clear hD c4 hm
  obtain ⟨R, hR⟩ : ∃ R, r j = R := ⟨_, rfl⟩
  rw [hR] at x1 hr
  have HR : Hid (r j = R) := hR
  clear hR
  have eS : wrap64 ((now : Int) + R) = (now : Int) + R := by unfold wrap64; omega
  cases ok with
  | false =>
    have HE : Hid (hdT L = 1099511627776) := hx2 rfl
    clear hx1 hx2
    go_upto_region 6 with fail
    go_region
    all_goals go_wp2
    all_goals go_ret
    all_goals exact ⟨by rw [HE.out, HR.out]; first | rfl | simp, HK1.out.drew⟩
  | true =>
    obtain ⟨e1, e2, e3⟩ := hx1 rfl
    have HE : Hid (x = hdT L) := e1
    have em : min (1099511627776 : Int) x = x := by omega
    clear hx1 hx2 e1
    go_upto_region 6 with fail
    go_region
    all_goals go_wp2
    all_goals go_ret
    all_goals exact ⟨by rw [← HE.out, HR.out]; first | rfl | simp [em], HK1.out.drew⟩
end Go.Proofs.YtffgcijicmfmlaaGreatDoor

namespace Go.Proofs.YtffgcijicmfmlaaGreatDoor
open Go.RowKit Plain
set_option linter.unusedVariables false
set_option maxRecDepth 100000

section
variable {w w' : World} {d gR bW : Nat} {a : Option Addr} {c : Nat} {FS FW FW' : Nat → Prop} {xs : List Srv} {now : Nat} {r : Nat → Int} {nw nw' : Nat} {L L' : List Fi}
theorem Dr.setNow (h : Dr w d gR bW a c FS FW xs now r nw L) (tg : Nat) : Dr (w.setCell ⟨d, 2, none⟩ (.int .i64 tg)) d gR bW a c FS FW xs tg r nw L := by
  obtain ⟨p1, p2, p3, p4, p5, p6⟩ := h.ap
  have k : Kept (fun j => j = d) w (w.setCell ⟨d, 2, none⟩ (.int .i64 tg)) := Kept.setCell (Kept.refl (fun j => j = d) w) (p := ⟨d, 2, none⟩) (Or.inl rfl) _
  refine ⟨?_, ?_, ?_, ?_, ?_, fun i => by rw [World.frozen?_setCell]; exact h.fz i, h.sv.kept k (fun b hb e => p2 (by rw [← e]; exact hb)), h.ct.over k (fun e => p1 e.symm), h.wh.kept k (fun b hb e => p3 (by rw [← e]; exact hb)), fun k' hk' => Nat.lt_of_lt_of_le (h.sl k' hk') k.size, h.ap⟩
  · rw [cell_set h.c0, if_neg (by omega)]
  · rw [cell_set h.c1, if_neg (by omega)]
  · rw [cell_set h.c2, if_pos rfl]
  · rw [cell_set h.c3, if_neg (by omega)]
  · rw [cell_set h.c4, if_neg (by omega)]
theorem Dr.setRest (h : Dr w d gR bW a c FS FW xs now r nw L) (i : Nat) (x : Int) : Dr (w.setCell ⟨gR, i, none⟩ (.int .i64 x)) d gR bW a c FS FW xs now (fun j => if j = i then x else r j) nw L := by
  obtain ⟨p1, p2, p3, p4, p5, p6⟩ := h.ap
  have k : Kept (fun j => j = gR) w (w.setCell ⟨gR, i, none⟩ (.int .i64 x)) := Kept.setCell (Kept.refl (fun j => j = gR) w) (p := ⟨gR, i, none⟩) (Or.inl rfl) _
  have hd : ¬ (fun j => j = gR) d := fun e => p1 e
  exact ⟨k.cell h.c0 hd, k.cell h.c1 hd, k.cell h.c2 hd, k.cell h.c3 hd, k.cell h.c4 hd, fun j => by rw [World.frozen?_setCell]; exact h.fz j, h.sv.kept k (fun b hb e => p4 (by rw [← e]; exact hb)), h.ct.put i x, h.wh.kept k (fun b hb e => p5 (by rw [← e]; exact hb)), fun k' hk' => Nat.lt_of_lt_of_le (h.sl k' hk') k.size, h.ap⟩
theorem Dr.turn (h : Dr w d gR bW a c FS FW xs now r nw L) (hk : Kept FW w w') (hw : Wh w' FW' bW nw' L') (hF : ∀ k, FW' k → FW k ∨ w.heap.size ≤ k) : Dr w' d gR bW a c FS FW' xs now r nw' L' := by
  obtain ⟨p1, p2, p3, p4, p5, p6⟩ := h.ap
  have hd : d < w.heap.size := cell_lt h.c0
  have hg := h.ct.lt
  refine ⟨hk.cell h.c0 p3, hk.cell h.c1 p3, hk.cell h.c2 p3, hk.cell h.c3 p3, hk.cell h.c4 p3, fun i => ?_, h.sv.kept hk p6, h.ct.over hk p5, hw, fun k hk' => Nat.lt_of_lt_of_le (h.sl k hk') hk.size, p1, p2, fun e => ?_, p4, fun e => ?_, fun k h1 h2 => ?_⟩
  · have e := hk.block d hd p3
    have := h.fz i
    simp only [World.frozen?] at this ⊢
    rw [e]; exact this
  · rcases hF d e with h1 | h1
    · exact p3 h1
    · omega
  · rcases hF gR e with h1 | h1
    · exact p5 h1
    · omega
  · rcases hF k h2 with h3 | h3
    · exact p6 k h1 h3
    · have := h.sl k h1; omega
theorem Dr.rests (h : Dr w d gR bW a c FS FW xs now r nw L) {r' : Nat → Int} (he : ∀ i, i < xs.length → r i = r' i) : Dr w d gR bW a c FS FW xs now r' nw L :=
  ⟨h.c0, h.c1, h.c2, h.c3, h.c4, h.fz, h.sv, h.ct.like he, h.wh, h.sl, h.ap⟩
end
theorem Wh.len {w : World} {F : Nat → Prop} {b n : Nat} {L : List Fi} (h : Wh w F b n L) : L.length ≤ 65536 := by
  obtain ⟨hn, mb, c, M, S, V, h1, h2, h3, h4⟩ := h
  have := (h3.bound h2).2
  rw [h3.cnt] at this
  exact this

/-- timers of servers, each at its own tick -/
def Mm (n : Nat) (f : Nat → Nat) (L : List Fi) : Prop := ∀ x, x ∈ L ↔ ∃ i : Nat, i < n ∧ x = ⟨(f i : Int), (i : Int)⟩ ∧ f i < 1099511627776
/-- armed anew, k of those that ran out -/
def Mk (s : Rule.Sys) (tg : Nat) (T L1 : List Fi) (k : Nat) (L : List Fi) : Prop := ∀ x, x ∈ L ↔ x ∈ L1 ∨ ∃ j y, j < k ∧ T[j]? = some y ∧ x = ⟨(Rule.nx s tg y.i.toNat : Int), y.i⟩ ∧ Rule.nx s tg y.i.toNat < 1099511627776
theorem Mk.start (s : Rule.Sys) (tg : Nat) (T L1 : List Fi) : Mk s tg T L1 0 L1 := fun x => ⟨.inl, fun h => by
  rcases h with h | ⟨j, y, hj, _⟩
  · exact h
  · omega⟩
theorem Mk.done {s : Rule.Sys} (hs : Rule.Ok s) {tg : Nat} (hto : tg < 1099511627776) {f : Nat → Nat} {T L1 L' : List Fi} (hm : Mm s.n f (T ++ L1)) (hT : ∀ x, x ∈ T → x.t ≤ tg) (hL : ∀ x, x ∈ L1 → (tg : Int) < x.t) (hf : ∀ i, i < s.n → tg < f i → f i = Rule.nx s tg i) (h : Mk s tg T L1 T.length L') : Mm s.n (Rule.nx s tg) L' := by
  intro x
  rw [h x]
  constructor
  · rintro (h1 | ⟨j, y, hj, hy, rfl, hlt⟩)
    · obtain ⟨i, hi, rfl, h3⟩ := (hm x).1 (List.mem_append_right _ h1)
      have h4 := hL _ h1
      have h5 := hf i hi (by simpa using h4)
      exact ⟨i, hi, by rw [h5], by omega⟩
    · obtain ⟨i, hi, e, h3⟩ := (hm y).1 (List.mem_append_left _ (List.mem_of_getElem? hy))
      subst e
      exact ⟨i, hi, rfl, hlt⟩
  · rintro ⟨i, hi, rfl, h3⟩
    by_cases hlt : tg < f i
    · have h5 := hf i hi hlt
      have h6 : (⟨(f i : Int), (i : Int)⟩ : Fi) ∈ T ++ L1 := (hm _).2 ⟨i, hi, rfl, by omega⟩
      rcases List.mem_append.1 h6 with h7 | h7
      · have := hT _ h7
        simp at this
        omega
      · exact .inl (by rw [← h5]; exact h7)
    · have h6 : (⟨(f i : Int), (i : Int)⟩ : Fi) ∈ T ++ L1 := (hm _).2 ⟨i, hi, rfl, by omega⟩
      rcases List.mem_append.1 h6 with h7 | h7
      · obtain ⟨j, hj, e⟩ := List.getElem_of_mem h7
        exact .inr ⟨j, ⟨(f i : Int), (i : Int)⟩, hj, by rw [List.getElem?_eq_getElem hj, e], rfl, h3⟩
      · have := hL _ h7
        simp at this
        omega
/-- whoever is armed next is not there -/
theorem Mk.fresh {s : Rule.Sys} {tg : Nat} {T L1 Lk : List Fi} {k : Nat} (h : Mk s tg T L1 k Lk) (hu : ∀ x y, x ∈ T ++ L1 → y ∈ T ++ L1 → x.i = y.i → x = y) (hs : (T ++ L1).Pairwise lt2) (hT : ∀ x, x ∈ T → x.t ≤ tg) (hL : ∀ x, x ∈ L1 → (tg : Int) < x.t) {y : Fi} (hy : T[k]? = some y) : ∀ x, x ∈ Lk → x.i ≠ y.i := by
  intro x hx e
  have hyT := List.mem_of_getElem? hy
  rcases (h x).1 hx with h1 | ⟨j, z, hj, hz, rfl, _⟩
  · have := hu x y (List.mem_append_right _ h1) (List.mem_append_left _ hyT) e
    subst this
    have := hT _ hyT
    have := hL _ h1
    omega
  · have hzT := List.mem_of_getElem? hz
    have := hu z y (List.mem_append_left _ hzT) (List.mem_append_left _ hyT) e
    subst this
    have hk : k < T.length := (List.getElem?_eq_some_iff.1 hy).1
    have h2 := (List.pairwise_append.1 hs).1
    have h3 := (List.pairwise_iff_getElem.1 h2) j k (by omega) hk hj
    rw [List.getElem?_eq_getElem (by omega)] at hz hy
    injection hz with hz
    injection hy with hy
    rw [hz, hy] at h3
    unfold lt2 at h3
    omega
theorem Mk.yes {s : Rule.Sys} {tg : Nat} {T L1 Lk : List Fi} {k : Nat} (h : Mk s tg T L1 k Lk) {y : Fi} (hy : T[k]? = some y) (hf : ∀ x, x ∈ Lk → x.i ≠ y.i) (hlt : Rule.nx s tg y.i.toNat < 1099511627776) : Mk s tg T L1 (k + 1) (ins ⟨(Rule.nx s tg y.i.toNat : Int), y.i⟩ (rem y.i Lk)) := by
  intro x
  rw [mem_ins, mem_rem, h x]
  constructor
  · rintro (h1 | ⟨h1, _⟩)
    · exact .inr ⟨k, y, by omega, hy, h1, hlt⟩
    · rcases h1 with h1 | ⟨j, z, hj, r⟩
      · exact .inl h1
      · exact .inr ⟨j, z, by omega, r⟩
  · rintro (h1 | ⟨j, z, hj, hz, e, hl⟩)
    · exact .inr ⟨.inl h1, hf x ((h x).2 (.inl h1))⟩
    · by_cases ej : j = k
      · subst ej
        rw [hy] at hz
        injection hz with hz
        subst hz
        exact .inl e
      · have : x ∈ Lk := (h x).2 (.inr ⟨j, z, by omega, hz, e, hl⟩)
        exact .inr ⟨.inr ⟨j, z, by omega, hz, e, hl⟩, hf x this⟩
theorem Mk.no {s : Rule.Sys} {tg : Nat} {T L1 Lk : List Fi} {k : Nat} (h : Mk s tg T L1 k Lk) {y : Fi} (hy : T[k]? = some y) (hlt : ¬ Rule.nx s tg y.i.toNat < 1099511627776) : Mk s tg T L1 (k + 1) Lk := by
  intro x
  rw [h x]
  constructor
  · rintro (h1 | ⟨j, z, hj, r⟩)
    · exact .inl h1
    · exact .inr ⟨j, z, by omega, r⟩
  · rintro (h1 | ⟨j, z, hj, hz, e, hl⟩)
    · exact .inl h1
    · by_cases ej : j = k
      · subst ej
        rw [hy] at hz
        injection hz with hz
        subst hz
        exact (hlt hl).elim
      · exact .inr ⟨j, z, by omega, hz, e, hl⟩
end Go.Proofs.YtffgcijicmfmlaaGreatDoor
