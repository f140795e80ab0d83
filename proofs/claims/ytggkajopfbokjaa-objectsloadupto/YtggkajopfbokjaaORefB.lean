/-
  The document's buffer: may a buffer hold these?
-/
import Derived.Test.YtggkajopfbokjaaOOwn
import Derived.Test.YtggkajopfbokjaaOFlowC
namespace Go.Proofs.Ytggkajopfbokjaa
open Go.RowKit
set_option linter.unusedVariables false
set_option maxRecDepth 100000

set_option maxHeartbeats 4000000 in
theorem buffer_any {F : Nat → Prop} {a : Option Addr} {c : Nat} {ms : List Value} {xs : List (List Int)} (sz dp : Int) (w : World) (hv : Vs w F a ms.length c ms) (hl : xs.length = ms.length) (hm : ∀ (j : Nat) (v : Value) (x : List Int), ms[j]? = some v → xs[j]? = some x → ∃ a c, v = .slice a x.length c ∧ Zs w F a x.length c x) (hn : ms.length ≤ 1099511627775) :
    Calls Try.prog 37 #[.agg #[.int .i64 sz, .int .i64 dp], .slice a ms.length c] w fun e w' => (okB xs sz dp ∧ e = .returned (.bool true) ∧ Kept No w w') ∨ (¬ okB xs sz dp ∧ e = .returned (.bool false) ∧ Kept No w w') := by
  have hc := hv.cap
  have hmx := hv.max
  have HV : Hid (Vs w F a ms.length c ms ∧ xs.length = ms.length ∧ ∀ (j : Nat) (v : Value) (x : List Int), ms[j]? = some v → xs[j]? = some x → ∃ a c, v = .slice a x.length c ∧ Zs w F a x.length c x) := ⟨hv, hl, hm⟩
  have B1 : Hid (Kept No w (w.alloc (.cells #[.int .i64 sz, .int .i64 dp] 27)) ∧ (w.alloc (.cells #[.int .i64 sz, .int .i64 dp] 27)).heap[w.heap.size]? = some (.cells #[.int .i64 sz, .int .i64 dp] 27)) := ⟨(Kept.refl No w).alloc _, alloc_new w _⟩
  have c1 : (w.alloc (.cells #[.int .i64 sz, .int .i64 dp] 27)).cell? ⟨w.heap.size, 1, none⟩ = some (.int .i64 dp) := (cell_blk B1.out.2 1).trans rfl
  clear hv hl hm
  go_enter Try.func37, Try.ntmps37
  go_upto_region 1 with fail
  generalize (w.alloc (.cells #[.int .i64 sz, .int .i64 dp] 27)) = w1 at *
  by_cases hbad : 0 < ms.length ∧ dp < (ms.length : Int)
  · have h0 : (0 : Int) < (ms.length : Int) := by omega
    have h1 : dp < (ms.length : Int) := hbad.2
    go_wp2
    go_ret
    refine .inr ⟨fun h => ?_, rfl, B1.out.1⟩
    have := (h (ms.length - 1) (by rw [HV.out.2.1]; omega)).1
    omega
  · have HB := hid hbad
    have HC : Hid (ms.length = 0 ∨ (ms.length : Int) ≤ dp) := (show ms.length = 0 ∨ (ms.length : Int) ≤ dp by omega)
    go_cut [15] (fun u wx => u = .bool false ∧ wx = w1)
    case first =>
      by_cases h0 : ms.length = 0
      · have h0' : ¬ (0 : Int) < (ms.length : Int) := by omega
        clear h0 hbad
        go_wp2
        go_meet
        case rel => exact ⟨rfl, rfl⟩
      · have h0' : (0 : Int) < (ms.length : Int) := by omega
        have h1 : ¬ dp < (ms.length : Int) := by omega
        clear h0 hbad
        go_wp2
        go_meet
        case rel => exact ⟨rfl, rfl⟩
    case rest =>
      obtain ⟨rfl, hwc⟩ := hcut
      obtain rfl := hwc.symm
      clear c1 hbad
      go_upto_region 4 with fail
      go_loopw [5] (fun x wr => ∃ (k : Nat), k ≤ ms.length ∧ x = .int .i64 k ∧ Kept No w1 wr ∧ ∀ j, j < k → ((xs.getD j []).length : Int) = sz) (fun x _ => ms.length - (intOf x).toNat)
      case atStart => exact ⟨0, Nat.zero_le _, rfl, Kept.refl No _, fun j hj => by omega⟩
      case round =>
        obtain ⟨k, hk, rfl, kk, hok⟩ := hrel
        have HK : Hid (Kept No w1 wr ∧ ∀ j, j < k → ((xs.getD j []).length : Int) = sz) := ⟨kk, hok⟩
        have kw := B1.out.1.trans kk (fun _ e => e.elim)
        have c0 : wr.cell? ⟨w.heap.size, 0, none⟩ = some (.int .i64 sz) := (cell_blk (kk.at' B1.out.2 (fun e => e)) 0).trans rfl
        clear kk hok
        by_cases hlt : k < ms.length
        · have hltz : (k : Int) < (ms.length : Int) := by omega
          have hkx : k < xs.length := by rw [HV.out.2.1]; exact hlt
          have g1 : ms[k]? = some ms[k] := List.getElem?_eq_getElem hlt
          have g2 : xs[k]? = some xs[k] := List.getElem?_eq_getElem hkx
          have g4 : xs.getD k [] = xs[k] := by simp [List.getD, hkx]
          obtain ⟨xa, xc, hv, hz⟩ := HV.out.2.2 k _ _ g1 g2
          obtain ⟨b1, o1, rfl, _, e0⟩ := (HV.out.1.kept kw (fun _ _ e => e)).at' k _ g1
          rw [hv] at e0
          generalize xs[k] = x at *
          have HG := hid g4
          have KW := hid kw
          clear g1 g2 g4 hv hz kw
          by_cases hs : (x.length : Int) = sz
          · have hsb : ((x.length : Int) != sz) = false := by simp [hs]
            go_upto_region 6 with fail
            go_region
            go_wp2
            go_roundw
            case rel =>
              refine ⟨k + 1, by omega, by go_num, HK.out.1.drew, fun j hj => ?_⟩
              by_cases hjk : j < k
              · exact HK.out.2 j hjk
              · have : j = k := by omega
                subst this
                rw [HG.out]
                exact hs
            case measure => simp [intOf]; omega
          · have hsb : ((x.length : Int) != sz) = true := by simp [hs]
            go_upto_region 6 with fail
            go_region
            go_wp2
            go_ret
            refine .inr ⟨fun h => ?_, rfl, KW.out.drew⟩
            have h3 := (h k hkx).2
            rw [HG.out] at h3
            exact absurd h3 hs
        · have hltz : ¬ (k : Int) < (ms.length : Int) := by omega
          have KW := hid kw
          clear kw
          go_wp2
          go_ret
          refine .inl ⟨fun j hj => ?_, rfl, KW.out⟩
          rw [HV.out.2.1] at hj
          have h5 := HC.out
          exact ⟨by omega, HK.out.2 j (by omega)⟩
end Go.Proofs.Ytggkajopfbokjaa
