/-
  The walk of NumTicks.
-/
import Derived.Test.YtpkifhbjlpkcnaaTickCalls
import Derived.Deep.DeepCutAuto
namespace Go.Proofs.Ytpkifhbjlpkcnaa
open Go.RowKit Plain
set_option linter.unusedVariables false

set_option maxRecDepth 100000 in
set_option maxHeartbeats 1000000 in
theorem numTicks_no (o p f m b : Int) (w : World) (ho : I64 o) (hp : I64 p) (hf : I64 f) (hm : I64 m) (hb : I64 b) (h1 : 0 ≤ o) (h2 : 1 ≤ p) (hk : nextB o p f = false) :
    Calls Try.prog 5 #[.int .i64 o, .int .i64 p, .int .i64 f, .int .i64 m, .int .i64 b] w fun e w' => e = .returned (.bool true) ∧ w' = w := by
  have n4 : countB o p = true := if_neg (by omega)
  have ho2 := ho.2
  have hp2 := hp.2
  have hf1 := hf.1
  have hf2 := hf.2
  have hb1 := hb.1
  have hb2 := hb.2
  obtain ⟨ca1, ca2⟩ := count_bd o p f m h1 h2 hm.2
  obtain ⟨cb1, cb2⟩ := count_bd o p m b h1 h2 hb.2
  obtain ⟨cc1, cc2⟩ := count_bd o p f b h1 h2 hb.2
  obtain ⟨a1, a2⟩ := next_no o p f h1 h2 hk
  have CS : Hid (f ≤ m → m ≤ b → countV o p f m + countV o p m b = countV o p f b) := count_sum o p f m b h1 h2
  have C1 : Hid (countV o p f (f + 1) = if o ≤ f ∧ (f - o) % p = 0 then 1 else 0) := count_one o p f h1 h2
  have CZ : Hid (b ≤ f → countV o p f b ≤ 0) := fun h => by rw [count_zero o p f b h]; omega
  go_enter Try.func5, Try.ntmps5
  go_upto_region 5 with (go_at_call 12; refine (next_any _ _ _ _ ?_ ?_ ?_).mono ?_; all_goals first | assumption | (rintro e w' ⟨rfl, hw⟩; obtain rfl := hw.symm))
  go_cut [92] (fun s wx => s = .bool false ∧ wx = w)
  case first =>
    go_wp2
    go_meet
    case rel => exact ⟨congrArg Value.bool (by first | rfl | (simp; omega)), rfl⟩
  case rest =>
    obtain ⟨rfl, hw⟩ := hcut
    obtain rfl := hw.symm
    go_upto_region 12 with (go_at_call 13; refine (count_any _ _ _ _ _ ?_ ?_).mono ?_; all_goals first | assumption | (rintro e w' ⟨rfl, hw⟩; obtain rfl := hw.symm))
    go_cut [163] (fun s wx => s = .bool false ∧ wx = w)
    case first =>
      by_cases hA : f ≤ m
      · by_cases hB : m ≤ b
        · have hs := CS.out hA hB
          go_wp2
          go_meet
          case rel => exact ⟨congrArg Value.bool (by first | rfl | (simp; omega)), rfl⟩
        · go_wp2
          go_meet
          case rel => exact ⟨congrArg Value.bool (by first | rfl | (simp; omega)), rfl⟩
      · go_wp2
        go_meet
        case rel => exact ⟨congrArg Value.bool (by first | rfl | (simp; omega)), rfl⟩
    case rest =>
      obtain ⟨rfl, hw⟩ := hcut
      obtain rfl := hw.symm
      by_cases hz : b ≤ f
      · have z := CZ.out hz
        go_wp2
        all_goals (go_ret; exact ⟨congrArg (fun x => Ending.returned (Value.bool x)) (by first | rfl | (simp; omega)), rfl⟩)
      have hz' : f < b := by omega
      clear hz
      go_upto_region 16 with fail
      go_cut [190] (fun s wx => s = .bool false ∧ wx = w)
      case first =>
        go_wp2
        go_meet
        case rel => exact ⟨congrArg Value.bool (by first | rfl | (simp; omega)), rfl⟩
      case rest =>
        obtain ⟨rfl, hw⟩ := hcut
        obtain rfl := hw.symm
        by_cases hd : b = f + 1
        · subst hd
          by_cases hf0 : f < 0
          · go_wp2
            all_goals (go_ret; exact ⟨congrArg (fun x => Ending.returned (Value.bool x)) (by first | rfl | (simp; omega)), rfl⟩)
          · have c := C1.out
            by_cases hx : o ≤ f
            · by_cases hy : (f - o) % p = 0
              · rw [if_pos ⟨hx, hy⟩] at c
                go_wp2
                all_goals (go_ret; exact ⟨congrArg (fun x => Ending.returned (Value.bool x)) (by first | rfl | (simp; omega)), rfl⟩)
              · rw [if_neg (fun h => hy h.2)] at c
                have hy' : ((f - o) % p == 0) = false := by simpa using hy
                go_wp2
                all_goals (go_ret; exact ⟨congrArg (fun x => Ending.returned (Value.bool x)) (by first | rfl | (simp; omega)), rfl⟩)
            · rw [if_neg (fun h => hx h.1)] at c
              go_wp2
              all_goals (go_ret; exact ⟨congrArg (fun x => Ending.returned (Value.bool x)) (by first | rfl | (simp; omega)), rfl⟩)
        · have hw : (wrap64 (b - f) != 1) = true := by
            simp only [bne_iff_ne]; unfold wrap64; omega
          by_cases hl : b - f ≤ 9223372036854775807
          · go_wp2
            all_goals (go_ret; exact ⟨congrArg (fun x => Ending.returned (Value.bool x)) (by first | rfl | (simp; omega)), rfl⟩)
          · go_wp2
            all_goals (go_ret; exact ⟨congrArg (fun x => Ending.returned (Value.bool x)) (by first | rfl | (simp; omega)), rfl⟩)


end Go.Proofs.Ytpkifhbjlpkcnaa
