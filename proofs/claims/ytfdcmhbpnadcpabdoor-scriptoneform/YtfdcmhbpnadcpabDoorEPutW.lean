/-
  codec.PutList of words.
-/
import Derived.Test.YtfdcmhbpnadcpabDoorEPl
import Derived.Test.YtfdcmhbpnadcpabDoorIDat
namespace Go.Proofs.YtfdcmhbpnadcpabDoor
open Go.RowKit
set_option linter.unusedVariables false
set_option linter.unusedSimpArgs false
set_option maxRecDepth 100000

theorem WrDid.trans {F : Nat → Prop} {p : Nat} {bs : List Nat} {e : Int} {w w1 w2 : World} (F1 : Nat → Prop) (h1 : Went F w w1 F1) (h : WrDid F1 p bs e w1 w2) : WrDid F p bs e w w2 := by
  obtain ⟨F2, hw, hwe⟩ := h
  exact ⟨F2, hw, h1.trans hwe⟩
theorem num_fit4 (bs : List Nat) (n : Nat) (h : n < 4294967296) : numBs bs 0 (n : Int) 4 = bs ++ be n 4 ∧ numE 0 (n : Int) 4 = 0 := by
  unfold numBs numE
  have h2 : ¬ ((n : Int) < 0 ∨ (2 : Int) ^ (8 * 4) ≤ (n : Int)) := by simp; omega
  rw [if_neg (by simp), if_neg h2, if_neg (by simp), if_neg h2, Int.toNat_natCast]
  exact ⟨rfl, rfl⟩
set_option maxHeartbeats 1000000 in
theorem gate_putW (q0 q1 q2 q3 : Value) (p : Nat) (w : World) (R : World → Prop) (e1 : Int) (c1 : w.cell? ⟨p, 1, none⟩ = some (.int .i64 0))
    (hdo : Calls Tryd.prog 56 #[q0, q1, q2, q3] w fun ex w1 => ex = .returned (.int .i64 e1) ∧ R w1) (hR : ∀ w1, R w1 → (∃ u, w1.cell? ⟨p, 1, none⟩ = some (.int .i64 u)) ∧ w1.frozen? ⟨p, 1, none⟩ = false) :
    Calls Tryd.prog 35 #[.pointer (some ⟨p, 0, none⟩), .func (.func 56) #[] #[q0, q1, q2, q3]] w fun ex w' => ex = .returned (.tuple #[]) ∧ ∃ w1, R w1 ∧ w' = w1.setCell ⟨p, 1, none⟩ (.int .i64 e1) := by
  have HR : Hid (∀ w1, R w1 → (∃ u, w1.cell? ⟨p, 1, none⟩ = some (.int .i64 u)) ∧ w1.frozen? ⟨p, 1, none⟩ = false) := hR
  clear hR
  go_enter Tryd.func35, Tryd.ntmps35
  go_wp2_with (go_at_call 56; refine hdo.mono ?_; rintro ex w1 ⟨rfl, hr⟩; obtain ⟨⟨u, c11⟩, f11⟩ := HR.out w1 hr)
  go_end0
  exact ⟨rfl, w1, hr, rfl⟩
set_option maxHeartbeats 4000000 in
theorem putList1_W (F G : Nat → Prop) (p : Nat) (bs : List Nat) (a : Option Addr) (n c : Nat) (xs : List Int) (most : Int) (w : World) (b1 b2 b3 b4 : Nat) (h : Wr w F p bs 0) (hZ : Zs w G a n c xs) (hGF : ∀ k, G k → ¬ F k ∧ k < w.heap.size) (hm0 : most ≤ 524288) (hsz : bs.length ≤ 100000000)
    (hn1 : ¬ F b1) (hn3 : ¬ F b3) (hn4 : ¬ F b4)
    (d1 : w.cell? ⟨b1, 0, none⟩ = some (.slice a n c)) (d2 : w.cell? ⟨b2, 0, none⟩ = some (.int .i64 most)) (d3 : w.cell? ⟨b3, 0, none⟩ = some (.pointer (some ⟨p, 0, none⟩))) (d4 : w.cell? ⟨b4, 0, none⟩ = some (.func (.func 38) #[] #[])) :
    Calls Tryd.prog 56 #[.pointer (some ⟨b1, 0, none⟩), .pointer (some ⟨b2, 0, none⟩), .pointer (some ⟨b3, 0, none⟩), .pointer (some ⟨b4, 0, none⟩)] w fun ex w' => ex = .returned (.int .i64 (pwE xs most)) ∧ ∃ e1, WrDid F p (pwB bs xs most) e1 w w' := by
  have hl := hZ.len
  have hcp := hZ.cap
  have hcm := hZ.max
  have HZ := hid (And.intro hZ (And.intro hGF h))
  clear hZ hGF h
  by_cases hm : most < (n : Int)
  · have e1 : pwE xs most = 1 := by unfold pwE; rw [if_pos (by rw [hl]; exact hm)]
    have e2 : pwB bs xs most = bs := by unfold pwB; rw [if_pos (by rw [hl]; exact hm)]
    rw [e1, e2]
    clear e1 e2
    go_enter Tryd.func56, Tryd.ntmps56
    go_wp2
    go_ret
    exact ⟨rfl, 0, WrDid.still HZ.out.2.2 (Kept.refl _ _)⟩
  · have e1 : pwE xs most = 0 := by unfold pwE; rw [if_neg (by rw [hl]; exact hm)]
    have e2 : pwB bs xs most = bs ++ be n 4 ++ wdB xs := by unfold pwB; rw [if_neg (by rw [hl]; exact hm), hl]
    rw [e1, e2]
    have cU := u32_any F p bs 0 n w HZ.out.2.2 (by omega) (by omega)
    rw [(num_fit4 bs n (by omega)).1, (num_fit4 bs n (by omega)).2] at cU
    clear e1 e2
    go_enter Tryd.func56, Tryd.ntmps56
    go_upto_region 4 with (go_at_call 37; refine cU.mono ?_; rintro ex w1 ⟨rfl, hd⟩)
    obtain ⟨F1, hw1, hk1, hf1⟩ := hd
    have D1 : w1.cell? ⟨b1, 0, none⟩ = some (.slice a n c) := hk1.cell d1 hn1
    have HW1 := hid (And.intro hw1 (show Went F w w1 F1 from ⟨hk1, hf1⟩))
    clear hw1 hk1 hf1 cU
    go_wp2
    go_loopw [17] (fun i wr => ∃ k : Nat, k ≤ n ∧ i = .int .i64 k ∧ ∃ F', Wr wr F' p (bs ++ be n 4 ++ wdB (xs.take k)) 0 ∧ Went F w wr F') (fun i _ => n - (intOf i).toNat)
    case atStart => exact ⟨0, by omega, rfl, F1, by rw [List.take_zero, wdB_nil, List.append_nil]; exact HW1.out.1, HW1.out.2⟩
    case round =>
      obtain ⟨k, hk, rfl, F', hwr, hwent⟩ := hrel
      clear HW1 D1
      have hlen : (bs ++ be n 4 ++ wdB (xs.take k)).length ≤ 200000000 := by
        rw [List.length_append, List.length_append, be_length, wdB_len, List.length_take]; omega
      have d3' : wr.cell? ⟨b3, 0, none⟩ = some (.pointer (some ⟨p, 0, none⟩)) := hwent.1.cell d3 hn3
      have d4' : wr.cell? ⟨b4, 0, none⟩ = some (.func (.func 38) #[] #[]) := hwent.1.cell d4 hn4
      have hfc := hwr.c1
      by_cases hlt : k < n
      · obtain ⟨x, hx⟩ : ∃ x, xs[k]? = some x := ⟨_, List.getElem?_eq_getElem (by omega)⟩
        obtain ⟨b, o, rfl, hGb, hc⟩ := HZ.out.1.at' k hlt
        have r0 : wr.cell? ⟨b, o + k, none⟩ = some (.int .i64 x) := by
          have h1 := hwent.1.cell hc (HZ.out.2.1 b hGb).1
          rw [show xs.getD k 0 = x by rw [List.getD_eq_getElem?_getD, hx]; rfl] at h1
          exact h1
        have hst : xs.take (k + 1) = xs.take k ++ [x] := by rw [List.take_add_one, hx]; rfl
        have cI := i64_any F' p _ 0 x wr hwr (by omega)
        have HWN := hid (And.intro hwent hst)
        clear hwent hst hc hx hwr
        go_wp2_with (go_at_call 38; refine cI.mono ?_; rintro ex w3 ⟨rfl, hd2⟩)
        obtain ⟨F2, hw2, hwe2⟩ := hd2
        refine ⟨⟨k + 1, by omega, by go_num, F2, ?_, HWN.out.1.trans hwe2⟩, ?_⟩
        · rw [HWN.out.2, wdB_snoc, ← List.append_assoc]
          unfold layBs at hw2
          rw [if_neg (by simp)] at hw2
          exact hw2
        · simp [intOf]; omega
      · obtain rfl : k = n := by omega
        rw [List.take_of_length_le (by omega)] at hwr
        have HWR := hid (And.intro hwr hwent)
        clear hwr hwent hlen
        go_wp2
        go_ret
        exact ⟨rfl, 0, F', HWR.out.1, HWR.out.2⟩
/-- where the error stands -/
def pwS (s : List Nat × Int) (d : List Int) (most : Int) : List Nat × Int := if s.2 ≠ 0 then s else (pwB s.1 d most, pwE d most)
set_option maxHeartbeats 1000000 in
theorem putList_W (F G : Nat → Prop) (p : Nat) (bs : List Nat) (e : Int) (a : Option Addr) (n c : Nat) (xs : List Int) (most : Int) (w : World) (h : Wr w F p bs e) (hZ : Zs w G a n c xs) (hGF : ∀ k, G k → ¬ F k ∧ k < w.heap.size) (hm0 : most ≤ 524288) (hsz : bs.length ≤ 100000000) :
    Calls Tryd.prog 39 #[.pointer (some ⟨p, 0, none⟩), .slice a n c, .int .i64 most, .func (.func 38) #[] #[]] w fun ex w' => ex = .returned (.tuple #[]) ∧ WrDid F p (pwS (bs, e) xs most).1 (pwS (bs, e) xs most).2 w w' := by
  have hmf : ∀ (fn : Fn) (first cap : Array Value) (w : World), (Instr.makeFunc fn first cap).run Tryd.prog w = .ok (.func fn first cap) w := fun _ _ _ _ => rfl
  have H : Hid (Wr w F p bs e) := h
  have hflt : ∀ k, F k → k < w.heap.size := by obtain ⟨v, hv⟩ := h; exact hv.flt
  clear h
  have kp : ∀ o1 o2 o3 o4 : Obj, Kept No w ((((w.alloc o1).alloc o2).alloc o3).alloc o4) := fun o1 o2 o3 o4 => ((((Kept.refl No w).alloc _).alloc _).alloc _).alloc _
  by_cases he : e = 0
  · subst he
    rw [show pwS (bs, 0) xs most = (pwB bs xs most, pwE xs most) from if_neg (by simp)]
    obtain ⟨W, hW⟩ : ∃ W, W = ((((w.alloc (.cells #[.pointer (some ⟨p, 0, none⟩)] 48)).alloc (.cells #[.slice a n c] 32)).alloc (.cells #[.int .i64 most] 3)).alloc (.cells #[.func (.func 38) #[] #[]] 79)) := ⟨_, rfl⟩
    have d4 : W.cell? ⟨w.heap.size + 1 + 1 + 1, 0, none⟩ = some (.func (.func 38) #[] #[]) := by rw [hW]; exact cell_new _ _ _ _ (by simp)
    have d2 : W.cell? ⟨w.heap.size + 1 + 1, 0, none⟩ = some (.int .i64 most) := by rw [hW, cell_old _ _ _ (by simp)]; exact cell_new _ _ _ _ (by simp)
    have d1 : W.cell? ⟨w.heap.size + 1, 0, none⟩ = some (.slice a n c) := by rw [hW, cell_old _ _ _ (by simp <;> omega), cell_old _ _ _ (by simp)]; exact cell_new _ _ _ _ (by simp)
    have d3 : W.cell? ⟨w.heap.size, 0, none⟩ = some (.pointer (some ⟨p, 0, none⟩)) := by rw [hW, cell_old _ _ _ (by simp <;> omega), cell_old _ _ _ (by simp <;> omega), cell_old _ _ _ (by simp)]; exact cell_new _ _ _ _ rfl
    have hkW : Kept No w W := by rw [hW]; exact kp _ _ _ _
    have hWr : Wr W F p bs 0 := H.out.kept hkW (fun _ _ h => h)
    have cc := gate_putW _ _ _ _ p _ (fun w' => ∃ e1, WrDid F p (pwB bs xs most) e1 W w') (pwE xs most) hWr.c1 (putList1_W F G p bs a n c xs most _ _ _ _ _ hWr (hZ.kept hkW (fun _ _ h => h)) (fun j hj => ⟨(hGF j hj).1, Nat.lt_of_lt_of_le (hGF j hj).2 hkW.size⟩) hm0 hsz (fun hf => by have := hflt _ hf; omega) (fun hf => by have := hflt _ hf; omega) (fun hf => by have := hflt _ hf; omega) d1 d2 d3 d4) (fun w1 ⟨_, h1⟩ => h1.cells)
    rw [hW] at cc
    have HK : Hid (Kept No w ((((w.alloc (.cells #[.pointer (some ⟨p, 0, none⟩)] 48)).alloc (.cells #[.slice a n c] 32)).alloc (.cells #[.int .i64 most] 3)).alloc (.cells #[.func (.func 38) #[] #[]] 79))) := kp _ _ _ _
    clear d1 d2 d3 d4 hWr hW hkW hflt kp hGF hZ
    go_enter Tryd.func39, Tryd.ntmps39
    go_wp2_with (go_at_call 35; refine cc.mono ?_; rintro ex w1 ⟨rfl, w2, ⟨e1, hd⟩, rfl⟩)
    go_end0
    exact ⟨rfl, (hd.put1 _).ahead HK.out⟩
  · have he2 : (e == 0) = false := by simpa using he
    rw [show pwS (bs, e) xs most = (bs, e) from if_pos he]
    have c1 : ∀ o1 o2 o3 o4 : Obj, ((((w.alloc o1).alloc o2).alloc o3).alloc o4).cell? ⟨p, 1, none⟩ = some (.int .i64 e) := fun o1 o2 o3 o4 => (H.out.kept (kp o1 o2 o3 o4) (fun _ _ h => h)).c1
    have KP : Hid (∀ o1 o2 o3 o4 : Obj, Kept No w ((((w.alloc o1).alloc o2).alloc o3).alloc o4)) := kp
    clear hZ hGF hflt kp
    go_enter Tryd.func39, Tryd.ntmps39
    go_wp2_with (go_at_call 35; refine (gate_no _ p e _ (c1 _ _ _ _) he2).mono ?_; rintro ex w1 ⟨rfl, rfl⟩)
    go_end0
    exact ⟨rfl, WrDid.still H.out (KP.out _ _ _ _)⟩
end Go.Proofs.YtfdcmhbpnadcpabDoor
