/-
  PortInOrder: the walk.
-/
import Derived.Test.YthebokkogeigoaaPInC
import Derived.Deep.CutBlock
namespace Go.Proofs.Ythebokkogeigoaa
open Go.RowKit
set_option linter.unusedVariables false
set_option maxRecDepth 100000

/-- a call of a script -/
structure Oq where
  kd : Int
  prt : Int
  dt : List Int
  now : Int
  srt : Int
  out : Bool
/-- a script that is read -/
structure Sk (w : World) (F : Nat → Prop) (a : Option Addr) (n c : Nat) (os : Nat → Oq) : Prop where
  cap : n ≤ c
  max : c ≤ 9223372036854775807
  six : ∀ i, i < n → I6 (os i).prt
  at' : ∀ i, i < n → ∃ b o da dc, a = some ⟨b, o, none⟩ ∧ F b ∧ w.cell? ⟨b, o + i * 6, none⟩ = some (.int .i64 (os i).kd) ∧ w.cell? ⟨b, o + i * 6 + 1, none⟩ = some (.int .i64 (os i).prt) ∧ w.cell? ⟨b, o + i * 6 + 2, none⟩ = some (.slice da (os i).dt.length dc) ∧ w.cell? ⟨b, o + i * 6 + 3, none⟩ = some (.int .i64 (os i).now) ∧ w.cell? ⟨b, o + i * 6 + 4, none⟩ = some (.int .i64 (os i).srt) ∧ w.cell? ⟨b, o + i * 6 + 5, none⟩ = some (.bool (os i).out) ∧ Zs w F da (os i).dt.length dc (os i).dt
theorem make_row (w : World) (t e : TypeId) (z : Value) (bytes : Nat) (ht : Try.prog.underlying t = some (.slice e)) (hi : (Try.prog.info? e).map (fun i => (i.zero, i.size, i.bytes)) = some (some z, 1, bytes)) (hz : z.cells = #[z]) (n : Nat) (hn : n ≤ 64) (hb : bytes ≤ 4096) :
    ∃ cs, (Instr.makeSlice t (.int .i64 n) (.int .i64 n)).run Try.prog w = .ok (.slice (some ⟨w.heap.size, 0, none⟩) n n) (w.alloc (.cells cs e)) ∧ ∀ i, i < n → cs[i]? = some z := by
  obtain ⟨i0, hi, hz0, hz1, hz2⟩ := info_parts hi
  have hbn : bytes * n ≤ 4096 * 64 := Nat.mul_le_mul hb hn
  have hr := run_make (P := Try.prog) w t e i0 _ ht hi hz0 .i64 .i64 n n (by omega) (Int.le_refl _) (by rw [hz2]; omega) (by omega)
  simp only [Int.toNat_natCast] at hr
  rw [hz1, Nat.mul_one] at hr
  refine ⟨_, hr, fun i hi => ?_⟩
  rw [hz, ← Array.getElem?_toList, toList_madeCells_one, List.getElem?_replicate, if_pos hi]
theorem Try.infoLL : (Try.prog.info? 47).map (fun i => (i.zero, i.size, i.bytes)) = some (some (.slice none 0 0), 1, 24) := by kernel_rfl
theorem Try.infoI : (Try.prog.info? 3).map (fun i => (i.zero, i.size, i.bytes)) = some (some (.int .i64 0), 1, 8) := by kernel_rfl
/-- the start -/
theorem Wy.start {w w3 w4 w6 : World} {q : Nat} {pv : Value} {la : Option Addr} {m lc : Nat} {fs : Nat → Pr} {part : Int} {b mb : Nat} {eb : Nat → Nat} {gw gl : Nat} {cw cl : Array Value} (ho : w3.ownsRow w.heap.size 30 6 (.slice la m lc) m (cat (fun i => pc (fs i)) m)) (k3 : Kept No w w3) (hq : w3.heap[q]? = some (.cells #[pv, .slice la m lc, .slice none 0 0] 27)) (hp : Pt w4 w.heap.size b mb m (pdNew m fs part m eb)) (k4 : Kept No w3 w4) (k6 : Kept No w4 w6)
    (h1 : w6.heap[gw]? = some (.cells cw 47 (0, 0))) (h2 : ∀ i, i < m → cw[i]? = some (.slice none 0 0)) (h3 : w6.heap[gl]? = some (.cells cl 3 (0, 0))) (h4 : ∀ i, i < m → cl[i]? = some (.int .i64 0)) (h5 : w.heap.size ≤ gw) (h6 : w.heap.size ≤ gl) (hf : ∀ i, 0 ≤ (fs i).dp) :
    Wy.Ok w w6 q pv la m lc fs part b mb m gw gl 0 := by
  have k36 := k4.trans k6 (fun _ e => e.elim)
  have own : ∀ i, i < m → (pdNew m fs part m eb).own i = ((fs i).pt == part) := fun i hi => by
    show (decide (i < m) && ((fs i).pt == part)) = _
    simp [hi]
  refine ⟨_, fun _ => .slice none 0 0, fun _ => [], fun _ => 0, ⟨k3.trans k36 (fun _ e => e.elim), k36.at' hq (fun e => e), k36.owns ho (fun _ _ e => e), hp.keep k6, ⟨cw, h1, h2⟩, ⟨cl, h3, h4⟩, h5, h6, fun i hi => .inl ⟨rfl, rfl⟩, fun i k hi hk => (by cases hk), fun i j hi hj hij k hk => (by cases hk), rfl, own, fun i hi ho => ⟨rfl, rfl, rfl⟩, fun i hi ho hk => ⟨rfl, hf i⟩⟩, fun i hi ho hk _ => ⟨rfl, Int.le_refl _, Int.le_refl _, rfl, fun j v x hv => (by cases hv)⟩⟩
set_option maxHeartbeats 16000000 in
theorem in_law {F G : Nat → Prop} {a sa : Option Addr} {n c sn sc : Nat} {ps : Nat → Pr} {os : Nat → Oq} (w : World) (p : Int) (hp0 : 0 ≤ p) (hp1 : p < 256) (hl : Pl w F a n c ps) (hs : Sk w G sa sn sc os) :
    Calls Try.prog 4 #[.slice a n c, .int .u8 p, .slice sa sn sc] w fun r w' => r = .returned (.bool true) ∧ Kept No w w' := by
  have hsc := hs.cap
  have hsm := hs.max
  have HS := hid hs
  have IM := hid (image_any w hl)
  clear hs hl
  have hw1 : wrap64 (p % 2) = p % 2 := by unfold wrap64; omega
  have hw2 : wrap64 (1 + p % 2) = 1 + p % 2 := by unfold wrap64; omega
  go_enter Try.func4, Try.ntmps4
  go_upto_region 3 with (go_at_call 7; refine IM.out.mono ?_; rintro e w2 ⟨pv, lv, z1, z2, rfl, hpt, hlv, k2⟩; obtain ⟨pa, pn, pc', rfl⟩ := own_slice hpt.own; obtain ⟨la, lc, rfl, hll⟩ := Pl.of_owns hlv; have HI := hid (⟨hlv, k2⟩ : _ ∧ Kept No w w2); clear hpt hlv hll k2 IM)
  obtain ⟨fs, hfs⟩ : ∃ fs : Nat → Pr, fs = fun i => fitP (ps i) := ⟨_, rfl⟩
  have FT : Hid (∀ i, (fs i).dp ≤ 64 ∧ (fs i).sz ≤ 16 ∧ 0 ≤ (fs i).sz ∧ ((fs i).kd = 0 ∨ (fs i).kd = 1)) := fun i => by
    rw [hfs]
    refine ⟨?_, ?_, ?_, ?_⟩
    · show (if (ps i).kd % 2 = 1 then 1 + (ps i).dp % 64 else 0) ≤ 64
      split <;> omega
    · show 1 + (ps i).sz % 16 ≤ 16
      omega
    · show 0 ≤ 1 + (ps i).sz % 16
      omega
    · show (ps i).kd % 2 = 0 ∨ (ps i).kd % 2 = 1
      omega
  have FD : Hid (∀ i, 0 ≤ (fs i).dp) := fun i => by
    rw [hfs]
    show 0 ≤ (if (ps i).kd % 2 = 1 then 1 + (ps i).dp % 64 else 0)
    split <;> omega
  have HJ : Hid (w2.ownsRow w.heap.size 30 6 (.slice la (min n 64) lc) (min n 64) (cat (fun i => pc (fs i)) (min n 64)) ∧ Kept No w w2) := by rw [hfs]; exact HI.out
  have hm64 : min n 64 ≤ 64 := by omega
  clear hfs HI
  generalize min n 64 = m at *
  generalize 1 + p % 2 = part at *
  clear hw1 hw2 hp0 hp1
  have H2 : Hid ((w2.alloc (.cells #[.slice pa pn pc', .slice la m lc, .slice none 0 0] 27)).ownsRow w.heap.size 30 6 (.slice la m lc) m (cat (fun i => pc (fs i)) m) ∧ Kept No w (w2.alloc (.cells #[.slice pa pn pc', .slice la m lc, .slice none 0 0] 27)) ∧ (w2.alloc (.cells #[.slice pa pn pc', .slice la m lc, .slice none 0 0] 27)).heap[w2.heap.size]? = some (.cells #[.slice pa pn pc', .slice la m lc, .slice none 0 0] 27)) := ⟨((Kept.refl No w2).alloc _).owns HJ.out.1 (fun _ _ e => e), HJ.out.2.alloc _, alloc_new w2 _⟩
  clear HJ
  generalize (w2.alloc (.cells #[.slice pa pn pc', .slice la m lc, .slice none 0 0] 27)) = w3 at *
  generalize w2.heap.size = q at *
  have c0 : w3.cell? ⟨q, 0, none⟩ = some (.slice pa pn pc') := (cell_blk H2.out.2.2 0).trans rfl
  have c1 : w3.cell? ⟨q, 1, none⟩ = some (.slice la m lc) := (cell_blk H2.out.2.2 1).trans rfl
  have c2 : w3.cell? ⟨q, 2, none⟩ = some (.slice none 0 0) := (cell_blk H2.out.2.2 2).trans rfl
  have NX : Hid (Calls Try.prog 8 #[.agg #[.slice pa pn pc', .slice la m lc, .slice none 0 0], .int .i64 part] w3 fun r w' => ∃ b mb eb, r = .returned (.pointer (some ⟨b, 0, none⟩)) ∧ Pt w' w3.heap.size b mb m (pdNew m fs part m eb) ∧ Kept No w3 w') := by
    obtain ⟨a', c', hv, hll⟩ := Pl.of_owns H2.out.1
    injection hv with h1 _ h3
    subst h1 h3
    exact new_any w3 pa none pn pc' 0 0 part hll (by omega)
  go_upto_region 6 with (go_at_call 8; refine NX.out.mono ?_; rintro e w4 ⟨b, mb, eb, rfl, hp, k4⟩; have H4 := hid (⟨hp.base H2.out.2.1.size, k4⟩ : _ ∧ Kept No w3 w4); clear hp k4 NX)
  have c1 : w4.cell? ⟨q, 1, none⟩ = some (.slice la m lc) := H4.out.2.cell c1 (fun e => e)
  obtain ⟨cw, hr1, hcw⟩ := make_row w4 41 47 _ 24 Try.underlying41 Try.infoLL rfl m hm64 (by omega)
  have K5 : Kept No w4 (w4.alloc (.cells cw 47)) := (Kept.refl No w4).alloc _
  have b5 := alloc_new w4 (.cells cw 47)
  have hs5 : (w4.alloc (.cells cw 47)).heap.size = w4.heap.size + 1 := World.size_alloc _ _
  have c5 := K5.cell c1 (fun e => e)
  obtain ⟨cl, hr2, hcl⟩ := make_row (w4.alloc (.cells cw 47)) 42 3 _ 8 Try.underlying42 Try.infoI rfl m hm64 (by omega)
  rw [hs5] at hr2
  have H6 : Hid (Wy.Ok w ((w4.alloc (.cells cw 47)).alloc (.cells cl 3)) q (.slice pa pn pc') la m lc fs part b mb m w4.heap.size (w4.heap.size + 1) 0) := by
    have ka : Kept No (w4.alloc (.cells cw 47)) ((w4.alloc (.cells cw 47)).alloc (.cells cl 3)) := (Kept.refl No _).alloc _
    have hsz := (H2.out.2.1.trans H4.out.2 (fun _ e => e.elim)).size
    have b6 := alloc_new (w4.alloc (.cells cw 47)) (.cells cl 3)
    rw [hs5] at b6
    exact Wy.start H2.out.1 H2.out.2.1 H2.out.2.2 H4.out.1 H4.out.2 (K5.trans ka (fun _ e => e.elim)) (ka.at' b5 (fun e => e)) hcw b6 hcl hsz (by omega) (fun i => FD.out i)
  clear hs5 K5 b5 H2 H4 hcw hcl c0 c2
  go_upto_region 9 with fail
  clear hr1 hr2 c5 c1
  clear c1
  generalize ((w4.alloc (.cells cw 47)).alloc (.cells cl 3)) = w6 at *
  generalize hgl : w4.heap.size + 1 = gl at *
  generalize w4.heap.size = gw at *
  clear hgl
  generalize hpv : Value.slice pa pn pc' = pv at *
  clear hpv
  go_loopw [12] (fun u wr => ∃ i : Nat, i ≤ sn ∧ u = .int .i64 i ∧ Wy.Ok w wr q pv la m lc fs part b mb m gw gl i) (fun u _ => sn - (intOf u).toNat)
  case atStart => exact ⟨0, Nat.zero_le _, rfl, H6.out⟩
  case round =>
    as_aux_lemma =>
      clear H6
      obtain ⟨i, hi, rfl, S, wv, wm, lo, hy, hc⟩ := hrel
      have HY := hid (⟨hy, hc⟩ : _ ∧ _)
      clear hy hc
      by_cases hlt : i < sn
      · have hltz : (i : Int) < (sn : Int) := by omega
        obtain ⟨gb, go, da, dc, rfl, _, e0, e1, e2, e3, e4, e5, hz⟩ := HS.out.at' i hlt
        have h6 := hid (HS.out.six i hlt)
        have f0 := HY.out.1.kept.cell e0 (fun e => e)
        have f1 := HY.out.1.kept.cell e1 (fun e => e)
        have f2 := HY.out.1.kept.cell e2 (fun e => e)
        have f3 := HY.out.1.kept.cell e3 (fun e => e)
        have f4 := HY.out.1.kept.cell e4 (fun e => e)
        have f5 := HY.out.1.kept.cell e5 (fun e => e)
        have HZ := hid (hz.kept HY.out.1.kept (fun _ _ e => e))
        have HZG : Hid (Zs w (fun kk => G kk ∧ kk < w.heap.size) da (os i).dt.length dc (os i).dt) := ⟨hz.len, hz.cap, hz.max, hz.nil, fun j hj => by
          obtain ⟨b', o', e', hb', hc'⟩ := hz.at' j hj
          exact ⟨b', o', e', ⟨hb', cell_lt hc'⟩, hc'⟩⟩
        clear e0 e1 e2 e3 e4 e5 hz
        generalize (os i).kd = kd at *
        generalize (os i).prt = prt at *
        generalize (os i).dt = x at *
        generalize (os i).now = nw at *
        generalize (os i).srt = srt at *
        generalize (os i).out = ou at *
        go_upto_region 12 with fail
        have HW : Hid ((wr.alloc (.cells #[.int .i64 kd, .int .i64 prt, .slice da x.length dc, .int .i64 nw, .int .i64 srt, .bool ou] 44)).heap[wr.heap.size]? = some (.cells #[.int .i64 kd, .int .i64 prt, .slice da x.length dc, .int .i64 nw, .int .i64 srt, .bool ou] 44) ∧ Wy w (wr.alloc (.cells #[.int .i64 kd, .int .i64 prt, .slice da x.length dc, .int .i64 nw, .int .i64 srt, .bool ou] 44)) q pv la m lc fs part b mb m gw gl S wv wm lo ∧ Cn (wr.alloc (.cells #[.int .i64 kd, .int .i64 prt, .slice da x.length dc, .int .i64 nw, .int .i64 srt, .bool ou] 44)) m S wm lo i (fun _ => False) ∧ Zs (wr.alloc (.cells #[.int .i64 kd, .int .i64 prt, .slice da x.length dc, .int .i64 nw, .int .i64 srt, .bool ou] 44)) G da x.length dc x) := by
          have ka : Kept No wr (wr.alloc (.cells #[.int .i64 kd, .int .i64 prt, .slice da x.length dc, .int .i64 nw, .int .i64 srt, .bool ou] 44)) := (Kept.refl No wr).alloc _
          exact ⟨alloc_new wr _, HY.out.1.keep ka, HY.out.2.keep ka, HZ.out.kept ka (fun _ _ e => e)⟩
        clear f0 f1 f2 f3 f4 f5 HY HZ
        generalize (wr.alloc (.cells #[.int .i64 kd, .int .i64 prt, .slice da x.length dc, .int .i64 nw, .int .i64 srt, .bool ou] 44)) = wz at *
        generalize wr.heap.size = z at *
        have d0 : wz.cell? ⟨z, 0, none⟩ = some (.int .i64 kd) := (cell_blk HW.out.1 0).trans rfl
        have d1 : wz.cell? ⟨z, 1, none⟩ = some (.int .i64 prt) := (cell_blk HW.out.1 1).trans rfl
        have d2 : wz.cell? ⟨z, 2, none⟩ = some (.slice da x.length dc) := (cell_blk HW.out.1 2).trans rfl
        have d3 : wz.cell? ⟨z, 3, none⟩ = some (.int .i64 nw) := (cell_blk HW.out.1 3).trans rfl
        have cI : wz.cell? ⟨q, 1, none⟩ = some (.slice la m lc) := (cell_blk HW.out.2.1.img 1).trans rfl
        have hpl := hid HW.out.2.1.pl
        obtain ⟨mi, hmi⟩ : ∃ mi, mi = (S.idx prt).isSome := ⟨_, rfl⟩
        obtain ⟨qu, hqu⟩ : ∃ qu, qu = S.queB prt := ⟨_, rfl⟩
        have HMI := hid hmi
        have HQU := hid hqu
        clear hmi hqu
        go_cut [14] from 57 to 79 (fun u wx => u = .bool mi ∧ wx = wz)
        case first =>
          by_cases h1 : 1 ≤ prt
          · by_cases h2 : prt ≤ (m : Int)
            ·
              as_aux_lemma =>
                obtain ⟨k, hk⟩ : ∃ k : Nat, prt = (k : Int) + 1 := ⟨(prt - 1).toNat, by omega⟩
                have hkm : k < m := by omega
                obtain ⟨pb, po, rfl, _, t0, t1, _, t3, t4, _⟩ := hpl.out.at' k hkm
                have hcap := hpl.out.cap
                have hmx := hpl.out.max
                have hres : (S.idx prt).isSome = ((fs k).pt == part) := by
                  have ho := HW.out.2.1.own k hkm
                  have hsn := HW.out.2.1.sn
                  rw [hk]
                  unfold Pd.idx
                  rw [hsn, show ((k : Int) + 1 - 1).toNat = k by omega, ho]
                  cases ((fs k).pt == part) with
                  | false => simp
                  | true => rw [if_pos ⟨by omega, by omega, rfl⟩]; rfl
                have HR := hid hres
                subst hk
                have hsub : wrap64 ((k : Int) + 1 - 1) = (k : Int) := by unfold wrap64; omega
                clear hres h6 HW hpl d0 d2 d3
                generalize (fs k).pt = fpt at *
                go_wp2
                go_meet
                case rel => exact ⟨by rw [HMI.out, HR.out], rfl⟩
            ·
              as_aux_lemma =>
                have hres : (S.idx prt).isSome = false := by
                  have hsn := HW.out.2.1.sn
                  unfold Pd.idx
                  rw [if_neg (fun h => h2 (by rw [← hsn]; exact h.2.1))]
                  rfl
                have HR := hid hres
                clear hres h6 HW hpl d0 d2 d3
                go_wp2
                go_meet
                case rel => exact ⟨by rw [HMI.out, HR.out], rfl⟩
          ·
            as_aux_lemma =>
              have hres : (S.idx prt).isSome = false := by
                unfold Pd.idx
                rw [if_neg (fun h => h1 h.1)]
                rfl
              have HR := hid hres
              clear hres h6 HW hpl d0 d2 d3
              go_wp2
              go_meet
              case rel => exact ⟨by rw [HMI.out, HR.out], rfl⟩
        case rest =>
          obtain ⟨rfl, hwc⟩ := hcut
          obtain rfl := hwc.symm
          as_aux_lemma =>
            go_upto_region 13 with fail
            go_cut [15] from 80 to 91 (fun u wx => u = .bool qu ∧ wx = wz)
            case first =>
              cases hid' : S.idx prt with
              | some k =>
                as_aux_lemma =>
                  obtain ⟨hkm, hown, hk⟩ := HW.out.2.1.own_idx hid'
                  obtain ⟨pb, po, rfl, _, t0, t1, _, t3, t4, _⟩ := hpl.out.at' k hkm
                  have hcap := hpl.out.cap
                  have hmx := hpl.out.max
                  have HR : Hid (S.queB prt = ((fs k).kd == 1)) := by
                    unfold Pd.queB
                    rw [hid']
                    show ((S.en k).kd == 1) = _
                    rw [(HW.out.2.1.frm k hkm hown).1]
                  have hmt : mi = true := by rw [HMI.out, hid']; rfl
                  clear HMI
                  subst hk hmt
                  have hsub : wrap64 ((k : Int) + 1 - 1) = (k : Int) := by unfold wrap64; omega
                  clear h6 HW hpl d0 d2 d3 hid' hown
                  generalize (fs k).kd = fkd at *
                  go_wp2
                  go_meet
                  case rel => exact ⟨by rw [HQU.out, HR.out], rfl⟩
              | none =>
                as_aux_lemma =>
                  have HR : Hid (S.queB prt = false) := by
                    unfold Pd.queB
                    rw [hid']
                    rfl
                  have hmt : mi = false := by rw [HMI.out, hid']; rfl
                  clear HMI
                  subst hmt
                  clear h6 HW hpl d0 d2 d3 hid'
                  go_wp2
                  go_meet
                  case rel => exact ⟨by rw [HQU.out, HR.out], rfl⟩
            case rest =>
              obtain ⟨rfl, hwc⟩ := hcut
              obtain rfl := hwc.symm
              go_upto_block 2 with fail
              go_cut [] from 47 to 267 (fun wx => Wy.Ok w wx q pv la m lc fs part b mb m gw gl (i + 1))
              case first =>
                by_cases hk1 : kd = 1
                · have hb1 : (kd == 1) = true := by simp [hk1]
                  cases qu with
                  | false =>
                    as_aux_lemma =>
                      have hq : S.queB prt = false := HQU.out.symm
                      have PU := hid (push_port wz HW.out.2.1.pt h6.out hq da x.length dc)
                      go_upto_region 17 with (go_at_call 13; refine PU.out.mono ?_; rintro e w5 ⟨rfl, hw5⟩; obtain rfl := hw5.symm; clear PU)
                      have HE : Hid (∀ W, Kept No wz W → Wy.Ok w W q pv la m lc fs part b mb m gw gl (i + 1)) := fun W k => ⟨S, wv, wm, lo, HW.out.2.1.keep k, (HW.out.2.2.1.keep k).later (by omega)⟩
                      clear HW h6 hpl hq d0 d1 d2 d3 HMI HQU
                      go_quiet (fail)
                      go_upto_region 18 with fail
                      go_quiet (fail)
                      go_wp2
                      go_meet
                      case rel => exact HE.out _ (by first | exact (Kept.refl No _).drewN _ | exact ((Kept.refl No _).drewN _).drewN _ | exact Kept.refl No _)
                  | true =>
                    obtain ⟨k, hix, hkd⟩ := Pd.queB_yes HQU.out.symm
                    obtain ⟨hkm, hown, hprt⟩ := HW.out.2.1.own_idx hix
                    obtain ⟨fk1, fk2, fk3⟩ := HW.out.2.1.frm k hkm hown
                    obtain ⟨pb, po, hla, _⟩ := hpl.out.at' k hkm
                    subst hla
                    have hsub : wrap64 (prt - 1) = (k : Int) := by rw [hprt]; unfold wrap64; omega
                    have hpk := hid hprt
                    have HK : Hid (S.idx prt = some k ∧ (S.en k).kd = 1 ∧ S.own k = true ∧ (S.en k).kd = (fs k).kd ∧ (S.en k).sz = (fs k).sz ∧ (S.en k).dp = (fs k).dp) := ⟨hix, hkd, hown, fk1, fk2, fk3⟩
                    obtain ⟨va, vc, hwv, hvc1, hvc2, hwl⟩ := HW.out.2.1.wvs HW.out.2.2.1 hkm hown hkd
                    have HWV : Hid (wv k = .slice va (S.en k).ms.length vc ∧ (wm k).length = (S.en k).ms.length) := ⟨hwv, hwl⟩
                    have hrm := HW.out.2.1.room k hkm hown hkd
                    have hdp := (FT.out k).1
                    have hszk := (FT.out k).2.1
                    have HRM := hid hrm
                    clear hix hkd hown hprt fk1 fk2 fk3 hpl hwv hwl hrm
                    by_cases hlen : (x.length : Int) = (fs k).sz
                    · by_cases hfull : (fs k).dp ≤ ((S.en k).ms.length : Int)
                      ·
                        as_aux_lemma =>
                          have PU := hid (push_out wz HW.out.2.1.pt h6.out HK.out.1 HK.out.2.1 da x.length dc (by rw [HK.out.2.2.2.2.1]; exact hlen) (by rw [HK.out.2.2.2.2.2]; exact hfull))
                          go_upto_region 17 with (go_at_call 13; refine PU.out.mono ?_; rintro e w5 ⟨rfl, k5⟩; have K5 := hid k5; clear PU k5)
                          have hy5 := HW.out.2.1.keep K5.out
                          have HE : Hid (∀ W, Kept No w5 W → Wy.Ok w W q pv (some ⟨pb, po, none⟩) m lc fs part b mb m gw gl (i + 1)) := fun W k => ⟨S, wv, wm, lo, hy5.keep k, ((HW.out.2.2.1.keep K5.out).keep k).later (by omega)⟩
                          have hlb : ((x.length : Int) == (fs k).sz) = true := by simp [hlen]
                          obtain ⟨cI, _, _, t3, t4, tw, hcap, hmx⟩ := hy5.af hkm
                          rw [HWV.out.1] at tw
                          have d1 : w5.cell? ⟨z, 1, none⟩ = some (.int .i64 prt) := K5.out.cell d1 (fun e => e)
                          have d2 : w5.cell? ⟨z, 2, none⟩ = some (.slice da x.length dc) := K5.out.cell d2 (fun e => e)
                          have hnf : ¬ ((S.en k).ms.length : Int) < (fs k).dp := by omega
                          have hnb : decide (((S.en k).ms.length : Int) < (fs k).dp) = false := by simp [hnf]
                          clear hy5 HW h6 d0 d3 HMI HQU HK HWV HRM hlen hpk hdp hszk hfull hvc1 hvc2 K5
                          generalize (fs k).sz = fsz at *
                          generalize (fs k).dp = fdp at *
                          generalize (S.en k).ms.length = L at *
                          go_quiet (fail)
                          go_upto_region 18 with fail
                          go_quiet (fail)
                          go_wp2
                          go_meet
                          case rel => exact HE.out _ (by first | exact (Kept.refl No _).drewN _ | exact ((Kept.refl No _).drewN _).drewN _ | exact Kept.refl No _)
                      ·
                        as_aux_lemma =>
                          have PU := hid (push_in wz HW.out.2.1.pt h6.out HK.out.1 HK.out.2.1 HW.out.2.2.2 (by rw [HK.out.2.2.2.2.1]; exact hlen) (by rw [HK.out.2.2.2.2.2]; omega) (by omega) (by omega))
                          go_upto_region 17 with (go_at_call 13; refine PU.out.mono ?_; rintro e w5 ⟨rfl, it, mm, d5⟩; have D5 := hid d5; clear PU d5)
                          obtain ⟨_, k5, _, _⟩ := HW.out.2.1.pt.did (by rw [HW.out.2.1.sn]; exact hkm) HK.out.2.2.1 D5.out
                          have hz5 := HW.out.2.1.zk k5 HW.out.1
                          have hy5 := HW.out.2.1.did hkm HK.out.2.2.1 D5.out rfl rfl rfl (fun _ => ⟨HRM.out.1, by show (((S.en k).ms ++ [mm]).length : Int) ≤ _; rw [List.length_append, List.length_singleton]; omega⟩)
                          have hzs5 := HW.out.2.2.2
                          have hlb : ((x.length : Int) == (fs k).sz) = true := by simp [hlen]
                          obtain ⟨cI, _, _, t3, t4, tw, hcap, hmx⟩ := hy5.af hkm
                          rw [HWV.out.1] at tw
                          have d1 : w5.cell? ⟨z, 1, none⟩ = some (.int .i64 prt) := (cell_blk hz5 1).trans rfl
                          have d2 : w5.cell? ⟨z, 2, none⟩ = some (.slice da x.length dc) := (cell_blk hz5 2).trans rfl
                          have hyf : ((S.en k).ms.length : Int) < (fs k).dp := by omega
                          have hyb : decide (((S.en k).ms.length : Int) < (fs k).dp) = true := by simp [hyf]
                          have hps : prt - 1 = (k : Int) := by rw [hpk.out]; omega
                          have hk4 : k ≤ 4096 := by omega
                          have CW : Hid (∀ W, Kept No w5 W → Calls Try.prog 14 #[.slice da x.length dc] W fun r w' => ∃ u, r = .returned u ∧ w'.heap[z]? = some (.cells #[.int .i64 kd, .int .i64 prt, .slice da x.length dc, .int .i64 nw, .int .i64 srt, .bool ou] 44) ∧ ∃ ya yc, u = .slice ya x.length yc ∧ Mg w' (.slice ya x.length yc) x ∧ Kept No W w') := fun W kk => by
                            have hzz : Zs W (fun kk => G kk ∧ kk < w.heap.size) da x.length dc x := (HZG.out.kept (hy5.kept.trans kk (fun _ e => e.elim)) (fun _ _ e => e))
                            refine (marked_any W hzz (by omega)).mono ?_
                            rintro r w' ⟨g, cap, rfl, hm, k'⟩
                            exact ⟨_, rfl, (kk.trans k' (fun _ e => e.elim)).at' hz5 (fun e => e), _, _, rfl, Mg.of_mks hm rfl, k'⟩
                          have L9 : Hid (∀ W, Kept No w5 W → W.cell? ⟨gw, k, none⟩ = some (.slice va (S.en k).ms.length vc)) := fun W kk => kk.cell tw (fun e => e)
                          have KA : Hid (∀ W, Kept No w5 W → ∀ ya yc, W.heap[z]? = some (.cells #[.int .i64 kd, .int .i64 prt, .slice da x.length dc, .int .i64 nw, .int .i64 srt, .bool ou] 44) → (W.alloc (.cells #[.slice ya x.length yc] 22)).heap[z]? = some (.cells #[.int .i64 kd, .int .i64 prt, .slice da x.length dc, .int .i64 nw, .int .i64 srt, .bool ou] 44)) := fun W kk ya yc hs => ((Kept.refl No W).alloc _).at' hs (fun e => e)
                          have AP : Hid (∀ W, Kept No w5 W → W.heap[z]? = some (.cells #[.int .i64 kd, .int .i64 prt, .slice da x.length dc, .int .i64 nw, .int .i64 srt, .bool ou] 44) → ∀ ya yc, ∃ v' w', (Builtin.append_ #[47, 47] 47 #[.slice va (S.en k).ms.length vc, .slice (some ⟨W.heap.size, 0, none⟩) 1 1]).run Try.prog (W.alloc (.cells #[.slice ya x.length yc] 22)) = .ok v' w' ∧ Qr w' w.heap.size 22 v' (wm k ++ [.slice ya x.length yc]) ∧ Kept (fun kk => (wv k).ownBlock = some kk) (W.alloc (.cells #[.slice ya x.length yc] 22)) w' ∧ (v'.ownBlock = (wv k).ownBlock ∨ ∃ kk, v'.ownBlock = some kk ∧ (W.alloc (.cells #[.slice ya x.length yc] 22)).heap.size ≤ kk) ∧ w'.heap[z]? = some (.cells #[.int .i64 kd, .int .i64 prt, .slice da x.length dc, .int .i64 nw, .int .i64 srt, .bool ou] 44)) := fun W kk hs ya yc => by
                            have ka : Kept No w5 (W.alloc (.cells #[.slice ya x.length yc] 22)) := kk.alloc _
                            have h6' := hy5.keep ka
                            obtain ⟨i0, hi, hz0, hz1, hz2⟩ := info_parts Try.infoL
                            have hq6 := h6'.que k hkm
                            have hB := h6'.pt.B_le
                            have hwl := HWV.out.2
                            obtain ⟨v', w', r1, r2, r3, r4⟩ := run_append_q (P := Try.prog) (w := W.alloc (.cells #[.slice ya x.length yc] 22)) 47 47 22 i0 _ 24 Try.underlying47 hi hz0 hz1 hz2 rfl hq6 ⟨W.heap.size, 0, none⟩ 1 (.slice ya x.length yc) ((cell_blk (alloc_new W _) 0).trans rfl) rfl (by unfold maxLen; omega) (by omega) hB
                            rw [HWV.out.1] at r1
                            refine ⟨v', w', r1, r2, r3, r4, r3.at' (((Kept.refl No W).alloc _).at' hs (fun e => e)) (fun e => ?_)⟩
                            obtain ⟨_, cs, e1⟩ := hq6.blk e
                            exact absurd (two_tags e1 (((Kept.refl No W).alloc _).at' hs (fun e => e))) (by decide)
                          have FI : Hid (∀ W ya yc wb v', Kept No w5 W → Mg W (.slice ya x.length yc) x → Kept (fun kk => (wv k).ownBlock = some kk) (W.alloc (.cells #[.slice ya x.length yc] 22)) wb → Qr wb w.heap.size 22 v' (wm k ++ [.slice ya x.length yc]) → (v'.ownBlock = (wv k).ownBlock ∨ ∃ kk, v'.ownBlock = some kk ∧ (W.alloc (.cells #[.slice ya x.length yc] 22)).heap.size ≤ kk) → wb.heap[z]? = some (.cells #[.int .i64 kd, .int .i64 prt, .slice da x.length dc, .int .i64 nw, .int .i64 srt, .bool ou] 44) → Wy.Ok w (wb.setCell ⟨gw, k, none⟩ v') q pv (some ⟨pb, po, none⟩) m lc fs part b mb m gw gl (i + 1) ∧ wb.cell? ⟨gw, k, none⟩ = some (.slice va (S.en k).ms.length vc) ∧ wb.frozen? ⟨gw, k, none⟩ = false ∧ (wb.setCell ⟨gw, k, none⟩ v').heap[z]? = some (.cells #[.int .i64 kd, .int .i64 prt, .slice da x.length dc, .int .i64 nw, .int .i64 srt, .bool ou] 44)) := fun W ya yc wb v' kk hm K2 q2 l2 hs => by
                            obtain ⟨⟨S2, wv2, wm2, lo2, h2, C2⟩, c2, f2⟩ := HW.out.2.1.push (o := .map #[] 0) HW.out.2.2.1 hkm HK.out.2.2.1 HK.out.2.1 hyf D5.out (kk.alloc (.cells #[.slice ya x.length yc] 22)) (hm.kept ((Kept.refl No W).alloc _) (fun _ _ _ e => e)) K2 q2 l2
                            refine ⟨⟨S2, wv2, wm2, lo2, h2, C2.later (by omega)⟩, by rw [← HWV.out.1]; exact c2, f2, ?_⟩
                            have hne : ¬ z = gw := fun e => by
                              obtain ⟨cw2, e1, _⟩ := h2.wt
                              rw [e] at hs
                              have e3 := set_blk hs k v'
                              exact absurd (two_tags e3 e1) (by decide)
                            exact ((Kept.refl (fun j => j = gw) wb).setCell (p := ⟨gw, k, none⟩) (.inl rfl) _).at' hs hne
                          have HZ5 := hid hz5
                          clear hy5 HW h6 d0 d3 HMI HQU HK HWV HRM hlen hpk hdp hszk hfull hvc1 hvc2 D5 k5 hzs5 hz5 HZG
                          generalize (fs k).sz = fsz at *
                          generalize (fs k).dp = fdp at *
                          generalize (S.en k).ms.length = L at *
                          go_quiet (fail)
                          go_upto_region 18 with fail
                          go_quiet (fail)
                          go_upto_region 21 with fail
                          clear hyf hyb hlb t3 t4 cI d1 d2
                          have KD0 : ∀ N, Kept No w5 (w5.drewN N) := fun N => (Kept.refl No w5).drewN N
                          refine wp_region_held_drew (S := fun W => W.heap[z]? = some (.cells #[.int .i64 kd, .int .i64 prt, .slice da x.length dc, .int .i64 nw, .int .i64 srt, .bool ou] 44)) (by kernel_rfl) HZ5.out (fun hS => ?_)
                          have KD : Hid (∀ N M, Kept No w5 ((w5.drewN N).drewN M).drew) := fun N M => ((KD0 N).drewN M).drew
                          refine d_take 0 155 rfl rfl (by kernel_rfl) (by kernel_rfl) (by kernel_rfl) (fun _ _ _ h => h) rfl (fun w' hw' => er_mv _ rfl (.slice (some ⟨gw, 0, none⟩) m m) rfl) hS ?_
                          simp only [Act.put, List.setIfInBounds_toArray, List.set_cons_zero, List.set_cons_succ]
                          refine d_take 1 156 rfl rfl (by kernel_rfl) (by kernel_rfl) (by kernel_rfl) (fun _ _ _ h => h) rfl (fun w' hw' => er_fO1 _ rfl z rfl) hS ?_
                          simp only [Act.put, List.setIfInBounds_toArray, List.set_cons_zero, List.set_cons_succ]
                          refine d_take 2 157 rfl rfl (by kernel_rfl) (by kernel_rfl) (by kernel_rfl) (fun _ _ _ h => h) rfl (fun w' hw' => er_ldi _ rfl z 1 (.int .i64 prt) rfl ((cell_blk hw' 1).trans rfl)) hS ?_
                          simp only [Act.put, List.setIfInBounds_toArray, List.set_cons_zero, List.set_cons_succ]
                          refine d_take 3 158 rfl rfl (by kernel_rfl) (by kernel_rfl) (by kernel_rfl) (fun _ _ _ h => h) rfl (fun w' hw' => er_sub1 _ rfl prt k rfl hps hk4) hS ?_
                          simp only [Act.put, List.setIfInBounds_toArray, List.set_cons_zero, List.set_cons_succ]
                          refine d_take 4 159 rfl rfl (by kernel_rfl) (by kernel_rfl) (by kernel_rfl) (fun _ _ _ h => h) rfl (fun w' hw' => er_mv _ rfl (.slice (some ⟨gw, 0, none⟩) m m) rfl) hS ?_
                          simp only [Act.put, List.setIfInBounds_toArray, List.set_cons_zero, List.set_cons_succ]
                          refine d_take 5 160 rfl rfl (by kernel_rfl) (by kernel_rfl) (by kernel_rfl) (fun _ _ _ h => h) rfl (fun w' hw' => er_fO1 _ rfl z rfl) hS ?_
                          simp only [Act.put, List.setIfInBounds_toArray, List.set_cons_zero, List.set_cons_succ]
                          refine d_take 6 161 rfl rfl (by kernel_rfl) (by kernel_rfl) (by kernel_rfl) (fun _ _ _ h => h) rfl (fun w' hw' => er_ldi _ rfl z 1 (.int .i64 prt) rfl ((cell_blk hw' 1).trans rfl)) hS ?_
                          simp only [Act.put, List.setIfInBounds_toArray, List.set_cons_zero, List.set_cons_succ]
                          refine d_take 7 162 rfl rfl (by kernel_rfl) (by kernel_rfl) (by kernel_rfl) (fun _ _ _ h => h) rfl (fun w' hw' => er_sub1 _ rfl prt k rfl hps hk4) hS ?_
                          simp only [Act.put, List.setIfInBounds_toArray, List.set_cons_zero, List.set_cons_succ]
                          refine d_take 8 163 rfl rfl (by kernel_rfl) (by kernel_rfl) (by kernel_rfl) (fun _ _ _ h => h) rfl (fun w' hw' => er_ixB _ _ rfl gw k m m rfl rfl hkm) hS ?_
                          simp only [Act.put, List.setIfInBounds_toArray, List.set_cons_zero, List.set_cons_succ]
                          refine d_take 10 165 rfl rfl (by kernel_rfl) (by kernel_rfl) (by kernel_rfl) (fun _ _ _ h => h) rfl (fun w' hw' => er_fO2 _ rfl z rfl) hS ?_
                          simp only [Act.put, List.setIfInBounds_toArray, List.set_cons_zero, List.set_cons_succ]
                          refine d_take 11 166 rfl rfl (by kernel_rfl) (by kernel_rfl) (by kernel_rfl) (fun _ _ _ h => h) rfl (fun w' hw' => er_ldL _ rfl z 2 (.slice da x.length dc) rfl ((cell_blk hw' 2).trans rfl)) hS ?_
                          simp only [Act.put, List.setIfInBounds_toArray, List.set_cons_zero, List.set_cons_succ]
                          refine d_rc _ 9 164 12 167 (by kernel_rfl) rfl rfl rfl rfl rfl rfl (er_ldLL _ rfl gw k (.slice va L vc) rfl (L9.out _ (KD.out _ _))) (er_c_mk _ _ rfl (.slice da x.length dc) rfl) (CW.out _ (KD.out _ _)) hS ?_ ?_
                          · simp only [Act.put, List.setIfInBounds_toArray, List.set_cons_zero, List.set_cons_succ]
                            refine d_callN _ 12 167 (by kernel_rfl) rfl rfl rfl (er_c_mk _ _ rfl (.slice da x.length dc) rfl) (CW.out _ (KD.out _ _)) ?_
                            rintro u wx hSx ⟨ya, yc, rfl, mx, kx⟩
                            have MX := hid mx
                            have KX := hid kx
                            clear mx kx
                            have hS := hSx
                            simp only [Act.put, List.setIfInBounds_toArray, List.set_cons_zero, List.set_cons_succ]
                            refine d_make 13 168 (by kernel_rfl) rfl rfl rfl (er_bsL _ rfl ya x.length yc rfl) (KA.out wx ((KD.out _ _).trans KX.out (fun _ e => e.elim)) ya yc hS) ?_
                            simp only [Act.put, List.setIfInBounds_toArray, List.set_cons_zero, List.set_cons_succ]
                            obtain ⟨v', wb, hr, q', k', l', S'⟩ := AP.out wx ((KD.out _ _).trans KX.out (fun _ e => e.elim)) hSx ya yc
                            obtain ⟨za, zc, hz', _⟩ := q'.shape
                            subst hz'
                            obtain ⟨HF, c', f', SF⟩ := FI.out wx ya yc wb _ ((KD.out _ _).trans KX.out (fun _ e => e.elim)) MX.out k' q' l' S'
                            refine d_make 14 169 (by kernel_rfl) rfl rfl rfl (er_appL _ _ rfl (.slice va L vc) (.slice (some ⟨wx.heap.size, 0, none⟩) 1 1) rfl rfl _ _ rfl hr) S' ?_
                            simp only [Act.put, List.setIfInBounds_toArray, List.set_cons_zero, List.set_cons_succ]
                            refine d_take 15 170 rfl rfl (by kernel_rfl) (by kernel_rfl) (by kernel_rfl) (fun _ _ _ h => h) rfl (fun w' hw' => er_ixB _ _ rfl gw k m m rfl rfl hkm) S' ?_
                            simp only [Act.put, List.setIfInBounds_toArray, List.set_cons_zero, List.set_cons_succ]
                            refine d_turn 16 (by kernel_rfl) rfl rfl rfl (er_stLL _ _ rfl gw k (.slice va L vc) za _ zc rfl rfl c' f') SF ?_
                            refine wpAnyH_done (by kernel_rfl) ?_ _
                            have HG := hid HF
                            clear hr q' k' l' c' f' HF S' SF
                            go_wp2
                            go_meet
                            case rel => exact HG.out
                          · rintro u wx hSx ⟨ya, yc, rfl, mx, kx⟩
                            have MX := hid mx
                            have KX := hid kx
                            clear mx kx
                            have hS := hSx
                            simp only [Act.put, List.setIfInBounds_toArray, List.set_cons_zero, List.set_cons_succ]
                            refine d_pair 9 164 13 168 (by kernel_rfl) rfl rfl rfl rfl rfl rfl (er_ldLL _ rfl gw k (.slice va L vc) rfl (L9.out _ ((KD.out _ _).trans KX.out (fun _ e => e.elim)))) (er_bsL _ rfl ya x.length yc rfl) hS (KA.out wx ((KD.out _ _).trans KX.out (fun _ e => e.elim)) ya yc hS) ?_ ?_
                            · simp only [Act.put, List.setIfInBounds_toArray, List.set_cons_zero, List.set_cons_succ]
                              refine d_make 13 168 (by kernel_rfl) rfl rfl rfl (er_bsL _ rfl ya x.length yc rfl) (KA.out wx ((KD.out _ _).trans KX.out (fun _ e => e.elim)) ya yc hS) ?_
                              simp only [Act.put, List.setIfInBounds_toArray, List.set_cons_zero, List.set_cons_succ]
                              obtain ⟨v', wb, hr, q', k', l', S'⟩ := AP.out wx ((KD.out _ _).trans KX.out (fun _ e => e.elim)) hSx ya yc
                              obtain ⟨za, zc, hz', _⟩ := q'.shape
                              subst hz'
                              obtain ⟨HF, c', f', SF⟩ := FI.out wx ya yc wb _ ((KD.out _ _).trans KX.out (fun _ e => e.elim)) MX.out k' q' l' S'
                              refine d_make 14 169 (by kernel_rfl) rfl rfl rfl (er_appL _ _ rfl (.slice va L vc) (.slice (some ⟨wx.heap.size, 0, none⟩) 1 1) rfl rfl _ _ rfl hr) S' ?_
                              simp only [Act.put, List.setIfInBounds_toArray, List.set_cons_zero, List.set_cons_succ]
                              refine d_take 15 170 rfl rfl (by kernel_rfl) (by kernel_rfl) (by kernel_rfl) (fun _ _ _ h => h) rfl (fun w' hw' => er_ixB _ _ rfl gw k m m rfl rfl hkm) S' ?_
                              simp only [Act.put, List.setIfInBounds_toArray, List.set_cons_zero, List.set_cons_succ]
                              refine d_turn 16 (by kernel_rfl) rfl rfl rfl (er_stLL _ _ rfl gw k (.slice va L vc) za _ zc rfl rfl c' f') SF ?_
                              refine wpAnyH_done (by kernel_rfl) ?_ _
                              have HG := hid HF
                              clear hr q' k' l' c' f' HF S' SF
                              go_wp2
                              go_meet
                              case rel => exact HG.out
                            · simp only [Act.put, List.setIfInBounds_toArray, List.set_cons_zero, List.set_cons_succ]
                              have hS := KA.out wx ((KD.out _ _).trans KX.out (fun _ e => e.elim)) ya yc hS
                              refine d_read 9 164 (by kernel_rfl) rfl rfl rfl (er_ldLL _ rfl gw k (.slice va L vc) rfl (L9.out _ (((KD.out _ _).trans KX.out (fun _ e => e.elim)).alloc _))) hS ?_
                              simp only [Act.put, List.setIfInBounds_toArray, List.set_cons_zero, List.set_cons_succ]
                              obtain ⟨v', wb, hr, q', k', l', S'⟩ := AP.out wx ((KD.out _ _).trans KX.out (fun _ e => e.elim)) hSx ya yc
                              obtain ⟨za, zc, hz', _⟩ := q'.shape
                              subst hz'
                              obtain ⟨HF, c', f', SF⟩ := FI.out wx ya yc wb _ ((KD.out _ _).trans KX.out (fun _ e => e.elim)) MX.out k' q' l' S'
                              refine d_make 14 169 (by kernel_rfl) rfl rfl rfl (er_appL _ _ rfl (.slice va L vc) (.slice (some ⟨wx.heap.size, 0, none⟩) 1 1) rfl rfl _ _ rfl hr) S' ?_
                              simp only [Act.put, List.setIfInBounds_toArray, List.set_cons_zero, List.set_cons_succ]
                              refine d_take 15 170 rfl rfl (by kernel_rfl) (by kernel_rfl) (by kernel_rfl) (fun _ _ _ h => h) rfl (fun w' hw' => er_ixB _ _ rfl gw k m m rfl rfl hkm) S' ?_
                              simp only [Act.put, List.setIfInBounds_toArray, List.set_cons_zero, List.set_cons_succ]
                              refine d_turn 16 (by kernel_rfl) rfl rfl rfl (er_stLL _ _ rfl gw k (.slice va L vc) za _ zc rfl rfl c' f') SF ?_
                              refine wpAnyH_done (by kernel_rfl) ?_ _
                              have HG := hid HF
                              clear hr q' k' l' c' f' HF S' SF
                              go_wp2
                              go_meet
                              case rel => exact HG.out
                    ·
                      as_aux_lemma =>
                        have PU := hid (push_arg wz HW.out.2.1.pt h6.out HK.out.1 HK.out.2.1 da x.length dc (by rw [HK.out.2.2.2.2.1]; exact hlen))
                        go_upto_region 17 with (go_at_call 13; refine PU.out.mono ?_; rintro e w5 ⟨rfl, hw5⟩; obtain rfl := hw5.symm; clear PU)
                        have HE : Hid (∀ W, Kept No wz W → Wy.Ok w W q pv (some ⟨pb, po, none⟩) m lc fs part b mb m gw gl (i + 1)) := fun W k => ⟨S, wv, wm, lo, HW.out.2.1.keep k, (HW.out.2.2.1.keep k).later (by omega)⟩
                        have hlb : ((x.length : Int) == (fs k).sz) = false := by simp [hlen]
                        obtain ⟨cI, _, _, t3, t4, tw, hcap, hmx⟩ := HW.out.2.1.af hkm
                        clear HW h6 d0 d3 HMI HQU HK HWV HRM hlen hpk tw t4 hdp hszk
                        generalize (fs k).sz = fsz at *
                        go_quiet (fail)
                        go_upto_region 18 with fail
                        go_quiet (fail)
                        go_wp2
                        go_meet
                        case rel => exact HE.out _ (by first | exact (Kept.refl No _).drewN _ | exact ((Kept.refl No _).drewN _).drewN _ | exact Kept.refl No _)
                · have hb1 : (kd == 1) = false := by simp [hk1]
                  by_cases hk2 : kd = 2
                  · have hb2 : (kd == 2) = true := by simp [hk2]
                    cases qu with
                    | false =>
                      as_aux_lemma =>
                        have hq : S.queB prt = false := HQU.out.symm
                        have PU := hid (pop_port wz HW.out.2.1.pt h6.out hq)
                        have HE : Hid (∀ W, Kept No wz W → Wy.Ok w W q pv la m lc fs part b mb m gw gl (i + 1)) := fun W k => ⟨S, wv, wm, lo, HW.out.2.1.keep k, (HW.out.2.2.1.keep k).later (by omega)⟩
                        go_upto_region 24 with (go_at_call 15; refine PU.out.mono ?_; rintro e w5 ⟨rfl, hw5⟩; obtain rfl := hw5.symm; clear PU)
                        clear HW h6 hpl hq d0 d1 d2 d3 HMI HQU
                        go_wp2
                        go_meet
                        case rel => exact HE.out _ (by first | exact (Kept.refl No _).drewN _ | exact ((Kept.refl No _).drewN _).drewN _ | exact Kept.refl No _)
                    | true =>
                      obtain ⟨k, hix, hkd⟩ := Pd.queB_yes HQU.out.symm
                      obtain ⟨hkm, hown, hprt⟩ := HW.out.2.1.own_idx hix
                      obtain ⟨fk1, fk2, fk3⟩ := HW.out.2.1.frm k hkm hown
                      obtain ⟨pb, po, hla, _⟩ := hpl.out.at' k hkm
                      subst hla
                      have hsub : wrap64 (prt - 1) = (k : Int) := by rw [hprt]; unfold wrap64; omega
                      have hpk := hid hprt
                      have HK : Hid (S.idx prt = some k ∧ (S.en k).kd = 1 ∧ S.own k = true ∧ (S.en k).kd = (fs k).kd ∧ (S.en k).sz = (fs k).sz ∧ (S.en k).dp = (fs k).dp) := ⟨hix, hkd, hown, fk1, fk2, fk3⟩
                      obtain ⟨va, vc, hwv, hvc1, hvc2, hwl⟩ := HW.out.2.1.wvs HW.out.2.2.1 hkm hown hkd
                      have HWV : Hid (wv k = .slice va (S.en k).ms.length vc ∧ (wm k).length = (S.en k).ms.length) := ⟨hwv, hwl⟩
                      have hrm := HW.out.2.1.room k hkm hown hkd
                      have hdp := (FT.out k).1
                      have hszk := (FT.out k).2.1
                      have HRM := hid hrm
                      clear hix hkd hown hprt fk1 fk2 fk3 hpl hwv hwl hrm
                      by_cases hl0 : (S.en k).ms.length = 0
                      ·
                        as_aux_lemma =>
                          have hm0 : (S.en k).ms = [] := List.eq_nil_of_length_eq_zero hl0
                          have PU := hid (pop_empty wz HW.out.2.1.pt h6.out HK.out.1 HK.out.2.1 hm0)
                          go_upto_region 24 with (go_at_call 15; refine PU.out.mono ?_; rintro e w5 ⟨rfl, k5⟩; have K5 := hid k5; clear PU k5)
                          have hy5 := HW.out.2.1.keep K5.out
                          have HE : Hid (∀ W, Kept No w5 W → Wy.Ok w W q pv (some ⟨pb, po, none⟩) m lc fs part b mb m gw gl (i + 1)) := fun W k => ⟨S, wv, wm, lo, hy5.keep k, ((HW.out.2.2.1.keep K5.out).keep k).later (by omega)⟩
                          obtain ⟨cI, _, _, t3, t4, tw, hcap, hmx⟩ := hy5.af hkm
                          rw [HWV.out.1] at tw
                          have d1 : w5.cell? ⟨z, 1, none⟩ = some (.int .i64 prt) := K5.out.cell d1 (fun e => e)
                          rw [hl0] at tw
                          clear hy5 HW h6 d0 d2 d3 HMI HQU HK HWV HRM hpk hdp hszk hvc1 hvc2 K5 t3 t4 cI hl0 hm0
                          go_wp2
                          go_meet
                          case rel => exact HE.out _ (by first | exact (Kept.refl No _).drewN _ | exact ((Kept.refl No _).drewN _).drewN _ | exact Kept.refl No _)
                      ·
                        as_aux_lemma =>
                          obtain ⟨mm, ms', hm1⟩ : ∃ mm ms', (S.en k).ms = mm :: ms' := by
                            cases hms : (S.en k).ms with
                            | nil => rw [hms] at hl0; exact absurd rfl hl0
                            | cons a l => exact ⟨a, l, rfl⟩
                          have hE := HW.out.2.1.pt.ends k (by rw [HW.out.2.1.sn]; exact hkm) HK.out.2.2.1
                          obtain ⟨y, xs', hx1⟩ : ∃ y xs', (S.en k).xs = y :: xs' := by
                            have hl := hE.len
                            cases hms : (S.en k).xs with
                            | nil => rw [hms, hm1] at hl; simp at hl
                            | cons a l => exact ⟨a, l, rfl⟩
                          obtain ⟨mv, wms, hw1⟩ : ∃ mv wms, wm k = mv :: wms := by
                            have hl := HWV.out.2
                            cases hms : wm k with
                            | nil => rw [hms, hm1] at hl; simp at hl
                            | cons a l => exact ⟨a, l, rfl⟩
                          have hwl : wms.length = ms'.length := by
                            have hl := HWV.out.2
                            rw [hw1, hm1, List.length_cons, List.length_cons] at hl
                            omega
                          have hlm : ms'.length + 1 ≤ 64 := by
                            have h1 := HRM.out.2
                            rw [hm1, List.length_cons] at h1
                            omega
                          have PU := hid (pop_one wz HW.out.2.1.pt h6.out HK.out.1 HK.out.2.1 hm1 hx1 (by omega))
                          obtain ⟨_, _, _, _, hmg⟩ := HW.out.2.2.1 k hkm HK.out.2.2.1 HK.out.2.1 (fun e => e)
                          have hmg0 := hmg 0 mv y (by rw [hw1]; rfl) (by rw [hx1]; rfl)
                          have hq0 := HW.out.2.1.que k hkm
                          obtain ⟨g9, o9, cap9, hv9, hc91, hc92, _, c9, _⟩ := hq0.look (i := 0) (u := mv) (by rw [hw1]; rfl)
                          obtain ⟨ma, mn, mc, hmm⟩ : ∃ ma mn mc, mm = .slice ma mn mc := own_slice (hE.msg 0 mm y (by rw [hm1]; rfl) (by rw [hx1]; rfl))
                          subst hmm
                          go_upto_region 24 with (go_at_call 15; refine PU.out.mono ?_; rintro e w5 ⟨rfl, it, d5, om5, _⟩; have D5 := hid d5; have OM := hid om5; clear PU d5 om5)
                          obtain ⟨_, k5, fp5, _⟩ := HW.out.2.1.pt.did (by rw [HW.out.2.1.sn]; exact hkm) HK.out.2.2.1 D5.out
                          have hz5 := HW.out.2.1.zk k5 HW.out.1
                          have hy5 := HW.out.2.1.did hkm HK.out.2.2.1 D5.out rfl rfl rfl (fun _ => ⟨HRM.out.1, by show (ms'.length : Int) ≤ _; have h1 := HRM.out.2; rw [hm1, List.length_cons] at h1; omega⟩)
                          have mg5 := HW.out.2.1.mgs hkm HK.out.2.2.1 D5.out hmg0
                          have tw := hy5.wcell hkm
                          rw [hw1, List.length_cons] at hv9 hc91
                          rw [hv9] at tw
                          have hf9 : ¬ Pw S g9 := fun q => HW.out.2.1.far k g9 hkm (by rw [hv9]; rfl) (Pt.pw_pf q)
                          have c95 : w5.cell? ⟨g9, o9, none⟩ = some mv := k5.cell c9 hf9
                          have d1 : w5.cell? ⟨z, 1, none⟩ = some (.int .i64 prt) := (cell_blk hz5 1).trans rfl
                          obtain ⟨ya, yc, hmv, hzy⟩ := mg5
                          obtain ⟨ma', mc', hmv2, hzm⟩ := Zs.of_owns OM.out
                          injection hmv2 with e1 e2 e3
                          subst e1 e2 e3
                          have SA := hid (same_any w5 hzm hzy)
                          subst hmv
                          have hps : prt - 1 = (k : Int) := by rw [hpk.out]; omega
                          have hk4 : k ≤ 4096 := by omega
                          have KZ : Hid (∀ W, Kept No w5 W → W.heap[z]? = some (.cells #[.int .i64 kd, .int .i64 prt, .slice da x.length dc, .int .i64 nw, .int .i64 srt, .bool ou] 44) ∧ W.cell? ⟨gw, k, none⟩ = some (.slice (some ⟨g9, o9, none⟩) (wms.length + 1) cap9) ∧ W.frozen? ⟨gw, k, none⟩ = false ∧ W.cell? ⟨z, 1, none⟩ = some (.int .i64 prt) ∧ ∀ v', v' = Value.slice (if cap9 = 1 then some ⟨g9, o9, none⟩ else some ⟨g9, o9 + 1, none⟩) wms.length (cap9 - 1) → Wy.Ok w (W.setCell ⟨gw, k, none⟩ v') q pv (some ⟨pb, po, none⟩) m lc fs part b mb m gw gl (i + 1)) := fun W kk => by
                            refine ⟨kk.at' hz5 (fun e => e), kk.cell tw (fun e => e), (hy5.keep kk).wfz k, kk.cell d1 (fun e => e), fun v' hv' => ?_⟩
                            subst hv'
                            obtain ⟨S2, wv2, wm2, lo2, h2, C2⟩ := HW.out.2.1.pop HW.out.2.2.1 hkm HK.out.2.2.1 HK.out.2.1 hm1 hx1 D5.out kk hw1 (by rw [hv9]; rfl)
                            exact ⟨S2, wv2, wm2, lo2, h2, C2.later (by omega)⟩
                          have hgt : (0 : Int) < ((wms.length + 1 : Nat) : Int) := by omega
                          have hgb : decide ((0 : Int) < ((wms.length + 1 : Nat) : Int)) = true := decide_eq_true hgt
                          clear hy5 HW h6 d0 d2 d3 HMI HQU HK HWV HRM hpk hdp hszk hvc1 hvc2 D5 OM k5 hz5 hq0 hE hmg hmg0 hv9 c9 hf9 fp5 hm1 hx1 hw1 hwl hlm hzm hzy hl0 HZG
                          generalize y.length = yn at *
                          push_cast at hgt hgb
                          generalize hL : wms.length = L at *
                          clear hL
                          go_upto_region 26 with fail
                          go_upto_region 29 with (go_at_call 12; refine SA.out.mono ?_; rintro e w6 ⟨rfl, k6⟩; have K6 := hid k6; clear k6 SA)
                          clear tw c95 d1 hgt hgb
                          obtain ⟨hz6, tw6, fw6, d16, FI⟩ := KZ.out w6.drew (K6.out.drew)
                          have FH := hid FI
                          clear FI KZ
                          by_cases h1 : cap9 = 1
                          · have hL0 : L = 0 := by omega
                            subst h1 hL0
                            have hF2 := hid (FH.out _ rfl)
                            rw [if_pos rfl] at hF2
                            clear FH
                            go_region
                            go_wp2
                            go_meet
                            case rel => exact hF2.out
                          · have hF2 := hid (FH.out _ rfl)
                            rw [if_neg h1] at hF2
                            go_region
                            go_wp2
                            go_meet
                            case rel => exact hF2.out
                  · have hb2 : (kd == 2) = false := by simp [hk2]
                    by_cases hk3 : kd = 3
                    · have hb3 : (kd == 3) = true := by simp [hk3]
                      cases hqo : S.ownB prt 1 false with
                      | false =>
                        as_aux_lemma =>
                          have hq : S.ownB prt 1 false = false := hqo
                          have PU := hid (lose_port wz HW.out.2.1.pt h6.out hq)
                          have HE : Hid (∀ W, Kept No wz W → Wy.Ok w W q pv la m lc fs part b mb m gw gl (i + 1)) := fun W k => ⟨S, wv, wm, lo, HW.out.2.1.keep k, (HW.out.2.2.1.keep k).later (by omega)⟩
                          go_upto_region 32 with (go_at_call 16; refine PU.out.mono ?_; rintro e w5 ⟨rfl, hw5⟩; obtain rfl := hw5.symm; clear PU)
                          clear HW h6 hpl hq hqo d0 d1 d2 d3 HMI HQU
                          go_wp2
                          go_meet
                          case rel => exact HE.out _ (by first | exact (Kept.refl No _).drewN _ | exact ((Kept.refl No _).drewN _).drewN _ | exact Kept.refl No _)
                      | true =>
                        as_aux_lemma =>
                          obtain ⟨k, hix, hkd, hko⟩ := Pd.ownB_yes hqo
                          obtain ⟨hkm, hown, hprt⟩ := HW.out.2.1.own_idx hix
                          have hqt : qu = true := by
                            rw [HQU.out]
                            unfold Pd.queB
                            rw [hix]
                            show ((S.en k).kd == 1) = true
                            rw [hkd]
                            rfl
                          obtain ⟨a1, a2, a3, a4, a5⟩ := HW.out.2.2.1 k hkm hown hkd (fun e => e)
                          have hsub : wrap64 (prt - 1) = (k : Int) := by rw [hprt]; unfold wrap64; omega
                          have PU := hid (lose_yes wz HW.out.2.1.pt h6.out hqo hix (by omega) (by omega))
                          have HWL := hid (show wrap64 (lo k + 1) = lo k + 1 by unfold wrap64; omega)
                          have HX : Hid (S.own k = true ∧ (S.en k).kd = 1) := ⟨hown, hkd⟩
                          clear a1 a2 a3 a4 a5 hix hkd hko hown hprt hqo
                          go_upto_region 32 with (go_at_call 16; refine PU.out.mono ?_; rintro e w5 ⟨rfl, d5⟩; have D5 := hid d5; clear PU d5)
                          obtain ⟨_, k5, _, _⟩ := HW.out.2.1.pt.did (by rw [HW.out.2.1.sn]; exact hkm) HX.out.1 D5.out
                          have hz5 := HW.out.2.1.zk k5 HW.out.1
                          have d1 : w5.cell? ⟨z, 1, none⟩ = some (.int .i64 prt) := (cell_blk hz5 1).trans rfl
                          obtain ⟨hok, c5, f5⟩ := HW.out.2.1.lose HW.out.2.2.1 hkm HX.out.1 HX.out.2 D5.out
                          have HOK := hid hok
                          have hwl := HWL.out
                          subst hqt
                          clear HW h6 hpl d0 d2 d3 HMI HQU D5 k5 hz5 hok HWL HX
                          generalize lo k = lk at *
                          go_wp2
                          go_meet
                          case rel => exact HOK.out
                    · have hb3 : (kd == 3) = false := by simp [hk3]
                      by_cases hk4 : kd = 4
                      · have hb4 : (kd == 4) = true := by simp [hk4]
                        cases hqo : S.ownB prt 0 false with
                        | false =>
                          as_aux_lemma =>
                            have PU := hid (set_port wz HW.out.2.1.pt h6.out hqo da x.length dc nw)
                            have HE : Hid (∀ W, Kept No wz W → Wy.Ok w W q pv la m lc fs part b mb m gw gl (i + 1)) := fun W k => ⟨S, wv, wm, lo, HW.out.2.1.keep k, (HW.out.2.2.1.keep k).later (by omega)⟩
                            go_upto_region 38 with (go_at_call 10; refine PU.out.mono ?_; rintro e w5 ⟨rfl, hw5⟩; obtain rfl := hw5.symm; clear PU)
                            clear HW h6 hpl hqo d0 d1 d2 d3 HMI HQU
                            go_wp2
                            go_meet
                            case rel => exact HE.out _ (by first | exact (Kept.refl No _).drewN _ | exact ((Kept.refl No _).drewN _).drewN _ | exact Kept.refl No _)
                        | true =>
                          obtain ⟨k, hix, hkd, hko⟩ := Pd.ownB_yes hqo
                          obtain ⟨hkm, hown, hprt⟩ := HW.out.2.1.own_idx hix
                          obtain ⟨fk1, fk2, fk3⟩ := HW.out.2.1.frm k hkm hown
                          have hszk := (FT.out k).2.1
                          clear hprt
                          by_cases hsa : (x.length : Int) = (fs k).sz ∧ tickB nw = true
                          ·
                            as_aux_lemma =>
                              have hmt : mi = true := by rw [HMI.out, hix]; rfl
                              have hqf : qu = false := by
                                rw [HQU.out]
                                unfold Pd.queB
                                rw [hix]
                                show ((S.en k).kd == 1) = false
                                rw [hkd]
                                rfl
                              have PU := hid (set_yes wz HW.out.2.1.pt h6.out hqo hix nw HW.out.2.2.2 (by rw [fk2]; exact hsa.1) hsa.2 (by omega))
                              go_upto_region 38 with (go_at_call 10; refine PU.out.mono ?_; rintro e w5 ⟨rfl, v5, d5⟩; have D5 := hid d5; clear PU d5)
                              obtain ⟨S2, wv2, wm2, lo2, h2, C2⟩ := HW.out.2.1.set HW.out.2.2.1 hkm hown hkd D5.out
                              have HE : Hid (∀ W, Kept No w5 W → Wy.Ok w W q pv la m lc fs part b mb m gw gl (i + 1)) := fun W k => ⟨S2, wv2, wm2, lo2, h2.keep k, (C2.keep k).later (by omega)⟩
                              clear HMI HQU
                              subst hmt hqf
                              clear HW h6 hpl hqo d0 d1 d2 d3 hix hkd hko hown fk1 fk2 fk3 hsa D5 h2 C2
                              go_wp2
                              go_meet
                              case rel => exact HE.out _ (by first | exact (Kept.refl No _).drewN _ | exact ((Kept.refl No _).drewN _).drewN _ | exact Kept.refl No _)
                          ·
                            as_aux_lemma =>
                              have PU := hid (set_arg wz HW.out.2.1.pt h6.out hqo hix da x.length dc nw (by rw [fk2]; exact hsa))
                              have HE : Hid (∀ W, Kept No wz W → Wy.Ok w W q pv la m lc fs part b mb m gw gl (i + 1)) := fun W k => ⟨S, wv, wm, lo, HW.out.2.1.keep k, (HW.out.2.2.1.keep k).later (by omega)⟩
                              go_upto_region 38 with (go_at_call 10; refine PU.out.mono ?_; rintro e w5 ⟨rfl, hw5⟩; obtain rfl := hw5.symm; clear PU)
                              clear HW h6 hpl hqo d0 d1 d2 d3 HMI HQU hix hkd hko hown fk1 fk2 fk3 hsa
                              go_wp2
                              go_meet
                              case rel => exact HE.out _ (by first | exact (Kept.refl No _).drewN _ | exact ((Kept.refl No _).drewN _).drewN _ | exact Kept.refl No _)
                      ·
                        have hb4 : (kd == 4) = false := by simp [hk4]
                        as_aux_lemma =>
                          have HE : Hid (∀ W, Kept No wz W → Wy.Ok w W q pv la m lc fs part b mb m gw gl (i + 1)) := fun W k => ⟨S, wv, wm, lo, HW.out.2.1.keep k, (HW.out.2.2.1.keep k).later (by omega)⟩
                          clear HW h6 hpl d1 d2 d3 HMI HQU
                          go_wp2
                          go_meet
                          case rel => exact HE.out _ (by first | exact (Kept.refl No _).drewN _ | exact ((Kept.refl No _).drewN _).drewN _ | exact Kept.refl No _)
              case rest =>
                as_aux_lemma =>
                  clear HW HMI HQU h6 hpl d0 d1 d2 d3 cI HZG
                  obtain ⟨S, wv, wm, lo, hy, hc⟩ := hcut
                  have HY := hid (⟨hy, hc⟩ : _ ∧ _)
                  clear hy hc
                  go_upto_region 41 with fail
                  go_loopw [24] (fun u wr => ∃ k : Nat, k ≤ m ∧ u = .int .i64 k ∧ Kept No wc wr) (fun u _ => m - (intOf u).toNat)
                  case atStart => exact ⟨0, Nat.zero_le _, rfl, Kept.refl No _⟩
                  case round =>
                    obtain ⟨k, hk, rfl, kk⟩ := hrel
                    have KK := hid kk
                    clear kk
                    by_cases hlt2 : k < m
                    · have hltz2 : (k : Int) < (m : Int) := by omega
                      obtain ⟨pb, po, hla, _⟩ := (HY.out.1.keep KK.out).pl.at' k hlt2
                      subst hla
                      obtain ⟨cI, t0, t1, t3, t4, tw, hcap, hmx⟩ := (HY.out.1.keep KK.out).af hlt2
                      by_cases hpt : (fs k).pt = part
                      · by_cases hkd : (fs k).kd = 1
                        ·
                          as_aux_lemma =>
                            have hpb : ((fs k).pt != part) = false := by simp [hpt]
                            have hkb : ((fs k).kd != 1) = false := by simp [hkd]
                            have hy5 := HY.out.1.keep KK.out
                            have hc5 := HY.out.2.keep KK.out
                            have hown : S.own k = true := by rw [hy5.own k hlt2]; simp [hpt]
                            have hkd2 : (S.en k).kd = 1 := by rw [(hy5.frm k hlt2 hown).1]; exact hkd
                            have hix : S.idx ((k : Int) + 1) = some k := Pd.idx_of (by rw [hy5.sn]; exact hlt2) hown
                            have cy := count_yes wr hy5.pt (x := (k : Int) + 1) (by unfold I6; omega) hix
                            obtain ⟨va, vc, hwv, hvc1, hvc2, hwl⟩ := hy5.wvs hc5 hlt2 hown hkd2
                            rw [hwv] at tw
                            obtain ⟨a1, _, _, _, _⟩ := hc5 k hlt2 hown hkd2 (fun e => e)
                            obtain ⟨r1, _⟩ := hy5.room k hlt2 hown hkd2
                            have tl := hy5.lcell hlt2
                            have hcn : (S.en k).cnt = ((S.en k).ms.length : Int) := by unfold En.cnt; rw [r1]; rfl
                            rw [hcn, a1] at cy
                            have CY := hid cy
                            have hw1 : wrap64 ((k : Int) + 1) = (k : Int) + 1 := by unfold wrap64; omega
                            have L5 : Hid (∀ W, Kept No wr W → W.cell? ⟨gw, k, none⟩ = some (.slice va (S.en k).ms.length vc) ∧ W.cell? ⟨gl, k, none⟩ = some (.int .i64 (lo k))) := fun W kk => ⟨kk.cell tw (fun e => e), kk.cell tl (fun e => e)⟩
                            have e1 : (((S.en k).ms.length : Int) != ((S.en k).ms.length : Int)) = false := by simp
                            have e2 : (lo k != lo k) = false := by simp
                            clear HY t3 t4 tw tl hpt hkd hkd2 hown hix hy5 hc5 hwv hwl a1 r1 hcn cy hvc1 hvc2
                            generalize (fs k).pt = fpt at *
                            generalize (fs k).kd = fkd at *
                            generalize (S.en k).ms.length = L at *
                            generalize lo k = lk at *
                            go_wp2_with (go_at_call 17; refine CY.out.mono ?_; rintro e w6 ⟨rfl, k6⟩; obtain ⟨tw, tl⟩ := L5.out w6 k6; have K6 := hid k6; clear k6 CY)
                            go_roundw
                            case rel => exact ⟨k + 1, by omega, by go_num, KK.out.trans K6.out (fun _ e => e.elim)⟩
                            case measure => simp [intOf]; omega
                        ·
                          as_aux_lemma =>
                            have hpb : ((fs k).pt != part) = false := by simp [hpt]
                            have hkb : ((fs k).kd != 1) = true := by simp [hkd]
                            clear HY t3 t4 tw hpt hkd
                            generalize (fs k).pt = fpt at *
                            generalize (fs k).kd = fkd at *
                            go_wp2
                            go_roundw
                            case rel => exact ⟨k + 1, by omega, by go_num, KK.out⟩
                            case measure => simp [intOf]; omega
                      ·
                        as_aux_lemma =>
                          have hpb : ((fs k).pt != part) = true := by simp [hpt]
                          clear HY hcap hmx t1 t3 t4 tw hpt
                          generalize (fs k).pt = fpt at *
                          go_wp2
                          go_roundw
                          case rel => exact ⟨k + 1, by omega, by go_num, KK.out⟩
                          case measure => simp [intOf]; omega
                    ·
                      as_aux_lemma =>
                        have hlz : ¬ (k : Int) < (m : Int) := by omega
                        have cI : wr.cell? ⟨q, 1, none⟩ = some (.slice la m lc) := (cell_blk (HY.out.1.keep KK.out).img 1).trans rfl
                        have HE : Hid (Wy.Ok w wr q pv la m lc fs part b mb m gw gl (i + 1)) := ⟨S, wv, wm, lo, HY.out.1.keep KK.out, HY.out.2.keep KK.out⟩
                        clear HY KK
                        go_wp2
                        go_roundw
                        case rel => exact ⟨i + 1, by omega, by go_num, HE.out⟩
                        case measure => simp [intOf]; omega
      ·
        as_aux_lemma =>
          have hltz : ¬ (i : Int) < (sn : Int) := by omega
          have KF := hid HY.out.1.kept
          have WK := works_any wr
          clear HY
          go_wp2_with (go_at_call 11; refine WK.mono ?_; rintro e w6 ⟨rfl, k6⟩; have K6 := hid k6; clear k6)
          go_ret
          exact ⟨rfl, KF.out.trans K6.out (fun _ e => e.elim)⟩
end Go.Proofs.Ythebokkogeigoaa
