/-
  script.Read of one text.
-/
import Derived.Test.YtfdcmhbpnadcpabDoorIShow
import Derived.Laws.IdiomStrings
namespace Go.Proofs.YtfdcmhbpnadcpabDoor
open Go.RowKit
set_option linter.unusedVariables false
set_option linter.unusedSimpArgs false
set_option maxRecDepth 100000

theorem results_cell_tmp {P : Program} {fn : Func} {p u : Tmp} {ty : TypeId} (h : fn.results = #[.cell p ty, .tmp u]) (tmps : Array Value) (w : World) (g : Nat) (t : TypeId) (cs : Array Value) (fr : Nat × Nat) (d : TypeDesc)
    (hp : tmps.getD p undef = .pointer (some ⟨g, 0, none⟩)) (hg : w.heap[g]? = some (.cells cs t fr))
    (hu : P.underlying ty = some d) (hd : (match d with | .struct _ | .array _ _ => true | _ => false) = true) (hi : (P.info? ty).map (·.size) = some cs.size) :
    (results fn tmps).run P w = .ok (.tuple #[.agg cs, tmps.getD u undef]) w := by
  have hp' : tmps[p]?.getD undef = .pointer (some ⟨g, 0, none⟩) := by simpa using hp
  simp [results, h, hp', asAddr, run_loadVar_row w g t ty cs fr d hg hu hd hi]
theorem built_x : Tryd.prog.built 34 [(0, .int .i64 7), (1, .int .i64 1), (2, .int .i64 2)] = some #[.int .i64 7, .int .i64 1, .int .i64 2, .slice none 0 0] := by kernel_rfl
theorem x_all (da : Option Addr) (n dc : Nat) : (#[.int .i64 7, .int .i64 1, .int .i64 2, .slice da n dc] : Array Value).all (·.oneCell') = true := by simp [Value.oneCell']
def lenS : Value → Nat
  | .string s => s.size
  | _ => 0
def lenB : Value → Nat
  | .bool true => 1
  | _ => 0
/-- where the reading stands: what is left, is there more, the words so far -/
def Rst (rest : ByteArray) (more : Bool) (n : Nat) (xs : List Int) : Prop :=
  rest = ⟨#[53, 32, 45, 49]⟩ ∧ more = true ∧ n = 0 ∧ xs = [] ∨ rest = ⟨#[45, 49]⟩ ∧ more = true ∧ n = 1 ∧ xs = [5] ∨ rest = ⟨#[]⟩ ∧ more = false ∧ n = 2 ∧ xs = [5, -1]
set_option maxHeartbeats 16000000 in
theorem read_one (w : World) : Calls Tryd.prog 52 #[.agg KM, .string ⟨#[55]⟩, .string ⟨#[50, 32, 53, 32, 45, 49]⟩] w fun r w' => ∃ da dc, r = .returned (.tuple #[.agg #[.int .i64 7, .int .i64 1, .int .i64 2, .slice da 2 dc], .bool true]) ∧ w'.ownsRow w.heap.size 2 1 (.slice da 2 dc) 2 ([5, -1].map iv) ∧ Kept No w w' := by
  obtain ⟨w2, e2⟩ : ∃ w2, w2 = (w.alloc (.cells #[.int .i64 1, .string ⟨#[109, 101, 115, 115, 97, 103, 101]⟩, .int .i64 64, .int .i64 1, .int .i64 16] 63)).alloc (.cells #[.int .i64 0, .int .i64 0, .int .i64 0, .slice none 0 0] 34) := ⟨_, rfl⟩
  have K1 : Kept No w w2 := by rw [e2]; exact ((Kept.refl No w).alloc _).alloc _
  have BA : w2.heap[w.heap.size]? = some (.cells #[.int .i64 1, .string ⟨#[109, 101, 115, 115, 97, 103, 101]⟩, .int .i64 64, .int .i64 1, .int .i64 16] 63) := by rw [e2]; exact ((Kept.refl No _).alloc _).at' (alloc_new w _) (fun e => e)
  have BR : w2.heap[w.heap.size + 1]? = some (.cells #[.int .i64 0, .int .i64 0, .int .i64 0, .slice none 0 0] 34) := by
    have := alloc_new (w.alloc (.cells #[.int .i64 1, .string ⟨#[109, 101, 115, 115, 97, 103, 101]⟩, .int .i64 64, .int .i64 1, .int .i64 16] 63)) (.cells #[.int .i64 0, .int .i64 0, .int .i64 0, .slice none 0 0] 34)
    rw [World.size_alloc] at this
    rw [e2]; exact this
  have S1 : Hid (w.heap.size + 1 < w2.heap.size) := heap_lt BR
  have HH := hid (And.intro K1 (And.intro BA BR))
  have C1 : Hid (∀ W, Calls Tryd.prog 32 #[.string ⟨#[50, 32, 53, 32, 45, 49]⟩, .string ⟨#[32]⟩] W fun e w'' => e = .returned (.tuple #[.string ⟨#[50]⟩, .string ⟨#[53, 32, 45, 49]⟩, .bool true]) ∧ Kept No W w'') := fun W => scut_yes 1 ⟨#[50]⟩ ⟨#[53, 32, 45, 49]⟩ W (by kernel_rfl) (by decide) (by decide) (by kernel_rfl) (by kernel_rfl)
  have C2 : Hid (∀ W, Calls Tryd.prog 32 #[.string ⟨#[53, 32, 45, 49]⟩, .string ⟨#[32]⟩] W fun e w'' => e = .returned (.tuple #[.string ⟨#[53]⟩, .string ⟨#[45, 49]⟩, .bool true]) ∧ Kept No W w'') := fun W => scut_yes 1 ⟨#[53]⟩ ⟨#[45, 49]⟩ W (by kernel_rfl) (by decide) (by decide) (by kernel_rfl) (by kernel_rfl)
  have C3 : Hid (∀ W, Calls Tryd.prog 32 #[.string ⟨#[45, 49]⟩, .string ⟨#[32]⟩] W fun e w'' => e = .returned (.tuple #[.string ⟨#[45, 49]⟩, .string ⟨#[]⟩, .bool false]) ∧ Kept No W w'') := fun W => scut_no W (by kernel_rfl)
  clear K1 BA BR
  show Calls Tryd.prog 52 #[.agg #[.int .i64 1, .string ⟨#[109, 101, 115, 115, 97, 103, 101]⟩, .int .i64 64, .int .i64 1, .int .i64 16], .string ⟨#[55]⟩, .string ⟨#[50, 32, 53, 32, 45, 49]⟩] w _
  go_enter Tryd.func52, Tryd.ntmps52
  go_upto_region 1 with fail
  rw [← e2]
  clear e2
  go_upto_region 2 with (go_at_call 32; refine (C1.out w2).mono ?_; rintro r w3 ⟨rfl, k3⟩; have K3 := hid k3; clear k3)
  go_upto_region 3 with (go_at_call 62; refine (rn_7 w3).mono ?_; rintro r w4 ⟨rfl, k4⟩; have K4 := hid (K3.out.trans k4 (fun _ e => e.elim)); clear k4 K3)
  go_upto_region 4 with (go_at_call 62; refine (rn_2 w4).mono ?_; rintro r w5 ⟨rfl, k5⟩; have K5 := hid (K4.out.trans k5 (fun _ e => e.elim)); clear k5 K4)
  have k0 : w5.cell? ⟨w.heap.size, 0, none⟩ = some (.int .i64 1) := K5.out.cell ((cell_blk HH.out.2.1 0).trans rfl) (fun e => e)
  go_upto_region 6 with fail
  go_cut [14] (fun u wd => ∃ pb, u = .pointer (some ⟨pb, 0, none⟩) ∧ wd.heap[pb]? = some (.cells #[.int .i64 7, .int .i64 1, .int .i64 2, .slice none 0 0] 34) ∧ w5.heap.size ≤ pb ∧ Kept No w5 wd)
  case first =>
    go_wp2_with (first
      | (refine l_take 45 rfl rfl (er_build 34 _ rfl _ (by kernel_rfl) _ built_x) ?_)
      | (refine l_make 14 rfl rfl (er_alI rfl) ?_)
      | (refine l_turn rfl rfl (er_stI _ _ rfl w5.heap.size #[.int .i64 7, .int .i64 1, .int .i64 2, .slice none 0 0] _ rfl rfl (alloc_new w5 _) rfl rfl (x_all _ _ _)) ?_))
    go_meet
    exact ⟨w5.heap.size, rfl, setRow_heap _ _ _ _ _ (0, 0) (alloc_new w5 _), Nat.le_refl _, ((Kept.refl No w5).alloc _).setRow (.inr (Nat.le_refl _)) _⟩
  case rest =>
  rename World => w6
  obtain ⟨pb, rfl, hpb, hpl, k6⟩ := hcut
  have K6 := hid (K5.out.trans k6 (fun _ e => e.elim))
  have HPB := hid (And.intro hpb (And.intro (heap_lt hpb) (Nat.le_trans K5.out.size hpl)))
  clear k6 hpb hpl k0 K5
  go_wp2
  go_loopw [2, 9] (fun u2 u9 wr => ∃ (rest : ByteArray) (more : Bool) (n : Nat) (xs : List Int) (da : Option Addr) (dc : Nat), u2 = .string rest ∧ u9 = .bool more ∧ Rst rest more n xs ∧ wr.heap[pb]? = some (.cells #[.int .i64 7, .int .i64 1, .int .i64 2, .slice da n dc] 34) ∧ wr.ownsRow w6.heap.size 2 1 (.slice da n dc) n (xs.map iv) ∧ n ≤ dc ∧ Kept (fun k => w2.heap.size ≤ k) w2 wr ∧ w6.heap.size ≤ wr.heap.size) (fun u2 u9 _ => lenS u2 + lenB u9)
  case atStart => exact ⟨_, _, 0, [], none, 0, rfl, rfl, .inl ⟨rfl, rfl, rfl, rfl⟩, HPB.out.1, World.ownsRow_nil _ _ _ _, Nat.le_refl _, K6.out.mono (fun _ e => e.elim), Nat.le_refl _⟩
  case round =>
    obtain ⟨rest, more, n, xs, da, dc, rfl, rfl, st, hb, ow, hdc, kr, hsz⟩ := hrel
    have m4 : wr.cell? ⟨w.heap.size, 4, none⟩ = some (.int .i64 16) := kr.cell ((cell_blk HH.out.2.1 4).trans rfl) (fun e => by have := S1.out; have e' : w2.heap.size ≤ w.heap.size := e; omega)
    have d3 : wr.cell? ⟨pb, 3, none⟩ = some (.slice da n dc) := (cell_blk hb 3).trans rfl
    have hcm := (own_cap ow).2
    rcases st with ⟨rfl, rfl, rfl, rfl⟩ | ⟨rfl, rfl, rfl, rfl⟩ | ⟨rfl, rfl, rfl, rfl⟩
    · have HR := hid (And.intro hb (And.intro ow (And.intro kr hsz)))
      clear hb ow kr hsz
      go_wp2_with (first
        | (go_at_call 32; refine (C2.out wr).mono ?_; rintro r w7 ⟨rfl, k7⟩; have K7 := hid k7; clear k7)
        | (go_at_call 62; refine (rn_5 w7).mono ?_; rintro r w8 ⟨rfl, k8⟩; have K8 := hid (K7.out.trans k8 (fun _ e => e.elim)); have b8 := K8.out.at' HR.out.1 (fun e => e); have d8 : w8.cell? ⟨pb, 3, none⟩ = some (.slice da 0 dc) := (cell_blk b8 3).trans rfl; have f8 := fz_blk b8 3; clear k8 b8 K7 d3 m4)
        | (at_builtin; refine wpList_apK rfl _ _ 32 2 rfl w6.heap.size (.int .i64 0) 1 8 Tryd.underlying32 Tryd.infoW rfl (by decide) (.slice da 0 dc) 0 _ rfl ((K8.out.alloc _).owns HR.out.2.1 (fun _ _ e => e)) (by rw [World.size_alloc]; have h1 := HR.out.2.2.2; have h2 := K8.out.size; omega) ⟨w8.heap.size, 0, none⟩ 1 1 [.int .i64 (5)] rfl rfl (news_alloc w8 #[.int .i64 (5)] 2) (by intro u hu; rw [List.mem_singleton] at hu; rw [hu]; rfl) (by omega) (by omega) (by decide) ?_; intro g9 c9 w9 o9 k9; have A9 : (w8.alloc (.cells #[.int .i64 (5)] 2)).heap[pb]? = some (.cells #[.int .i64 7, .int .i64 1, .int .i64 2, .slice da 0 dc] 34) := (K8.out.alloc _).at' HR.out.1 (fun e => e); have nb9 : ¬ (Value.slice da 0 dc).ownBlock = some pb := (fun e => by obtain ⟨_, cs, q⟩ := owns_blk HR.out.2.1 e; exact absurd (two_tags q HR.out.1) (by decide)); have B9 := k9.out.at' A9 nb9; have d9 : w9.cell? ⟨pb, 3, none⟩ = some (.slice da 0 dc) := (cell_blk B9 3).trans rfl; have f9 := fz_blk B9 3; have H9 := hid (And.intro B9 (And.intro o9.out k9.out)); clear A9 B9 o9 k9 nb9 d8 f8))
      have nb : ∀ g, (Value.slice (some ⟨g9, 0, none⟩) (0 + 1) c9).ownBlock = some g → ¬ g = pb := fun g hg e => by
        obtain ⟨_, cs, q⟩ := owns_blk H9.out.2.1 hg
        rw [e] at q
        exact absurd (two_tags q H9.out.1) (by decide)
      have KS : Kept (fun x => x = pb) w9 (w9.setCell ⟨pb, 3, none⟩ (.slice (some ⟨g9, 0, none⟩) (0 + 1) c9)) := (Kept.refl (fun x => x = pb) w9).setCell (p := ⟨pb, 3, none⟩) (.inl rfl) _
      have hc9 := own_cap H9.out.2.1
      refine ⟨⟨_, _, 0 + 1, [5], some ⟨g9, 0, none⟩, c9, rfl, rfl, .inr (.inl ⟨rfl, rfl, rfl, rfl⟩), set_blk H9.out.1 3 _, KS.owns H9.out.2.1 nb, hc9.1, ?_, ?_⟩, ?_⟩
      · exact ((HR.out.2.2.1.trans (K8.out.alloc _) (fun _ e => e.elim)).trans H9.out.2.2 (fun x e => .inl (Nat.le_trans K6.out.size (owns_blk HR.out.2.1 e).1))).trans KS (fun x e => .inl (by have e' : x = pb := e; rw [e']; exact HPB.out.2.2))
      · have h1 := HR.out.2.2.2
        have h2 := K8.out.size
        have h3 := H9.out.2.2.size
        have h4 := KS.size
        rw [World.size_alloc] at h3
        exact Nat.le_trans (by omega : w6.heap.size ≤ w9.heap.size) h4
      · decide
    · have HR := hid (And.intro hb (And.intro ow (And.intro kr hsz)))
      clear hb ow kr hsz
      go_wp2_with (first
        | (go_at_call 32; refine (C3.out wr).mono ?_; rintro r w7 ⟨rfl, k7⟩; have K7 := hid k7; clear k7)
        | (go_at_call 62; refine (rn_m1 w7).mono ?_; rintro r w8 ⟨rfl, k8⟩; have K8 := hid (K7.out.trans k8 (fun _ e => e.elim)); have b8 := K8.out.at' HR.out.1 (fun e => e); have d8 : w8.cell? ⟨pb, 3, none⟩ = some (.slice da 1 dc) := (cell_blk b8 3).trans rfl; have f8 := fz_blk b8 3; clear k8 b8 K7 d3 m4)
        | (at_builtin; refine wpList_apK rfl _ _ 32 2 rfl w6.heap.size (.int .i64 0) 1 8 Tryd.underlying32 Tryd.infoW rfl (by decide) (.slice da 1 dc) 1 _ rfl ((K8.out.alloc _).owns HR.out.2.1 (fun _ _ e => e)) (by rw [World.size_alloc]; have h1 := HR.out.2.2.2; have h2 := K8.out.size; omega) ⟨w8.heap.size, 0, none⟩ 1 1 [.int .i64 (-1)] rfl rfl (news_alloc w8 #[.int .i64 (-1)] 2) (by intro u hu; rw [List.mem_singleton] at hu; rw [hu]; rfl) (by omega) (by omega) (by decide) ?_; intro g9 c9 w9 o9 k9; have A9 : (w8.alloc (.cells #[.int .i64 (-1)] 2)).heap[pb]? = some (.cells #[.int .i64 7, .int .i64 1, .int .i64 2, .slice da 1 dc] 34) := (K8.out.alloc _).at' HR.out.1 (fun e => e); have nb9 : ¬ (Value.slice da 1 dc).ownBlock = some pb := (fun e => by obtain ⟨_, cs, q⟩ := owns_blk HR.out.2.1 e; exact absurd (two_tags q HR.out.1) (by decide)); have B9 := k9.out.at' A9 nb9; have d9 : w9.cell? ⟨pb, 3, none⟩ = some (.slice da 1 dc) := (cell_blk B9 3).trans rfl; have f9 := fz_blk B9 3; have H9 := hid (And.intro B9 (And.intro o9.out k9.out)); clear A9 B9 o9 k9 nb9 d8 f8))
      have nb : ∀ g, (Value.slice (some ⟨g9, 0, none⟩) (1 + 1) c9).ownBlock = some g → ¬ g = pb := fun g hg e => by
        obtain ⟨_, cs, q⟩ := owns_blk H9.out.2.1 hg
        rw [e] at q
        exact absurd (two_tags q H9.out.1) (by decide)
      have KS : Kept (fun x => x = pb) w9 (w9.setCell ⟨pb, 3, none⟩ (.slice (some ⟨g9, 0, none⟩) (1 + 1) c9)) := (Kept.refl (fun x => x = pb) w9).setCell (p := ⟨pb, 3, none⟩) (.inl rfl) _
      have hc9 := own_cap H9.out.2.1
      refine ⟨⟨_, _, 1 + 1, [5, -1], some ⟨g9, 0, none⟩, c9, rfl, rfl, .inr (.inr ⟨rfl, rfl, rfl, rfl⟩), set_blk H9.out.1 3 _, KS.owns H9.out.2.1 nb, hc9.1, ?_, ?_⟩, ?_⟩
      · exact ((HR.out.2.2.1.trans (K8.out.alloc _) (fun _ e => e.elim)).trans H9.out.2.2 (fun x e => .inl (Nat.le_trans K6.out.size (owns_blk HR.out.2.1 e).1))).trans KS (fun x e => .inl (by have e' : x = pb := e; rw [e']; exact HPB.out.2.2))
      · have h1 := HR.out.2.2.2
        have h2 := K8.out.size
        have h3 := H9.out.2.2.size
        have h4 := KS.size
        rw [World.size_alloc] at h3
        exact Nat.le_trans (by omega : w6.heap.size ≤ w9.heap.size) h4
      · decide
    · have LK : Hid ((Instr.loadAt 63 (.pointer (some ⟨w.heap.size, 0, none⟩))).run Tryd.prog wr = .ok (.agg KM) wr) := ldSt 63 _ KM (fun j v hv => by rw [Nat.zero_add]; exact kr.cell (by rw [cell_blk HH.out.2.1, ← Array.getElem?_toList]; exact hv) (fun e => by have := S1.out; have e' : w2.heap.size ≤ w.heap.size := e; omega)) Tryd.underlying63 rfl Tryd.infoK5
      have LX : Hid (∀ W, Kept No wr W → (Instr.loadAt 34 (.pointer (some ⟨pb, 0, none⟩))).run Tryd.prog W = .ok (.agg #[.int .i64 7, .int .i64 1, .int .i64 2, .slice da 2 dc]) W) := fun W q => ldSt 34 _ #[.int .i64 7, .int .i64 1, .int .i64 2, .slice da 2 dc] (fun j v hv => by rw [Nat.zero_add]; exact q.cell (by rw [cell_blk hb, ← Array.getElem?_toList]; exact hv) (fun e => e)) Tryd.underlying34 rfl Tryd.infoI4
      have BR2 : wr.heap[w.heap.size + 1]? = some (.cells #[.int .i64 0, .int .i64 0, .int .i64 0, .slice none 0 0] 34) := kr.at' HH.out.2.2 (fun e => by have := S1.out; have e' : w2.heap.size ≤ w.heap.size + 1 := e; omega)
      have HR := hid (And.intro ow (And.intro kr BR2))
      clear hb ow kr hsz BR2
      go_wp2_with (first
        | (refine l_take 75 rfl rfl (er_ldX 63 _ rfl (.pointer (some ⟨w.heap.size, 0, none⟩)) (.agg KM) rfl LK.out) ?_)
        | (refine l_take 76 rfl rfl (er_ldX 34 _ rfl (.pointer (some ⟨pb, 0, none⟩)) (.agg #[.int .i64 7, .int .i64 1, .int .i64 2, .slice da 2 dc]) rfl (LX.out _ (Kept.refl _ _))) ?_)
        | (go_at_call 30; refine (takes_one wr da dc).mono ?_; rintro r w7 ⟨rfl, k7⟩; have K7 := hid k7; have LX7 := hid (LX.out _ k7); have B7 := hid (k7.at' HR.out.2.2 (fun e => e)); clear k7 LX)
        | (refine l_take 80 rfl rfl (er_ldX 34 _ rfl (.pointer (some ⟨pb, 0, none⟩)) (.agg #[.int .i64 7, .int .i64 1, .int .i64 2, .slice da 2 dc]) rfl LX7.out) ?_)
        | (refine l_turn rfl rfl (er_stI _ _ rfl (w.heap.size + 1) #[.int .i64 7, .int .i64 1, .int .i64 2, .slice da 2 dc] _ rfl rfl B7.out rfl rfl (x_all _ _ _)) ?_))
      have hfin := setRow_heap w7 (w.heap.size + 1) _ #[.int .i64 7, .int .i64 1, .int .i64 2, .slice da 2 dc] 34 (0, 0) B7.out
      refine bodyPost_ret (results_cell_tmp rfl _ _ (w.heap.size + 1) 34 #[.int .i64 7, .int .i64 1, .int .i64 2, .slice da 2 dc] (0, 0) _ rfl hfin Tryd.underlying34 rfl (by kernel_rfl)) rfl ?_
      have s1 := S1.out
      have KF : Kept (fun x => x = w.heap.size + 1) w7 (w7.setRow (w.heap.size + 1) #[.int .i64 7, .int .i64 1, .int .i64 2, .slice da 2 dc]) := (Kept.refl (fun x => x = w.heap.size + 1) w7).setRow (.inl rfl) _
      have s6 := K6.out.size
      refine ⟨da, dc, rfl, owns_base (KF.owns (K7.out.owns HR.out.1 (fun _ _ e => e)) (fun g hg e => by have := (owns_blk HR.out.1 hg).1; have e' : g = w.heap.size + 1 := e; omega)) (by omega), ?_⟩
      exact ((HH.out.1.trans HR.out.2.1 (fun x e => .inr (Nat.le_trans HH.out.1.size e))).trans K7.out (fun _ e => e.elim)).trans KF (fun x e => .inr (by have e' : x = w.heap.size + 1 := e; omega))
end Go.Proofs.YtfdcmhbpnadcpabDoor
