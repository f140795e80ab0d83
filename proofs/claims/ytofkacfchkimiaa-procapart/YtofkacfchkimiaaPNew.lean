/-
  proc: New.
-/
import Derived.Test.YtofkacfchkimiaaPHeld
import Derived.Test.YtofkacfchkimiaaPStart
namespace Go.Proofs.Ytofkacfchkimiaa
open Go.RowKit Plain
set_option linter.unusedVariables false
set_option maxRecDepth 100000

/-- the plan of a process, as the image has it -/
structure Ql where
  en : Int
  pp : Int
  per : Int
  lim : Int
  ca : Int
  au : Bool
/-- a list of them that is read -/
structure Pq (w : World) (F : Nat → Prop) (a : Option Addr) (n c : Nat) (qs : Nat → Ql) : Prop where
  cap : n ≤ c
  max : c ≤ 9223372036854775807
  at' : ∀ i, i < n → ∃ b o, a = some ⟨b, o, none⟩ ∧ F b ∧ w.cell? ⟨b, o + i * 6, none⟩ = some (.int .i64 (qs i).en) ∧ w.cell? ⟨b, o + i * 6 + 1, none⟩ = some (.int .i64 (qs i).pp) ∧ w.cell? ⟨b, o + i * 6 + 2, none⟩ = some (.int .i64 (qs i).per) ∧ w.cell? ⟨b, o + i * 6 + 3, none⟩ = some (.int .i64 (qs i).lim) ∧ w.cell? ⟨b, o + i * 6 + 4, none⟩ = some (.int .i64 (qs i).ca) ∧ w.cell? ⟨b, o + i * 6 + 5, none⟩ = some (.bool (qs i).au)
def Ql.pr (q : Ql) : Pr := dorm 0 q.en q.pp q.per q.lim
/-- a process's cells -/
def Pr.row (p : Pr) : Array Value := p.val p.da ++ #[.int .i64 p.en, .int .i64 p.pp, .int .i64 p.per, .int .i64 p.lim]
theorem row_at (p : Pr) : ∀ j, j < 32 → p.row.toList[j]? = some (p.cell j) := cell_cases (by simp [Pr.row, Pr.val, Pr.cell])
theorem row_len (p : Pr) : p.row.toList.length = 32 := by simp [Pr.row, Pr.val]
def pL (f : Nat → Pr) : Nat → List Value
  | 0 => []
  | k + 1 => pL f k ++ (f k).row.toList
theorem pL_len (f : Nat → Pr) : ∀ k, (pL f k).length = k * 32
  | 0 => rfl
  | k + 1 => by show (pL f k ++ (f k).row.toList).length = _; rw [List.length_append, pL_len f k, row_len]; omega
theorem pL_at (f : Nat → Pr) : ∀ k i j, i < k → j < 32 → (pL f k)[i * 32 + j]? = some ((f i).cell j)
  | 0, i, j, h, _ => by omega
  | k + 1, i, j, h, hj => by
    show (pL f k ++ (f k).row.toList)[i * 32 + j]? = _
    by_cases hi : i < k
    · rw [List.getElem?_append_left (by rw [pL_len]; omega)]
      exact pL_at f k i j hi hj
    · have : i = k := by omega
      subst this
      rw [List.getElem?_append_right (by rw [pL_len]; omega), pL_len, show i * 32 + j - i * 32 = j by omega]
      exact row_at _ j hj
theorem row_one (q : Ql) : ∀ u ∈ q.pr.row.toList, u.oneCell' = true := by
  intro u hu
  simp [Ql.pr, Pr.row, Pr.val, dorm] at hu
  rcases hu with rfl | rfl | rfl | rfl | rfl | rfl | rfl | rfl | rfl | rfl <;> rfl
theorem new_cells {w : World} {A : Array Value} {t : TypeId} : ∀ j u, A.toList[j]? = some u → (w.alloc (.cells A t)).cell? ((⟨w.heap.size, 0, none⟩ : Addr).add j) = some u := by
  intro j u hu
  rw [add_none, Nat.zero_add]
  have := alloc_new w (.cells A t)
  simp only [World.cell?, this]
  simpa using hu
theorem fill_row (q : Ql) : Instr.fill (fun i => some (i * 32, 32)) ((Array.range (1 * 32)).map ((Value.agg Z32).cells[· % (Value.agg Z32).cells.size]!)) [(0, .agg q.pr.row)] = some q.pr.row := by kernel_rfl
theorem built_plan (x y z u : Int) : Try.prog.built 89 [(0, .int .i64 x), (1, .int .i64 y), (2, .int .i64 z), (3, .int .i64 u)] = some #[.int .i64 x, .int .i64 y, .int .i64 z, .int .i64 u] := by kernel_rfl
theorem built_row (q : Ql) : Try.prog.built 91 [(0, .agg ((dorm 0 0 0 0 0).val (.slice none 0 0))), (1, .agg #[.int .i64 q.en, .int .i64 q.pp, .int .i64 q.per, .int .i64 q.lim])] = some q.pr.row := by kernel_rfl
theorem Kept.big {F : Nat → Prop} {w w' : World} {row : Option Nat} (hg : w.grownBy w' row) (hr : ∀ k, row = some k → F k) : Kept F w w' := (Kept.refl F w).grown hg (fun k e => .inl (hr k e))


theorem pq_kept {w w' : World} {F : Nat → Prop} {a : Option Addr} {n c : Nat} {qs : Nat → Ql} (h : Pq w F a n c qs) (k : Kept No w w') : Pq w' F a n c qs :=
  ⟨h.cap, h.max, fun i hi => by obtain ⟨b, o, e, hb, c0, c1, c2, c3, c4, c5⟩ := h.at' i hi; exact ⟨b, o, e, hb, k.cell c0 (fun h => h), k.cell c1 (fun h => h), k.cell c2 (fun h => h), k.cell c3 (fun h => h), k.cell c4 (fun h => h), k.cell c5 (fun h => h)⟩⟩
/-- what New keeps: the table's block, the row of the first k processes -/
def Nw (w wr : World) (b n : Nat) (cn hd : Int) (qs : Nat → Ql) (k : Nat) (v : Value) : Prop :=
  wr.heap[b]? = some (.cells #[v, .int .i64 cn, .int .i64 hd, .int .i64 0, .int .i64 1] 86) ∧ wr.ownsRow (b + 1) 91 32 v k (pL (fun i => (qs i).pr) k) ∧ Kept No w wr
def NewA (w w' : World) (T : Tt) : Prop := ∃ g cap, Tw w' (w.heap.size + 1) g cap T ∧ w.heap.size + 2 ≤ g ∧ Kept No w w'
set_option maxHeartbeats 8000000 in
theorem new_any {F : Nat → Prop} {A : Array Value} {ca pa : Option Addr} {cn cc n pc : Nat} {hd : Int} {qs : Nat → Ql} (w : World) (hA : A.size = 21) (h7 : A[7]? = some (.slice ca cn cc)) (h8 : A[8]? = some (.slice pa n pc)) (h9 : A[9]? = some (.int .i64 hd)) (hcc : cn ≤ cc ∧ cc ≤ 9223372036854775807) (hq : Pq w F pa n pc qs) (hF : ∀ k, F k → k < w.heap.size) (hn1 : 1 ≤ n) (hn2 : n ≤ 4096) :
    Calls Try.prog 8 #[.agg A] w fun e w' => e = .returned (.pointer (some ⟨w.heap.size + 1, 0, none⟩)) ∧ NewA w w' { ps := fun i => (qs i).pr, n := n, cd := cn, hd := hd, lk := 0, pl := 1 } := by
  have k1 : Kept No w (w.alloc (.cells A 38)) := (Kept.refl No w).alloc _
  have hB := alloc_new w (.cells A 38)
  have c7 : (w.alloc (.cells A 38)).cell? ⟨w.heap.size, 7, none⟩ = some (.slice ca cn cc) := (cell_of_row _ _ 7 _ _ _ hB).trans h7
  have c8 : (w.alloc (.cells A 38)).cell? ⟨w.heap.size, 8, none⟩ = some (.slice pa n pc) := (cell_of_row _ _ 8 _ _ _ hB).trans h8
  have c9 : (w.alloc (.cells A 38)).cell? ⟨w.heap.size, 9, none⟩ = some (.int .i64 hd) := (cell_of_row _ _ 9 _ _ _ hB).trans h9
  have hs1 : (w.alloc (.cells A 38)).heap.size = w.heap.size + 1 := by rw [World.size_alloc]
  have hqc := hq.cap
  have hqm := hq.max
  obtain ⟨hcc1, hcc2⟩ := hcc
  have HQ : Hid (Pq w F pa n pc qs ∧ (∀ k, F k → k < w.heap.size) ∧ Kept No w (w.alloc (.cells A 38))) := ⟨hq, hF, k1⟩
  clear hB h7 h8 h9 k1 hq hF
  go_enter Try.func8, Try.ntmps8
  go_upto_region 1 with fail
  generalize (w.alloc (.cells A 38)) = w1 at *
  clear hA
  go_upto_region 2 with fail
  have k2 : Kept No w (w1.alloc (.cells #[.slice none 0 0, .int .i64 cn, .int .i64 hd, .int .i64 0, .int .i64 1] 86)) := HQ.out.2.2.alloc _
  have b2 := alloc_new w1 (.cells #[.slice none 0 0, .int .i64 cn, .int .i64 hd, .int .i64 0, .int .i64 1] 86)
  rw [hs1] at b2
  have c8' : (w1.alloc (.cells #[.slice none 0 0, .int .i64 cn, .int .i64 hd, .int .i64 0, .int .i64 1] 86)).cell? ⟨w.heap.size, 8, none⟩ = some (.slice pa n pc) := ((Kept.refl No w1).alloc _).cell c8 (fun h => h)
  have H2 : Hid (Kept No w (w1.alloc (.cells #[.slice none 0 0, .int .i64 cn, .int .i64 hd, .int .i64 0, .int .i64 1] 86)) ∧ (w1.alloc (.cells #[.slice none 0 0, .int .i64 cn, .int .i64 hd, .int .i64 0, .int .i64 1] 86)).heap[w.heap.size + 1]? = some (.cells #[.slice none 0 0, .int .i64 cn, .int .i64 hd, .int .i64 0, .int .i64 1] 86)) := ⟨k2, b2⟩
  clear k2 b2 c7 c8 c9
  generalize (w1.alloc (.cells #[.slice none 0 0, .int .i64 cn, .int .i64 hd, .int .i64 0, .int .i64 1] 86)) = w2 at *
  obtain ⟨b, hb⟩ : ∃ b, w.heap.size + 1 = b := ⟨_, rfl⟩
  have HB : Hid (w.heap.size + 1 = b) := hb
  rw [hb] at H2 ⊢
  go_wp2
  clear c8'
  go_loopw [16] (fun x wr => ∃ (k : Nat) (v : Value), k ≤ n ∧ x = .int .i64 k ∧ Nw w wr b n cn hd qs k v) (fun x _ => n - (intOf x).toNat)
  case atStart => exact ⟨0, .slice none 0 0, Nat.zero_le _, rfl, H2.out.2, World.ownsRow_nil _ _ _ _, H2.out.1⟩
  case round =>
    obtain ⟨k, v, hk, rfl, hnw⟩ := hrel
    have HN : Hid (Nw w wr b n cn hd qs k v) := hnw
    clear hnw
    by_cases hlt : k < n
    · have hltz : (k : Int) < (n : Int) := by omega
      obtain ⟨qb, qo, rfl, hqF, e0, e1, e2, e3, e4, e5⟩ := (pq_kept HQ.out.1 HN.out.2.2).at' k hlt
      go_upto_region 5 with fail
      obtain ⟨RR, hRR⟩ : ∃ R, (qs k).pr.row = R := ⟨_, rfl⟩
      obtain ⟨DD, hDD⟩ : ∃ D, Value.agg ((dorm 0 0 0 0 0).val (.slice none 0 0)) = D := ⟨_, rfl⟩
      have HR : Hid ((Try.prog.built 91 [(0, DD), (1, .agg #[.int .i64 (qs k).en, .int .i64 (qs k).pp, .int .i64 (qs k).per, .int .i64 (qs k).lim])] = some RR) ∧ (Instr.fill (fun i => some (i * 32, 32)) ((Array.range (1 * 32)).map ((Value.agg Z32).cells[· % (Value.agg Z32).cells.size]!)) [(0, .agg RR)] = some RR) ∧ RR.toList.length = 32 ∧ (∀ u ∈ RR.toList, u.oneCell' = true) ∧ pL (fun i => (qs i).pr) (k + 1) = pL (fun i => (qs i).pr) k ++ RR.toList ∧ (∀ W, Calls Try.prog 33 #[.int .i64 0] W fun e w' => e = .returned DD ∧ Kept No W w')) := by
        rw [← hRR, ← hDD]
        exact ⟨built_row (qs k), fill_row (qs k), row_len _, row_one _, rfl, fun W => dormant_any 0 W⟩
      clear hRR hDD
      generalize (qs k).en = x0 at *
      generalize (qs k).pp = x1 at *
      generalize (qs k).per = x2 at *
      generalize (qs k).lim = x3 at *
      generalize (qs k).ca = x4 at *
      generalize (qs k).au = x5 at *
      have kz : Kept No w (wr.alloc (.cells #[.int .i64 x0, .int .i64 x1, .int .i64 x2, .int .i64 x3, .int .i64 x4, .bool x5] 28)) := HN.out.2.2.alloc _
      have bz := ((Kept.refl No wr).alloc (.cells #[.int .i64 x0, .int .i64 x1, .int .i64 x2, .int .i64 x3, .int .i64 x4, .bool x5] 28)).at' HN.out.1 (fun h => h)
      have oz : (wr.alloc (.cells #[.int .i64 x0, .int .i64 x1, .int .i64 x2, .int .i64 x3, .int .i64 x4, .bool x5] 28)).ownsRow (b + 1) 91 32 v k (pL (fun i => (qs i).pr) k) := HN.out.2.1.alloc _
      have hvz := HN.out.2.1.lt
      have hbz0 := heap_lt HN.out.1
      have nz := alloc_new wr (.cells #[.int .i64 x0, .int .i64 x1, .int .i64 x2, .int .i64 x3, .int .i64 x4, .bool x5] 28)
      obtain ⟨z, hz⟩ : ∃ z, wr.heap.size = z := ⟨_, rfl⟩
      rw [hz] at hvz hbz0 nz
      have hsz : (wr.alloc (.cells #[.int .i64 x0, .int .i64 x1, .int .i64 x2, .int .i64 x3, .int .i64 x4, .bool x5] 28)).heap.size = z + 1 := by rw [World.size_alloc, hz]
      simp only [hz]
      clear e0 e1 e2 e3 e4 e5 hz
      have HZ : Hid (Kept No w (wr.alloc (.cells #[.int .i64 x0, .int .i64 x1, .int .i64 x2, .int .i64 x3, .int .i64 x4, .bool x5] 28)) ∧ (wr.alloc (.cells #[.int .i64 x0, .int .i64 x1, .int .i64 x2, .int .i64 x3, .int .i64 x4, .bool x5] 28)).heap[b]? = some (.cells #[v, .int .i64 cn, .int .i64 hd, .int .i64 0, .int .i64 1] 86) ∧ (wr.alloc (.cells #[.int .i64 x0, .int .i64 x1, .int .i64 x2, .int .i64 x3, .int .i64 x4, .bool x5] 28)).ownsRow (b + 1) 91 32 v k (pL (fun i => (qs i).pr) k) ∧ (∀ j, v.ownBlock = some j → b + 1 ≤ j ∧ j < z) ∧ b < z ∧ (wr.alloc (.cells #[.int .i64 x0, .int .i64 x1, .int .i64 x2, .int .i64 x3, .int .i64 x4, .bool x5] 28)).heap.size = z + 1 ∧ (wr.alloc (.cells #[.int .i64 x0, .int .i64 x1, .int .i64 x2, .int .i64 x3, .int .i64 x4, .bool x5] 28)).heap[z]? = some (.cells #[.int .i64 x0, .int .i64 x1, .int .i64 x2, .int .i64 x3, .int .i64 x4, .bool x5] 28)) := ⟨kz, bz, oz, hvz, hbz0, hsz, nz⟩
      clear kz bz oz hvz hbz0 hsz nz HN
      generalize (wr.alloc (.cells #[.int .i64 x0, .int .i64 x1, .int .i64 x2, .int .i64 x3, .int .i64 x4, .bool x5] 28)) = wz at *
      have SZ : ∀ W, Kept No wz W → (W.cell? ⟨z, 0, none⟩ = some (.int .i64 x0) ∧ W.cell? ⟨z, 1, none⟩ = some (.int .i64 x1) ∧ W.cell? ⟨z, 2, none⟩ = some (.int .i64 x2) ∧ W.cell? ⟨z, 3, none⟩ = some (.int .i64 x3)) := fun W kW => by
        have hzz := kW.at' HZ.out.2.2.2.2.2.2 (fun h => h)
        exact ⟨cell_of_row _ _ 0 _ _ _ hzz, cell_of_row _ _ 1 _ _ _ hzz, cell_of_row _ _ 2 _ _ _ hzz, cell_of_row _ _ 3 _ _ _ hzz⟩
      have DC : ∀ W, Kept No wz W → Calls Try.prog 33 #[.int .i64 0] W fun e w'' => ∃ u, e = .returned u ∧ (w''.cell? ⟨z, 0, none⟩ = some (.int .i64 x0) ∧ w''.cell? ⟨z, 1, none⟩ = some (.int .i64 x1) ∧ w''.cell? ⟨z, 2, none⟩ = some (.int .i64 x2) ∧ w''.cell? ⟨z, 3, none⟩ = some (.int .i64 x3)) ∧ (u = DD ∧ Kept No wz w'') := fun W kW =>
        (HR.out.2.2.2.2.2 W).mono (fun e w'' ⟨he, k'⟩ => ⟨_, he, SZ w'' (kW.trans k' (fun _ e => e.elim)), rfl, kW.trans k' (fun _ e => e.elim)⟩)
      have BZ : ∀ W, Kept No wz W → W.cell? ⟨b, 0, none⟩ = some v := fun W kW => cell_of_row _ _ 0 _ _ _ (kW.at' HZ.out.2.1 (fun h => h))
      have APP : ∀ wc, Kept No wz wc → ∃ v1 wa, (Builtin.append_ #[84, 84] 84 #[v, .slice (some ⟨wc.heap.size, 0, none⟩) 1 1]).run Try.prog (wc.alloc (.cells RR 91)) = .ok v1 wa ∧ wa.ownsRow (b + 1) 91 32 v1 (k + 1) (pL (fun i => (qs i).pr) (k + 1)) ∧ (wc.alloc (.cells RR 91)).grownBy wa v.ownBlock := fun wc kc => by
        obtain ⟨i0, hi, hz0, hz1, hz2⟩ := info_parts Try.infoP
        obtain ⟨v1, wa, h1, h2, h3, _, _⟩ := run_append_own_at (P := Try.prog) (wc.alloc (.cells RR 91)) (b + 1) 84 84 91 i0 (.agg Z32) 32 272 Try.underlying84 hi hz0 hz1 hz2 rfl (by decide) v k (pL (fun i => (qs i).pr) k) ((kc.owns HZ.out.2.2.1 (fun _ _ h => h)).alloc _) ⟨wc.heap.size, 0, none⟩ 1 1 RR.toList (by rw [HR.out.2.2.1]) new_cells HR.out.2.2.2.1 (by unfold maxLen; omega) (by omega) (by have := kc.size; have := HZ.out.2.2.2.2.2.1; have := HZ.out.2.2.2.2.1; rw [World.size_alloc]; omega)
        rw [HR.out.2.2.2.2.1]
        exact ⟨v1, wa, h1, h2, h3⟩
      have FIN : ∀ wc, Kept No wz wc → ∀ va vn vc wa, wa.ownsRow (b + 1) 91 32 (.slice va vn vc) (k + 1) (pL (fun i => (qs i).pr) (k + 1)) → (wc.alloc (.cells RR 91)).grownBy wa v.ownBlock → (wa.cell? ⟨z, 0, none⟩ = some (.int .i64 x0) ∧ wa.cell? ⟨z, 1, none⟩ = some (.int .i64 x1) ∧ wa.cell? ⟨z, 2, none⟩ = some (.int .i64 x2) ∧ wa.cell? ⟨z, 3, none⟩ = some (.int .i64 x3)) ∧ wa.cell? ⟨b, 0, none⟩ = some v ∧ wa.heap[b]? = some (.cells #[v, .int .i64 cn, .int .i64 hd, .int .i64 0, .int .i64 1] 86) ∧ ((wa.setCell ⟨b, 0, none⟩ (.slice va vn vc)).cell? ⟨z, 0, none⟩ = some (.int .i64 x0) ∧ (wa.setCell ⟨b, 0, none⟩ (.slice va vn vc)).cell? ⟨z, 1, none⟩ = some (.int .i64 x1) ∧ (wa.setCell ⟨b, 0, none⟩ (.slice va vn vc)).cell? ⟨z, 2, none⟩ = some (.int .i64 x2) ∧ (wa.setCell ⟨b, 0, none⟩ (.slice va vn vc)).cell? ⟨z, 3, none⟩ = some (.int .i64 x3)) ∧ Hid (Nw w (wa.setCell ⟨b, 0, none⟩ (.slice va vn vc)) b n cn hd qs (k + 1) (.slice va vn vc)) := fun wc kc va vn vc wa own1 grow1 => by
        have hv := HZ.out.2.2.2.1
        have hbz := HZ.out.2.2.2.2.1
        have ka : Kept (fun j => v.ownBlock = some j) wz wa := ((kc.alloc _).mono (fun _ e => e.elim)).grown grow1 (fun j e => .inl e)
        have nb : ¬ v.ownBlock = some b := fun e => by have := hv b e; omega
        have nzz : ¬ v.ownBlock = some z := fun e => by have := hv z e; omega
        have hzz := ka.at' HZ.out.2.2.2.2.2.2 nzz
        have hbb := ka.at' HZ.out.2.1 nb
        have hbz' : wa.cell? ⟨b, 0, none⟩ = some v := cell_of_row _ _ 0 _ _ _ hbb
        have kset : Kept (fun j => j = b) wa (wa.setCell ⟨b, 0, none⟩ (.slice va vn vc)) := (Kept.refl (fun j => j = b) wa).setCell (p := ⟨b, 0, none⟩) (.inl rfl) _
        have hzz2 := kset.at' hzz (fun e => by omega)
        refine ⟨⟨cell_of_row _ _ 0 _ _ _ hzz, cell_of_row _ _ 1 _ _ _ hzz, cell_of_row _ _ 2 _ _ _ hzz, cell_of_row _ _ 3 _ _ _ hzz⟩, hbz', hbb, ⟨cell_of_row _ _ 0 _ _ _ hzz2, cell_of_row _ _ 1 _ _ _ hzz2, cell_of_row _ _ 2 _ _ _ hzz2, cell_of_row _ _ 3 _ _ _ hzz2⟩, ?_⟩
        refine ⟨setC 0 _ hbb, kset.owns own1 (fun j hj e => by have := own1.lt j hj; omega), ?_⟩
        have hw1 := HB.out
        exact (HZ.out.1.trans ka (fun j e => .inr (by have := hv j e; omega))).setCell (.inr (by show _ ≤ b; omega)) _
      have kd : Kept No wz wz.drew := (Kept.refl No wz).drew
      refine wp_region_held_drew (S := fun w' => w'.cell? ⟨z, 0, none⟩ = some (.int .i64 x0) ∧ w'.cell? ⟨z, 1, none⟩ = some (.int .i64 x1) ∧ w'.cell? ⟨z, 2, none⟩ = some (.int .i64 x2) ∧ w'.cell? ⟨z, 3, none⟩ = some (.int .i64 x3)) (by kernel_rfl) (SZ _ kd) (fun hS => ?_)
      refine d_take 0 20 rfl rfl (by kernel_rfl) (by kernel_rfl) (by kernel_rfl) (fun _ _ _ h => h) rfl (fun w' hw' => er_mv _ rfl (.pointer (some ⟨b, 0, none⟩)) rfl) hS ?_
      simp only [Act.put, List.setIfInBounds_toArray, List.set_cons_zero, List.set_cons_succ]
      refine d_take 1 21 rfl rfl (by kernel_rfl) (by kernel_rfl) (by kernel_rfl) (fun _ _ _ h => h) rfl (fun w' hw' => er_mv _ rfl (.pointer (some ⟨b, 0, none⟩)) rfl) hS ?_
      simp only [Act.put, List.setIfInBounds_toArray, List.set_cons_zero, List.set_cons_succ]
      refine d_take 2 22 rfl rfl (by kernel_rfl) (by kernel_rfl) (by kernel_rfl) (fun _ _ _ h => h) rfl (fun w' hw' => er_nil _ rfl ⟨b, 0, none⟩ rfl) hS ?_
      simp only [Act.put, List.setIfInBounds_toArray, List.set_cons_zero, List.set_cons_succ]
      refine d_take 3 23 rfl rfl (by kernel_rfl) (by kernel_rfl) (by kernel_rfl) (fun _ _ _ h => h) rfl (fun w' hw' => er_t0 _ rfl b rfl) hS ?_
      simp only [Act.put, List.setIfInBounds_toArray, List.set_cons_zero, List.set_cons_succ]
      refine d_take 6 26 rfl rfl (by kernel_rfl) (by kernel_rfl) (by kernel_rfl) (fun _ _ _ h => h) rfl (fun w' hw' => er_q0 _ rfl z rfl) hS ?_
      simp only [Act.put, List.setIfInBounds_toArray, List.set_cons_zero, List.set_cons_succ]
      refine d_take 7 27 rfl rfl (by kernel_rfl) (by kernel_rfl) (by kernel_rfl) (fun _ _ _ h => h) rfl (fun w' hw' => er_ld3 _ rfl z 0 (.int .i64 x0) rfl hw'.1) hS ?_
      simp only [Act.put, List.setIfInBounds_toArray, List.set_cons_zero, List.set_cons_succ]
      refine d_take 8 28 rfl rfl (by kernel_rfl) (by kernel_rfl) (by kernel_rfl) (fun _ _ _ h => h) rfl (fun w' hw' => er_q1 _ rfl z rfl) hS ?_
      simp only [Act.put, List.setIfInBounds_toArray, List.set_cons_zero, List.set_cons_succ]
      refine d_take 9 29 rfl rfl (by kernel_rfl) (by kernel_rfl) (by kernel_rfl) (fun _ _ _ h => h) rfl (fun w' hw' => er_ld3 _ rfl z 1 (.int .i64 x1) rfl hw'.2.1) hS ?_
      simp only [Act.put, List.setIfInBounds_toArray, List.set_cons_zero, List.set_cons_succ]
      refine d_take 10 30 rfl rfl (by kernel_rfl) (by kernel_rfl) (by kernel_rfl) (fun _ _ _ h => h) rfl (fun w' hw' => er_q2 _ rfl z rfl) hS ?_
      simp only [Act.put, List.setIfInBounds_toArray, List.set_cons_zero, List.set_cons_succ]
      refine d_take 11 31 rfl rfl (by kernel_rfl) (by kernel_rfl) (by kernel_rfl) (fun _ _ _ h => h) rfl (fun w' hw' => er_ld3 _ rfl z 2 (.int .i64 x2) rfl hw'.2.2.1) hS ?_
      simp only [Act.put, List.setIfInBounds_toArray, List.set_cons_zero, List.set_cons_succ]
      refine d_take 12 32 rfl rfl (by kernel_rfl) (by kernel_rfl) (by kernel_rfl) (fun _ _ _ h => h) rfl (fun w' hw' => er_q3 _ rfl z rfl) hS ?_
      simp only [Act.put, List.setIfInBounds_toArray, List.set_cons_zero, List.set_cons_succ]
      refine d_take 13 33 rfl rfl (by kernel_rfl) (by kernel_rfl) (by kernel_rfl) (fun _ _ _ h => h) rfl (fun w' hw' => er_ld3 _ rfl z 3 (.int .i64 x3) rfl hw'.2.2.2) hS ?_
      simp only [Act.put, List.setIfInBounds_toArray, List.set_cons_zero, List.set_cons_succ]
      refine d_take 14 34 rfl rfl (by kernel_rfl) (by kernel_rfl) (by kernel_rfl) (fun _ _ _ h => h) rfl (fun w' hw' => er_build 89 _ rfl _ (by kernel_rfl) _ (built_plan x0 x1 x2 x3)) hS ?_
      simp only [Act.put, List.setIfInBounds_toArray, List.set_cons_zero, List.set_cons_succ]
      refine d_rc (fun u w'' => u = DD ∧ Kept No wz w'') 4 24 5 25 (by kernel_rfl) rfl rfl rfl rfl rfl rfl (er_ldp _ rfl b 0 v rfl (BZ _ kd)) (er_c_dorm _ _ rfl (.int .i64 0) rfl) (DC _ kd) hS ?_ ?_
      · simp only [Act.put, List.setIfInBounds_toArray, List.set_cons_zero, List.set_cons_succ]
        refine d_callN (fun u w'' => u = DD ∧ Kept No wz w'') 5 25 (by kernel_rfl) rfl rfl rfl (er_c_dorm _ _ rfl (.int .i64 0) rfl) (DC _ kd) ?_
        rintro u wc hS ⟨rfl, kc⟩
        simp only [Act.put, List.setIfInBounds_toArray, List.set_cons_zero, List.set_cons_succ]
        refine d_take 15 35 rfl rfl (by kernel_rfl) (by kernel_rfl) (by kernel_rfl) (fun _ _ _ h => h) rfl (fun w' hw' => er_build 91 _ rfl _ (by kernel_rfl) _ HR.out.1) hS ?_
        simp only [Act.put, List.setIfInBounds_toArray, List.set_cons_zero, List.set_cons_succ]
        obtain ⟨v1, wa, hap, own1, grow1⟩ := APP wc kc
        obtain ⟨va, vn, vc, rfl⟩ := own_slice own1
        obtain ⟨hSa, hba, hbA, hSb, HF⟩ := FIN wc kc va vn vc wa own1 grow1
        refine d_make 16 36 (by kernel_rfl) rfl rfl rfl (er_bs1 _ rfl _ rfl HR.out.2.1) (SZ _ (kc.alloc _)) ?_
        simp only [Act.put, List.setIfInBounds_toArray, List.set_cons_zero, List.set_cons_succ]
        refine d_make 17 37 (by kernel_rfl) rfl rfl rfl (er_app (.tmp 24) (.tmp 36) rfl v (.slice (some ⟨wc.heap.size, 0, none⟩) 1 1) rfl rfl (.slice va vn vc) wa rfl hap) hSa ?_
        simp only [Act.put, List.setIfInBounds_toArray, List.set_cons_zero, List.set_cons_succ]
        have hS := hSa
        refine d_take 18 38 rfl rfl (by kernel_rfl) (by kernel_rfl) (by kernel_rfl) (fun _ _ _ h => h) rfl (fun w' hw' => er_nil _ rfl ⟨b, 0, none⟩ rfl) hS ?_
        simp only [Act.put, List.setIfInBounds_toArray, List.set_cons_zero, List.set_cons_succ]
        refine d_take 19 39 rfl rfl (by kernel_rfl) (by kernel_rfl) (by kernel_rfl) (fun _ _ _ h => h) rfl (fun w' hw' => er_t0 _ rfl b rfl) hS ?_
        simp only [Act.put, List.setIfInBounds_toArray, List.set_cons_zero, List.set_cons_succ]
        refine d_turn 20 (by kernel_rfl) rfl rfl rfl (er_stp _ _ rfl b 0 v va vn vc rfl rfl hba (fzc hbA 0)) hSb ?_
        refine wpAnyH_done (by kernel_rfl) ?_ _
        clear hS hSa hSb
        go_wp2
        go_roundw
        case rel => exact ⟨k + 1, .slice va vn vc, by omega, by go_num, HF.out⟩
        case measure => simp [intOf]; omega
      · rintro u wc hS ⟨rfl, kc⟩
        simp only [Act.put, List.setIfInBounds_toArray, List.set_cons_zero, List.set_cons_succ]
        refine d_take 15 35 rfl rfl (by kernel_rfl) (by kernel_rfl) (by kernel_rfl) (fun _ _ _ h => h) rfl (fun w' hw' => er_build 91 _ rfl _ (by kernel_rfl) _ HR.out.1) hS ?_
        simp only [Act.put, List.setIfInBounds_toArray, List.set_cons_zero, List.set_cons_succ]
        obtain ⟨v1, wa, hap, own1, grow1⟩ := APP wc kc
        obtain ⟨va, vn, vc, rfl⟩ := own_slice own1
        obtain ⟨hSa, hba, hbA, hSb, HF⟩ := FIN wc kc va vn vc wa own1 grow1
        refine d_pair 4 24 16 36 (by kernel_rfl) rfl rfl rfl rfl rfl rfl (er_ldp _ rfl b 0 v rfl (BZ _ kc)) (er_bs1 _ rfl _ rfl HR.out.2.1) hS (SZ _ (kc.alloc _)) ?_ ?_
        · simp only [Act.put, List.setIfInBounds_toArray, List.set_cons_zero, List.set_cons_succ]
          refine d_make 16 36 (by kernel_rfl) rfl rfl rfl (er_bs1 _ rfl _ rfl HR.out.2.1) (SZ _ (kc.alloc _)) ?_
          simp only [Act.put, List.setIfInBounds_toArray, List.set_cons_zero, List.set_cons_succ]
          refine d_make 17 37 (by kernel_rfl) rfl rfl rfl (er_app (.tmp 24) (.tmp 36) rfl v (.slice (some ⟨wc.heap.size, 0, none⟩) 1 1) rfl rfl (.slice va vn vc) wa rfl hap) hSa ?_
          simp only [Act.put, List.setIfInBounds_toArray, List.set_cons_zero, List.set_cons_succ]
          have hS := hSa
          refine d_take 18 38 rfl rfl (by kernel_rfl) (by kernel_rfl) (by kernel_rfl) (fun _ _ _ h => h) rfl (fun w' hw' => er_nil _ rfl ⟨b, 0, none⟩ rfl) hS ?_
          simp only [Act.put, List.setIfInBounds_toArray, List.set_cons_zero, List.set_cons_succ]
          refine d_take 19 39 rfl rfl (by kernel_rfl) (by kernel_rfl) (by kernel_rfl) (fun _ _ _ h => h) rfl (fun w' hw' => er_t0 _ rfl b rfl) hS ?_
          simp only [Act.put, List.setIfInBounds_toArray, List.set_cons_zero, List.set_cons_succ]
          refine d_turn 20 (by kernel_rfl) rfl rfl rfl (er_stp _ _ rfl b 0 v va vn vc rfl rfl hba (fzc hbA 0)) hSb ?_
          refine wpAnyH_done (by kernel_rfl) ?_ _
          clear hS hSa hSb
          go_wp2
          go_roundw
          case rel => exact ⟨k + 1, .slice va vn vc, by omega, by go_num, HF.out⟩
          case measure => simp [intOf]; omega
        · simp only [Act.put, List.setIfInBounds_toArray, List.set_cons_zero, List.set_cons_succ]
          refine d_read 4 24 (by kernel_rfl) rfl rfl rfl (er_ldp _ rfl b 0 v rfl (BZ _ (kc.alloc _))) (SZ _ (kc.alloc _)) ?_
          simp only [Act.put, List.setIfInBounds_toArray, List.set_cons_zero, List.set_cons_succ]
          refine d_make 17 37 (by kernel_rfl) rfl rfl rfl (er_app (.tmp 24) (.tmp 36) rfl v (.slice (some ⟨wc.heap.size, 0, none⟩) 1 1) rfl rfl (.slice va vn vc) wa rfl hap) hSa ?_
          simp only [Act.put, List.setIfInBounds_toArray, List.set_cons_zero, List.set_cons_succ]
          have hS := hSa
          refine d_take 18 38 rfl rfl (by kernel_rfl) (by kernel_rfl) (by kernel_rfl) (fun _ _ _ h => h) rfl (fun w' hw' => er_nil _ rfl ⟨b, 0, none⟩ rfl) hS ?_
          simp only [Act.put, List.setIfInBounds_toArray, List.set_cons_zero, List.set_cons_succ]
          refine d_take 19 39 rfl rfl (by kernel_rfl) (by kernel_rfl) (by kernel_rfl) (fun _ _ _ h => h) rfl (fun w' hw' => er_t0 _ rfl b rfl) hS ?_
          simp only [Act.put, List.setIfInBounds_toArray, List.set_cons_zero, List.set_cons_succ]
          refine d_turn 20 (by kernel_rfl) rfl rfl rfl (er_stp _ _ rfl b 0 v va vn vc rfl rfl hba (fzc hbA 0)) hSb ?_
          refine wpAnyH_done (by kernel_rfl) ?_ _
          clear hS hSa hSb
          go_wp2
          go_roundw
          case rel => exact ⟨k + 1, .slice va vn vc, by omega, by go_num, HF.out⟩
          case measure => simp [intOf]; omega
    · have hltz : ¬ (k : Int) < (n : Int) := by omega
      have hkn : k = n := by omega
      subst hkn
      go_wp2
      go_ret
      have ho := HN.out.2.1
      obtain ⟨hl, ⟨h1, h2⟩ | ⟨g, cap, cur, rfl, hbg, hg, hnc, hmc, _, _⟩⟩ := ho
      · omega
      · have hbb := HN.out.1
        have hcl := HN.out.2.1
        have hw1 := HB.out
        refine ⟨rfl, g, cap, ?_, by omega, HN.out.2.2⟩
        rw [HB.out]
        refine ⟨cell_of_row _ _ 0 _ _ _ hbb, cell_of_row _ _ 1 _ _ _ hbb, cell_of_row _ _ 2 _ _ _ hbb, cell_of_row _ _ 3 _ _ _ hbb, cell_of_row _ _ 4 _ _ _ hbb, by omega, hn1, hnc, hmc, fun j => fzc hbb j, fun j => fzc hg j, fun i hi j hj => ?_, fun i hi => ⟨none, 0, 0, rfl, Zs.none _ _⟩⟩
        have := hcl.cells (g := g) rfl _ _ (pL_at (fun i => (qs i).pr) k i j hi hj)
        rw [add_none, Nat.zero_add] at this
        exact this
end Go.Proofs.Ytofkacfchkimiaa
