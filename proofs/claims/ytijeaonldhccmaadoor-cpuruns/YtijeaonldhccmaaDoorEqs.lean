/-
  '==' on the registers, on effects and on instructions; loads within a block; quiet steps.
-/
import Derived.Test.YtijeaonldhccmaaDoorLaws
import Derived.Test.YtijeaonldhccmaaDoorLegal
import Derived.ChangeKeysEq
import Derived.Laws.StructEq
import Derived.Deep.MidRow
import Derived.BigQuiet
import Derived.Deep.QuietTactic
namespace Go.Proofs.YtijeaonldhccmaaDoor
open Go.RowKit
set_option linter.unusedVariables false

def eqR (R S : Nat → Int) : Bool := (List.range 16).all fun i => R i == S i
theorem eqR_iff {R S : Nat → Int} : eqR R S = true ↔ ∀ i, i < 16 → R i = S i := by
  unfold eqR; rw [List.all_eq_true]; simp
theorem eqR_self (R : Nat → Int) : eqR R R = true := eqR_iff.2 fun _ _ => rfl
theorem cells2 : Tryd.prog.cellsOf 2 = 1 := by kernel_rfl
theorem plain2 : Tryd.prog.plainKey 2 = true := by kernel_rfl

theorem run_eqItems16 (d : Nat) (R S : Nat → Int) (w : World) : ∀ is : List Nat, (∀ i ∈ is, i < 16) → (Op.eqItems (d + 1) 2 1 (regC R) (regC S) is).run Tryd.prog w = .ok (is.all fun i => R i == S i) w
  | [], _ => rfl
  | i :: is, h => by
    have hi := h i (by simp)
    have ih := run_eqItems16 d R S w is (fun j hj => h j (by simp [hj]))
    simp only [Op.eqItems, Sem.run_bind]
    rw [Nat.mul_one, run_part_plain w plain2 (regC_at R hi)]
    simp only [Result.andThen_ok]
    rw [run_part_plain w plain2 (regC_at S hi)]
    simp only [Result.andThen_ok]
    rw [run_equalIn_int w d 2 .i64 .i64 _ _ Tryd.underlying2]
    simp only [Result.andThen_ok]
    cases hb : (R i == S i)
    · simp [hb]
    · simp [hb, ih]
theorem run_equalIn25 (d : Nat) (R S : Nat → Int) (w : World) : (Op.equalIn (d + 1 + 1) 25 (regV R) (regV S)).run Tryd.prog w = .ok (eqR R S) w := by
  obtain ⟨i, hi⟩ : ∃ i, Tryd.prog.info? 2 = some i := Option.isSome_iff_exists.1 (by kernel_rfl)
  unfold regV
  rw [run_equalIn_array w (d + 1) _ _ Tryd.underlying25 hi, cells2, run_eqItems16 d R S w _ (fun j hj => List.mem_range.1 hj)]
  rfl
theorem run_eq25 (R S : Nat → Int) (w : World) : (binOp .eql 25 (regV R) (regV S)).run Tryd.prog w = .ok (.bool (eqR R S)) w := by
  have h := run_equalIn25 9998 R S w
  unfold regV at *
  rw [run_eql_struct, h]; rfl
theorem run_neq25 (R S : Nat → Int) (w : World) : (binOp .neq 25 (regV R) (regV S)).run Tryd.prog w = .ok (.bool (!eqR R S)) w := by
  have h := run_equalIn25 9998 R S w
  unfold regV at *
  rw [run_neq_struct, h]; rfl

def eqE (R : Nat → Int) (pc : Int) (st : Bool) (ad va fa ca : Int) (R' : Nat → Int) (pc' : Int) (st' : Bool) (ad' va' fa' ca' : Int) : Bool :=
  eqR R R' && (pc == pc' && (st == st' && (ad == ad' && (va == va' && (fa == fa' && ca == ca')))))
/-- the fields by type and place -/
def eqF (P : Program) (w : World) (d : Nat) (xs ys : Array Value) : List (TypeId × Nat) → Bool → Prop
  | [], r => r = true
  | (t, o) :: fs, r => ∃ a b r1 r2, (part t xs o).run P w = .ok a w ∧ (part t ys o).run P w = .ok b w ∧ (Op.equalIn d t a b).run P w = .ok r1 w ∧ eqF P w d xs ys fs r2 ∧ r = (r1 && r2)
theorem run_eqF {P : Program} {w : World} {d : Nat} {xs ys : Array Value} : ∀ (fs : List Field) (l : List (TypeId × Nat)) (r : Bool), (fs.all fun f => f.name != "_") = true → fs.map (fun f => (f.type, f.offset)) = l → eqF P w d xs ys l r → (Op.eqFields d xs ys fs).run P w = .ok r w
  | [], _, r, _, hl, h => by
    subst hl
    have h : r = true := h
    subst h; rfl
  | f :: fs, _, r, hn, hl, h => by
    subst hl
    obtain ⟨a, b, r1, r2, h1, h2, h3, h4, rfl⟩ := h
    have hn1 : f.name ≠ "_" := by simp at hn; exact hn.1
    have hn2 : (fs.all fun f => f.name != "_") = true := by simp at hn ⊢; exact hn.2
    have ih := run_eqF fs _ r2 hn2 rfl h4
    simp only [Op.eqFields, if_pos hn1, Sem.run_bind, h1, h2, h3, Result.andThen_ok]
    cases r1
    · simp
    · simp [ih]
theorem fields27 : (Tryd.prog.fieldsOf 27).toList.map (fun f => (f.type, f.offset)) = [(25, 0), (3, 16), (4, 17), (3, 18), (2, 19), (3, 20), (3, 21)] := by kernel_rfl
theorem names27 : ((Tryd.prog.fieldsOf 27).toList.all fun f => f.name != "_") = true := by kernel_rfl
theorem run_equalIn27 (R : Nat → Int) (pc : Int) (st : Bool) (ad va fa ca : Int) (R' : Nat → Int) (pc' : Int) (st' : Bool) (ad' va' fa' ca' : Int) (w : World) :
    (Op.equalIn 10000 27 (effV R pc st ad va fa ca) (effV R' pc' st' ad' va' fa' ca')).run Tryd.prog w = .ok (eqE R pc st ad va fa ca R' pc' st' ad' va' fa' ca') w := by
  unfold effV
  rw [run_equalIn_agg w 9999 27 _ _ (by kernel_rfl) (by kernel_rfl)]
  refine run_eqF _ _ _ names27 fields27 ?_
  refine ⟨_, _, _, _, (by kernel_rfl : (part 25 (effC R pc st ad va fa ca) 0).run Tryd.prog w = .ok (regV R) w), (by kernel_rfl : (part 25 (effC R' pc' st' ad' va' fa' ca') 0).run Tryd.prog w = .ok (regV R') w), run_equalIn25 9997 R R' w, ?_, rfl⟩
  refine ⟨_, _, _, _, (by kernel_rfl : (part 3 (effC R pc st ad va fa ca) 16).run Tryd.prog w = .ok (.int .i64 pc) w), (by kernel_rfl : (part 3 (effC R' pc' st' ad' va' fa' ca') 16).run Tryd.prog w = .ok (.int .i64 pc') w), run_equalIn_int w 9998 3 .i64 .i64 _ _ Tryd.underlying3, ?_, rfl⟩
  refine ⟨_, _, _, _, (by kernel_rfl : (part 4 (effC R pc st ad va fa ca) 17).run Tryd.prog w = .ok (.bool st) w), (by kernel_rfl : (part 4 (effC R' pc' st' ad' va' fa' ca') 17).run Tryd.prog w = .ok (.bool st') w), run_equalIn_bool' w 9998 4 _ _ Tryd.underlying4, ?_, rfl⟩
  refine ⟨_, _, _, _, (by kernel_rfl : (part 3 (effC R pc st ad va fa ca) 18).run Tryd.prog w = .ok (.int .i64 ad) w), (by kernel_rfl : (part 3 (effC R' pc' st' ad' va' fa' ca') 18).run Tryd.prog w = .ok (.int .i64 ad') w), run_equalIn_int w 9998 3 .i64 .i64 _ _ Tryd.underlying3, ?_, rfl⟩
  refine ⟨_, _, _, _, (by kernel_rfl : (part 2 (effC R pc st ad va fa ca) 19).run Tryd.prog w = .ok (.int .i64 va) w), (by kernel_rfl : (part 2 (effC R' pc' st' ad' va' fa' ca') 19).run Tryd.prog w = .ok (.int .i64 va') w), run_equalIn_int w 9998 2 .i64 .i64 _ _ Tryd.underlying2, ?_, rfl⟩
  refine ⟨_, _, _, _, (by kernel_rfl : (part 3 (effC R pc st ad va fa ca) 20).run Tryd.prog w = .ok (.int .i64 fa) w), (by kernel_rfl : (part 3 (effC R' pc' st' ad' va' fa' ca') 20).run Tryd.prog w = .ok (.int .i64 fa') w), run_equalIn_int w 9998 3 .i64 .i64 _ _ Tryd.underlying3, ?_, rfl⟩
  refine ⟨_, _, _, true, (by kernel_rfl : (part 3 (effC R pc st ad va fa ca) 21).run Tryd.prog w = .ok (.int .i64 ca) w), (by kernel_rfl : (part 3 (effC R' pc' st' ad' va' fa' ca') 21).run Tryd.prog w = .ok (.int .i64 ca') w), run_equalIn_int w 9998 3 .i64 .i64 _ _ Tryd.underlying3, rfl, (Bool.and_true _).symm⟩
theorem run_eq27 (R : Nat → Int) (pc : Int) (st : Bool) (ad va fa ca : Int) (R' : Nat → Int) (pc' : Int) (st' : Bool) (ad' va' fa' ca' : Int) (w : World) :
    (binOp .eql 27 (effV R pc st ad va fa ca) (effV R' pc' st' ad' va' fa' ca')).run Tryd.prog w = .ok (.bool (eqE R pc st ad va fa ca R' pc' st' ad' va' fa' ca')) w := by
  have h := run_equalIn27 R pc st ad va fa ca R' pc' st' ad' va' fa' ca' w
  unfold effV at *
  rw [run_eql_struct, h]; rfl
theorem run_neq27 (R : Nat → Int) (pc : Int) (st : Bool) (ad va fa ca : Int) (R' : Nat → Int) (pc' : Int) (st' : Bool) (ad' va' fa' ca' : Int) (w : World) :
    (binOp .neq 27 (effV R pc st ad va fa ca) (effV R' pc' st' ad' va' fa' ca')).run Tryd.prog w = .ok (.bool (!eqE R pc st ad va fa ca R' pc' st' ad' va' fa' ca')) w := by
  have h := run_equalIn27 R pc st ad va fa ca R' pc' st' ad' va' fa' ca' w
  unfold effV at *
  rw [run_neq_struct, h]; rfl
theorem run_eqIns (w : World) (o a b c n o' a' b' c' n' : Int) :
    (binOp .eql 30 (insV o a b c n) (insV o' a' b' c' n')).run Tryd.prog w = .ok (.bool ((o == o') && ((a == a') && ((b == b') && ((c == c') && (n == n')))))) w := by
  unfold insV
  simp [go_sem]
  by_cases h1 : o = o' <;> by_cases h2 : a = a' <;> by_cases h3 : b = b' <;> by_cases h4 : c = c' <;> by_cases h5 : n = n' <;> simp [h1, h2, h3, h4, h5]

/-- the registers of an effect, and of a row of them, read as a whole -/
theorem range_eff {w : World} {g : Nat} {R : Nat → Int} {pc : Int} {st : Bool} {ad va fa ca : Int} (h : w.heap[g]? = some (.cells (effC R pc st ad va fa ca) 27)) : w.rangeAt g 0 (regC R).toList := by
  intro j v hj
  have hl : j < 16 := by have := (List.getElem?_eq_some_iff.1 hj).1; exact this
  have e : (regC R)[j]? = some v := by simpa using hj
  rw [regC_at R hl] at e
  rw [Nat.zero_add, ← e]
  exact (cell_of_row _ _ _ _ _ _ h).trans (effC_at R pc st ad va fa ca hl)
theorem range_reg {w : World} {g : Nat} {R : Nat → Int} (h : w.heap[g]? = some (.cells (regC R) 25)) : w.rangeAt g 0 (regC R).toList := by
  intro j v hj
  have hl : j < 16 := by have := (List.getElem?_eq_some_iff.1 hj).1; exact this
  have e : (regC R)[j]? = some v := by simpa using hj
  rw [regC_at R hl] at e
  rw [Nat.zero_add, ← e]
  exact (cell_of_row _ _ _ _ _ _ h).trans (regC_at R hl)
theorem range_drewN {w : World} {g o n : Nat} {cs : List Value} (h : w.rangeAt g o cs) : (w.drewN n).rangeAt g o cs := h
theorem run_load25 (w : World) (g o : Nat) (R : Nat → Int) (h : w.rangeAt g o (regC R).toList) : (Instr.loadAt 25 (.pointer (some ⟨g, o, none⟩))).run Tryd.prog w = .ok (regV R) w := by
  have := run_loadAt_mid (P := Tryd.prog) w g o 25 _ _ h Tryd.underlying25 rfl info25
  unfold regV
  simpa using this

section
variable {P : Program} {ops : Array Oper} {C : World → Prop} {Q : Act → Prop} {a : Act} {o : Oper} {rest : List Oper} {K : Act → Prop}
theorem quiet_val {v : Value} (h : ∀ w, C w → (execOp a.eval o).run P w = .ok (.value v) w) (hk : K (a.put o.dst v)) : o.quiet P a C K :=
  ⟨v, fun w hw => by unfold Oper.quietAt; rw [h w hw]; exact ⟨rfl, rfl⟩, hk⟩
theorem quiet_load25 (x : Operand) (ho : o.op = .load 25 x) (g off : Nat) (R : Nat → Int) (hx : a.eval x = .pointer (some ⟨g, off, none⟩)) (hr : ∀ w, C w → w.rangeAt g off (regC R).toList) (hk : K (a.put o.dst (regV R))) : o.quiet Tryd.prog a C K :=
  quiet_val (fun w hw => by simp only [execOp, ho, hx, Sem.run_bind, run_load25 w g off R (hr w hw)]; rfl) hk
theorem quiet_eq25 (x y : Operand) (t : TypeId) (ho : o.op = .binOp .eql 25 x y t) (R S : Nat → Int) (hx : a.eval x = regV R) (hy : a.eval y = regV S) (hk : K (a.put o.dst (.bool (eqR R S)))) : o.quiet Tryd.prog a C K :=
  quiet_val (fun w hw => by simp only [execOp, ho, hx, hy, Sem.run_bind, run_eq25]; rfl) hk
end

end Go.Proofs.YtijeaonldhccmaaDoor
