/-
  The check sum: plain.
-/
import Derived.Test.YtakdfpenpodplaaHeap
namespace Go.Proofs.Ytakdfpenpodplaa
set_option linter.unusedVariables false

def crcBit (r : Nat) : Nat := (r / 2) ^^^ (3988292384 * (r % 2))
def crcBits : Nat → Nat → Nat
  | 0, r => r
  | k + 1, r => crcBit (crcBits k r)
def crcByte (r x : Nat) : Nat := crcBits 8 (r ^^^ x)
def crcReg (bs : List Nat) : Nat := bs.foldl crcByte 4294967295
def crc (bs : List Nat) : Nat := 4294967295 - crcReg bs

theorem xor_lt {a b : Nat} (ha : a < 4294967296) (hb : b < 4294967296) : a ^^^ b < 4294967296 := Nat.xor_lt_two_pow (n := 32) ha hb
theorem crcBit_lt {r : Nat} (h : r < 4294967296) : crcBit r < 4294967296 := by
  unfold crcBit
  refine xor_lt (by omega) ?_
  have : r % 2 < 2 := Nat.mod_lt _ (by decide)
  have h2 : r % 2 = 0 ∨ r % 2 = 1 := by omega
  rcases h2 with h2 | h2 <;> rw [h2] <;> omega
theorem crcBits_lt {r : Nat} (h : r < 4294967296) : ∀ k, crcBits k r < 4294967296
  | 0 => h
  | k + 1 => crcBit_lt (crcBits_lt h k)
theorem crcByte_lt {r x : Nat} (h : r < 4294967296) (hx : x < 256) : crcByte r x < 4294967296 := crcBits_lt (xor_lt h (by omega)) 8
theorem crcReg_lt (bs : List Nat) (hb : ∀ x ∈ bs, x < 256) : ∀ k, (bs.take k).foldl crcByte 4294967295 < 4294967296 := by
  have : ∀ (l : List Nat) (r : Nat), (∀ x ∈ l, x < 256) → r < 4294967296 → l.foldl crcByte r < 4294967296 := by
    intro l
    induction l with
    | nil => intro r _ hr; exact hr
    | cons x l ih => intro r hl hr; exact ih _ (fun y hy => hl y (List.mem_cons_of_mem _ hy)) (crcByte_lt hr (hl x (List.mem_cons_self ..)))
  intro k
  exact this _ _ (fun x hx => hb x (List.mem_of_mem_take hx)) (by decide)
theorem crcReg_step (bs : List Nat) (k : Nat) (h : k < bs.length) : (bs.take (k + 1)).foldl crcByte 4294967295 = crcByte ((bs.take k).foldl crcByte 4294967295) (bs.getD k 0) := by
  rw [List.take_add_one, List.getElem?_eq_getElem h, List.foldl_append]
  simp [List.getD, h]

end Go.Proofs.Ytakdfpenpodplaa
