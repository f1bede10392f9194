/-
  What a text in UTF-8 is, as a plain function on lists of bytes: the first character's length by its first byte and the ranges of those behind it; plain mathematics.
-/
import Derived.Lib.LaidU8T
namespace U8
/-- How many bytes a character has that begins with this one (128 or more); 0: none does. -/
def size (c : Nat) : Nat := if c < 194 then 0 else if c < 224 then 2 else if c < 240 then 3 else if c < 245 then 4 else 0
def lo (c : Nat) : Nat := if c = 224 then 160 else if c = 240 then 144 else 128
def hi (c : Nat) : Nat := if c = 237 then 159 else if c = 244 then 143 else 191
def byte (l : List UInt8) (k : Nat) : Nat := (l.getD k 0).toNat
theorem byte_lt (l : List UInt8) (k : Nat) : byte l k < 256 := (l.getD k 0).toNat_lt
/-- Of how many bytes is the first character; 0: there is none. -/
def one (l : List UInt8) : Nat :=
  if l.length = 0 then 0 else if byte l 0 < 128 then 1
  else if size (byte l 0) = 0 ∨ l.length < size (byte l 0) then 0
  else if byte l 1 < lo (byte l 0) ∨ hi (byte l 0) < byte l 1 then 0
  else if 3 ≤ size (byte l 0) ∧ (byte l 2 < 128 ∨ 191 < byte l 2) then 0
  else if 4 ≤ size (byte l 0) ∧ (byte l 3 < 128 ∨ 191 < byte l 3) then 0
  else size (byte l 0)
theorem one_bad {l : List UInt8} (h0 : 128 ≤ byte l 0) (h : size (byte l 0) = 0 ∨ l.length < size (byte l 0) ∨ byte l 1 < lo (byte l 0) ∨ hi (byte l 0) < byte l 1 ∨ (3 ≤ size (byte l 0) ∧ (byte l 2 < 128 ∨ 191 < byte l 2)) ∨ (4 ≤ size (byte l 0) ∧ (byte l 3 < 128 ∨ 191 < byte l 3))) : one l = 0 := by
  unfold one
  repeat' split
  all_goals omega
theorem one_good {l : List UInt8} (h0 : 128 ≤ byte l 0) (_hs : size (byte l 0) ≠ 0) (hl : size (byte l 0) ≤ l.length) (h1 : lo (byte l 0) ≤ byte l 1 ∧ byte l 1 ≤ hi (byte l 0)) (h2 : 3 ≤ size (byte l 0) → 128 ≤ byte l 2 ∧ byte l 2 ≤ 191) (h3 : 4 ≤ size (byte l 0) → 128 ≤ byte l 3 ∧ byte l 3 ≤ 191) : one l = size (byte l 0) := by
  unfold one
  repeat' split
  all_goals omega
theorem size_cases (c : Nat) : size c = 0 ∨ size c = 2 ∨ size c = 3 ∨ size c = 4 := by
  unfold size; split <;> (try split) <;> (try split) <;> (try split) <;> simp
theorem one_le (l : List UInt8) : one l ≤ l.length := by
  unfold one
  split
  · omega
  · split
    · omega
    · split
      · omega
      · repeat' split
        all_goals omega
def run : Nat → List UInt8 → Bool
  | 0, _ => true
  | f + 1, l => if l.length = 0 then true else if one l = 0 then false else run f (l.drop (one l))
/-- It is a text. -/
def text (l : List UInt8) : Bool := run l.length l
theorem run_more : ∀ (f g : Nat) (l : List UInt8), l.length ≤ f → l.length ≤ g → run f l = run g l
  | 0, 0, _, _, _ => rfl
  | 0, g + 1, l, hf, _ => by
    have h0 : l.length = 0 := by omega
    simp [run, h0]
  | f + 1, 0, l, _, hg => by
    have h0 : l.length = 0 := by omega
    simp [run, h0]
  | f + 1, g + 1, l, hf, hg => by
    by_cases h0 : l.length = 0
    · simp [run, h0]
    · by_cases h1 : one l = 0
      · simp [run, h0, h1]
      · simp only [run, h0, h1, if_false]
        exact run_more f g _ (by rw [List.length_drop]; omega) (by rw [List.length_drop]; omega)
theorem text_nil {l : List UInt8} (h : l.length = 0) : text l = true := by unfold text; rw [h]; rfl
theorem text_no {l : List UInt8} (h0 : l.length ≠ 0) (h : one l = 0) : text l = false := by
  unfold text
  obtain ⟨n, hn⟩ := Nat.exists_eq_succ_of_ne_zero h0
  rw [hn]; simp [run, h0, h]
theorem text_step {l : List UInt8} (h : one l ≠ 0) : text l = text (l.drop (one l)) := by
  have h0 : l.length ≠ 0 := by
    intro h0; apply h; unfold one; rw [if_pos h0]
  unfold text
  obtain ⟨n, hn⟩ := Nat.exists_eq_succ_of_ne_zero h0
  rw [hn]
  simp only [run, h0, h, if_false]
  exact run_more _ _ _ (by rw [List.length_drop]; omega) (by rw [List.length_drop]; omega)
theorem text_low {l : List UInt8} (h0 : l.length ≠ 0) (h : byte l 0 < 128) : text l = text (l.drop 1) := by
  have h1 : one l = 1 := by unfold one; rw [if_neg h0, if_pos h]
  have := text_step (l := l) (by omega)
  rw [h1] at this; exact this
/-- The first k bytes are below 128. -/
def Low (l : List UInt8) (k : Nat) : Prop := k ≤ l.length ∧ ∀ j, j < k → byte l j < 128
theorem byte_drop (l : List UInt8) (k j : Nat) : byte (l.drop k) j = byte l (k + j) := by
  unfold byte; rw [List.getD_eq_getElem?_getD, List.getD_eq_getElem?_getD, List.getElem?_drop]
theorem text_lows : ∀ (k : Nat) {l : List UInt8}, Low l k → text l = text (l.drop k)
  | 0, l, _ => by simp
  | k + 1, l, ⟨hk, h⟩ => by
    rw [text_low (by omega) (h 0 (by omega)), text_lows k (l := l.drop 1) ⟨by rw [List.length_drop]; omega, fun j hj => by rw [byte_drop]; exact h (1 + j) (by omega)⟩, List.drop_drop]
    congr 2; omega
theorem Low.more {l : List UInt8} {a b : Nat} (h1 : Low l a) (h2 : Low (l.drop a) b) : Low l (a + b) := by
  obtain ⟨k1, g1⟩ := h1
  obtain ⟨k2, g2⟩ := h2
  rw [List.length_drop] at k2
  refine ⟨by omega, fun j hj => ?_⟩
  by_cases hja : j < a
  · exact g1 j hja
  · have := g2 (j - a) (by omega)
    rw [byte_drop, show a + (j - a) = j by omega] at this
    exact this
/-- What the library's tables say of a byte from 128 on. -/
theorem tables : (List.range 128).all (fun k => let c := 128 + k
    (Go.Lib.firstT c % 8 == if size c = 0 then 1 else size c) && decide (Go.Lib.firstT c < 256) && decide (Go.Lib.firstT c / 16 < 16) && (size c == 0 || (Go.Lib.accLo (Go.Lib.firstT c / 16) == lo c && Go.Lib.accHi (Go.Lib.firstT c / 16) == hi c))) = true := by decide +kernel
theorem table_at {c : Nat} (h : 128 ≤ c) (h2 : c < 256) : Go.Lib.firstT c % 8 = (if size c = 0 then 1 else size c) ∧ Go.Lib.firstT c < 256 ∧ Go.Lib.firstT c / 16 < 16 ∧ (size c = 0 ∨ (Go.Lib.accLo (Go.Lib.firstT c / 16) = lo c ∧ Go.Lib.accHi (Go.Lib.firstT c / 16) = hi c)) := by
  have := List.all_eq_true.1 tables (c - 128) (List.mem_range.2 (by omega))
  rw [show 128 + (c - 128) = c by omega] at this
  simp only [Bool.and_eq_true, beq_iff_eq, decide_eq_true_eq, Bool.or_eq_true] at this
  obtain ⟨⟨⟨h1, h2⟩, h3⟩, h4⟩ := this
  exact ⟨h1, h2, h3, h4⟩
end U8
