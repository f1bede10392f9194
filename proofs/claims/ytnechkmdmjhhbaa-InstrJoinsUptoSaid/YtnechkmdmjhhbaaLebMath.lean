/-
  Plain mathematics of numbers of variable length, over lists of bytes: how many bytes a number has, what they come to, unsigned.
-/
import Derived.Laws.BitsAllLaws
namespace Leb
/-- Of how many bytes is the number with which the bytes begin; 0: it does not end. -/
def run : List UInt8 → Nat
  | [] => 0
  | b :: r => if b.toNat < 128 then 1 else if run r = 0 then 0 else run r + 1
/-- The bytes' seven bits each, the lowest first. -/
def val : List UInt8 → Nat
  | [] => 0
  | b :: r => b.toNat % 128 + 128 * val r
/-- The value of the bytes that are used. -/
def used (l : List UInt8) : Nat := val (l.take (run l))

theorem val_lt : ∀ l : List UInt8, val l < 128 ^ l.length
  | [] => by simp [val]
  | b :: r => by
    have := val_lt r
    have h2 : b.toNat % 128 < 128 := Nat.mod_lt _ (by decide)
    simp only [val, List.length_cons, Nat.pow_succ]
    omega
theorem val_append : ∀ a b : List UInt8, val (a ++ b) = val a + 128 ^ a.length * val b
  | [], b => by simp [val]
  | x :: a, b => by
    simp only [List.cons_append, val, val_append a b, List.length_cons, Nat.pow_succ, Nat.mul_add]
    rw [Nat.mul_comm (128 ^ a.length) 128, Nat.mul_assoc]
    omega
theorem take_snoc {l : List UInt8} {k : Nat} {x : UInt8} (h : l[k]? = some x) : l.take (k + 1) = l.take k ++ [x] := by
  rw [List.take_add_one, h]; rfl
theorem length_take_some {l : List UInt8} {k : Nat} {x : UInt8} (h : l[k]? = some x) : (l.take k).length = k := by
  have := (List.getElem?_eq_some_iff.1 h).1
  simp; omega
theorem val_take_succ {l : List UInt8} {k : Nat} {x : UInt8} (h : l[k]? = some x) : val (l.take (k + 1)) = val (l.take k) + 128 ^ k * (x.toNat % 128) := by
  rw [take_snoc h, val_append, length_take_some h]; simp [val]

/-- The first k bytes all go on. -/
def big (l : List UInt8) (k : Nat) : Prop := ∀ x ∈ l.take k, 128 ≤ x.toNat
theorem big_zero (l : List UInt8) : big l 0 := by simp [big]
theorem big_succ {l : List UInt8} {k : Nat} {x : UInt8} (hb : big l k) (h : l[k]? = some x) (hx : 128 ≤ x.toNat) : big l (k + 1) := by
  intro y hy
  rw [take_snoc h] at hy
  rcases List.mem_append.1 hy with hy | hy
  · exact hb y hy
  · simp at hy; subst hy; exact hx
theorem run_big : ∀ {l : List UInt8} {k : Nat}, big l k → run l = 0 ∨ k < run l
  | [], _, _ => by simp [run]
  | b :: r, 0, _ => by
    unfold run; split
    · omega
    · split <;> omega
  | b :: r, k + 1, h => by
    have hb : 128 ≤ b.toNat := h b (by simp)
    have hr := run_big (l := r) (k := k) (fun x hx => h x (by simp [hx]))
    unfold run
    rw [if_neg (by omega)]
    split <;> omega
theorem run_none {l : List UInt8} {k : Nat} (h : big l k) (hk : l.length ≤ k) : run l = 0 := by
  rcases run_big h with h0 | h0
  · exact h0
  · exfalso
    have : ∀ l : List UInt8, run l ≤ l.length := by
      intro l
      induction l with
      | nil => simp [run]
      | cons b r ih => unfold run; simp only [List.length_cons]; split <;> (try split) <;> omega
    have := this l
    omega
theorem run_le : ∀ l : List UInt8, run l ≤ l.length := by
  intro l
  induction l with
  | nil => simp [run]
  | cons b r ih => unfold run; simp only [List.length_cons]; split <;> (try split) <;> omega
theorem run_at : ∀ {l : List UInt8} {k : Nat} {x : UInt8}, big l k → l[k]? = some x → x.toNat < 128 → run l = k + 1
  | [], _, _, _, h, _ => by simp at h
  | b :: r, 0, x, _, h, hx => by
    simp at h; subst h; unfold run; rw [if_pos hx]
  | b :: r, k + 1, x, hb, h, hx => by
    have h1 : 128 ≤ b.toNat := hb b (by simp)
    have h2 := run_at (l := r) (k := k) (x := x) (fun y hy => hb y (by simp [hy])) (by simpa using h) hx
    unfold run
    rw [if_neg (by omega), if_neg (by omega), h2]

theorem pow128 (k : Nat) : 128 ^ k = 2 ^ (7 * k) := by rw [Nat.pow_mul]

/-- Whether the bytes begin with an unsigned number of so many bits. -/
def okU (l : List UInt8) (n : Int) : Bool := decide (1 ≤ n ∧ n ≤ 64 ∧ 1 ≤ run l ∧ 7 * ((run l : Int) - 1) < n ∧ (used l : Int) < 2 ^ n.toNat)
def numU (l : List UInt8) (n : Int) : Int := if okU l n = true then (used l : Int) else 0
def cntU (l : List UInt8) (n : Int) : Int := if okU l n = true then (run l : Int) else 0

theorem okU_bits {l : List UInt8} {n : Int} (h : n < 1 ∨ 64 < n) : okU l n = false := by
  unfold okU; rw [decide_eq_false_iff_not]; omega
theorem okU_end {l : List UInt8} {n : Int} {k : Nat} (hb : big l k) (h : l.length ≤ k ∨ n ≤ 7 * (k : Int)) : okU l n = false := by
  unfold okU; rw [decide_eq_false_iff_not]
  rintro ⟨_, _, h1, h2, _⟩
  rcases h with h | h
  · have := run_none hb h; omega
  · rcases run_big hb with h0 | h0 <;> omega
theorem used_at {l : List UInt8} {k : Nat} {x : UInt8} (hb : big l k) (h : l[k]? = some x) (hx : x.toNat < 128) : used l = val (l.take k) + 2 ^ (7 * k) * x.toNat := by
  unfold used
  rw [run_at hb h hx, val_take_succ h, pow128, Nat.mod_eq_of_lt hx]
theorem val_take_lt {l : List UInt8} {k : Nat} {x : UInt8} (h : l[k]? = some x) : val (l.take k) < 2 ^ (7 * k) := by
  have := val_lt (l.take k)
  rwa [length_take_some h, pow128] at this
/-- The last byte, of an unsigned number. -/
theorem okU_last {l : List UInt8} {n : Int} {k : Nat} {x : UInt8} (hb : big l k) (h : l[k]? = some x) (hx : x.toNat < 128) (h1 : 1 ≤ n) (h2 : n ≤ 64) (h3 : 7 * (k : Int) < n) :
    okU l n = decide ((x.toNat : Int) / 2 ^ min (n - 7 * (k : Int)).toNat 8 = 0) := by
  obtain ⟨m, rfl⟩ : ∃ m : Nat, n = m := ⟨n.toNat, by omega⟩
  have hm : ((m : Int) - 7 * (k : Int)).toNat = m - 7 * k := by omega
  have hr := run_at hb h hx
  have hu := used_at hb h hx
  have hv := val_take_lt h
  unfold okU
  rw [Bool.eq_iff_iff, decide_eq_true_iff, decide_eq_true_iff, hr, hm, hu]
  have e1 : ((x.toNat : Int) / 2 ^ min (m - 7 * k) 8) = ((x.toNat / 2 ^ min (m - 7 * k) 8 : Nat) : Int) := by simp
  have e2 : ((2 : Int) ^ (m : Int).toNat) = ((2 ^ m : Nat) : Int) := by simp
  rw [e1, e2]
  have e3 : (2 : Nat) ^ m = 2 ^ (7 * k) * 2 ^ (m - 7 * k) := by rw [← Nat.pow_add]; congr 1; omega
  have key : val (l.take k) + 2 ^ (7 * k) * x.toNat < 2 ^ m ↔ x.toNat < 2 ^ (m - 7 * k) := by
    rw [e3]
    constructor
    · intro hlt
      apply Nat.lt_of_mul_lt_mul_left (a := 2 ^ (7 * k))
      omega
    · intro hlt
      have : 2 ^ (7 * k) * (x.toNat + 1) ≤ 2 ^ (7 * k) * 2 ^ (m - 7 * k) := Nat.mul_le_mul_left _ hlt
      rw [Nat.mul_add, Nat.mul_one] at this
      omega
  have key2 : x.toNat / 2 ^ min (m - 7 * k) 8 = 0 ↔ x.toNat < 2 ^ (m - 7 * k) := by
    rw [Nat.div_eq_zero_iff_lt (Nat.pow_pos (by decide))]
    by_cases h8 : m - 7 * k ≤ 8
    · rw [Nat.min_eq_left h8]
    · rw [Nat.min_eq_right (by omega)]
      have : 2 ^ 8 ≤ 2 ^ (m - 7 * k) := Nat.pow_le_pow_right (by decide) (by omega)
      constructor <;> intro <;> omega
  constructor
  · rintro ⟨_, _, _, _, h5⟩
    have h6 : val (l.take k) + 2 ^ (7 * k) * x.toNat < 2 ^ m := by exact_mod_cast h5
    have := key2.2 (key.1 h6)
    omega
  · intro h5
    have h6 := key.2 (key2.1 (by omega))
    refine ⟨h1, h2, by omega, by omega, by exact_mod_cast h6⟩
theorem used_lt {l : List UInt8} {n : Int} (h : okU l n = true) : (used l : Int) < 18446744073709551616 := by
  unfold okU at h
  rw [decide_eq_true_iff] at h
  obtain ⟨h1, h2, _, _, h5⟩ := h
  have e2 : ((2 : Int) ^ n.toNat) = ((2 ^ n.toNat : Nat) : Int) := by simp
  rw [e2] at h5
  have h6 : (2 : Nat) ^ n.toNat ≤ 2 ^ 64 := Nat.pow_le_pow_right (by decide) (by omega)
  have h7 : (2 : Nat) ^ 64 = 18446744073709551616 := rfl
  omega
end Leb
