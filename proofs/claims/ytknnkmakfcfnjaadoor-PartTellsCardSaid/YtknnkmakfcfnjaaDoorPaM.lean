/-
  Plain mathematics of parts (no program): a body's parts; that they stand one behind the other, what each costs, what is in none; what is charged up to a place.
-/
import Derived.Test.YtknnkmakfcfnjaaDoorCoM
namespace Pa
open Ins
/-- A part: from which place, up to ahead of which, its cost. -/
structure P where
  at_ : Nat
  to : Nat
  cost : Nat
deriving DecidableEq
def enders : List UInt8 := [0, 3, 4, 5, 11, 12, 13, 14, 15, 16, 17, 64]
def ends (op : Nat) : Bool := op == 0 || op == 3 || op == 4 || op == 5 || op == 11 || op == 12 || op == 13 || op == 14 || op == 15 || op == 16 || op == 17 || op == 64
theorem ends_mem : ∀ op : Fin 256, ends op.val = enders.any (fun y => y.toNat == op.val) := by decide +kernel
def go (a i c : Nat) : List I → List P
  | [] => []
  | x :: xs =>
    if ends x.op || xs.isEmpty then
      if 0 < c + Co.of x.op then ⟨a, i + 1, c + Co.of x.op⟩ :: go (i + 1) (i + 1) 0 xs else go (i + 1) (i + 1) 0 xs
    else go a (i + 1) (c + Co.of x.op) xs
def parts (xs : List I) : List P := go 0 0 0 xs
theorem go_step {xs : List I} {i : Nat} {x : I} (hx : xs[i]? = some x) (a c : Nat) : go a i c (xs.drop i) =
    if ends x.op || decide (i + 1 = xs.length) then
      if 0 < c + Co.of x.op then ⟨a, i + 1, c + Co.of x.op⟩ :: go (i + 1) (i + 1) 0 (xs.drop (i + 1)) else go (i + 1) (i + 1) 0 (xs.drop (i + 1))
    else go a (i + 1) (c + Co.of x.op) (xs.drop (i + 1)) := by
  obtain ⟨hi, rfl⟩ := List.getElem?_eq_some_iff.1 hx
  rw [List.drop_eq_getElem_cons hi, go]
  have : (xs.drop (i + 1)).isEmpty = decide (i + 1 = xs.length) := by
    rw [Bool.eq_iff_iff]
    simp
    omega
  rw [this]
theorem go_end {xs : List I} {i : Nat} (h : xs.length ≤ i) (a c : Nat) : go a i c (xs.drop i) = [] := by
  rw [List.drop_eq_nil_of_le h]; rfl
/-- How many instructions the part has that begins here. -/
def nx : List I → Nat
  | [] => 0
  | x :: xs => if ends x.op then 1 else nx xs + 1
theorem nx_le : ∀ xs : List I, nx xs ≤ xs.length
  | [] => Nat.le_refl _
  | x :: xs => by
    have := nx_le xs
    unfold nx
    split
    · simp
    · simpa using this
theorem nx_pos : ∀ {xs : List I}, xs ≠ [] → 0 < nx xs
  | [], h => (h rfl).elim
  | x :: xs, _ => by unfold nx; split <;> omega
theorem go_nx : ∀ (xs : List I) (a i c : Nat), xs ≠ [] → go a i c xs = (if 0 < c + Co.sum (xs.take (nx xs)) then [⟨a, i + nx xs, c + Co.sum (xs.take (nx xs))⟩] else []) ++ go (i + nx xs) (i + nx xs) 0 (xs.drop (nx xs))
  | [], _, _, _, h => (h rfl).elim
  | x :: xs, a, i, c, _ => by
    by_cases he : ends x.op = true
    · have h1 : nx (x :: xs) = 1 := by unfold nx; rw [if_pos he]
      rw [h1, go, he, Bool.true_or, if_pos rfl]
      simp only [List.take_succ_cons, List.take_zero, List.drop_succ_cons, List.drop_zero, Co.sum, Nat.add_zero]
      split <;> simp
    · have he2 : ends x.op = false := by simpa using he
      have h1 : nx (x :: xs) = nx xs + 1 := by conv => lhs; unfold nx
                                               rw [if_neg he]
      cases xs with
      | nil =>
        rw [h1, go]
        simp only [nx, List.isEmpty_nil, Bool.or_true, if_true, Nat.zero_add, List.take_succ_cons, List.take_nil, List.drop_succ_cons, List.drop_nil, Co.sum, Nat.add_zero]
        split <;> simp
      | cons y ys =>
        rw [h1, go, he2, List.isEmpty_cons, Bool.or_false, if_neg (by decide), go_nx (y :: ys) a (i + 1) (c + Co.of x.op) (by simp)]
        simp only [List.take_succ_cons, List.drop_succ_cons, Co.sum]
        rw [show i + 1 + nx (y :: ys) = i + (nx (y :: ys) + 1) by omega, show c + Co.of x.op + Co.sum ((y :: ys).take (nx (y :: ys))) = c + (Co.of x.op + Co.sum ((y :: ys).take (nx (y :: ys)))) by omega]
/-- One part of a body, from a on. -/
theorem go_at {xs : List I} {a : Nat} (h : a < xs.length) : go a a 0 (xs.drop a) = (if 0 < Co.sum ((xs.take (a + nx (xs.drop a))).drop a) then [⟨a, a + nx (xs.drop a), Co.sum ((xs.take (a + nx (xs.drop a))).drop a)⟩] else []) ++ go (a + nx (xs.drop a)) (a + nx (xs.drop a)) 0 (xs.drop (a + nx (xs.drop a))) := by
  have hne : xs.drop a ≠ [] := fun e => by have := congrArg List.length e; simp at this; omega
  have e1 : (xs.drop a).take (nx (xs.drop a)) = (xs.take (a + nx (xs.drop a))).drop a := by rw [List.drop_take]; congr 1; omega
  rw [go_nx (xs.drop a) a a 0 hne, List.drop_drop, Nat.zero_add, e1]
/-- The part's length, found one by one: what stands ahead ends none. -/
theorem nx_end {xs : List I} {k : Nat} {x : I} (hx : xs[k]? = some x) (h : nx xs = k + nx (xs.drop k)) (he : ends x.op = true) : nx xs = k + 1 := by
  obtain ⟨hi, rfl⟩ := List.getElem?_eq_some_iff.1 hx
  rw [h, List.drop_eq_getElem_cons hi, nx, if_pos he]
theorem nx_go {xs : List I} {k : Nat} {x : I} (hx : xs[k]? = some x) (h : nx xs = k + nx (xs.drop k)) (he : ends x.op = false) : nx xs = k + 1 + nx (xs.drop (k + 1)) := by
  obtain ⟨hi, rfl⟩ := List.getElem?_eq_some_iff.1 hx
  rw [h, List.drop_eq_getElem_cons hi, nx, if_neg (by simp [he])]
  omega
/-- What the first k instructions cost. -/
def S (xs : List I) (k : Nat) : Nat := Co.sum (xs.take k)
theorem S_step {xs : List I} {i : Nat} {x : I} (hx : xs[i]? = some x) : S xs (i + 1) = S xs i + Co.of x.op := Co.sum_step hx
theorem S_mid (xs : List I) {a b : Nat} (h : a ≤ b) : Co.sum ((xs.take b).drop a) + S xs a = S xs b := by
  have h1 : xs.take b = (xs.take b).take a ++ (xs.take b).drop a := (List.take_append_drop a (xs.take b)).symm
  have h2 : (xs.take b).take a = xs.take a := by rw [List.take_take, Nat.min_eq_left h]
  unfold S
  conv => rhs; rw [h1, Co.sum_append, h2]
  omega
theorem S_mono (xs : List I) {a b : Nat} (h : a ≤ b) : S xs a ≤ S xs b := by have := S_mid xs h; omega
theorem S_all (xs : List I) : S xs xs.length = Co.sum xs := by unfold S; rw [List.take_length]
theorem S_behind (xs : List I) (a : Nat) (h : a ≤ xs.length) : Co.sum (xs.drop a) + S xs a = Co.sum xs := by
  have := S_mid xs h
  rw [List.take_length, S_all] at this
  exact this
structure Ok (xs : List I) (a : Nat) (p : P) : Prop where
  le : a ≤ p.at_
  lt : p.at_ < p.to
  len : p.to ≤ xs.length
  pos : 0 < p.cost
  cost : S xs p.to = S xs p.at_ + p.cost
  zero : S xs p.at_ = S xs a
  inner : ∀ k x, p.at_ ≤ k → k + 1 < p.to → xs[k]? = some x → ends x.op = false
  before : ∀ k x, p.at_ = k + 1 → xs[k]? = some x → ends x.op = true
  behind : ∀ k x, p.to = k + 1 → p.to < xs.length → xs[k]? = some x → ends x.op = true
def Chain (xs : List I) : Nat → List P → Prop
  | a, [] => a ≤ xs.length ∧ S xs a = S xs xs.length
  | a, p :: ps => Ok xs a p ∧ Chain xs p.to ps
theorem chain_go (xs : List I) : ∀ (n i a b c : Nat), xs.length = i + n → b ≤ a → a ≤ i → S xs a = S xs b → S xs i = S xs a + c → (∀ k x, a ≤ k → k < i → xs[k]? = some x → ends x.op = false) → (∀ k x, a = k + 1 → i < xs.length → xs[k]? = some x → ends x.op = true) → (n = 0 → a = i) →
    Chain xs b (go a i c (xs.drop i))
  | 0, i, a, b, c, hn, hba, hai, hz, hc, hin, hbe, hen => by
    rw [go_end (by omega)]
    have := hen rfl
    subst this
    have e : a = xs.length := by omega
    refine ⟨by omega, ?_⟩
    rw [← e]
    exact hz.symm
  | n + 1, i, a, b, c, hn, hba, hai, hz, hc, hin, hbe, hen => by
    obtain ⟨x, hx⟩ : ∃ x, xs[i]? = some x := ⟨_, List.getElem?_eq_getElem (by omega)⟩
    have hs := S_step hx
    rw [go_step hx]
    by_cases he : (ends x.op || decide (i + 1 = xs.length)) = true
    · rw [if_pos he]
      have hbe' : ∀ k y, i + 1 = k + 1 → i + 1 < xs.length → xs[k]? = some y → ends y.op = true := fun k y hk hl hy => by
        obtain rfl : k = i := by omega
        rw [hx] at hy
        injection hy with hy
        subst hy
        rw [decide_eq_false (by omega), Bool.or_false] at he
        exact he
      by_cases hp : 0 < c + Co.of x.op
      · rw [if_pos hp]
        refine ⟨⟨hba, by show a < i + 1; omega, by show i + 1 ≤ _; omega, hp, by show S xs (i + 1) = S xs a + (c + Co.of x.op); rw [hs, hc]; omega, hz, fun k y h1 h2 hy => hin k y h1 (by show k < i; have : k + 1 < i + 1 := h2; omega) hy, fun k y hk hy => hbe k y hk (by omega) hy, fun k y hk hl hy => hbe' k y hk hl hy⟩, ?_⟩
        exact chain_go xs n (i + 1) (i + 1) (i + 1) 0 (by omega) (Nat.le_refl _) (Nat.le_refl _) rfl (by omega) (fun k y h1 h2 => by omega) hbe' (fun _ => rfl)
      · rw [if_neg hp]
        exact chain_go xs n (i + 1) (i + 1) b 0 (by omega) (by omega) (Nat.le_refl _) (by omega) (by omega) (fun k y h1 h2 => by omega) hbe' (fun _ => rfl)
    · rw [if_neg he]
      have he1 : ends x.op = false := by cases h : ends x.op <;> simp_all
      have he2 : ¬ i + 1 = xs.length := fun h => he (by rw [decide_eq_true h, Bool.or_true])
      refine chain_go xs n (i + 1) a b (c + Co.of x.op) (by omega) hba (by omega) hz (by omega) (fun k y h1 h2 hy => ?_) (fun k y hk hl hy => hbe k y hk (by omega) hy) (fun h => by omega)
      by_cases hk : k < i
      · exact hin k y h1 hk hy
      · obtain rfl : k = i := by omega
        rw [hx] at hy
        injection hy with hy
        subst hy
        exact he1
theorem chain_parts (xs : List I) : Chain xs 0 (parts xs) := by
  have := chain_go xs xs.length 0 0 0 0 (by omega) (Nat.le_refl _) (Nat.le_refl _) rfl (by omega) (fun k x h1 h2 => by omega) (fun k x h => by omega) (fun _ => rfl)
  rwa [List.drop_zero] at this
def costs : List P → Nat
  | [] => 0
  | p :: ps => p.cost + costs ps
theorem chain_sum (xs : List I) : ∀ (ps : List P) (a : Nat), Chain xs a ps → S xs a + costs ps = Co.sum xs
  | [], a, h => by rw [costs, h.2, S_all]; rfl
  | p :: ps, a, h => by
    have h1 := chain_sum xs ps p.to h.2
    have h2 := h.1.cost
    have h3 := h.1.zero
    rw [costs]
    omega
theorem chain_le (xs : List I) : ∀ (ps : List P) (a : Nat), Chain xs a ps → a ≤ xs.length
  | [], _, h => h.1
  | p :: ps, a, h => by have := h.1.le; have := h.1.lt; have := h.1.len; omega
theorem chain_len (xs : List I) : ∀ (ps : List P) (a : Nat), Chain xs a ps → ps.length + a ≤ xs.length
  | [], _, h => by have := h.1; simp; omega
  | p :: ps, a, h => by have h1 := chain_len xs ps p.to h.2; have := h.1.le; have := h.1.lt; simp only [List.length_cons]; omega
theorem parts_len (xs : List I) : (parts xs).length ≤ xs.length := by have := chain_len xs _ 0 (chain_parts xs); omega
theorem chain_mem (xs : List I) : ∀ (ps : List P) (a : Nat), Chain xs a ps → ∀ p ∈ ps, ∃ b, Ok xs b p
  | q :: ps, a, h, p, hp => by
    rcases List.mem_cons.1 hp with rfl | hp
    · exact ⟨a, h.1⟩
    · exact chain_mem xs ps q.to h.2 p hp
/-- What costs something stands in a part. -/
theorem chain_in (xs : List I) : ∀ (ps : List P) (a : Nat), Chain xs a ps → ∀ (i : Nat) (x : I), a ≤ i → xs[i]? = some x → 0 < Co.of x.op → ∃ p ∈ ps, p.at_ ≤ i ∧ i < p.to
  | [], a, h, i, x, ha, hx, hp => by
    have h1 := S_step hx
    have h2 := S_mono xs ha
    have h3 := S_mono xs (show i + 1 ≤ xs.length by have := (List.getElem?_eq_some_iff.1 hx).1; omega)
    have := h.2
    omega
  | q :: ps, a, h, i, x, ha, hx, hp => by
    by_cases h1 : i < q.at_
    · have h2 := S_step hx
      have h3 := S_mono xs ha
      have h4 := S_mono xs (show i + 1 ≤ q.at_ by omega)
      have := h.1.zero
      omega
    · by_cases h2 : i < q.to
      · exact ⟨q, by simp, by omega, h2⟩
      · obtain ⟨p, hp1, hp2⟩ := chain_in xs ps q.to h.2 i x (by omega) hx hp
        exact ⟨p, by simp [hp1], hp2⟩
/-- What parts that begin at a place cost; that begin at it or ahead of it. -/
def at0 (ps : List P) (k : Nat) : Nat := costs (ps.filter fun p => p.at_ == k)
def pre (ps : List P) : Nat → Nat
  | 0 => at0 ps 0
  | k + 1 => at0 ps (k + 1) + pre ps k
theorem costs_append : ∀ (a b : List P), costs (a ++ b) = costs a + costs b
  | [], b => by simp [costs]
  | p :: a, b => by simp only [List.cons_append, costs, costs_append a b]; omega
theorem at0_append (a b : List P) (k : Nat) : at0 (a ++ b) k = at0 a k + at0 b k := by
  unfold at0; rw [List.filter_append, costs_append]
theorem at0_one (p : P) (k : Nat) : at0 [p] k = if p.at_ = k then p.cost else 0 := by
  unfold at0
  by_cases h : p.at_ = k
  · simp [h, costs]
  · have : (p.at_ == k) = false := by rw [beq_eq_false_iff_ne]; exact h
    simp [this, h, costs]
theorem at0_mem : ∀ (ps : List P) (p : P), p ∈ ps → p.cost ≤ at0 ps p.at_
  | q :: ps, p, h => by
    rw [show q :: ps = [q] ++ ps from rfl, at0_append]
    rcases List.mem_cons.1 h with rfl | h
    · rw [at0_one, if_pos rfl]; omega
    · have := at0_mem ps p h; omega
theorem pre_one (p : P) (k : Nat) : pre [p] k = if p.at_ ≤ k then p.cost else 0 := by
  induction k with
  | zero => rw [pre, at0_one]; by_cases h : p.at_ = 0 <;> simp [h]
  | succ k ih =>
    rw [pre, at0_one, ih]
    by_cases h : p.at_ = k + 1
    · rw [if_pos h, if_neg (by omega), if_pos (by omega)]; omega
    · rw [if_neg h]
      by_cases h2 : p.at_ ≤ k
      · rw [if_pos h2, if_pos (by omega)]; omega
      · rw [if_neg h2, if_neg (by omega)]
theorem pre_append (a b : List P) (k : Nat) : pre (a ++ b) k = pre a k + pre b k := by
  induction k with
  | zero => simp only [pre, at0_append]
  | succ k ih => simp only [pre, at0_append, ih]; omega
theorem pre_le : ∀ (ps : List P) (k : Nat), pre ps k ≤ costs ps
  | [], k => by
    have : pre [] k = 0 := by
      induction k with
      | zero => rfl
      | succ k ih => rw [pre, ih]; rfl
    rw [this]; exact Nat.zero_le _
  | p :: ps, k => by
    have h := pre_le ps k
    rw [show p :: ps = [p] ++ ps from rfl, pre_append, pre_one, costs_append]
    have : costs [p] = p.cost := by simp [costs]
    split <;> omega
theorem at0_le (ps : List P) (k : Nat) : at0 ps k ≤ pre ps k := by cases k <;> simp [pre]
theorem pre_mono (ps : List P) {a b : Nat} (h : a ≤ b) : pre ps a ≤ pre ps b := by
  induction b with
  | zero => have : a = 0 := by omega
            rw [this]; exact Nat.le_refl _
  | succ b ih =>
    by_cases h2 : a = b + 1
    · rw [h2]; exact Nat.le_refl _
    · have := ih (by omega)
      rw [pre]; omega
/-- From behind what ends a part up to what costs something, something is charged. -/
theorem charged {xs : List I} {i t : Nat} {x y : I} (hx : xs[i]? = some x) (hy : xs[t]? = some y) (ht : t < i) (hp : 0 < Co.of x.op) (he : ends y.op = true) : pre (parts xs) t < pre (parts xs) i := by
  obtain ⟨p, hm, h1, h2⟩ := chain_in xs _ 0 (chain_parts xs) i x (Nat.zero_le _) hx hp
  obtain ⟨b, hok⟩ := chain_mem xs _ 0 (chain_parts xs) p hm
  have h3 : t < p.at_ := by
    rcases Nat.lt_or_ge t p.at_ with h | h
    · exact h
    · have := hok.inner t y h (by omega) hy
      rw [he] at this
      cases this
  obtain ⟨k, hk⟩ : ∃ k, p.at_ = k + 1 := ⟨p.at_ - 1, by omega⟩
  have h4 := pre_mono (parts xs) (show t ≤ k by omega)
  have h5 := pre_mono (parts xs) h1
  have h6 := at0_mem _ p hm
  have h7 := hok.pos
  rw [hk, pre] at h5
  rw [hk] at h6
  omega
end Pa
