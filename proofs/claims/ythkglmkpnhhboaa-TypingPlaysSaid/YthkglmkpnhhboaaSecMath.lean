/-
  Plain mathematics of a binary's sections: what their bytes are, what bytes begin with, and that each is the other's way back; a custom section anywhere; a beginning of a binary's bytes.
-/
import Derived.Test.YthkglmkpnhhboaaLebM
import Derived.Test.YthkglmkpnhhboaaU8Math
namespace Sec
open Leb
/-- A section: its number and its bytes. -/
structure S where
  id : Nat
  b : List UInt8
deriving DecidableEq
def begin8 : List UInt8 := [0, 97, 115, 109, 1, 0, 0, 0]
def enc (s : S) : List UInt8 := UInt8.ofNat s.id :: (encU s.b.length ++ s.b)
def encAll (xs : List S) : List UInt8 := xs.flatMap enc
def join (xs : List S) : List UInt8 := begin8 ++ encAll xs
/-- The numbers are from 1 to 11, rising, behind the number k. -/
def rises : Nat → List S → Bool
  | _, [] => true
  | k, s :: xs => decide (k < s.id) && decide (s.id ≤ 11) && rises s.id xs
/-- The number of the last section, or k. -/
def lastId : Nat → List S → Nat
  | k, [] => k
  | _, s :: xs => lastId s.id xs
/-- Bytes that begin with a name. -/
def named (l : List UInt8) : Bool := okU l 32 && decide (run l + used l ≤ l.length) && U8.text ((l.drop (run l)).take (used l))
/-- The section with which bytes begin: its number, its bytes, what stands behind. -/
def hd : List UInt8 → Option (Nat × List UInt8 × List UInt8)
  | [] => none
  | x :: r => if okU r 32 = true ∧ run r + used r ≤ r.length then some (x.toNat, (r.drop (run r)).take (used r), r.drop (run r + used r)) else none
/-- The sections of bytes, behind the number k. -/
def rd : Nat → Nat → List UInt8 → Option (List S)
  | 0, _, l => if l = [] then some [] else none
  | f + 1, k, l => if l = [] then some [] else match hd l with
    | none => none
    | some (id, own, rest) => if id = 0 then (if named own = true then rd f k rest else none) else if k < id ∧ id ≤ 11 then (rd f id rest).map (⟨id, own⟩ :: ·) else none
/-- The sections of a binary. -/
def split (l : List UInt8) : Option (List S) := if l.take 8 = begin8 then rd l.length 0 (l.drop 8) else none

theorem encU_ok (n : Nat) (r : List UInt8) (h : n < 4294967296) : okU (encU n ++ r) 32 = true := by
  rw [okU_encU n r 32 (by omega) (by decide) (by decide)]
  have := (bitLen_iff n 32 (by omega) (by decide)).2 (by omega)
  exact decide_eq_true (by omega)
theorem okU_32 {l : List UInt8} (h : okU l 32 = true) : used l < 4294967296 ∧ 1 ≤ run l ∧ run l ≤ l.length ∧ (encU (used l)).length ≤ run l := by
  have h1 := (okU_run1 h).1
  refine ⟨?_, h1, run_le l, shortU h1⟩
  unfold okU at h
  rw [decide_eq_true_iff] at h
  have h5 := h.2.2.2.2
  have e : ((2 : Int) ^ (32 : Int).toNat) = 4294967296 := by decide
  rw [e] at h5
  omega
theorem nat_of (n : Nat) (h : n < 256) : (UInt8.ofNat n).toNat = n := by simp; omega
theorem hd_some {l : List UInt8} {id : Nat} {own rest : List UInt8} (h : hd l = some (id, own, rest)) : ∃ x r, l = x :: r ∧ okU r 32 = true ∧ run r + used r ≤ r.length ∧ id = x.toNat ∧ own = (r.drop (run r)).take (used r) ∧ rest = r.drop (run r + used r) := by
  cases l with
  | nil => cases h
  | cons x r =>
    simp only [hd] at h
    split at h
    · next hc =>
      injection h with h
      simp only [Prod.mk.injEq] at h
      obtain ⟨rfl, rfl, rfl⟩ := h
      exact ⟨x, r, rfl, hc.1, hc.2, rfl, rfl, rfl⟩
    · cases h
/-- What is read is at least as long as what it is written in. -/
theorem hd_len {l : List UInt8} {id : Nat} {own rest : List UInt8} (h : hd l = some (id, own, rest)) : id < 256 ∧ own.length < 4294967296 ∧ (enc ⟨id, own⟩).length + rest.length ≤ l.length ∧ rest.length < l.length := by
  obtain ⟨x, r, rfl, h1, h2, rfl, rfl, rfl⟩ := hd_some h
  obtain ⟨h3, h4, h5, h6⟩ := okU_32 h1
  have hx := x.toNat_lt
  have hl : ((r.drop (run r)).take (used r)).length = used r := by simp; omega
  refine ⟨by omega, by omega, ?_, by simp; omega⟩
  simp only [enc, List.length_cons, List.length_append, List.length_drop, hl]
  omega
theorem hd_enc (s : S) (r : List UInt8) (hi : s.id < 256) (hb : s.b.length < 4294967296) : hd (enc s ++ r) = some (s.id, s.b, r) := by
  have e : enc s ++ r = UInt8.ofNat s.id :: (encU s.b.length ++ (s.b ++ r)) := by simp [enc]
  rw [e]
  simp only [hd]
  have h1 := encU_ok s.b.length (s.b ++ r) hb
  have h2 := run_encU s.b.length (s.b ++ r)
  have h3 := used_encU s.b.length (s.b ++ r)
  rw [h2, h3, if_pos ⟨h1, by simp⟩, nat_of s.id hi]
  congr 3
  · simp
  · rw [List.drop_append, List.drop_append]
    simp
theorem rd_more : ∀ (f g k : Nat) (l : List UInt8), l.length ≤ f → l.length ≤ g → rd f k l = rd g k l
  | 0, 0, _, _, _, _ => rfl
  | 0, g + 1, k, l, hf, _ => by
    have h0 : l = [] := List.eq_nil_of_length_eq_zero (by omega)
    subst h0
    simp [rd]
  | f + 1, 0, k, l, _, hg => by
    have h0 : l = [] := List.eq_nil_of_length_eq_zero (by omega)
    subst h0
    simp [rd]
  | f + 1, g + 1, k, l, hf, hg => by
    unfold rd
    by_cases h0 : l = []
    · rw [if_pos h0, if_pos h0]
    · rw [if_neg h0, if_neg h0]
      cases hh : hd l with
      | none => rfl
      | some p =>
        obtain ⟨id, own, rest⟩ := p
        have hl := (hd_len hh).2.2.2
        simp only
        rw [rd_more f g k rest (by omega) (by omega), rd_more f g id rest (by omega) (by omega)]
theorem rd_nil (f k : Nat) : rd f k [] = some [] := by cases f <;> simp [rd]
theorem enc_ne (s : S) : enc s ≠ [] := by simp [enc]
/-- Behind sections whose numbers rise, what stands there is read on. -/
theorem rd_enc : ∀ (xs : List S) (f k : Nat) (r : List UInt8), rises k xs = true → (∀ s ∈ xs, s.b.length < 4294967296) → (encAll xs ++ r).length ≤ f →
    rd f k (encAll xs ++ r) = (rd f (lastId k xs) r).map (xs ++ ·)
  | [], f, k, r, _, _, _ => by simp [encAll, lastId]
  | s :: xs, 0, k, r, _, _, hf => by simp [encAll, enc] at hf
  | s :: xs, f + 1, k, r, hr, hl, hf => by
    simp only [rises, Bool.and_eq_true, decide_eq_true_eq] at hr
    obtain ⟨⟨h1, h2⟩, h3⟩ := hr
    have e : encAll (s :: xs) ++ r = enc s ++ (encAll xs ++ r) := by simp [encAll]
    rw [e] at hf ⊢
    have hlen : (encAll xs ++ r).length ≤ f := by
      rw [List.length_append] at hf
      have : 1 ≤ (enc s).length := by simp [enc]
      omega
    have ih := rd_enc xs f s.id r h3 (fun t ht => hl t (by simp [ht])) hlen
    rw [rd, if_neg (by simp [enc]), hd_enc s _ (by omega) (hl s (by simp))]
    simp only
    rw [if_neg (by omega), if_pos ⟨h1, h2⟩, ih]
    have hm : r.length ≤ f := by rw [List.length_append] at hlen; omega
    have hq : ∀ q, rd f q r = rd (f + 1) q r := fun q => rd_more f (f + 1) q r hm (by omega)
    rw [hq, Option.map_map]
    rfl
theorem rd_back : ∀ (f k : Nat) (l : List UInt8) (xs : List S), rd f k l = some xs → rises k xs = true ∧ (∀ s ∈ xs, s.b.length < 4294967296) ∧ (encAll xs).length ≤ l.length
  | 0, k, l, xs, h => by
    unfold rd at h
    split at h
    · injection h with h; subst h; simp [rises, encAll]
    · cases h
  | f + 1, k, l, xs, h => by
    unfold rd at h
    split at h
    · injection h with h; subst h; simp [rises, encAll]
    · next h0 =>
      cases hh : hd l with
      | none => rw [hh] at h; cases h
      | some p =>
        obtain ⟨id, own, rest⟩ := p
        rw [hh] at h
        simp only at h
        obtain ⟨h1, h2, h3, h4⟩ := hd_len hh
        split at h
        · split at h
          · obtain ⟨i1, i2, i3⟩ := rd_back f k rest xs h
            exact ⟨i1, i2, by omega⟩
          · cases h
        · split at h
          · next hc =>
            cases hm : rd f id rest with
            | none => rw [hm] at h; cases h
            | some ys =>
              rw [hm] at h
              injection h with h
              subst h
              obtain ⟨i1, i2, i3⟩ := rd_back f id rest ys hm
              refine ⟨?_, ?_, ?_⟩
              · simp only [rises, Bool.and_eq_true, decide_eq_true_eq]; exact ⟨hc, i1⟩
              · intro s hs
                rcases List.mem_cons.1 hs with rfl | hs
                · exact h2
                · exact i2 s hs
              · have e : encAll (⟨id, own⟩ :: ys) = enc ⟨id, own⟩ ++ encAll ys := by simp [encAll]
                rw [e, List.length_append]
                omega
          · cases h
theorem split_join (xs : List S) (hr : rises 0 xs = true) (hl : ∀ s ∈ xs, s.b.length < 4294967296) : split (join xs) = some xs := by
  unfold split join
  have e1 : (begin8 ++ encAll xs).take 8 = begin8 := by simp [begin8]
  have e2 : (begin8 ++ encAll xs).drop 8 = encAll xs ++ [] := by simp [begin8]
  rw [e1, if_pos rfl, e2, rd_enc xs _ 0 [] hr hl (by simp), rd_nil]
  simp
theorem split_back {l : List UInt8} {xs : List S} (h : split l = some xs) : rises 0 xs = true ∧ (∀ s ∈ xs, s.b.length < 4294967296) ∧ (join xs).length ≤ l.length ∧ l.take 8 = begin8 := by
  unfold split at h
  split at h
  · next hb =>
    obtain ⟨h1, h2, h3⟩ := rd_back _ _ _ _ h
    have h8 : 8 ≤ l.length := by
      have := congrArg List.length hb
      simp [begin8] at this
      omega
    refine ⟨h1, h2, ?_, hb⟩
    rw [List.length_drop] at h3
    unfold join
    rw [List.length_append]
    have : begin8.length = 8 := rfl
    omega
  · cases h
/-- A custom section's bytes. -/
def custom (own : List UInt8) : List UInt8 := enc ⟨0, own⟩
theorem rises_append : ∀ (a b : List S) (k : Nat), rises k (a ++ b) = (rises k a && rises (lastId k a) b)
  | [], b, k => by simp [rises, lastId]
  | s :: a, b, k => by
    simp only [List.cons_append, rises, rises_append a b s.id, Bool.and_assoc, lastId]
/-- A custom section between others. -/
theorem split_custom (xs ys : List S) (own : List UInt8) (hr : rises 0 (xs ++ ys) = true) (hl : ∀ s ∈ xs ++ ys, s.b.length < 4294967296) (ho : own.length < 4294967296) :
    split (join xs ++ custom own ++ encAll ys) = if named own = true then some (xs ++ ys) else none := by
  rw [rises_append, Bool.and_eq_true] at hr
  unfold split join
  have e0 : begin8 ++ encAll xs ++ custom own ++ encAll ys = begin8 ++ (encAll xs ++ (custom own ++ encAll ys)) := by simp
  rw [e0]
  have e1 : (begin8 ++ (encAll xs ++ (custom own ++ encAll ys))).take 8 = begin8 := by simp [begin8]
  have e2 : (begin8 ++ (encAll xs ++ (custom own ++ encAll ys))).drop 8 = encAll xs ++ (custom own ++ encAll ys) := by simp [begin8]
  rw [e1, if_pos rfl, e2]
  obtain ⟨f, hf⟩ : ∃ f, (begin8 ++ (encAll xs ++ (custom own ++ encAll ys))).length = f + 1 := ⟨(begin8 ++ (encAll xs ++ (custom own ++ encAll ys))).length - 1, by simp [begin8]⟩
  rw [hf]
  have hlen : (encAll xs ++ (custom own ++ encAll ys)).length + 8 = f + 1 := by rw [← hf]; simp [begin8]
  rw [rd_enc xs _ 0 _ hr.1 (fun s hs => hl s (by simp [hs])) (by omega)]
  rw [List.length_append] at hlen
  rw [rd, if_neg (by simp [custom, enc]), custom, hd_enc ⟨0, own⟩ _ (by simp) ho]
  simp only [if_true]
  split
  · have e3 : encAll ys = encAll ys ++ [] := by simp
    have hc : (custom own ++ encAll ys).length ≤ f := by omega
    rw [List.length_append] at hc
    rw [e3, rd_enc ys f _ [] hr.2 (fun s hs => hl s (by simp [hs])) (by simp; omega), rd_nil]
    simp
  · simp
/- Without fuel. -/
def rdc (k : Nat) (l : List UInt8) : Option (List S) := rd l.length k l
theorem rdc_nil (k : Nat) : rdc k [] = some [] := rfl
theorem rdc_none {k : Nat} {l : List UInt8} (h0 : l ≠ []) (h : hd l = none) : rdc k l = none := by
  unfold rdc
  cases l with
  | nil => exact absurd rfl h0
  | cons x r => simp only [List.length_cons, rd, if_neg h0, h]
theorem rdc_some {k id : Nat} {l own rest : List UInt8} (h : hd l = some (id, own, rest)) :
    rdc k l = if id = 0 then (if named own = true then rdc k rest else none) else if k < id ∧ id ≤ 11 then (rdc id rest).map (⟨id, own⟩ :: ·) else none := by
  have hl := (hd_len h).2.2.2
  cases l with
  | nil => cases h
  | cons x r =>
    unfold rdc
    simp only [List.length_cons] at hl ⊢
    rw [rd, if_neg (by simp), h]
    simp only
    rw [rd_more r.length rest.length k rest (by omega) (by omega), rd_more r.length rest.length id rest (by omega) (by omega)]
theorem split_eq (l : List UInt8) : split l = if l.take 8 = begin8 then rdc 0 (l.drop 8) else none := by
  unfold split rdc
  split
  · exact rd_more _ _ _ _ (by simp) (Nat.le_refl _)
  · rfl
/- A beginning. -/
theorem run_take_ge : ∀ (l : List UInt8) (j : Nat), 1 ≤ run l → run l ≤ j → run (l.take j) = run l
  | [], j, h, _ => by simp
  | b :: r, 0, h1, h2 => by omega
  | b :: r, j + 1, h1, h2 => by
    by_cases hb : b.toNat < 128
    · have e : run (b :: r) = 1 := by rw [run, if_pos hb]
      rw [e, List.take_succ_cons, run, if_pos hb]
    · by_cases hr : run r = 0
      · rw [run, if_neg hb, if_pos hr] at h1; omega
      · have e : run (b :: r) = run r + 1 := by rw [run, if_neg hb, if_neg hr]
        rw [e] at h2 ⊢
        rw [List.take_succ_cons, run, if_neg hb, run_take_ge r j (by omega) (by omega), if_neg hr]
theorem used_take_ge (l : List UInt8) (j : Nat) (h : 1 ≤ run l) (hj : run l ≤ j) : used (l.take j) = used l := by
  unfold used
  rw [run_take_ge l j h hj, List.take_take, Nat.min_eq_left hj]
theorem okU_take_ge (l : List UInt8) (j : Nat) (b : Int) (h : 1 ≤ run l) (hj : run l ≤ j) : okU (l.take j) b = okU l b := by
  unfold okU
  rw [run_take_ge l j h hj, used_take_ge l j h hj]
/-- Of how many bytes the first section is, its number and its length among them. -/
def hlen (l : List UInt8) : Nat := 1 + run (l.drop 1) + used (l.drop 1)
theorem hlen_eq {l : List UInt8} {id : Nat} {own rest : List UInt8} (h : hd l = some (id, own, rest)) : hlen l ≤ l.length ∧ rest = l.drop (hlen l) ∧ 2 ≤ hlen l := by
  obtain ⟨x, r, rfl, h1, h2, rfl, rfl, rfl⟩ := hd_some h
  have h3 := (okU_32 h1).2.1
  unfold hlen
  simp only [List.drop_succ_cons, List.drop_zero, List.length_cons]
  refine ⟨by omega, ?_, by omega⟩
  rw [show 1 + run r + used r = (run r + used r) + 1 by omega, List.drop_succ_cons]
theorem hd_cut {l : List UInt8} {id : Nat} {own rest : List UInt8} (h : hd l = some (id, own, rest)) {c : Nat} (hc : c < hlen l) : hd (l.take c) = none := by
  obtain ⟨x, r, rfl, h1, h2, rfl, rfl, rfl⟩ := hd_some h
  unfold hlen at hc
  simp only [List.drop_succ_cons, List.drop_zero] at hc
  cases c with
  | zero => rfl
  | succ c =>
    rw [List.take_succ_cons]
    simp only [hd]
    by_cases hr : c < run r
    · rw [if_neg]
      rintro ⟨h, _⟩
      have := (okU_32 h).2.1
      rw [run_take_lt r c hr] at this
      omega
    · have h3 := (okU_32 h1).2.1
      rw [if_neg]
      rintro ⟨_, h⟩
      rw [run_take_ge r c h3 (by omega), used_take_ge r c h3 (by omega), List.length_take] at h
      omega
theorem hd_take {l : List UInt8} {id : Nat} {own rest : List UInt8} (h : hd l = some (id, own, rest)) {c : Nat} (hc : hlen l ≤ c) : hd (l.take c) = some (id, own, rest.take (c - hlen l)) := by
  obtain ⟨x, r, rfl, h1, h2, rfl, rfl, rfl⟩ := hd_some h
  unfold hlen at hc ⊢
  simp only [List.drop_succ_cons, List.drop_zero] at hc ⊢
  cases c with
  | zero => omega
  | succ c =>
    rw [List.take_succ_cons]
    have h3 := (okU_32 h1).2.1
    have e1 := run_take_ge r c h3 (by omega)
    have e2 := used_take_ge r c h3 (by omega)
    have e3 := okU_take_ge r c 32 h3 (by omega)
    simp only [hd]
    rw [e1, e2, e3, if_pos ⟨h1, by rw [List.length_take]; omega⟩]
    congr 3
    · rw [List.drop_take, List.take_take, Nat.min_eq_left (by omega)]
    · rw [List.drop_take]
      congr 1
      omega
end Sec
