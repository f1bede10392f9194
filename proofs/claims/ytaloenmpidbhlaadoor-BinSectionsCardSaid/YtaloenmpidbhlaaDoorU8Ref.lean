/-
  The document's One: of how many bytes the first character is, reckoned by its number; it is what the ranges of the bytes tell.
-/
import Derived.Test.YtaloenmpidbhlaaDoorU8Word
import Derived.IntWalk
import Derived.Test.YtaloenmpidbhlaaDoorHasMore
namespace U8
/-- The number that the first k bytes of a character spell, its first byte's share given. -/
def val (l : List UInt8) (c0 : Nat) : Nat → Nat
  | 0 => 0
  | 1 => c0
  | k + 2 => 64 * val l c0 (k + 1) + byte l (k + 1) - 128
theorem val_next (l : List UInt8) (c0 k : Nat) (hk : 1 ≤ k) : val l c0 (k + 1) = 64 * val l c0 k + byte l k - 128 := by
  match k, hk with
  | k + 1, _ => rfl
theorem val0 (l : List UInt8) (c0 : Nat) : val l c0 0 = 0 := rfl
theorem val1 (l : List UInt8) (c0 : Nat) : val l c0 1 = c0 := rfl
theorem val2 (l : List UInt8) (c0 : Nat) : val l c0 2 = 64 * c0 + byte l 1 - 128 := rfl
theorem val3 (l : List UInt8) (c0 : Nat) : val l c0 3 = 64 * (64 * c0 + byte l 1 - 128) + byte l 2 - 128 := rfl
theorem val4 (l : List UInt8) (c0 : Nat) : val l c0 4 = 64 * (64 * (64 * c0 + byte l 1 - 128) + byte l 2 - 128) + byte l 3 - 128 := rfl
theorem val_le {l : List UInt8} {c0 k : Nat} (hc : c0 < 32) (hm : ∀ j, 1 ≤ j → j < k → 128 ≤ byte l j ∧ byte l j ≤ 191) (hk : k ≤ 4) : val l c0 k < 8388608 := by
  have h : k = 0 ∨ k = 1 ∨ k = 2 ∨ k = 3 ∨ k = 4 := by omega
  rcases h with rfl | rfl | rfl | rfl | rfl
  · rw [val0]; omega
  · rw [val1]; omega
  · have m1 := hm 1 (by omega) (by omega)
    rw [val2]; omega
  · have m1 := hm 1 (by omega) (by omega)
    have m2 := hm 2 (by omega) (by omega)
    rw [val3]; omega
  · have m1 := hm 1 (by omega) (by omega)
    have m2 := hm 2 (by omega) (by omega)
    have m3 := hm 3 (by omega) (by omega)
    rw [val4]; omega
/-- The bytes from the second one up to the k-th stand from 128 to 191. -/
def Mids (l : List UInt8) (k : Nat) : Prop := ∀ j, 1 ≤ j → j < k → 128 ≤ byte l j ∧ byte l j ≤ 191
theorem Mids.next {l : List UInt8} {k : Nat} (h : Mids l k) (h1 : 128 ≤ byte l k ∧ byte l k ≤ 191) : Mids l (k + 1) := fun j a b => by
  by_cases hj : j = k
  · subst hj; exact h1
  · exact h j a (by omega)
/-- The three kinds of first bytes: of how many bytes, what is taken off, the least number. -/
def Kind (c n off least : Nat) : Prop := (n = 2 ∧ off = 192 ∧ least = 128 ∧ 192 ≤ c ∧ c < 224) ∨ (n = 3 ∧ off = 224 ∧ least = 2048 ∧ 224 ≤ c ∧ c < 240) ∨ (n = 4 ∧ off = 240 ∧ least = 65536 ∧ 240 ≤ c ∧ c < 248)
theorem one_none {l : List UInt8} (h : (128 ≤ byte l 0 ∧ byte l 0 < 192) ∨ 248 ≤ byte l 0) : one l = 0 := by
  have hs : size (byte l 0) = 0 := by unfold size; (repeat' split) <;> omega
  unfold one
  rw [hs]
  repeat' split
  all_goals omega
theorem one_short {l : List UInt8} {n off least : Nat} (hk : Kind (byte l 0) n off least) (h : l.length < n) : one l = 0 := by
  unfold one
  have hs : size (byte l 0) = 0 ∨ size (byte l 0) = n := by
    unfold size
    rcases hk with ⟨rfl, _, _, h1, h2⟩ | ⟨rfl, _, _, h1, h2⟩ | ⟨rfl, _, _, h1, h2⟩ <;> (repeat' split) <;> omega
  rcases hk with ⟨rfl, _, _, h1, h2⟩ | ⟨rfl, _, _, h1, h2⟩ | ⟨rfl, _, _, h1, h2⟩ <;> (repeat' split) <;> omega
theorem one_mid {l : List UInt8} {n off least k : Nat} (hk : Kind (byte l 0) n off least) (h1 : 1 ≤ k) (h2 : k < n) (h : byte l k < 128 ∨ 191 < byte l k) : one l = 0 := by
  have hs : (size (byte l 0) = 0 ∨ size (byte l 0) = n) ∧ 128 ≤ lo (byte l 0) ∧ hi (byte l 0) ≤ 191 := by
    unfold size lo hi
    rcases hk with ⟨rfl, _, _, h1, h2⟩ | ⟨rfl, _, _, h1, h2⟩ | ⟨rfl, _, _, h1, h2⟩ <;> refine ⟨?_, ?_, ?_⟩ <;> (repeat' split) <;> omega
  obtain ⟨hs, hlo, hhi⟩ := hs
  have hge : 128 ≤ byte l 0 := by rcases hk with ⟨_, _, _, h1, h2⟩ | ⟨_, _, _, h1, h2⟩ | ⟨_, _, _, h1, h2⟩ <;> omega
  have hn : n ≤ 4 := by rcases hk with ⟨rfl, _⟩ | ⟨rfl, _⟩ | ⟨rfl, _⟩ <;> omega
  have hkk : k = 1 ∨ k = 2 ∨ k = 3 := by omega
  apply one_bad hge
  rcases hs with hs | hs
  · exact .inl hs
  · rcases hkk with rfl | rfl | rfl
    · rw [hs]; omega
    · rw [hs]; omega
    · rw [hs]; omega
theorem one_val {l : List UInt8} {n off least : Nat} (hk : Kind (byte l 0) n off least) (hl : n ≤ l.length) (hm : Mids l n) : one l = if val l (byte l 0 - off) n < least ∨ 1114111 < val l (byte l 0 - off) n ∨ (55296 ≤ val l (byte l 0 - off) n ∧ val l (byte l 0 - off) n ≤ 57343) then 0 else n := by
  have b0 := byte_lt l 0
  rcases hk with ⟨rfl, rfl, rfl, h1, h2⟩ | ⟨rfl, rfl, rfl, h1, h2⟩ | ⟨rfl, rfl, rfl, h1, h2⟩
  · have m1 := hm 1 (by omega) (by omega)
    rw [val2]
    unfold one size lo hi
    repeat' split
    all_goals omega
  · have m1 := hm 1 (by omega) (by omega)
    have m2 := hm 2 (by omega) (by omega)
    rw [val3]
    unfold one size lo hi
    repeat' split
    all_goals omega
  · have m1 := hm 1 (by omega) (by omega)
    have m2 := hm 2 (by omega) (by omega)
    have m3 := hm 3 (by omega) (by omega)
    rw [val4]
    have hs : (byte l 0 < 245 ∧ size (byte l 0) = 4) ∨ (245 ≤ byte l 0 ∧ size (byte l 0) = 0) := by unfold size; (repeat' split) <;> omega
    have hlo : (byte l 0 = 240 ∧ lo (byte l 0) = 144) ∨ (byte l 0 ≠ 240 ∧ lo (byte l 0) = 128) := by unfold lo; (repeat' split) <;> omega
    have hhi : (byte l 0 = 244 ∧ hi (byte l 0) = 143) ∨ (byte l 0 ≠ 244 ∧ hi (byte l 0) = 191) := by unfold hi; (repeat' split) <;> omega
    obtain ⟨v, hv⟩ : ∃ v, 64 * (64 * (64 * (byte l 0 - 240) + byte l 1 - 128) + byte l 2 - 128) + byte l 3 - 128 = v := ⟨_, rfl⟩
    rw [hv]
    have hv2 : v + 262144 * 240 + 4096 * 128 + 64 * 128 + 128 = 262144 * byte l 0 + 4096 * byte l 1 + 64 * byte l 2 + byte l 3 := by omega
    clear hv
    have hiff : (v < 65536 ∨ 1114111 < v ∨ 55296 ≤ v ∧ v ≤ 57343) ↔ (245 ≤ byte l 0 ∨ (byte l 0 = 240 ∧ byte l 1 < 144) ∨ (byte l 0 = 244 ∧ 143 < byte l 1)) := by omega
    split
    · next h =>
      rcases hiff.1 h with h | ⟨h, h'⟩ | ⟨h, h'⟩
      · exact one_bad (by omega) (.inl (by omega))
      · exact one_bad (by omega) (.inr (.inr (.inl (by omega))))
      · exact one_bad (by omega) (.inr (.inr (.inr (.inl (by omega)))))
    · next h =>
      have h' := fun x => h (hiff.2 x)
      have g1 : byte l 0 < 245 := by have := fun x => h' (.inl x); omega
      have g2 : byte l 0 = 240 → 144 ≤ byte l 1 := fun hx => by have := fun x => h' (.inr (.inl ⟨hx, x⟩)); omega
      have g3 : byte l 0 = 244 → byte l 1 ≤ 143 := fun hx => by have := fun x => h' (.inr (.inr ⟨hx, x⟩)); omega
      clear hiff h h' hv2
      have e4 : size (byte l 0) = 4 := by omega
      rw [one_good (by omega) (by omega) (by omega) (by omega) (fun _ => by omega) (fun _ => by omega), e4]
end U8
namespace Go.Proofs.YtaloenmpidbhlaaDoor
open Go.RowKit
theorem ret_nat {a : Int} {b : Nat} (h : a = (b : Int)) : Ending.returned (.int .i64 a) = .returned (.int .i64 (b : Int)) := by rw [h]
end Go.Proofs.YtaloenmpidbhlaaDoor
/-
  The document's One and Valid: what they tell of any bytes.
-/
namespace Go.Proofs.YtaloenmpidbhlaaDoor
open Go.RowKit
theorem Has.byteAt {w : World} {B : Nat} {ad : Addr} {l : List UInt8} (h : Has w B (some ad) l) {k : Nat} (hk : k < l.length) : w.cell? (ad.add k) = some (.int .u8 (U8.byte l k : Int)) := by
  obtain ⟨ad', h1, _, h3⟩ := h k (l.getD k 0) (by rw [List.getD_eq_getElem?_getD, List.getElem?_eq_getElem hk]; rfl)
  obtain rfl := Option.some.inj h1
  exact h3
def OnePost (l : List UInt8) (w : World) (e : Ending) (w' : World) : Prop := e = .returned (.int .i64 (U8.one l : Int)) ∧ w = w'
theorem onePost {l : List UInt8} {w : World} {a : Int} (h : (U8.one l : Int) = a) : OnePost l w (.returned (.int .i64 a)) w := ⟨by rw [h], rfl⟩
end Go.Proofs.YtaloenmpidbhlaaDoor
/-
  The document's Valid: it tells whether the bytes are a text, and leaves the world as it was.
-/
namespace Go.Proofs.YtaloenmpidbhlaaDoor
open Go.RowKit
end Go.Proofs.YtaloenmpidbhlaaDoor
