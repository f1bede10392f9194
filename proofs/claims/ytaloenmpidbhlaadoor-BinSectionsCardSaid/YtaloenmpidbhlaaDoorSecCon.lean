/-
  What Split and Join of layer 5 must do, as two statements that the walks over layer 5's laws take as given.
-/
import Derived.Test.YtaloenmpidbhlaaDoorSecSame
import Derived.Test.YtaloenmpidbhlaaDoorNmTake
namespace Go.Proofs.YtaloenmpidbhlaaDoor
open Go.RowKit Sec
/-- What a call of Split comes to. -/
def SPost (l : List UInt8) (w : World) (e : Ending) (w' : World) : Prop :=
  Below w.heap.size w w' ∧ match split l with
    | none => ∃ A c, e = .returned (.tuple #[.slice A 0 c, .int .i64 60])
    | some xs => ∃ A c, e = .returned (.tuple #[.slice A xs.length c, .int .i64 0]) ∧ xs.length ≤ c ∧ c ≤ maxLen ∧ HasS w' w'.heap.size A xs
/-- What a call of Join comes to. -/
def JPost (xs : List S) (w : World) (e : Ending) (w' : World) : Prop :=
  Below w.heap.size w w' ∧ if rises 0 xs = true then ∃ A c, e = .returned (.tuple #[.slice A (join xs).length c, .int .i64 0]) ∧ (join xs).length ≤ c ∧ c ≤ maxLen ∧ (A = none → c = 0) ∧ Has w' w'.heap.size A (join xs)
    else ∃ A c, e = .returned (.tuple #[.slice A 0 c, .int .i64 2])
def SplitOk : Prop := ∀ (A : Option Addr) (l : List UInt8) (n c : Nat) (w : World), Has w w.heap.size A l → n = l.length → n ≤ 140737488355328 → n ≤ c → c ≤ maxLen → (A = none → c = 0) → Tb w → Calls Tryd.prog 10 #[.slice A n c] w (SPost l w)
def JoinOk : Prop := ∀ (A : Option Addr) (xs : List S) (n c : Nat) (w : World), HasS w w.heap.size A xs → n = xs.length → n ≤ c → c ≤ maxLen → (join xs).length ≤ 140737488355328 → Calls Tryd.prog 11 #[.slice A n c] w (JPost xs w)
theorem SplitOk.none (hs : SplitOk) {A : Option Addr} {l : List UInt8} {n c : Nat} {w : World} (hA : Has w w.heap.size A l) (hn : n = l.length) (h1 : n ≤ 140737488355328) (h2 : n ≤ c) (h3 : c ≤ maxLen) (h4 : A = Option.none → c = 0) (hT : Tb w) (h : split l = Option.none) :
    Calls Tryd.prog 10 #[.slice A n c] w fun e w' => ∃ A c, e = .returned (.tuple #[.slice A 0 c, .int .i64 60]) ∧ Below w.heap.size w w' := by
  refine (hs A l n c w hA hn h1 h2 h3 h4 hT).mono ?_
  intro e w' hp
  unfold SPost at hp
  rw [h] at hp
  obtain ⟨hb, A', c', he⟩ := hp
  exact ⟨A', c', he, hb⟩
theorem SplitOk.some (hs : SplitOk) {A : Option Addr} {l : List UInt8} {n c : Nat} {w : World} (hA : Has w w.heap.size A l) (hn : n = l.length) (h1 : n ≤ 140737488355328) (h2 : n ≤ c) (h3 : c ≤ maxLen) (h4 : A = Option.none → c = 0) (hT : Tb w) {xs : List S} (h : split l = Option.some xs) :
    Calls Tryd.prog 10 #[.slice A n c] w fun e w' => ∃ A c, e = .returned (.tuple #[.slice A xs.length c, .int .i64 0]) ∧ xs.length ≤ c ∧ c ≤ maxLen ∧ HasS w' w'.heap.size A xs ∧ Below w.heap.size w w' := by
  refine (hs A l n c w hA hn h1 h2 h3 h4 hT).mono ?_
  intro e w' hp
  unfold SPost at hp
  rw [h] at hp
  obtain ⟨hb, A', c', he, q1, q2, q3⟩ := hp
  exact ⟨A', c', he, q1, q2, q3, hb⟩
theorem JoinOk.yes (hj : JoinOk) {A : Option Addr} {xs : List S} {n c : Nat} {w : World} (hX : HasS w w.heap.size A xs) (hn : n = xs.length) (h1 : n ≤ c) (h2 : c ≤ maxLen) (h3 : (join xs).length ≤ 140737488355328) (h : rises 0 xs = true) :
    Calls Tryd.prog 11 #[.slice A n c] w fun e w' => ∃ A c, e = .returned (.tuple #[.slice A (join xs).length c, .int .i64 0]) ∧ (join xs).length ≤ c ∧ c ≤ maxLen ∧ (A = Option.none → c = 0) ∧ Has w' w'.heap.size A (join xs) ∧ Below w.heap.size w w' := by
  refine (hj A xs n c w hX hn h1 h2 h3).mono ?_
  intro e w' hp
  unfold JPost at hp
  rw [if_pos h] at hp
  obtain ⟨hb, A', c', he, q1, q2, q3, q4⟩ := hp
  exact ⟨A', c', he, q1, q2, q3, q4, hb⟩
theorem JoinOk.no (hj : JoinOk) {A : Option Addr} {xs : List S} {n c : Nat} {w : World} (hX : HasS w w.heap.size A xs) (hn : n = xs.length) (h1 : n ≤ c) (h2 : c ≤ maxLen) (h3 : (join xs).length ≤ 140737488355328) (h : rises 0 xs = false) :
    Calls Tryd.prog 11 #[.slice A n c] w fun e w' => ∃ A c, e = .returned (.tuple #[.slice A 0 c, .int .i64 2]) ∧ Below w.heap.size w w' := by
  refine (hj A xs n c w hX hn h1 h2 h3).mono ?_
  intro e w' hp
  unfold JPost at hp
  rw [if_neg (by rw [h]; decide)] at hp
  obtain ⟨hb, A', c', he⟩ := hp
  exact ⟨A', c', he, hb⟩
end Go.Proofs.YtaloenmpidbhlaaDoor
