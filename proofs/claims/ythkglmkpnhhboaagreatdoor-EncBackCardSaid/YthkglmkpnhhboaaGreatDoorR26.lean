/-
  Layer 5's small functions: the document's Begin and E; sections in the document's type; whether sections are the document's. (gen/secref.py)
-/
import Derived.Test.YthkglmkpnhhboaaGreatDoorR01
import Derived.Test.YthkglmkpnhhboaaGreatDoorR23
import Derived.Test.YthkglmkpnhhboaaGreatDoorR07
import Derived.Deep.Cut
import Derived.IntWalk
import Derived.Test.YthkglmkpnhhboaaGreatDoorR16
set_option maxRecDepth 100000
set_option maxHeartbeats 4000000
namespace Go.Proofs.YthkglmkpnhhboaaGreatDoor
open Go.RowKit Sec
theorem undS : Tryz.prog.underlying 44 = some (.slice 48) := by kernel_rfl
theorem infoS : (Tryz.prog.info? 48).map (fun i => (i.zero, i.size, i.bytes)) = some (some (.agg #[.int .u8 0, .slice none 0 0]), 2, 32) := by kernel_rfl
theorem cells2 {w : World} {X : Nat} {x0 x1 : Value} {t : TypeId} (h : w.heap[X]? = some (.cells #[x0, x1] t (0, 0))) : w.cell? ⟨X, 0, none⟩ = some x0 ∧ w.cell? ⟨X, 1, none⟩ = some x1 := by
 refine ⟨?_, ?_⟩ <;> (rw [cell_of_row w X _ _ t (0, 0) h]; rfl)
theorem byteN (n : Nat) (h : n < 256) : ((UInt8.ofNat n).toNat : Int) = (n : Int) := by rw [nat_of n h]
theorem begin_any (w : World) : Calls Tryz.prog 13 #[] w fun e w' => ∃ v, e = .returned v ∧ w'.ownsRow w.heap.size 5 1 v begin8.length (bytesOf begin8) ∧ Below w.heap.size w w' := by
 have HO : Hid ((w.alloc (.cells #[.int .u8 0, .int .u8 97, .int .u8 115, .int .u8 109, .int .u8 1, .int .u8 0, .int .u8 0, .int .u8 0] 5)).ownsRow w.heap.size 5 1 (.slice (some ⟨w.heap.size, 0, none⟩) 8 8) begin8.length (bytesOf begin8)) := Y (World.ownsRow_lit w _ 8 (Nat.le_refl _) (by unfold maxLen; omega) rfl)
 have HB : Hid (Below w.heap.size w (w.alloc (.cells #[.int .u8 0, .int .u8 97, .int .u8 115, .int .u8 109, .int .u8 1, .int .u8 0, .int .u8 0, .int .u8 0] 5))) := Y ((Below.refl _ _).alloc (Nat.le_refl _) _)
 go_enter Tryz.func13, Tryz.ntmps13
 go_wp2_with fail
 go_ret
 exact ⟨_, rfl, HO.out, HB.out⟩
def hJ (l : List UInt8) (w : World) (e : Ending) (w' : World) : Prop :=
 Below w.heap.size w w' ∧ match split l with
  | none => ∃ A c, e = .returned (.tuple #[.slice A 0 c, .int .i64 60])
  | some xs => ∃ A c, e = .returned (.tuple #[.slice A xs.length c, .int .i64 0]) ∧ xs.length ≤ c ∧ c ≤ maxLen ∧ HasS w' w'.heap.size A xs
def JPost (xs : List S) (w : World) (e : Ending) (w' : World) : Prop :=
 Below w.heap.size w w' ∧ if rises 0 xs = true then ∃ A c, e = .returned (.tuple #[.slice A (join xs).length c, .int .i64 0]) ∧ (join xs).length ≤ c ∧ c ≤ maxLen ∧ (A = none → c = 0) ∧ Has w' w'.heap.size A (join xs)
  else ∃ A c, e = .returned (.tuple #[.slice A 0 c, .int .i64 2])
def eg : Prop := ∀ (A : Option Addr) (l : List UInt8) (n c : Nat) (w : World), Has w w.heap.size A l → n = l.length → n ≤ 140737488355328 → n ≤ c → c ≤ maxLen → (A = none → c = 0) → Tb w → Calls Tryz.prog 12 #[.slice A n c] w (hJ l w)
def iC : Prop := ∀ (A : Option Addr) (xs : List S) (n c : Nat) (w : World), HasS w w.heap.size A xs → n = xs.length → n ≤ c → c ≤ maxLen → (join xs).length ≤ 140737488355328 → Calls Tryz.prog 16 #[.slice A n c] w (JPost xs w)
theorem eg.none (hs : eg) {A : Option Addr} {l : List UInt8} {n c : Nat} {w : World} (hA : Has w w.heap.size A l) (hn : n = l.length) (h1 : n ≤ 140737488355328) (h2 : n ≤ c) (h3 : c ≤ maxLen) (h4 : A = Option.none → c = 0) (hT : Tb w) (h : split l = Option.none) :
  Calls Tryz.prog 12 #[.slice A n c] w fun e w' => ∃ A c, e = .returned (.tuple #[.slice A 0 c, .int .i64 60]) ∧ Below w.heap.size w w' := by
 refine (hs A l n c w hA hn h1 h2 h3 h4 hT).mono ?_
 intro e w' hp
 unfold hJ at hp
 rw [h] at hp
 obtain ⟨hb, A', c', he⟩ := hp
 exact ⟨A', c', he, hb⟩
theorem eg.some (hs : eg) {A : Option Addr} {l : List UInt8} {n c : Nat} {w : World} (hA : Has w w.heap.size A l) (hn : n = l.length) (h1 : n ≤ 140737488355328) (h2 : n ≤ c) (h3 : c ≤ maxLen) (h4 : A = Option.none → c = 0) (hT : Tb w) {xs : List S} (h : split l = Option.some xs) :
  Calls Tryz.prog 12 #[.slice A n c] w fun e w' => ∃ A c, e = .returned (.tuple #[.slice A xs.length c, .int .i64 0]) ∧ xs.length ≤ c ∧ c ≤ maxLen ∧ HasS w' w'.heap.size A xs ∧ Below w.heap.size w w' := by
 refine (hs A l n c w hA hn h1 h2 h3 h4 hT).mono ?_
 intro e w' hp
 unfold hJ at hp
 rw [h] at hp
 obtain ⟨hb, A', c', he, q1, q2, q3⟩ := hp
 exact ⟨A', c', he, q1, q2, q3, hb⟩
theorem iC.yes (hj : iC) {A : Option Addr} {xs : List S} {n c : Nat} {w : World} (hX : HasS w w.heap.size A xs) (hn : n = xs.length) (h1 : n ≤ c) (h2 : c ≤ maxLen) (h3 : (join xs).length ≤ 140737488355328) (h : rises 0 xs = true) :
  Calls Tryz.prog 16 #[.slice A n c] w fun e w' => ∃ A c, e = .returned (.tuple #[.slice A (join xs).length c, .int .i64 0]) ∧ (join xs).length ≤ c ∧ c ≤ maxLen ∧ (A = Option.none → c = 0) ∧ Has w' w'.heap.size A (join xs) ∧ Below w.heap.size w w' := by
 refine (hj A xs n c w hX hn h1 h2 h3).mono ?_
 intro e w' hp
 unfold JPost at hp
 rw [if_pos h] at hp
 obtain ⟨hb, A', c', he, q1, q2, q3, q4⟩ := hp
 exact ⟨A', c', he, q1, q2, q3, q4, hb⟩
end Go.Proofs.YthkglmkpnhhboaaGreatDoor
