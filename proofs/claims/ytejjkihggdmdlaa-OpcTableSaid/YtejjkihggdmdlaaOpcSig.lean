/-
  opc.Sig's contract: for every opcode two slices that read as the plain functions tell, and whether it is plain; all memory that was there is as it was.
-/
import Derived.Test.YtejjkihggdmdlaaOpcPure
import Derived.Test.YtejjkihggdmdlaaBytes
namespace Go.Proofs.Ytejjkihggdmdlaa
open Go.RowKit
/-- What a call of Sig comes to. -/
def SigPost (p r : List UInt8) (ok : Bool) (w : World) (e : Ending) (w' : World) : Prop :=
  ∃ A B, e = .returned (.tuple #[.slice A p.length p.length, .slice B r.length r.length, .bool ok]) ∧ Has w' w'.heap.size A p ∧ Has w' w'.heap.size B r ∧ Below w.heap.size w w'
theorem typeU_any (x : Int) (w : World) : Calls Try.prog 21 #[.int .u8 x] w fun e w' => e = .returned (.int .u8 ((Opc.typeU x).toNat : Int)) ∧ w = w' := by
  rw [Opc.typeU_toNat]; exact type_any x w
theorem sig_both (p r : List UInt8) (p' r' : List UInt8) (w : World) (t : TypeId) (e : Ending) (w' : World) (hp : p' = p) (hr : r' = r)
    (he : e = .returned (.tuple #[.slice (some ⟨w.heap.size, 0, none⟩) p.length p.length, .slice (some ⟨w.heap.size + 1, 0, none⟩) r.length r.length, .bool true]))
    (hw : w' = (w.alloc (.cells (bytesOf p).toArray t)).alloc (.cells (bytesOf r).toArray t)) (ok : Bool) (hok : ok = true) : SigPost p' r' ok w e w' := by
  subst hp hr he hw hok
  refine ⟨_, _, rfl, ((Has.lit w p' t).alloc (by simp) _).more (by simp), ?_, ((Below.refl _ _).alloc (Nat.le_refl _) _).alloc (by simp) _⟩
  have h := Has.lit (w.alloc (.cells (bytesOf p').toArray t)) r' t
  simp at h
  exact h.more (by simp)
theorem sig_left (p : List UInt8) (p' r' : List UInt8) (w : World) (t : TypeId) (e : Ending) (w' : World) (hp : p' = p) (hr : r' = []) 
    (he : e = .returned (.tuple #[.slice (some ⟨w.heap.size, 0, none⟩) p.length p.length, .slice none 0 0, .bool true]))
    (hw : w' = w.alloc (.cells (bytesOf p).toArray t)) (ok : Bool) (hok : ok = true) : SigPost p' r' ok w e w' := by
  subst hp hr he hw hok
  exact ⟨_, _, rfl, (Has.lit w p' t).more (by simp), Has.nil _ _ _, (Below.refl _ _).alloc (Nat.le_refl _) _⟩
theorem sig_right (r : List UInt8) (p' r' : List UInt8) (w : World) (t : TypeId) (e : Ending) (w' : World) (hp : p' = []) (hr : r' = r) 
    (he : e = .returned (.tuple #[.slice none 0 0, .slice (some ⟨w.heap.size, 0, none⟩) r.length r.length, .bool true]))
    (hw : w' = w.alloc (.cells (bytesOf r).toArray t)) (ok : Bool) (hok : ok = true) : SigPost p' r' ok w e w' := by
  subst hp hr he hw hok
  exact ⟨_, _, rfl, Has.nil _ _ _, (Has.lit w r' t).more (by simp), (Below.refl _ _).alloc (Nat.le_refl _) _⟩
theorem sig_none (p' r' : List UInt8) (w : World) (hp : p' = []) (hr : r' = []) (ok : Bool) (hok : ok = false) : SigPost p' r' ok w (.returned (.tuple #[.slice none 0 0, .slice none 0 0, .bool false])) w := by
  subst hp hr hok
  exact ⟨_, _, rfl, Has.nil _ _ _, Has.nil _ _ _, Below.refl _ _⟩
set_option maxHeartbeats 1000000 in
theorem sig_any (x : Int) (w : World) : Calls Try.prog 8 #[.int .u8 x] w (SigPost (Opc.sigP x) (Opc.sigR x) (Opc.plain x) w) := by
  by_cases h40 : x < 40
  · have hp := Lib.hid (show Opc.plain x = false by simp [Opc.plain]; omega)
    have h40b : decide (x < 40) = true := by simpa using h40
    go_enter Try.func8, Try.ntmps8
    go_wp2_with fail
    go_ret3
    exact sig_none _ _ _ (by simp [Opc.sigP, hp.out]) (by simp [Opc.sigR, hp.out]) _ hp.out
  have h40b : decide (x < 40) = false := by simpa using h40
  cases hk : Opc.known x
  · have hp := Lib.hid (show Opc.plain x = false by simp [Opc.plain, hk])
    go_enter Try.func8, Try.ntmps8
    go_wp2_with (go_at_call 10; refine (known_any _ _).mono ?_; rintro e w' ⟨rfl, rfl⟩)
    go_ret3
    exact sig_none _ _ _ (by simp [Opc.sigP, hp.out]) (by simp [Opc.sigR, hp.out]) _ hp.out
  have hp := Lib.hid (show Opc.plain x = true by simp [Opc.plain, hk]; omega)
  go_enter Try.func8, Try.ntmps8
  go_wp2_with (first | (go_at_call 10; refine (known_any _ _).mono ?_; rintro e w' ⟨rfl, rfl⟩) | (go_at_call 21; refine (typeU_any _ _).mono ?_; rintro e w' ⟨rfl, rfl⟩) | (go_at_call 22; refine (within_any _ _ _ _).mono ?_; rintro e w' ⟨rfl, rfl⟩))
  all_goals go_ret3
  all_goals first
    | exact sig_both [127] [Opc.typeU x] _ _ _ 5 _ _ (by have := hp.out; simp_all [Opc.sigP] <;> (repeat rw [if_neg (by omega)])) (by have := hp.out; simp_all [Opc.sigR] <;> (repeat rw [if_neg (by omega)])) rfl rfl _ hp.out
    | exact sig_left [127, Opc.typeU x] _ _ _ 5 _ _ (by have := hp.out; simp_all [Opc.sigP] <;> (repeat rw [if_neg (by omega)])) (by have := hp.out; simp_all [Opc.sigR] <;> (repeat rw [if_neg (by omega)])) rfl rfl _ hp.out
    | exact sig_right [Opc.typeU x] _ _ _ 5 _ _ (by have := hp.out; simp_all [Opc.sigP] <;> (repeat rw [if_neg (by omega)])) (by have := hp.out; simp_all [Opc.sigR] <;> (repeat rw [if_neg (by omega)])) rfl rfl _ hp.out
    | exact sig_both [Opc.typeU x] [127] _ _ _ 5 _ _ (by have := hp.out; simp_all [Opc.sigP] <;> (repeat rw [if_neg (by omega)])) (by have := hp.out; simp_all [Opc.sigR] <;> (repeat rw [if_neg (by omega)])) rfl rfl _ hp.out
    | exact sig_both [Opc.typeU x, Opc.typeU x] [127] _ _ _ 5 _ _ (by have := hp.out; simp_all [Opc.sigP] <;> (repeat rw [if_neg (by omega)])) (by have := hp.out; simp_all [Opc.sigR] <;> (repeat rw [if_neg (by omega)])) rfl rfl _ hp.out
    | exact sig_both [Opc.typeU x] [Opc.typeU x] _ _ _ 5 _ _ (by have := hp.out; simp_all [Opc.sigP] <;> (repeat rw [if_neg (by omega)])) (by have := hp.out; simp_all [Opc.sigR] <;> (repeat rw [if_neg (by omega)])) rfl rfl _ hp.out
    | exact sig_both [Opc.typeU x, Opc.typeU x] [Opc.typeU x] _ _ _ 5 _ _ (by have := hp.out; simp_all [Opc.sigP] <;> (repeat rw [if_neg (by omega)])) (by have := hp.out; simp_all [Opc.sigR] <;> (repeat rw [if_neg (by omega)])) rfl rfl _ hp.out
    | exact sig_both [126] [Opc.typeU x] _ _ _ 5 _ _ (by have := hp.out; simp_all [Opc.sigP] <;> (repeat rw [if_neg (by omega)])) (by have := hp.out; simp_all [Opc.sigR] <;> (repeat rw [if_neg (by omega)])) rfl rfl _ hp.out
end Go.Proofs.Ytejjkihggdmdlaa
