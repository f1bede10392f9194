/-
  The reader: where it has come to, as the world has it; its byte.
-/
import Derived.Test.YtnechkmdmjhhbaaInsPure
import Derived.Test.YtnechkmdmjhhbaaInsMath2
import Derived.Test.YtnechkmdmjhhbaaHasMore
import Derived.WalkLawsBesides
import Derived.IntWalk
namespace Go.Proofs.Ytnechkmdmjhhbaa
open Go.RowKit Ins
/-- An error that ends a reader. -/
@[reducible] def erred (k : Nat) : Ending := .panicked [{ v := .iface 30 (.int .i64 (k : Int)), recovered := false }]
/-- The reader in block R has come to a place of these bytes, which lie ahead of it. -/
def Rd (w : World) (R : Nat) (A : Option Addr) (c : Nat) (l : List UInt8) (p : Nat) : Prop :=
  w.heap[R]? = some (.cells #[.slice A l.length c, .int .i64 (p : Int)] 82 (0, 0)) ∧ Has w R A l ∧ p ≤ l.length ∧ l.length ≤ c ∧ c ≤ maxLen ∧ (A = none → c = 0)
theorem Rd.c0 {w : World} {R : Nat} {A : Option Addr} {c : Nat} {l : List UInt8} {p : Nat} (h : Rd w R A c l p) : w.cell? ⟨R, 0, none⟩ = some (.slice A l.length c) := by
  rw [cell_of_row w R 0 _ _ (0, 0) h.1]; rfl
theorem Rd.c1 {w : World} {R : Nat} {A : Option Addr} {c : Nat} {l : List UInt8} {p : Nat} (h : Rd w R A c l p) : w.cell? ⟨R, 1, none⟩ = some (.int .i64 (p : Int)) := by
  rw [cell_of_row w R 1 _ _ (0, 0) h.1]; rfl
theorem Rd.f1 {w : World} {R : Nat} {A : Option Addr} {c : Nat} {l : List UInt8} {p : Nat} (h : Rd w R A c l p) : w.frozen? ⟨R, 1, none⟩ = false := frozen_of_row w R 1 _ _ h.1
theorem Rd.lt {w : World} {R : Nat} {A : Option Addr} {c : Nat} {l : List UInt8} {p : Nat} (h : Rd w R A c l p) : R < w.heap.size := (Array.getElem?_eq_some_iff.1 h.1).1
/-- The reader goes on: its place alone is written. -/
theorem Rd.go {w w' : World} {R : Nat} {A : Option Addr} {c : Nat} {l : List UInt8} {p q : Nat} (h : Rd w R A c l p) (hq : q ≤ l.length) (hh : w'.heap = (w.setCell ⟨R, 1, none⟩ (.int .i64 (q : Int))).heap) : Rd w' R A c l q := by
  refine ⟨?_, h.2.1.keep fun a ha => ?_, hq, h.2.2.2⟩
  · rw [hh, heap_setCell_same w R 1 _ _ _ h.1]; rfl
  · refine World.cell?_of_block ?_
    rw [hh]
    exact Below.heap_setCell _ _ _ _ (by show a.block ≠ R; omega)
theorem Rd.keep {w w' : World} {T : Nat → Prop} {R : Nat} {A : Option Addr} {c : Nat} {l : List UInt8} {p : Nat} (h : Rd w R A c l p) (hm : Mod T w w') (ht : ∀ k, k ≤ R → ¬ T k) : Rd w' R A c l p :=
  ⟨hm.heap h.1 (ht R (Nat.le_refl _)), hm.has h.2.1 (fun k hk => ht k (by omega)), h.2.2⟩
/-- What a call of a reader's method comes to. -/
def RdPost {α : Type} (R : Nat) (A : Option Addr) (c : Nat) (l : List UInt8) (p : Nat) (w : World) (r : Except Nat (α × Nat)) (f : World → Value → α → Prop) (e : Ending) (w' : World) : Prop :=
  match r with
  | .error k => e = erred k ∧ Mod (· = R) w w'
  | .ok (x, n) => ∃ v, e = .returned v ∧ f w' v x ∧ Rd w' R A c l (p + n) ∧ Mod (· = R) w w'
theorem rdByte_drop_some {l : List UInt8} {p : Nat} {x : UInt8} (h : l[p]? = some x) : rdByte (l.drop p) = .ok (x.toNat, 1) := by
  obtain ⟨hp, rfl⟩ := List.getElem?_eq_some_iff.1 h
  rw [List.drop_eq_getElem_cons hp]
  rfl
theorem rdByte_drop_none {l : List UInt8} {p : Nat} (h : l.length ≤ p) : rdByte (l.drop p) = .error 60 := by
  rw [List.drop_of_length_le h]; rfl
set_option maxRecDepth 100000 in
set_option maxHeartbeats 1000000 in
theorem byte_any (R : Nat) (A : Option Addr) (c : Nat) (l : List UInt8) (p : Nat) (w : World) (h : Rd w R A c l p) :
    Calls Try.prog 57 #[.pointer (some ⟨R, 0, none⟩)] w (RdPost R A c l p w (rdByte (l.drop p)) fun _ v x => v = .int .u8 (x : Int)) := by
  have h0 := h.c0
  have h1 := h.c1
  have hf := h.f1
  have hcap := h.2.2.2
  have hp := h.2.2.1
  have H := Lib.hid h
  obtain ⟨n, hn⟩ : ∃ n, n = l.length := ⟨_, rfl⟩
  rw [← hn] at h0 hcap hp
  have HN := Lib.hid hn
  clear hn h
  obtain ⟨hc1, hc2, hc3⟩ := hcap
  clear hc3
  unfold maxLen at hc2
  by_cases hlt : p < n
  · obtain ⟨x, hx⟩ : ∃ x, l[p]? = some x := ⟨_, List.getElem?_eq_getElem (by have := HN.out; omega)⟩
    rw [rdByte_drop_some hx]
    obtain ⟨ad, hA, hb, hcell⟩ := H.out.2.1 p x hx
    subst hA
    have hne : ((p : Int) == (n : Int)) = false := by simp; omega
    have hw1 : IntKind.i64.wrap ((p : Int) + 1) = (p : Int) + 1 := IntWalk.i64_in _ (by omega)
    have hw2 : IntKind.i64.wrap ((p : Int) + 1 - 1) = (p : Int) := by rw [IntWalk.i64_in _ (by omega)]; omega
    have hi : (p : Int) < (n : Int) := by omega
    have hb2 : ¬ R = (ad.add p).block := by
      have : (ad.add p).block = ad.block := by unfold Addr.add; split <;> rfl
      omega
    have HX := Lib.hid hx
    clear hx
    go_enter Try.func57, Try.ntmps57
    go_wp2_with fail
    go_quiet (fail)
    go_wp2_with fail
    have H2 := H.out.go (w' := (w.drewN nq).setCell ⟨R, 1, none⟩ (.int .i64 ((p : Int) + 1))) (q := p + 1) (by have := HN.out; omega) rfl
    have M2 : Mod (· = R) w ((w.drewN nq).setCell ⟨R, 1, none⟩ (.int .i64 ((p : Int) + 1))) := Mod.setCell (T := (· = R)) ((Mod.refl _ w).drewN nq) (fun _ => rfl) _
    have k0 := H2.c0
    have k1 := H2.c1
    rw [← HN.out] at k0
    obtain ⟨ad', hA', _, kx⟩ := H2.2.1 p x HX.out
    injection hA' with hA'
    subst hA'
    have HM := Lib.hid M2
    have HR := Lib.hid H2
    clear hb2 hcell h0 h1 hf M2 H2 H
    generalize (w.drewN nq).setCell ⟨R, 1, none⟩ (.int .i64 ((p : Int) + 1)) = w2 at k0 k1 kx HM HR ⊢
    push_cast at k1
    go_quiet (fail)
    go_wp2_with fail
    go_ret
    exact ⟨_, rfl, rfl, ⟨HR.out.1, HR.out.2⟩, HM.out.drewN _⟩
  · rw [rdByte_drop_none (by have := HN.out; omega)]
    have hpn : p = n := by omega
    subst hpn
    have hne : ((p : Int) == (p : Int)) = true := by simp
    go_enter Try.func57, Try.ntmps57
    go_wp2_with fail
    go_quiet (fail)
    go_wp2_with fail
    exact ⟨rfl, rfl, (Mod.refl _ w).drewN nq⟩
end Go.Proofs.Ytnechkmdmjhhbaa
