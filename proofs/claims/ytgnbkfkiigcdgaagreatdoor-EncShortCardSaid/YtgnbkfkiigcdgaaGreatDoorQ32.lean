/-
  Layer 7's module: its sections, as far as the writer's rows have them. (gen/enc/sec.py)
-/
import Derived.Test.YtgnbkfkiigcdgaaGreatDoorQ01
import Derived.Test.YtgnbkfkiigcdgaaGreatDoorQ31
import Derived.Test.YtgnbkfkiigcdgaaGreatDoorQ22
import Derived.Test.YtgnbkfkiigcdgaaGreatDoorQ09
import Derived.Test.YtgnbkfkiigcdgaaGreatDoorQ19
import Derived.Test.YtgnbkfkiigcdgaaGreatDoorQ07
import Derived.Deep.CutRange
set_option maxRecDepth 100000
set_option maxHeartbeats 4000000
namespace Bin
open Ins Sec Leb
def Sat (a b : List UInt8) : Prop := a.length ≤ 65536 ∧ b = a ∨ 65536 < a.length ∧ b.length = 65536
def RelS : List S → List S → Prop
 | [], [] => True
 | s :: a, t :: b => (t.id = s.id ∧ Sat s.b t.b) ∧ RelS a b
 | _, _ => False
theorem RelS.app : ∀ {a b : List S} {s t : S}, RelS a b → t.id = s.id → Sat s.b t.b → RelS (a ++ [s]) (b ++ [t])
 | [], [], _, _, _, h1, h2 => ⟨⟨h1, h2⟩, trivial⟩
 | _ :: _, _ :: _, _, _, h, h1, h2 => ⟨h.1, RelS.app h.2 h1 h2⟩
 | [], _ :: _, _, _, h, _, _ => h.elim
 | _ :: _, [], _, _, h, _, _ => h.elim
theorem RelS.rises : ∀ {a b : List S} (k : Nat), RelS a b → Sec.rises k b = Sec.rises k a
 | [], [], _, _ => rfl
 | s :: a, t :: b, k, h => by
  unfold Sec.rises
  rw [h.1.1, RelS.rises s.id h.2]
 | [], _ :: _, _, h => h.elim
 | _ :: _, [], _, h => h.elim
theorem RelS.join : ∀ {a b : List S}, RelS a b → b = a ∨ 65536 < (Sec.encAll a).length ∧ 65536 < (Sec.encAll b).length
 | [], [], _ => .inl rfl
 | s :: a, t :: b, h => by
  have e : ∀ (x : S) (l : List S), (Sec.encAll (x :: l)).length = 1 + (encU x.b.length).length + x.b.length + (Sec.encAll l).length := fun x l => by
   simp [Sec.encAll, Sec.enc]; omega
  rcases h.1.2 with ⟨h1, h2⟩ | ⟨h1, h2⟩
  ·have hst : t = s := by
    obtain ⟨i, u⟩ := s
    obtain ⟨i2, u2⟩ := t
    have e1 : i2 = i := h.1.1
    have e2 : u2 = u := h2
    rw [e1, e2]
   rcases RelS.join h.2 with h3 | ⟨h3, h4⟩
   ·exact .inl (by rw [hst, h3])
   ·refine .inr ⟨?_, ?_⟩ <;> rw [e] <;> omega
  ·refine .inr ⟨?_, ?_⟩ <;> rw [e] <;> omega
 | [], _ :: _, h => h.elim
 | _ :: _, [], h => h.elim
theorem RelS.len : ∀ {a b : List S}, RelS a b → b.length = a.length
 | [], [], _ => rfl
 | _ :: _, _ :: _, h => by simp [RelS.len h.2]
 | [], _ :: _, h => h.elim
 | _ :: _, [], h => h.elim
def upto (m : M) (j : Nat) : List S := ((ids.take j).filter fun i => decide (0 < cnt m i)).map fun i => ⟨i, body m i⟩
theorem fA {j : Nat} (h : j < 11) : ids.take (j + 1) = ids.take j ++ [j + 1] := by
 have hc : j = 0 ∨ j = 1 ∨ j = 2 ∨ j = 3 ∨ j = 4 ∨ j = 5 ∨ j = 6 ∨ j = 7 ∨ j = 8 ∨ j = 9 ∨ j = 10 := by omega
 rcases hc with rfl | rfl | rfl | rfl | rfl | rfl | rfl | rfl | rfl | rfl | rfl <;> rfl
theorem upto_yes {m : M} {j : Nat} (h : j < 11) (hc : 0 < cnt m (j + 1)) : upto m (j + 1) = upto m j ++ [⟨j + 1, body m (j + 1)⟩] := by
 unfold upto
 rw [fA h, List.filter_append, List.map_append]
 simp [hc]
theorem upto_no {m : M} {j : Nat} (h : j < 11) (hc : ¬ 0 < cnt m (j + 1)) : upto m (j + 1) = upto m j := by
 unfold upto
 rw [fA h, List.filter_append, List.map_append]
 simp [hc]
end Bin
namespace Go.Proofs.YtgnbkfkiigcdgaaGreatDoor
open Go.RowKit Ins Bin
def okTo (m : M) (j : Nat) : Prop := ∀ i ∈ ids.take j, 0 < cnt m i → okB m i
theorem dV {m : M} {j : Nat} (h : j < 11) : okTo m (j + 1) ↔ okTo m j ∧ (0 < cnt m (j + 1) → okB m (j + 1)) := by
 unfold okTo
 rw [fA h]
 simp only [List.mem_append, List.mem_singleton]
 exact ⟨fun h => ⟨fun i hi => h i (.inl hi), h _ (.inr rfl)⟩, fun h i hi => by
  rcases hi with hi | rfl
  ·exact h.1 i hi
  ·exact h.2⟩
theorem okTo_le {m : M} {j k : Nat} (h : okTo m k) (hj : j ≤ k) : okTo m j := fun i hi => h i (by
 rw [← List.take_append_drop j (ids.take k)]
 rw [List.take_take, Nat.min_eq_left hj]
 exact List.mem_append_left _ hi)
theorem okM_iff {m : M} (hst : m.start < 4294967296) : okM m ↔ m.codes.length = m.funcs.length ∧ (m.hasStart = false → m.start = 0) ∧ okTo m 11 := by
 have key : ∀ {α : Type} (l : List α) (P : α → Prop), (0 < l.length → ∀ x ∈ l, P x) → ∀ x ∈ l, P x := fun l P h x hx => h (List.length_pos_of_mem hx) x hx
 constructor
 ·intro h
  refine ⟨h.many, h.start.2, fun i hi _ => ?_⟩
  rcases dO hi with rfl | rfl | rfl | rfl | rfl | rfl | rfl | rfl | rfl | rfl | rfl
  ·exact h.types
  ·exact h.imports
  ·exact h.funcs
  ·exact h.tables
  ·exact h.mems
  ·exact h.globals
  ·exact h.exports
  ·exact h.start.1
  ·exact h.elems
  ·exact h.codes
  ·exact h.datas
 ·rintro ⟨h1, h2, h3⟩
  have g : ∀ i ∈ ids, 0 < cnt m i → okB m i := h3
  exact ⟨⟨key _ _ (g 1 (by decide)), key _ _ (g 2 (by decide)), key _ _ (g 3 (by decide)), key _ _ (g 4 (by decide)), key _ _ (g 5 (by decide)), key _ _ (g 6 (by decide)), key _ _ (g 7 (by decide)), ⟨hst, h2⟩, key _ _ (g 9 (by decide)), key _ _ (g 10 (by decide)), key _ _ (g 11 (by decide))⟩, h1⟩
def contCells (B : Nat) (hs : Bool) (n1 n2 n3 n4 n5 n6 n7 n9 n10 n11 : Nat) : Array Value := #[.bool (decide (0 < n1)), .func (.func 49) #[.pointer (some ⟨B, 0, none⟩)] #[], .bool (decide (0 < n2)), .func (.func 50) #[.pointer (some ⟨B, 0, none⟩)] #[], .bool (decide (0 < n3)), .func (.func 51) #[.pointer (some ⟨B, 0, none⟩)] #[], .bool (decide (0 < n4)), .func (.func 52) #[.pointer (some ⟨B, 0, none⟩)] #[], .bool (decide (0 < n5)), .func (.func 53) #[.pointer (some ⟨B, 0, none⟩)] #[], .bool (decide (0 < n6)), .func (.func 54) #[.pointer (some ⟨B, 0, none⟩)] #[], .bool (decide (0 < n7)), .func (.func 55) #[.pointer (some ⟨B, 0, none⟩)] #[], .bool hs, .func (.func 56) #[.pointer (some ⟨B, 0, none⟩)] #[], .bool (decide (0 < n9)), .func (.func 57) #[.pointer (some ⟨B, 0, none⟩)] #[], .bool (decide (0 < n10)), .func (.func 58) #[.pointer (some ⟨B, 0, none⟩)] #[], .bool (decide (0 < n11)), .func (.func 59) #[.pointer (some ⟨B, 0, none⟩)] #[]]
def cellsAt (m : M) (B : Nat) : Array Value := contCells B m.hasStart m.types.length m.imports.length m.funcs.length m.tables.length m.mems.length m.globals.length m.exports.length m.elems.length m.codes.length m.datas.length
theorem cont_at (m : M) (B : Nat) (v1 v2 v3 v4 v5 v6 v7 v8 v9 v10 : Value) (j : Nat) (hj : j < 11) : ∃ (q : Bool) (f : Nat), (cellsAt m B)[j * 2]? = some (.bool q) ∧ (cellsAt m B)[j * 2 + 1]? = some (.func (.func f) #[.pointer (some ⟨B, 0, none⟩)] #[]) ∧ q = decide (0 < cnt m (j + 1)) ∧ (∀ (a : Array Value) (w : World), (callFunc f a).run Tryz.prog w = .ok (.enter f a) w) ∧
  ∀ (R : Nat) (v : Value) (s : Option (List UInt8)) (w : World), WS w R v s → w.heap[B]? = some (.cells (modCells m v1 v2 v3 v4 v5 v6 v7 v8 v9 v10) 33 (0, 0)) → RepM w (· < R) m v1 v2 v3 v4 v5 v6 v7 v8 v9 v10 → FitM m → Tb w →
   Calls Tryz.prog f #[.pointer (some ⟨B, 0, none⟩), .pointer (some ⟨R, 0, none⟩)] w (ac R w v (adv s (okB m (j + 1)) (body m (j + 1)))) := by
 have hc : j = 0 ∨ j = 1 ∨ j = 2 ∨ j = 3 ∨ j = 4 ∨ j = 5 ∨ j = 6 ∨ j = 7 ∨ j = 8 ∨ j = 9 ∨ j = 10 := by omega
 rcases hc with rfl | rfl | rfl | rfl | rfl | rfl | rfl | rfl | rfl | rfl | rfl
 ·exact ⟨_, _, rfl, rfl, rfl, fun a w => by kernel_rfl, fun R v s w h hm hM hF hT => emeth1_any R B v s m v1 v2 v3 v4 v5 v6 v7 v8 v9 v10 w h hm hM⟩
 ·exact ⟨_, _, rfl, rfl, rfl, fun a w => by kernel_rfl, fun R v s w h hm hM hF hT => emeth2_any R B v s m v1 v2 v3 v4 v5 v6 v7 v8 v9 v10 w h hm hM hF hT⟩
 ·exact ⟨_, _, rfl, rfl, rfl, fun a w => by kernel_rfl, fun R v s w h hm hM hF hT => emeth3_any R B v s m v1 v2 v3 v4 v5 v6 v7 v8 v9 v10 w h hm hM⟩
 ·exact ⟨_, _, rfl, rfl, rfl, fun a w => by kernel_rfl, fun R v s w h hm hM hF hT => emeth4_any R B v s m v1 v2 v3 v4 v5 v6 v7 v8 v9 v10 w h hm hM⟩
 ·exact ⟨_, _, rfl, rfl, rfl, fun a w => by kernel_rfl, fun R v s w h hm hM hF hT => emeth5_any R B v s m v1 v2 v3 v4 v5 v6 v7 v8 v9 v10 w h hm hM⟩
 ·exact ⟨_, _, rfl, rfl, rfl, fun a w => by kernel_rfl, fun R v s w h hm hM hF hT => emeth6_any R B v s m v1 v2 v3 v4 v5 v6 v7 v8 v9 v10 w h hm hM hF⟩
 ·exact ⟨_, _, rfl, rfl, rfl, fun a w => by kernel_rfl, fun R v s w h hm hM hF hT => emeth7_any R B v s m v1 v2 v3 v4 v5 v6 v7 v8 v9 v10 w h hm hM hF hT⟩
 ·exact ⟨_, _, rfl, rfl, (by
   rw [show cnt m (7 + 1) = if m.hasStart = true then 1 else 0 from rfl]
   by_cases hb : m.hasStart = true <;> simp [hb]), fun a w => by kernel_rfl, fun R v s w h hm hM hF hT => emeth8_any R B v s m v1 v2 v3 v4 v5 v6 v7 v8 v9 v10 w h hm hM⟩
 ·exact ⟨_, _, rfl, rfl, rfl, fun a w => by kernel_rfl, fun R v s w h hm hM hF hT => emeth9_any R B v s m v1 v2 v3 v4 v5 v6 v7 v8 v9 v10 w h hm hM hF⟩
 ·exact ⟨_, _, rfl, rfl, rfl, fun a w => by kernel_rfl, fun R v s w h hm hM hF hT => emeth10_any R B v s m v1 v2 v3 v4 v5 v6 v7 v8 v9 v10 w h hm hM hF⟩
 ·exact ⟨_, _, rfl, rfl, rfl, fun a w => by kernel_rfl, fun R v s w h hm hM hF hT => emeth11_any R B v s m v1 v2 v3 v4 v5 v6 v7 v8 v9 v10 w h hm hM hF⟩
def M.small (m : M) : Prop := m.types.length ≤ 140737488355328 ∧ m.imports.length ≤ 140737488355328 ∧ m.funcs.length ≤ 140737488355328 ∧ m.tables.length ≤ 140737488355328 ∧ m.mems.length ≤ 140737488355328 ∧ m.globals.length ≤ 140737488355328 ∧ m.exports.length ≤ 140737488355328 ∧ m.elems.length ≤ 140737488355328 ∧ m.codes.length ≤ 140737488355328 ∧ m.datas.length ≤ 140737488355328 ∧
 (∀ x ∈ m.types, x.params.length ≤ 140737488355328 ∧ x.results.length ≤ 140737488355328) ∧ (∀ x ∈ m.globals, x.init.length ≤ 140737488355328 ∧ ∀ y ∈ x.init, y.l.length ≤ 140737488355328) ∧
 (∀ x ∈ m.elems, x.off.length ≤ 140737488355328 ∧ (∀ y ∈ x.off, y.l.length ≤ 140737488355328) ∧ x.funcs.length ≤ 140737488355328) ∧ (∀ x ∈ m.codes, x.locals.length ≤ 140737488355328 ∧ x.body.length ≤ 140737488355328 ∧ ∀ y ∈ x.body, y.l.length ≤ 140737488355328) ∧
 (∀ x ∈ m.datas, x.off.length ≤ 140737488355328 ∧ (∀ y ∈ x.off, y.l.length ≤ 140737488355328) ∧ x.b.length ≤ 140737488355328)
end Go.Proofs.YtgnbkfkiigcdgaaGreatDoor
