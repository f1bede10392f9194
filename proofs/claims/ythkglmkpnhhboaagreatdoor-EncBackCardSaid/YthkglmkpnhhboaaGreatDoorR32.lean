/-
  Layer 7's module: its sections, as far as the writer's rows have them. (gen/enc/sec.py)
-/
import Derived.Test.YthkglmkpnhhboaaGreatDoorR01
import Derived.Test.YthkglmkpnhhboaaGreatDoorR31
import Derived.Test.YthkglmkpnhhboaaGreatDoorR23
import Derived.Test.YthkglmkpnhhboaaGreatDoorR09
import Derived.Test.YthkglmkpnhhboaaGreatDoorR21
import Derived.Test.YthkglmkpnhhboaaGreatDoorR07
import Derived.Deep.CutRange
set_option maxRecDepth 100000
set_option maxHeartbeats 4000000
namespace Bin
open Ins Sec Leb
def Sat (a b : List UInt8) : Prop := a.length ≤ 65536 ∧ b = a ∨ 65536 < a.length ∧ b.length = 65536
def RelS : List S → List S → Prop
 | [], [] => True
 | s :: a, t :: b => (t.id = s.id ∧ Sat s.b t.b) ∧ RelS a b
 | _, _ => False
theorem RelS.app : ∀ {a b : List S} {s t : S}, RelS a b → t.id = s.id → Sat s.b t.b → RelS (a ++ [s]) (b ++ [t])
 | [], [], _, _, _, h1, h2 => ⟨⟨h1, h2⟩, trivial⟩
 | _ :: _, _ :: _, _, _, h, h1, h2 => ⟨h.1, RelS.app h.2 h1 h2⟩
 | [], _ :: _, _, _, h, _, _ => h.elim
 | _ :: _, [], _, _, h, _, _ => h.elim
theorem RelS.rises : ∀ {a b : List S} (k : Nat), RelS a b → Sec.rises k b = Sec.rises k a
 | [], [], _, _ => rfl
 | s :: a, t :: b, k, h => by
  unfold Sec.rises
  rw [h.1.1, RelS.rises s.id h.2]
 | [], _ :: _, _, h => h.elim
 | _ :: _, [], _, h => h.elim
theorem RelS.join : ∀ {a b : List S}, RelS a b → b = a ∨ 65536 < (Sec.encAll a).length ∧ 65536 < (Sec.encAll b).length
 | [], [], _ => .inl rfl
 | s :: a, t :: b, h => by
  have e : ∀ (x : S) (l : List S), (Sec.encAll (x :: l)).length = 1 + (encU x.b.length).length + x.b.length + (Sec.encAll l).length := fun x l => by
   simp [Sec.encAll, Sec.enc]; omega
  rcases h.1.2 with ⟨h1, h2⟩ | ⟨h1, h2⟩
  ·have hst : t = s := by
    obtain ⟨i, u⟩ := s
    obtain ⟨i2, u2⟩ := t
    have e1 : i2 = i := h.1.1
    have e2 : u2 = u := h2
    rw [e1, e2]
   rcases RelS.join h.2 with h3 | ⟨h3, h4⟩
   ·exact .inl (by rw [hst, h3])
   ·refine .inr ⟨?_, ?_⟩ <;> rw [e] <;> omega
  ·refine .inr ⟨?_, ?_⟩ <;> rw [e] <;> omega
 | [], _ :: _, h => h.elim
 | _ :: _, [], h => h.elim
theorem RelS.len : ∀ {a b : List S}, RelS a b → b.length = a.length
 | [], [], _ => rfl
 | _ :: _, _ :: _, h => by simp [RelS.len h.2]
 | [], _ :: _, h => h.elim
 | _ :: _, [], h => h.elim
def upto (m : M) (j : Nat) : List S := ((ids.take j).filter fun i => decide (0 < cnt m i)).map fun i => ⟨i, body m i⟩
theorem gh {j : Nat} (h : j < 11) : ids.take (j + 1) = ids.take j ++ [j + 1] := by
 have hc : j = 0 ∨ j = 1 ∨ j = 2 ∨ j = 3 ∨ j = 4 ∨ j = 5 ∨ j = 6 ∨ j = 7 ∨ j = 8 ∨ j = 9 ∨ j = 10 := by omega
 rcases hc with rfl | rfl | rfl | rfl | rfl | rfl | rfl | rfl | rfl | rfl | rfl <;> rfl
theorem upto_yes {m : M} {j : Nat} (h : j < 11) (hc : 0 < cnt m (j + 1)) : upto m (j + 1) = upto m j ++ [⟨j + 1, body m (j + 1)⟩] := by
 unfold upto
 rw [gh h, List.filter_append, List.map_append]
 simp [hc]
theorem upto_no {m : M} {j : Nat} (h : j < 11) (hc : ¬ 0 < cnt m (j + 1)) : upto m (j + 1) = upto m j := by
 unfold upto
 rw [gh h, List.filter_append, List.map_append]
 simp [hc]
end Bin
namespace Go.Proofs.YthkglmkpnhhboaaGreatDoor
open Go.RowKit Ins Bin
def okTo (m : M) (j : Nat) : Prop := ∀ i ∈ ids.take j, 0 < cnt m i → okB m i
theorem eR {m : M} {j : Nat} (h : j < 11) : okTo m (j + 1) ↔ okTo m j ∧ (0 < cnt m (j + 1) → okB m (j + 1)) := by
 unfold okTo
 rw [gh h]
 simp only [List.mem_append, List.mem_singleton]
 exact ⟨fun h => ⟨fun i hi => h i (.inl hi), h _ (.inr rfl)⟩, fun h i hi => by
  rcases hi with hi | rfl
  ·exact h.1 i hi
  ·exact h.2⟩
theorem okTo_le {m : M} {j k : Nat} (h : okTo m k) (hj : j ≤ k) : okTo m j := fun i hi => h i (by
 rw [← List.take_append_drop j (ids.take k)]
 rw [List.take_take, Nat.min_eq_left hj]
 exact List.mem_append_left _ hi)
theorem okM_iff {m : M} (hst : m.start < 4294967296) : okM m ↔ m.codes.length = m.funcs.length ∧ (m.hasStart = false → m.start = 0) ∧ okTo m 11 := by
 have key : ∀ {α : Type} (l : List α) (P : α → Prop), (0 < l.length → ∀ x ∈ l, P x) → ∀ x ∈ l, P x := fun l P h x hx => h (List.length_pos_of_mem hx) x hx
 constructor
 ·intro h
  refine ⟨h.many, h.start.2, fun i hi _ => ?_⟩
  rcases cu hi with rfl | rfl | rfl | rfl | rfl | rfl | rfl | rfl | rfl | rfl | rfl
  ·exact h.types
  ·exact h.imports
  ·exact h.funcs
  ·exact h.tables
  ·exact h.mems
  ·exact h.globals
  ·exact h.exports
  ·exact h.start.1
  ·exact h.elems
  ·exact h.codes
  ·exact h.datas
 ·rintro ⟨h1, h2, h3⟩
  have g : ∀ i ∈ ids, 0 < cnt m i → okB m i := h3
  exact ⟨⟨key _ _ (g 1 (by decide)), key _ _ (g 2 (by decide)), key _ _ (g 3 (by decide)), key _ _ (g 4 (by decide)), key _ _ (g 5 (by decide)), key _ _ (g 6 (by decide)), key _ _ (g 7 (by decide)), ⟨hst, h2⟩, key _ _ (g 9 (by decide)), key _ _ (g 10 (by decide)), key _ _ (g 11 (by decide))⟩, h1⟩
def contCells (B : Nat) (hs : Bool) (n1 n2 n3 n4 n5 n6 n7 n9 n10 n11 : Nat) : Array Value := #[.bool (decide (0 < n1)), .func (.func 49) #[.pointer (some ⟨B, 0, none⟩)] #[], .bool (decide (0 < n2)), .func (.func 50) #[.pointer (some ⟨B, 0, none⟩)] #[], .bool (decide (0 < n3)), .func (.func 51) #[.pointer (some ⟨B, 0, none⟩)] #[], .bool (decide (0 < n4)), .func (.func 52) #[.pointer (some ⟨B, 0, none⟩)] #[], .bool (decide (0 < n5)), .func (.func 53) #[.pointer (some ⟨B, 0, none⟩)] #[], .bool (decide (0 < n6)), .func (.func 54) #[.pointer (some ⟨B, 0, none⟩)] #[], .bool (decide (0 < n7)), .func (.func 55) #[.pointer (some ⟨B, 0, none⟩)] #[], .bool hs, .func (.func 56) #[.pointer (some ⟨B, 0, none⟩)] #[], .bool (decide (0 < n9)), .func (.func 57) #[.pointer (some ⟨B, 0, none⟩)] #[], .bool (decide (0 < n10)), .func (.func 58) #[.pointer (some ⟨B, 0, none⟩)] #[], .bool (decide (0 < n11)), .func (.func 59) #[.pointer (some ⟨B, 0, none⟩)] #[]]
def cellsAt (m : M) (B : Nat) : Array Value := contCells B m.hasStart m.types.length m.imports.length m.funcs.length m.tables.length m.mems.length m.globals.length m.exports.length m.elems.length m.codes.length m.datas.length
theorem cont_at (m : M) (B : Nat) (v1 v2 v3 v4 v5 v6 v7 v8 v9 v10 : Value) (j : Nat) (hj : j < 11) : ∃ (q : Bool) (f : Nat), (cellsAt m B)[j * 2]? = some (.bool q) ∧ (cellsAt m B)[j * 2 + 1]? = some (.func (.func f) #[.pointer (some ⟨B, 0, none⟩)] #[]) ∧ q = decide (0 < cnt m (j + 1)) ∧ (∀ (a : Array Value) (w : World), (callFunc f a).run Tryz.prog w = .ok (.enter f a) w) ∧
  ∀ (R : Nat) (v : Value) (s : Option (List UInt8)) (w : World), WS w R v s → w.heap[B]? = some (.cells (modCells m v1 v2 v3 v4 v5 v6 v7 v8 v9 v10) 33 (0, 0)) → RepM w (· < R) m v1 v2 v3 v4 v5 v6 v7 v8 v9 v10 → FitM m → Tb w →
   Calls Tryz.prog f #[.pointer (some ⟨B, 0, none⟩), .pointer (some ⟨R, 0, none⟩)] w (ab R w v (adv s (okB m (j + 1)) (body m (j + 1)))) := by
 have hc : j = 0 ∨ j = 1 ∨ j = 2 ∨ j = 3 ∨ j = 4 ∨ j = 5 ∨ j = 6 ∨ j = 7 ∨ j = 8 ∨ j = 9 ∨ j = 10 := by omega
 rcases hc with rfl | rfl | rfl | rfl | rfl | rfl | rfl | rfl | rfl | rfl | rfl
 ·exact ⟨_, _, rfl, rfl, rfl, fun a w => by kernel_rfl, fun R v s w h hm hM hF hT => emeth1_any R B v s m v1 v2 v3 v4 v5 v6 v7 v8 v9 v10 w h hm hM⟩
 ·exact ⟨_, _, rfl, rfl, rfl, fun a w => by kernel_rfl, fun R v s w h hm hM hF hT => emeth2_any R B v s m v1 v2 v3 v4 v5 v6 v7 v8 v9 v10 w h hm hM hF hT⟩
 ·exact ⟨_, _, rfl, rfl, rfl, fun a w => by kernel_rfl, fun R v s w h hm hM hF hT => emeth3_any R B v s m v1 v2 v3 v4 v5 v6 v7 v8 v9 v10 w h hm hM⟩
 ·exact ⟨_, _, rfl, rfl, rfl, fun a w => by kernel_rfl, fun R v s w h hm hM hF hT => emeth4_any R B v s m v1 v2 v3 v4 v5 v6 v7 v8 v9 v10 w h hm hM⟩
 ·exact ⟨_, _, rfl, rfl, rfl, fun a w => by kernel_rfl, fun R v s w h hm hM hF hT => emeth5_any R B v s m v1 v2 v3 v4 v5 v6 v7 v8 v9 v10 w h hm hM⟩
 ·exact ⟨_, _, rfl, rfl, rfl, fun a w => by kernel_rfl, fun R v s w h hm hM hF hT => emeth6_any R B v s m v1 v2 v3 v4 v5 v6 v7 v8 v9 v10 w h hm hM hF⟩
 ·exact ⟨_, _, rfl, rfl, rfl, fun a w => by kernel_rfl, fun R v s w h hm hM hF hT => emeth7_any R B v s m v1 v2 v3 v4 v5 v6 v7 v8 v9 v10 w h hm hM hF hT⟩
 ·exact ⟨_, _, rfl, rfl, (by
   rw [show cnt m (7 + 1) = if m.hasStart = true then 1 else 0 from rfl]
   by_cases hb : m.hasStart = true <;> simp [hb]), fun a w => by kernel_rfl, fun R v s w h hm hM hF hT => emeth8_any R B v s m v1 v2 v3 v4 v5 v6 v7 v8 v9 v10 w h hm hM⟩
 ·exact ⟨_, _, rfl, rfl, rfl, fun a w => by kernel_rfl, fun R v s w h hm hM hF hT => emeth9_any R B v s m v1 v2 v3 v4 v5 v6 v7 v8 v9 v10 w h hm hM hF⟩
 ·exact ⟨_, _, rfl, rfl, rfl, fun a w => by kernel_rfl, fun R v s w h hm hM hF hT => emeth10_any R B v s m v1 v2 v3 v4 v5 v6 v7 v8 v9 v10 w h hm hM hF⟩
 ·exact ⟨_, _, rfl, rfl, rfl, fun a w => by kernel_rfl, fun R v s w h hm hM hF hT => emeth11_any R B v s m v1 v2 v3 v4 v5 v6 v7 v8 v9 v10 w h hm hM hF⟩
theorem eX (S1 S2 : Nat → Prop) (l : List Nat) (A1 A2 : Option Addr) (c1 c2 : Nat) (w : World) (h1 : HasL w S1 A1 l) (h2 : HasL w S2 A2 l) (hlen : l.length ≤ 140737488355328) :
  Calls Tryz.prog 21 #[.slice A1 l.length c1, .slice A2 l.length c2] w fun e w' => e = .returned (.bool true) ∧ Below w.heap.size w w' := by
 obtain ⟨n, hn⟩ : ∃ n, l.length = n := ⟨_, rfl⟩
 rw [hn] at hlen ⊢
 have HN := Y hn
 have H1 := Y h1
 have H2 := Y h2
 clear h1 h2 hn
 have e5 : ((n : Int) == (n : Int)) = true := by simp
 go_enter Tryz.func21, Tryz.ntmps21
 go_wp2_with fail
 go_loopw [5, 6] (fun b i wr => ∃ j : Nat, j ≤ n ∧ i = .int .i64 (j : Int) ∧ b = .bool true ∧ Hid (Below w.heap.size w wr)) (fun _ i _ => n - (intOf i).toNat)
 case atStart => exact ⟨0, by omega, rfl, rfl, Y (Below.refl _ _)⟩
 case round =>
  obtain ⟨j, hj, rfl, rfl, HB⟩ := hrel
  by_cases hjn : j < n
  ·obtain ⟨x, hx⟩ : ∃ x, l[j]? = some x := ⟨_, List.getElem?_eq_getElem (by have := HN.out; omega)⟩
   have hji : (j : Int) < (n : Int) := by omega
   obtain ⟨g1, o1, cs1, rfl, _, hg1, ⟨rfl, _⟩, k1⟩ := H1.out j x hx
   obtain ⟨g2, o2, cs2, rfl, _, hg2, ⟨rfl, _⟩, k2⟩ := H2.out j x hx
   have p0 := (HB.out.cell (p := ⟨g1, o1 + j * 1 + 0, none⟩) hg1).trans (k1 0 _ rfl)
   have q0 := (HB.out.cell (p := ⟨g2, o2 + j * 1 + 0, none⟩) hg2).trans (k2 0 _ rfl)
   simp only [Nat.mul_one, Nat.add_zero] at p0 q0
   have eu : ((x : Int) == (x : Int)) = true := by simp
   clear k1 k2 hx
   go_wp2_with fail
   go_quiet (fail)
   go_wp2_with fail
   go_roundw
   case rel => exact ⟨j + 1, by omega, by go_num, rfl, Y (Go.Proofs.YthkglmkpnhhboaaGreatDoor.Below.dn HB.out _)⟩
   case measure => simp [intOf]; omega
  ·obtain rfl : j = n := by omega
   go_wp2_with fail
   go_ret
   exact ⟨rfl, HB.out⟩
theorem fJ (S1 S2 : Nat → Prop) (l : List Lim) (A1 A2 : Option Addr) (c1 c2 : Nat) (w : World) (h1 : HasL w S1 A1 l) (h2 : HasL w S2 A2 l) (hlen : l.length ≤ 140737488355328) :
  Calls Tryz.prog 22 #[.slice A1 l.length c1, .slice A2 l.length c2] w fun e w' => e = .returned (.bool true) ∧ Below w.heap.size w w' := by
 obtain ⟨n, hn⟩ : ∃ n, l.length = n := ⟨_, rfl⟩
 rw [hn] at hlen ⊢
 have HN := Y hn
 have H1 := Y h1
 have H2 := Y h2
 clear h1 h2 hn
 have e5 : ((n : Int) == (n : Int)) = true := by simp
 go_enter Tryz.func22, Tryz.ntmps22
 go_wp2_with fail
 go_loopw [5, 6] (fun b i wr => ∃ j : Nat, j ≤ n ∧ i = .int .i64 (j : Int) ∧ b = .bool true ∧ Hid (Below w.heap.size w wr)) (fun _ i _ => n - (intOf i).toNat)
 case atStart => exact ⟨0, by omega, rfl, rfl, Y (Below.refl _ _)⟩
 case round =>
  obtain ⟨j, hj, rfl, rfl, HB⟩ := hrel
  by_cases hjn : j < n
  ·obtain ⟨x, hx⟩ : ∃ x, l[j]? = some x := ⟨_, List.getElem?_eq_getElem (by have := HN.out; omega)⟩
   have hji : (j : Int) < (n : Int) := by omega
   obtain ⟨g1, o1, cs1, rfl, _, hg1, ⟨rfl, _⟩, k1⟩ := H1.out j x hx
   obtain ⟨g2, o2, cs2, rfl, _, hg2, ⟨rfl, _⟩, k2⟩ := H2.out j x hx
   have p0 := (HB.out.cell (p := ⟨g1, o1 + j * 2 + 0, none⟩) hg1).trans (k1 0 _ rfl)
   have p1 := (HB.out.cell (p := ⟨g1, o1 + j * 2 + 1, none⟩) hg1).trans (k1 1 _ rfl)
   have q0 := (HB.out.cell (p := ⟨g2, o2 + j * 2 + 0, none⟩) hg2).trans (k2 0 _ rfl)
   have q1 := (HB.out.cell (p := ⟨g2, o2 + j * 2 + 1, none⟩) hg2).trans (k2 1 _ rfl)
   simp only [Nat.add_zero] at p0 q0
   obtain ⟨mi, ma⟩ := x
   simp only at p0 p1 q0 q1
   have eu : ((mi : Int) == (mi : Int)) = true := by simp
   have ev : (ma == ma) = true := by simp
   clear k1 k2 hx
   go_wp2_with fail
   go_quiet (fail)
   go_wp2_with fail
   go_roundw
   case rel => exact ⟨j + 1, by omega, by go_num, rfl, Y (Go.Proofs.YthkglmkpnhhboaaGreatDoor.Below.dn HB.out _)⟩
   case measure => simp [intOf]; omega
  ·obtain rfl : j = n := by omega
   go_wp2_with fail
   go_ret
   exact ⟨rfl, HB.out⟩
theorem codes_any (S1 S2 : Nat → Prop) (l : List Cd) (A1 A2 : Option Addr) (c1 c2 : Nat) (w : World) (h1 : HasL w S1 A1 l) (h2 : HasL w S2 A2 l) (hlen : l.length ≤ 140737488355328) (hin : ∀ x ∈ l, x.locals.length ≤ 140737488355328 ∧ x.body.length ≤ 140737488355328 ∧ ∀ y ∈ x.body, y.l.length ≤ 140737488355328) :
  Calls Tryz.prog 23 #[.slice A1 l.length c1, .slice A2 l.length c2] w fun e w' => e = .returned (.bool true) ∧ Below w.heap.size w w' := by
 obtain ⟨n, hn⟩ : ∃ n, l.length = n := ⟨_, rfl⟩
 rw [hn] at hlen ⊢
 have HN := Y hn
 have H1 := Y h1
 have H2 := Y h2
 have HIN := Y hin
 clear h1 h2 hn hin
 have e5 : ((n : Int) == (n : Int)) = true := by simp
 go_enter Tryz.func23, Tryz.ntmps23
 go_wp2_with fail
 go_loopw [5, 6] (fun b i wr => ∃ j : Nat, j ≤ n ∧ i = .int .i64 (j : Int) ∧ b = .bool true ∧ Hid (Below w.heap.size w wr)) (fun _ i _ => n - (intOf i).toNat)
 case atStart => exact ⟨0, by omega, rfl, rfl, Y (Below.refl _ _)⟩
 case round =>
  obtain ⟨j, hj, rfl, rfl, HB⟩ := hrel
  by_cases hjn : j < n
  ·obtain ⟨x, hx⟩ : ∃ x, l[j]? = some x := ⟨_, List.getElem?_eq_getElem (by have := HN.out; omega)⟩
   have hji : (j : Int) < (n : Int) := by omega
   have hxi := HIN.out x (List.mem_of_getElem? hx)
   obtain ⟨g1, o1, cs1, rfl, _, hg1, ⟨u1, t1, rfl, ⟨B1, d1, rfl, _, _, _, hl1⟩, ⟨C1, b1, rfl, _, _, _, hi1⟩⟩, k1⟩ := H1.out j x hx
   obtain ⟨g2, o2, cs2, rfl, _, hg2, ⟨u2, t2, rfl, ⟨B2, d2, rfl, _, _, _, hl2⟩, ⟨C2, b2, rfl, _, _, _, hi2⟩⟩, k2⟩ := H2.out j x hx
   obtain ⟨ls, bd⟩ := x
   simp only at hxi hl1 hl2 hi1 hi2 k1 k2
   have HC := Y (fun W (hb : Below w.heap.size w W) => cB S1 S2 bd C1 C2 b1 b2 W (hi1.ins.mod (Mod.of_below (T := fun _ => False) hb) (fun _ _ _ h => h)) (hi2.ins.mod (Mod.of_below (T := fun _ => False) hb) (fun _ _ _ h => h)) hxi.2.1 hxi.2.2)
   obtain ⟨m, hm⟩ : ∃ m, ls.length = m := ⟨_, rfl⟩
   obtain ⟨nb, hnb⟩ : ∃ nb, bd.length = nb := ⟨_, rfl⟩
   have HM := Y hm
   have hm47 : m ≤ 140737488355328 := by omega
   rw [hnb] at HC
   rw [hm, hnb] at k1 k2
   have HQ := Y (fun W (hb : Below w.heap.size w W) => (⟨(hb.cell (p := ⟨g1, o1 + j * 2 + 0, none⟩) hg1).trans (k1 0 _ rfl), (hb.cell (p := ⟨g1, o1 + j * 2 + 1, none⟩) hg1).trans (k1 1 _ rfl), (hb.cell (p := ⟨g2, o2 + j * 2 + 0, none⟩) hg2).trans (k2 0 _ rfl), (hb.cell (p := ⟨g2, o2 + j * 2 + 1, none⟩) hg2).trans (k2 1 _ rfl)⟩ :
    W.cell? ⟨g1, o1 + j * 2, none⟩ = some (.slice B1 m d1) ∧ W.cell? ⟨g1, o1 + j * 2 + 1, none⟩ = some (.slice C1 nb b1) ∧ W.cell? ⟨g2, o2 + j * 2, none⟩ = some (.slice B2 m d2) ∧ W.cell? ⟨g2, o2 + j * 2 + 1, none⟩ = some (.slice C2 nb b2)))
   have HL1 := Y hl1
   have HL2 := Y hl2
   have em : ((m : Int) == (m : Int)) = true := by simp
   clear k1 k2 hx hm hnb hxi hl1 hl2 hi1 hi2 hg1 hg2
   go_upto_region 5 with fail
   have hcd := HQ.out _ (HB.out.drew)
   refine wp_region_held_drew (S := (fun w' => w'.cell? ⟨g1, o1 + j * 2, none⟩ = some (.slice B1 m d1) ∧ w'.cell? ⟨g1, o1 + j * 2 + 1, none⟩ = some (.slice C1 nb b1) ∧ w'.cell? ⟨g2, o2 + j * 2, none⟩ = some (.slice B2 m d2) ∧ w'.cell? ⟨g2, o2 + j * 2 + 1, none⟩ = some (.slice C2 nb b2))) (by kernel_rfl) (hcd) (fun hHeld => ?_)
   refine dv 0 rfl ?_
   refine dv 1 rfl ?_
   refine dv 2 rfl ?_
   refine dv 3 rfl ?_
   refine dv 4 rfl ?_
   refine dv 5 rfl ?_
   refine dv 6 rfl ?_
   refine dv 7 rfl ?_
   refine dv 8 rfl ?_
   refine dv 9 rfl ?_
   refine dv 10 rfl ?_
   refine dv 11 rfl ?_
   refine dv 12 rfl ?_
   refine dv 13 rfl ?_
   refine dv 14 rfl ?_
   refine dv 15 rfl ?_
   refine dv 16 rfl ?_
   refine dv 17 rfl ?_
   refine dv 18 rfl ?_
   refine dv 19 rfl ?_
   refine dv 20 rfl ?_
   refine dv 21 rfl ?_
   refine dv 22 rfl ?_
   refine dv 23 rfl ?_
   refine an 24 rfl (by kernel_rfl) (fun K hK => ?_)
   go_simp
   refine (HC.out _ HB.out.drew).mono ?_
   rintro e w5 ⟨rfl, hb5⟩
   have HB2 := Y (HB.out.drew.trans (hb5.mono HB.out.size))
   clear hb5
   go_wp2_with fail
   refine hK.out _ _ (HQ.out _ HB2.out) (fun hHeld2 => ?_)
   clear hK K
   clear hHeld
   have hHeld := hHeld2
   clear hHeld2
   refine dv 25 rfl ?_
   refine dv 26 rfl ?_
   refine wpAnyH_done (by kernel_rfl) ?_ _
   obtain ⟨p0, p1, q0, q1⟩ := HQ.out _ HB2.out
   go_wp2_with fail
   go_loopw [5, 7] (fun b i wr => ∃ k : Nat, k ≤ m ∧ i = .int .i64 (k : Int) ∧ b = .bool true ∧ Hid (Below w.heap.size w wr)) (fun _ i _ => m - (intOf i).toNat)
   case atStart => exact ⟨0, by omega, rfl, rfl, HB2⟩
   case round =>
    clear p0 p1 q0 q1
    obtain ⟨k, hk, rfl, rfl, HB3⟩ := hrel
    obtain ⟨p0, p1, q0, q1⟩ := HQ.out _ HB3.out
    by_cases hkm : k < m
    ·obtain ⟨y, hy⟩ : ∃ y, ls[k]? = some y := ⟨_, List.getElem?_eq_getElem (by have := HM.out; omega)⟩
     have hki : (k : Int) < (m : Int) := by omega
     obtain ⟨r1, s1, cs1, rfl, _, hr1, ⟨rfl, _⟩, k1⟩ := HL1.out k y hy
     obtain ⟨r2, s2, cs2, rfl, _, hr2, ⟨rfl, _⟩, k2⟩ := HL2.out k y hy
     have y0 := (HB3.out.cell (p := ⟨r1, s1 + k * 2 + 0, none⟩) hr1).trans (k1 0 _ rfl)
     have y1 := (HB3.out.cell (p := ⟨r1, s1 + k * 2 + 1, none⟩) hr1).trans (k1 1 _ rfl)
     have z0 := (HB3.out.cell (p := ⟨r2, s2 + k * 2 + 0, none⟩) hr2).trans (k2 0 _ rfl)
     have z1 := (HB3.out.cell (p := ⟨r2, s2 + k * 2 + 1, none⟩) hr2).trans (k2 1 _ rfl)
     simp only [Nat.add_zero] at y0 z0
     obtain ⟨yn, yt⟩ := y
     simp only at y0 y1 z0 z1
     have eu : ((yn : Int) == (yn : Int)) = true := by simp
     have ev : ((yt.toNat : Int) == (yt.toNat : Int)) = true := by simp
     clear k1 k2 hy
     go_wp2_with fail
     go_quiet (fail)
     go_wp2_with fail
     go_roundw
     case rel => exact ⟨k + 1, by omega, by go_num, rfl, Y (Go.Proofs.YthkglmkpnhhboaaGreatDoor.Below.dn HB3.out _)⟩
     case measure => simp [intOf]; omega
    ·obtain rfl : k = m := by omega
     go_wp2_with fail
     go_roundw
     case rel => exact ⟨j + 1, by omega, by go_num, rfl, HB3⟩
     case measure => simp [intOf]; omega
  ·obtain rfl : j = n := by omega
   go_wp2_with fail
   go_ret
   exact ⟨rfl, HB.out⟩
end Go.Proofs.YthkglmkpnhhboaaGreatDoor
