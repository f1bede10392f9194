/-
  Layer 7's module: its sections, as far as the writer's rows have them. (gen/enc/sec.py)
-/
import Derived.Test.YtgnbkfkiigcdgaaGreatDoorP22
import Derived.Test.YtgnbkfkiigcdgaaGreatDoorP16
import Derived.Test.YtgnbkfkiigcdgaaGreatDoorP05
import Derived.Deep.Cut
import Derived.Laws.EntriesVeiled
import Derived.Test.YtgnbkfkiigcdgaaGreatDoorP18
namespace Bin
open Ins Sec Leb
/-- Bytes as a writer has them: as they are, or as many as are too many. -/
def Sat (a b : List UInt8) : Prop := a.length ≤ 65536 ∧ b = a ∨ 65536 < a.length ∧ b.length = 65536
def RelS : List S → List S → Prop
  | [], [] => True
  | s :: a, t :: b => (t.id = s.id ∧ Sat s.b t.b) ∧ RelS a b
  | _, _ => False
theorem RelS.app : ∀ {a b : List S} {s t : S}, RelS a b → t.id = s.id → Sat s.b t.b → RelS (a ++ [s]) (b ++ [t])
  | [], [], _, _, _, h1, h2 => ⟨⟨h1, h2⟩, trivial⟩
  | _ :: _, _ :: _, _, _, h, h1, h2 => ⟨h.1, RelS.app h.2 h1 h2⟩
  | [], _ :: _, _, _, h, _, _ => h.elim
  | _ :: _, [], _, _, h, _, _ => h.elim
theorem RelS.rises : ∀ {a b : List S} (k : Nat), RelS a b → Sec.rises k b = Sec.rises k a
  | [], [], _, _ => rfl
  | s :: a, t :: b, k, h => by
    unfold Sec.rises
    rw [h.1.1, RelS.rises s.id h.2]
  | [], _ :: _, _, h => h.elim
  | _ :: _, [], _, h => h.elim
theorem RelS.join : ∀ {a b : List S}, RelS a b → b = a ∨ 65536 < (Sec.encAll a).length ∧ 65536 < (Sec.encAll b).length
  | [], [], _ => .inl rfl
  | s :: a, t :: b, h => by
    have e : ∀ (x : S) (l : List S), (Sec.encAll (x :: l)).length = 1 + (encU x.b.length).length + x.b.length + (Sec.encAll l).length := fun x l => by
      simp [Sec.encAll, Sec.enc]; omega
    rcases h.1.2 with ⟨h1, h2⟩ | ⟨h1, h2⟩
    · have hst : t = s := by
        obtain ⟨i, u⟩ := s
        obtain ⟨i2, u2⟩ := t
        have e1 : i2 = i := h.1.1
        have e2 : u2 = u := h2
        rw [e1, e2]
      rcases RelS.join h.2 with h3 | ⟨h3, h4⟩
      · exact .inl (by rw [hst, h3])
      · refine .inr ⟨?_, ?_⟩ <;> rw [e] <;> omega
    · refine .inr ⟨?_, ?_⟩ <;> rw [e] <;> omega
  | [], _ :: _, h => h.elim
  | _ :: _, [], h => h.elim
theorem RelS.len : ∀ {a b : List S}, RelS a b → b.length = a.length
  | [], [], _ => rfl
  | _ :: _, _ :: _, h => by simp [RelS.len h.2]
  | [], _ :: _, h => h.elim
  | _ :: _, [], h => h.elim
/-- Of the first contents those that have an entry. -/
def upto (m : M) (j : Nat) : List S := ((ids.take j).filter fun i => decide (0 < cnt m i)).map fun i => ⟨i, body m i⟩
theorem take_ids {j : Nat} (h : j < 11) : ids.take (j + 1) = ids.take j ++ [j + 1] := by
  have hc : j = 0 ∨ j = 1 ∨ j = 2 ∨ j = 3 ∨ j = 4 ∨ j = 5 ∨ j = 6 ∨ j = 7 ∨ j = 8 ∨ j = 9 ∨ j = 10 := by omega
  rcases hc with rfl | rfl | rfl | rfl | rfl | rfl | rfl | rfl | rfl | rfl | rfl <;> rfl
theorem upto_yes {m : M} {j : Nat} (h : j < 11) (hc : 0 < cnt m (j + 1)) : upto m (j + 1) = upto m j ++ [⟨j + 1, body m (j + 1)⟩] := by
  unfold upto
  rw [take_ids h, List.filter_append, List.map_append]
  simp [hc]
theorem upto_no {m : M} {j : Nat} (h : j < 11) (hc : ¬ 0 < cnt m (j + 1)) : upto m (j + 1) = upto m j := by
  unfold upto
  rw [take_ids h, List.filter_append, List.map_append]
  simp [hc]
end Bin
namespace Go.Proofs.YtgnbkfkiigcdgaaGreatDoor
open Go.RowKit Ins Bin
/-- Whether all of the first contents that have an entry have bytes. -/
def okTo (m : M) (j : Nat) : Prop := ∀ i ∈ ids.take j, 0 < cnt m i → okB m i
theorem okTo_succ {m : M} {j : Nat} (h : j < 11) : okTo m (j + 1) ↔ okTo m j ∧ (0 < cnt m (j + 1) → okB m (j + 1)) := by
  unfold okTo
  rw [take_ids h]
  simp only [List.mem_append, List.mem_singleton]
  exact ⟨fun h => ⟨fun i hi => h i (.inl hi), h _ (.inr rfl)⟩, fun h i hi => by
    rcases hi with hi | rfl
    · exact h.1 i hi
    · exact h.2⟩
theorem okTo_le {m : M} {j k : Nat} (h : okTo m k) (hj : j ≤ k) : okTo m j := fun i hi => h i (by
  rw [← List.take_append_drop j (ids.take k)]
  rw [List.take_take, Nat.min_eq_left hj]
  exact List.mem_append_left _ hi)
theorem okM_iff {m : M} (hst : m.start < 4294967296) : okM m ↔ m.codes.length = m.funcs.length ∧ (m.hasStart = false → m.start = 0) ∧ okTo m 11 := by
  have key : ∀ {α : Type} (l : List α) (P : α → Prop), (0 < l.length → ∀ x ∈ l, P x) → ∀ x ∈ l, P x := fun l P h x hx => h (List.length_pos_of_mem hx) x hx
  constructor
  · intro h
    refine ⟨h.many, h.start.2, fun i hi _ => ?_⟩
    rcases id_cases hi with rfl | rfl | rfl | rfl | rfl | rfl | rfl | rfl | rfl | rfl | rfl
    · exact h.types
    · exact h.imports
    · exact h.funcs
    · exact h.tables
    · exact h.mems
    · exact h.globals
    · exact h.exports
    · exact h.start.1
    · exact h.elems
    · exact h.codes
    · exact h.datas
  · rintro ⟨h1, h2, h3⟩
    have g : ∀ i ∈ ids, 0 < cnt m i → okB m i := h3
    exact ⟨⟨key _ _ (g 1 (by decide)), key _ _ (g 2 (by decide)), key _ _ (g 3 (by decide)), key _ _ (g 4 (by decide)), key _ _ (g 5 (by decide)), key _ _ (g 6 (by decide)), key _ _ (g 7 (by decide)), ⟨hst, h2⟩, key _ _ (g 9 (by decide)), key _ _ (g 10 (by decide)), key _ _ (g 11 (by decide))⟩, h1⟩
def contCells (B : Nat) (hs : Bool) (n1 n2 n3 n4 n5 n6 n7 n9 n10 n11 : Nat) : Array Value := #[.bool (decide (0 < n1)), .func (.func 49) #[.pointer (some ⟨B, 0, none⟩)] #[], .bool (decide (0 < n2)), .func (.func 50) #[.pointer (some ⟨B, 0, none⟩)] #[], .bool (decide (0 < n3)), .func (.func 51) #[.pointer (some ⟨B, 0, none⟩)] #[], .bool (decide (0 < n4)), .func (.func 52) #[.pointer (some ⟨B, 0, none⟩)] #[], .bool (decide (0 < n5)), .func (.func 53) #[.pointer (some ⟨B, 0, none⟩)] #[], .bool (decide (0 < n6)), .func (.func 54) #[.pointer (some ⟨B, 0, none⟩)] #[], .bool (decide (0 < n7)), .func (.func 55) #[.pointer (some ⟨B, 0, none⟩)] #[], .bool hs, .func (.func 56) #[.pointer (some ⟨B, 0, none⟩)] #[], .bool (decide (0 < n9)), .func (.func 57) #[.pointer (some ⟨B, 0, none⟩)] #[], .bool (decide (0 < n10)), .func (.func 58) #[.pointer (some ⟨B, 0, none⟩)] #[], .bool (decide (0 < n11)), .func (.func 59) #[.pointer (some ⟨B, 0, none⟩)] #[]]
def cellsAt (m : M) (B : Nat) : Array Value := contCells B m.hasStart m.types.length m.imports.length m.funcs.length m.tables.length m.mems.length m.globals.length m.exports.length m.elems.length m.codes.length m.datas.length
/-- What the table has at a place. -/
theorem cont_at (m : M) (B : Nat) (v1 v2 v3 v4 v5 v6 v7 v8 v9 v10 : Value) (j : Nat) (hj : j < 11) : ∃ (q : Bool) (f : Nat), (cellsAt m B)[j * 2]? = some (.bool q) ∧ (cellsAt m B)[j * 2 + 1]? = some (.func (.func f) #[.pointer (some ⟨B, 0, none⟩)] #[]) ∧ q = decide (0 < cnt m (j + 1)) ∧ (∀ (a : Array Value) (w : World), (callFunc f a).run Tryz.prog w = .ok (.enter f a) w) ∧
    ∀ (R : Nat) (v : Value) (s : Option (List UInt8)) (w : World), WS w R v s → w.heap[B]? = some (.cells (modCells m v1 v2 v3 v4 v5 v6 v7 v8 v9 v10) 33 (0, 0)) → RepM w (· < R) m v1 v2 v3 v4 v5 v6 v7 v8 v9 v10 → FitM m → Tb w →
      Calls Tryz.prog f #[.pointer (some ⟨B, 0, none⟩), .pointer (some ⟨R, 0, none⟩)] w (EPost R w v (adv s (okB m (j + 1)) (body m (j + 1)))) := by
  have hc : j = 0 ∨ j = 1 ∨ j = 2 ∨ j = 3 ∨ j = 4 ∨ j = 5 ∨ j = 6 ∨ j = 7 ∨ j = 8 ∨ j = 9 ∨ j = 10 := by omega
  rcases hc with rfl | rfl | rfl | rfl | rfl | rfl | rfl | rfl | rfl | rfl | rfl
  · exact ⟨_, _, rfl, rfl, rfl, fun a w => by kernel_rfl, fun R v s w h hm hM hF hT => emeth1_any R B v s m v1 v2 v3 v4 v5 v6 v7 v8 v9 v10 w h hm hM⟩
  · exact ⟨_, _, rfl, rfl, rfl, fun a w => by kernel_rfl, fun R v s w h hm hM hF hT => emeth2_any R B v s m v1 v2 v3 v4 v5 v6 v7 v8 v9 v10 w h hm hM hF hT⟩
  · exact ⟨_, _, rfl, rfl, rfl, fun a w => by kernel_rfl, fun R v s w h hm hM hF hT => emeth3_any R B v s m v1 v2 v3 v4 v5 v6 v7 v8 v9 v10 w h hm hM⟩
  · exact ⟨_, _, rfl, rfl, rfl, fun a w => by kernel_rfl, fun R v s w h hm hM hF hT => emeth4_any R B v s m v1 v2 v3 v4 v5 v6 v7 v8 v9 v10 w h hm hM⟩
  · exact ⟨_, _, rfl, rfl, rfl, fun a w => by kernel_rfl, fun R v s w h hm hM hF hT => emeth5_any R B v s m v1 v2 v3 v4 v5 v6 v7 v8 v9 v10 w h hm hM⟩
  · exact ⟨_, _, rfl, rfl, rfl, fun a w => by kernel_rfl, fun R v s w h hm hM hF hT => emeth6_any R B v s m v1 v2 v3 v4 v5 v6 v7 v8 v9 v10 w h hm hM hF⟩
  · exact ⟨_, _, rfl, rfl, rfl, fun a w => by kernel_rfl, fun R v s w h hm hM hF hT => emeth7_any R B v s m v1 v2 v3 v4 v5 v6 v7 v8 v9 v10 w h hm hM hF hT⟩
  · exact ⟨_, _, rfl, rfl, (by
      rw [show cnt m (7 + 1) = if m.hasStart = true then 1 else 0 from rfl]
      by_cases hb : m.hasStart = true <;> simp [hb]), fun a w => by kernel_rfl, fun R v s w h hm hM hF hT => emeth8_any R B v s m v1 v2 v3 v4 v5 v6 v7 v8 v9 v10 w h hm hM⟩
  · exact ⟨_, _, rfl, rfl, rfl, fun a w => by kernel_rfl, fun R v s w h hm hM hF hT => emeth9_any R B v s m v1 v2 v3 v4 v5 v6 v7 v8 v9 v10 w h hm hM hF⟩
  · exact ⟨_, _, rfl, rfl, rfl, fun a w => by kernel_rfl, fun R v s w h hm hM hF hT => emeth10_any R B v s m v1 v2 v3 v4 v5 v6 v7 v8 v9 v10 w h hm hM hF⟩
  · exact ⟨_, _, rfl, rfl, rfl, fun a w => by kernel_rfl, fun R v s w h hm hM hF hT => emeth11_any R B v s m v1 v2 v3 v4 v5 v6 v7 v8 v9 v10 w h hm hM hF⟩
end Go.Proofs.YtgnbkfkiigcdgaaGreatDoor
/-
  Layer 7's module: the walk over its sections. (gen/enc/secs.py)
-/
namespace Go.Proofs.YtgnbkfkiigcdgaaGreatDoor
open Go.RowKit Ins Bin
/-- What a call of contents comes to. -/
def ContOk : Prop := ∀ (B : Nat) (m : M) (v1 v2 v3 v4 v5 v6 v7 v8 v9 v10 : Value) (S : Nat → Prop) (w : World), w.heap[B]? = some (.cells (modCells m v1 v2 v3 v4 v5 v6 v7 v8 v9 v10) 33 (0, 0)) → RepM w S m v1 v2 v3 v4 v5 v6 v7 v8 v9 v10 →
  Calls Tryz.prog 30 #[.pointer (some ⟨B, 0, none⟩)] w fun e w' => e = .returned (.slice (some ⟨w.heap.size, 0, none⟩) 11 11) ∧ w'.heap[w.heap.size]? = some (.cells (cellsAt m B) 101 (0, 0)) ∧ Below w.heap.size w w'
/-- What a call of sections comes to. -/
def SecsPost (m : M) (w : World) (e : Ending) (w' : World) : Prop :=
  Below w.heap.size w w' ∧ (okM m → ∃ A c xs, e = .returned (.tuple #[.slice A xs.length c, .bool true]) ∧ xs.length ≤ c ∧ c ≤ maxLen ∧ HasS w' w'.heap.size A xs ∧ RelS (secsOf m) xs) ∧ (¬ okM m → e = .returned (.tuple #[.slice none 0 0, .bool false]))
theorem upto_len (m : M) (j : Nat) : (upto m j).length ≤ 11 := by
  unfold upto
  rw [List.length_map]
  refine Nat.le_trans (List.length_filter_le _ _) ?_
  rw [List.length_take]
  exact Nat.min_le_right _ _
theorem RepM.more' {w : World} {S S2 : Nat → Prop} {m : M} {v1 v2 v3 v4 v5 v6 v7 v8 v9 v10 : Value} (h : RepM w S m v1 v2 v3 v4 v5 v6 v7 v8 v9 v10) (hs : ∀ k, S k → S2 k) : RepM w S2 m v1 v2 v3 v4 v5 v6 v7 v8 v9 v10 :=
  ⟨h.types.more (fun k _ => hs k), h.imports.more (fun k _ => hs k), h.funcs.more (fun k _ => hs k), h.tables.more (fun k _ => hs k), h.mems.more (fun k _ => hs k), h.globals.more (fun k _ => hs k), h.exports.more (fun k _ => hs k), h.start, h.elems.more (fun k _ => hs k), h.codes.more (fun k _ => hs k), h.datas.more (fun k _ => hs k)⟩
set_option maxRecDepth 100000 in
set_option maxHeartbeats 4000000 in
theorem esections_any (hc : ContOk) (B : Nat) (m : M) (v1 v2 v3 v4 v5 v6 v7 v8 v9 v10 : Value) (w : World) (hm : w.heap[B]? = some (.cells (modCells m v1 v2 v3 v4 v5 v6 v7 v8 v9 v10) 33 (0, 0))) (hM : RepM w (· < w.heap.size) m v1 v2 v3 v4 v5 v6 v7 v8 v9 v10) (hF : FitM m) (hT : Tb w) :
    Calls Tryz.prog 15 #[.pointer (some ⟨B, 0, none⟩)] w (SecsPost m w) := by
  have h2 : 2 ≤ w.heap.size := hT.2
  have hst := hM.start
  obtain ⟨bad, hbad⟩ : ∃ bad : Bool, bad = (!decide (m.codes.length = m.funcs.length) || (!decide (m.start = 0) && !m.hasStart)) := ⟨_, rfl⟩
  have HOKM : Hid (okM m ↔ bad = false ∧ okTo m 11) := Lib.hid (by
    rw [okM_iff hst, hbad]
    by_cases q1 : m.codes.length = m.funcs.length <;> by_cases q2 : m.start = 0 <;> by_cases q3 : m.hasStart = true <;> simp [q1, q2, q3])
  have HMC := Lib.hid hm
  have HM := Lib.hid hM
  have HF := Lib.hid hF
  have HT := Lib.hid hT
  have HCO := Lib.hid (fun W (hb : Below w.heap.size w W) => hc B m v1 v2 v3 v4 v5 v6 v7 v8 v9 v10 _ W ((hb.block B (Array.getElem?_eq_some_iff.1 hm).1).trans hm) (hM.on hb))
  have HBW := Lib.hid (Array.getElem?_eq_some_iff.1 hm).1
  obtain ⟨A10, d10, hv10, _⟩ := hM.codes
  obtain ⟨A2, d2, hv2, _⟩ := hM.funcs
  have c10 : w.cell? ⟨B, 10, none⟩ = some (.slice A10 m.codes.length d10) := by rw [cell_of_row w B 10 _ _ (0, 0) hm, ← hv10]; rfl
  have c2 : w.cell? ⟨B, 2, none⟩ = some (.slice A2 m.funcs.length d2) := by rw [cell_of_row w B 2 _ _ (0, 0) hm, ← hv2]; rfl
  have c8 : w.cell? ⟨B, 8, none⟩ = some (.int .u32 (m.start : Int)) := by rw [cell_of_row w B 8 _ _ (0, 0) hm]; rfl
  have c7 : w.cell? ⟨B, 7, none⟩ = some (.bool m.hasStart) := by rw [cell_of_row w B 7 _ _ (0, 0) hm]; rfl
  have HBAD := Lib.hid hbad
  clear hbad hm hM hF hT hst hc hv10 hv2
  obtain ⟨n10, hn10⟩ : ∃ n, m.codes.length = n := ⟨_, rfl⟩
  obtain ⟨n2, hn2⟩ : ∃ n, m.funcs.length = n := ⟨_, rfl⟩
  obtain ⟨st, hst⟩ : ∃ n, m.start = n := ⟨_, rfl⟩
  obtain ⟨hs, hhs⟩ : ∃ n, m.hasStart = n := ⟨_, rfl⟩
  rw [hn10] at c10 HBAD
  rw [hn2] at c2 HBAD
  rw [hst] at c8 HBAD
  rw [hhs] at c7 HBAD
  clear hn10 hn2 hst hhs
  go_enter Tryz.func15, Tryz.ntmps15
  go_upto_region 1 with fail
  go_cut [32] from 8 (fun s wx => s = .bool bad ∧ Hid (Below w.heap.size w wx))
  case first =>
    have HBD : Hid (Below w.heap.size w w.drew) := Lib.hid (Below.drew (Below.refl _ _))
    clear HOKM HMC HM HF HT HCO
    by_cases h1 : n10 = n2
    · subst h1
      by_cases h3 : st = 0
      · subst h3
        obtain rfl : bad = false := by rw [HBAD.out]; simp
        clear HBAD
        refine wp_region_held_drew (S := (fun W => W.cell? ⟨B, 10, none⟩ = some (.slice A10 n10 d10) ∧ W.cell? ⟨B, 2, none⟩ = some (.slice A2 n10 d2) ∧ W.cell? ⟨B, 8, none⟩ = some (.int .u32 0) ∧ W.cell? ⟨B, 7, none⟩ = some (.bool hs))) (by kernel_rfl) (⟨c10, c2, c8, c7⟩) (fun hHeld => ?_)
        refine dt 0 rfl (v := ?_) ?_ ?_
        rotate_left
        · (intro wy hSw; go_simp; try with_reducible rfl)
        simp only [Act.put, List.setIfInBounds_toArray, List.set_cons_zero, List.set_cons_succ]
        refine dt 1 rfl (v := ?_) ?_ ?_
        rotate_left
        · (intro wy hSw; go_simp; try with_reducible rfl)
        simp only [Act.put, List.setIfInBounds_toArray, List.set_cons_zero, List.set_cons_succ]
        refine dt 2 rfl (v := ?_) ?_ ?_
        rotate_left
        · (intro wy hSw; go_simp; try with_reducible rfl)
        simp only [Act.put, List.setIfInBounds_toArray, List.set_cons_zero, List.set_cons_succ]
        refine dt 3 rfl (v := ?_) ?_ ?_
        rotate_left
        · (intro wy hSw; obtain ⟨q0, q1, q2, q3⟩ := hSw; go_simp; try with_reducible rfl)
        simp only [Act.put, List.setIfInBounds_toArray, List.set_cons_zero, List.set_cons_succ]
        refine dt 4 rfl (v := ?_) ?_ ?_
        rotate_left
        · (intro wy hSw; go_simp; try with_reducible rfl)
        simp only [Act.put, List.setIfInBounds_toArray, List.set_cons_zero, List.set_cons_succ]
        refine dt 5 rfl (v := ?_) ?_ ?_
        rotate_left
        · (intro wy hSw; go_simp; try with_reducible rfl)
        simp only [Act.put, List.setIfInBounds_toArray, List.set_cons_zero, List.set_cons_succ]
        refine dt 6 rfl (v := ?_) ?_ ?_
        rotate_left
        · (intro wy hSw; go_simp; try with_reducible rfl)
        simp only [Act.put, List.setIfInBounds_toArray, List.set_cons_zero, List.set_cons_succ]
        refine dt 7 rfl (v := ?_) ?_ ?_
        rotate_left
        · (intro wy hSw; go_simp; try with_reducible rfl)
        simp only [Act.put, List.setIfInBounds_toArray, List.set_cons_zero, List.set_cons_succ]
        refine dt 8 rfl (v := ?_) ?_ ?_
        rotate_left
        · (intro wy hSw; obtain ⟨q0, q1, q2, q3⟩ := hSw; go_simp; try with_reducible rfl)
        simp only [Act.put, List.setIfInBounds_toArray, List.set_cons_zero, List.set_cons_succ]
        refine dt 9 rfl (v := ?_) ?_ ?_
        rotate_left
        · (intro wy hSw; go_simp; try with_reducible rfl)
        simp only [Act.put, List.setIfInBounds_toArray, List.set_cons_zero, List.set_cons_succ]
        refine dt 10 rfl (v := ?_) ?_ ?_
        rotate_left
        · (intro wy hSw; go_simp; try with_reducible rfl)
        simp only [Act.put, List.setIfInBounds_toArray, List.set_cons_zero, List.set_cons_succ]
        refine dt 11 rfl (v := ?_) ?_ ?_
        rotate_left
        · (intro wy hSw; go_simp; try with_reducible rfl)
        simp only [Act.put, List.setIfInBounds_toArray, List.set_cons_zero, List.set_cons_succ]
        refine dt 12 rfl (v := ?_) ?_ ?_
        rotate_left
        · (intro wy hSw; go_simp; try with_reducible rfl)
        simp only [Act.put, List.setIfInBounds_toArray, List.set_cons_zero, List.set_cons_succ]
        refine dt 13 rfl (v := ?_) ?_ ?_
        rotate_left
        · (intro wy hSw; go_simp; try with_reducible rfl)
        simp only [Act.put, List.setIfInBounds_toArray, List.set_cons_zero, List.set_cons_succ]
        refine dt 14 rfl (v := ?_) ?_ ?_
        rotate_left
        · (intro wy hSw; go_simp; try with_reducible rfl)
        simp only [Act.put, List.setIfInBounds_toArray, List.set_cons_zero, List.set_cons_succ]
        refine dt 15 rfl (v := ?_) ?_ ?_
        rotate_left
        · (intro wy hSw; obtain ⟨q0, q1, q2, q3⟩ := hSw; go_simp; try with_reducible rfl)
        simp only [Act.put, List.setIfInBounds_toArray, List.set_cons_zero, List.set_cons_succ]
        refine dt 16 rfl (v := ?_) ?_ ?_
        rotate_left
        · (intro wy hSw; go_simp; try with_reducible rfl)
        simp only [Act.put, List.setIfInBounds_toArray, List.set_cons_zero, List.set_cons_succ]
        refine dt 17 rfl (v := ?_) ?_ ?_
        rotate_left
        · (intro wy hSw; go_simp; try with_reducible rfl)
        simp only [Act.put, List.setIfInBounds_toArray, List.set_cons_zero, List.set_cons_succ]
        refine drawn_skip 18 rfl (by kernel_rfl) (by kernel_rfl) (by kernel_rfl) (fun _ _ _ h => h) (by rfl) (by assumption) ?_
        simp only [Act.put, List.setIfInBounds_toArray, List.set_cons_zero, List.set_cons_succ]
        refine drawn_skip 19 rfl (by kernel_rfl) (by kernel_rfl) (by kernel_rfl) (fun _ _ _ h => h) (by rfl) (by assumption) ?_
        simp only [Act.put, List.setIfInBounds_toArray, List.set_cons_zero, List.set_cons_succ]
        refine drawn_skip 20 rfl (by kernel_rfl) (by kernel_rfl) (by kernel_rfl) (fun _ _ _ h => h) (by rfl) (by assumption) ?_
        simp only [Act.put, List.setIfInBounds_toArray, List.set_cons_zero, List.set_cons_succ]
        refine drawn_skip 21 rfl (by kernel_rfl) (by kernel_rfl) (by kernel_rfl) (fun _ _ _ h => h) (by rfl) (by assumption) ?_
        simp only [Act.put, List.setIfInBounds_toArray, List.set_cons_zero, List.set_cons_succ]
        refine drawn_skip 22 rfl (by kernel_rfl) (by kernel_rfl) (by kernel_rfl) (fun _ _ _ h => h) (by rfl) (by assumption) ?_
        simp only [Act.put, List.setIfInBounds_toArray, List.set_cons_zero, List.set_cons_succ]
        refine dt 23 rfl (v := ?_) ?_ ?_
        rotate_left
        · (intro wy hSw; go_simp; try with_reducible rfl)
        simp only [Act.put, List.setIfInBounds_toArray, List.set_cons_zero, List.set_cons_succ]
        refine dt 24 rfl (v := ?_) ?_ ?_
        rotate_left
        · (intro wy hSw; go_simp; try with_reducible rfl)
        simp only [Act.put, List.setIfInBounds_toArray, List.set_cons_zero, List.set_cons_succ]
        refine wpAnyH_done (by kernel_rfl) ?_ _
        go_wp2_with fail
        go_meet
        case rel => exact ⟨rfl, HBD⟩
      · have h4 : ¬ ((st : Int) = 0) := by omega
        have h5 : ((st : Int) != 0) = true := by simp; omega
        cases hs
        · obtain rfl : bad = true := by rw [HBAD.out]; simp [h3]
          clear HBAD
          refine wp_region_held_drew (S := (fun W => W.cell? ⟨B, 10, none⟩ = some (.slice A10 n10 d10) ∧ W.cell? ⟨B, 2, none⟩ = some (.slice A2 n10 d2) ∧ W.cell? ⟨B, 8, none⟩ = some (.int .u32 (st : Int)) ∧ W.cell? ⟨B, 7, none⟩ = some (.bool false))) (by kernel_rfl) (⟨c10, c2, c8, c7⟩) (fun hHeld => ?_)
          refine dt 0 rfl (v := ?_) ?_ ?_
          rotate_left
          · (intro wy hSw; go_simp; try with_reducible rfl)
          simp only [Act.put, List.setIfInBounds_toArray, List.set_cons_zero, List.set_cons_succ]
          refine dt 1 rfl (v := ?_) ?_ ?_
          rotate_left
          · (intro wy hSw; go_simp; try with_reducible rfl)
          simp only [Act.put, List.setIfInBounds_toArray, List.set_cons_zero, List.set_cons_succ]
          refine dt 2 rfl (v := ?_) ?_ ?_
          rotate_left
          · (intro wy hSw; go_simp; try with_reducible rfl)
          simp only [Act.put, List.setIfInBounds_toArray, List.set_cons_zero, List.set_cons_succ]
          refine dt 3 rfl (v := ?_) ?_ ?_
          rotate_left
          · (intro wy hSw; obtain ⟨q0, q1, q2, q3⟩ := hSw; go_simp; try with_reducible rfl)
          simp only [Act.put, List.setIfInBounds_toArray, List.set_cons_zero, List.set_cons_succ]
          refine dt 4 rfl (v := ?_) ?_ ?_
          rotate_left
          · (intro wy hSw; go_simp; try with_reducible rfl)
          simp only [Act.put, List.setIfInBounds_toArray, List.set_cons_zero, List.set_cons_succ]
          refine dt 5 rfl (v := ?_) ?_ ?_
          rotate_left
          · (intro wy hSw; go_simp; try with_reducible rfl)
          simp only [Act.put, List.setIfInBounds_toArray, List.set_cons_zero, List.set_cons_succ]
          refine dt 6 rfl (v := ?_) ?_ ?_
          rotate_left
          · (intro wy hSw; go_simp; try with_reducible rfl)
          simp only [Act.put, List.setIfInBounds_toArray, List.set_cons_zero, List.set_cons_succ]
          refine dt 7 rfl (v := ?_) ?_ ?_
          rotate_left
          · (intro wy hSw; go_simp; try with_reducible rfl)
          simp only [Act.put, List.setIfInBounds_toArray, List.set_cons_zero, List.set_cons_succ]
          refine dt 8 rfl (v := ?_) ?_ ?_
          rotate_left
          · (intro wy hSw; obtain ⟨q0, q1, q2, q3⟩ := hSw; go_simp; try with_reducible rfl)
          simp only [Act.put, List.setIfInBounds_toArray, List.set_cons_zero, List.set_cons_succ]
          refine dt 9 rfl (v := ?_) ?_ ?_
          rotate_left
          · (intro wy hSw; go_simp; try with_reducible rfl)
          simp only [Act.put, List.setIfInBounds_toArray, List.set_cons_zero, List.set_cons_succ]
          refine dt 10 rfl (v := ?_) ?_ ?_
          rotate_left
          · (intro wy hSw; go_simp; try with_reducible rfl)
          simp only [Act.put, List.setIfInBounds_toArray, List.set_cons_zero, List.set_cons_succ]
          refine dt 11 rfl (v := ?_) ?_ ?_
          rotate_left
          · (intro wy hSw; go_simp; try with_reducible rfl)
          simp only [Act.put, List.setIfInBounds_toArray, List.set_cons_zero, List.set_cons_succ]
          refine dt 12 rfl (v := ?_) ?_ ?_
          rotate_left
          · (intro wy hSw; go_simp; try with_reducible rfl)
          simp only [Act.put, List.setIfInBounds_toArray, List.set_cons_zero, List.set_cons_succ]
          refine dt 13 rfl (v := ?_) ?_ ?_
          rotate_left
          · (intro wy hSw; go_simp; try with_reducible rfl)
          simp only [Act.put, List.setIfInBounds_toArray, List.set_cons_zero, List.set_cons_succ]
          refine dt 14 rfl (v := ?_) ?_ ?_
          rotate_left
          · (intro wy hSw; go_simp; try with_reducible rfl)
          simp only [Act.put, List.setIfInBounds_toArray, List.set_cons_zero, List.set_cons_succ]
          refine dt 15 rfl (v := ?_) ?_ ?_
          rotate_left
          · (intro wy hSw; obtain ⟨q0, q1, q2, q3⟩ := hSw; go_simp; try with_reducible rfl)
          simp only [Act.put, List.setIfInBounds_toArray, List.set_cons_zero, List.set_cons_succ]
          refine dt 16 rfl (v := ?_) ?_ ?_
          rotate_left
          · (intro wy hSw; go_simp; try with_reducible rfl)
          simp only [Act.put, List.setIfInBounds_toArray, List.set_cons_zero, List.set_cons_succ]
          refine dt 17 rfl (v := ?_) ?_ ?_
          rotate_left
          · (intro wy hSw; go_simp; try with_reducible rfl)
          simp only [Act.put, List.setIfInBounds_toArray, List.set_cons_zero, List.set_cons_succ]
          refine dt 18 rfl (v := ?_) ?_ ?_
          rotate_left
          · (intro wy hSw; go_simp; try with_reducible rfl)
          simp only [Act.put, List.setIfInBounds_toArray, List.set_cons_zero, List.set_cons_succ]
          refine dt 19 rfl (v := ?_) ?_ ?_
          rotate_left
          · (intro wy hSw; go_simp; try with_reducible rfl)
          simp only [Act.put, List.setIfInBounds_toArray, List.set_cons_zero, List.set_cons_succ]
          refine dt 20 rfl (v := ?_) ?_ ?_
          rotate_left
          · (intro wy hSw; go_simp; try with_reducible rfl)
          simp only [Act.put, List.setIfInBounds_toArray, List.set_cons_zero, List.set_cons_succ]
          refine dt 21 rfl (v := ?_) ?_ ?_
          rotate_left
          · (intro wy hSw; obtain ⟨q0, q1, q2, q3⟩ := hSw; go_simp; try with_reducible rfl)
          simp only [Act.put, List.setIfInBounds_toArray, List.set_cons_zero, List.set_cons_succ]
          refine dt 22 rfl (v := ?_) ?_ ?_
          rotate_left
          · (intro wy hSw; go_simp; try with_reducible rfl)
          simp only [Act.put, List.setIfInBounds_toArray, List.set_cons_zero, List.set_cons_succ]
          refine dt 23 rfl (v := ?_) ?_ ?_
          rotate_left
          · (intro wy hSw; go_simp; try with_reducible rfl)
          simp only [Act.put, List.setIfInBounds_toArray, List.set_cons_zero, List.set_cons_succ]
          refine dt 24 rfl (v := ?_) ?_ ?_
          rotate_left
          · (intro wy hSw; go_simp; try with_reducible rfl)
          simp only [Act.put, List.setIfInBounds_toArray, List.set_cons_zero, List.set_cons_succ]
          refine wpAnyH_done (by kernel_rfl) ?_ _
          go_wp2_with fail
          go_meet
          case rel => exact ⟨rfl, HBD⟩
        · obtain rfl : bad = false := by rw [HBAD.out]; simp
          clear HBAD
          refine wp_region_held_drew (S := (fun W => W.cell? ⟨B, 10, none⟩ = some (.slice A10 n10 d10) ∧ W.cell? ⟨B, 2, none⟩ = some (.slice A2 n10 d2) ∧ W.cell? ⟨B, 8, none⟩ = some (.int .u32 (st : Int)) ∧ W.cell? ⟨B, 7, none⟩ = some (.bool true))) (by kernel_rfl) (⟨c10, c2, c8, c7⟩) (fun hHeld => ?_)
          refine dt 0 rfl (v := ?_) ?_ ?_
          rotate_left
          · (intro wy hSw; go_simp; try with_reducible rfl)
          simp only [Act.put, List.setIfInBounds_toArray, List.set_cons_zero, List.set_cons_succ]
          refine dt 1 rfl (v := ?_) ?_ ?_
          rotate_left
          · (intro wy hSw; go_simp; try with_reducible rfl)
          simp only [Act.put, List.setIfInBounds_toArray, List.set_cons_zero, List.set_cons_succ]
          refine dt 2 rfl (v := ?_) ?_ ?_
          rotate_left
          · (intro wy hSw; go_simp; try with_reducible rfl)
          simp only [Act.put, List.setIfInBounds_toArray, List.set_cons_zero, List.set_cons_succ]
          refine dt 3 rfl (v := ?_) ?_ ?_
          rotate_left
          · (intro wy hSw; obtain ⟨q0, q1, q2, q3⟩ := hSw; go_simp; try with_reducible rfl)
          simp only [Act.put, List.setIfInBounds_toArray, List.set_cons_zero, List.set_cons_succ]
          refine dt 4 rfl (v := ?_) ?_ ?_
          rotate_left
          · (intro wy hSw; go_simp; try with_reducible rfl)
          simp only [Act.put, List.setIfInBounds_toArray, List.set_cons_zero, List.set_cons_succ]
          refine dt 5 rfl (v := ?_) ?_ ?_
          rotate_left
          · (intro wy hSw; go_simp; try with_reducible rfl)
          simp only [Act.put, List.setIfInBounds_toArray, List.set_cons_zero, List.set_cons_succ]
          refine dt 6 rfl (v := ?_) ?_ ?_
          rotate_left
          · (intro wy hSw; go_simp; try with_reducible rfl)
          simp only [Act.put, List.setIfInBounds_toArray, List.set_cons_zero, List.set_cons_succ]
          refine dt 7 rfl (v := ?_) ?_ ?_
          rotate_left
          · (intro wy hSw; go_simp; try with_reducible rfl)
          simp only [Act.put, List.setIfInBounds_toArray, List.set_cons_zero, List.set_cons_succ]
          refine dt 8 rfl (v := ?_) ?_ ?_
          rotate_left
          · (intro wy hSw; obtain ⟨q0, q1, q2, q3⟩ := hSw; go_simp; try with_reducible rfl)
          simp only [Act.put, List.setIfInBounds_toArray, List.set_cons_zero, List.set_cons_succ]
          refine dt 9 rfl (v := ?_) ?_ ?_
          rotate_left
          · (intro wy hSw; go_simp; try with_reducible rfl)
          simp only [Act.put, List.setIfInBounds_toArray, List.set_cons_zero, List.set_cons_succ]
          refine dt 10 rfl (v := ?_) ?_ ?_
          rotate_left
          · (intro wy hSw; go_simp; try with_reducible rfl)
          simp only [Act.put, List.setIfInBounds_toArray, List.set_cons_zero, List.set_cons_succ]
          refine dt 11 rfl (v := ?_) ?_ ?_
          rotate_left
          · (intro wy hSw; go_simp; try with_reducible rfl)
          simp only [Act.put, List.setIfInBounds_toArray, List.set_cons_zero, List.set_cons_succ]
          refine dt 12 rfl (v := ?_) ?_ ?_
          rotate_left
          · (intro wy hSw; go_simp; try with_reducible rfl)
          simp only [Act.put, List.setIfInBounds_toArray, List.set_cons_zero, List.set_cons_succ]
          refine dt 13 rfl (v := ?_) ?_ ?_
          rotate_left
          · (intro wy hSw; go_simp; try with_reducible rfl)
          simp only [Act.put, List.setIfInBounds_toArray, List.set_cons_zero, List.set_cons_succ]
          refine dt 14 rfl (v := ?_) ?_ ?_
          rotate_left
          · (intro wy hSw; go_simp; try with_reducible rfl)
          simp only [Act.put, List.setIfInBounds_toArray, List.set_cons_zero, List.set_cons_succ]
          refine dt 15 rfl (v := ?_) ?_ ?_
          rotate_left
          · (intro wy hSw; obtain ⟨q0, q1, q2, q3⟩ := hSw; go_simp; try with_reducible rfl)
          simp only [Act.put, List.setIfInBounds_toArray, List.set_cons_zero, List.set_cons_succ]
          refine dt 16 rfl (v := ?_) ?_ ?_
          rotate_left
          · (intro wy hSw; go_simp; try with_reducible rfl)
          simp only [Act.put, List.setIfInBounds_toArray, List.set_cons_zero, List.set_cons_succ]
          refine dt 17 rfl (v := ?_) ?_ ?_
          rotate_left
          · (intro wy hSw; go_simp; try with_reducible rfl)
          simp only [Act.put, List.setIfInBounds_toArray, List.set_cons_zero, List.set_cons_succ]
          refine dt 18 rfl (v := ?_) ?_ ?_
          rotate_left
          · (intro wy hSw; go_simp; try with_reducible rfl)
          simp only [Act.put, List.setIfInBounds_toArray, List.set_cons_zero, List.set_cons_succ]
          refine dt 19 rfl (v := ?_) ?_ ?_
          rotate_left
          · (intro wy hSw; go_simp; try with_reducible rfl)
          simp only [Act.put, List.setIfInBounds_toArray, List.set_cons_zero, List.set_cons_succ]
          refine dt 20 rfl (v := ?_) ?_ ?_
          rotate_left
          · (intro wy hSw; go_simp; try with_reducible rfl)
          simp only [Act.put, List.setIfInBounds_toArray, List.set_cons_zero, List.set_cons_succ]
          refine dt 21 rfl (v := ?_) ?_ ?_
          rotate_left
          · (intro wy hSw; obtain ⟨q0, q1, q2, q3⟩ := hSw; go_simp; try with_reducible rfl)
          simp only [Act.put, List.setIfInBounds_toArray, List.set_cons_zero, List.set_cons_succ]
          refine dt 22 rfl (v := ?_) ?_ ?_
          rotate_left
          · (intro wy hSw; go_simp; try with_reducible rfl)
          simp only [Act.put, List.setIfInBounds_toArray, List.set_cons_zero, List.set_cons_succ]
          refine dt 23 rfl (v := ?_) ?_ ?_
          rotate_left
          · (intro wy hSw; go_simp; try with_reducible rfl)
          simp only [Act.put, List.setIfInBounds_toArray, List.set_cons_zero, List.set_cons_succ]
          refine dt 24 rfl (v := ?_) ?_ ?_
          rotate_left
          · (intro wy hSw; go_simp; try with_reducible rfl)
          simp only [Act.put, List.setIfInBounds_toArray, List.set_cons_zero, List.set_cons_succ]
          refine wpAnyH_done (by kernel_rfl) ?_ _
          go_wp2_with fail
          go_meet
          case rel => exact ⟨rfl, HBD⟩
    · have h4 : ¬ ((n10 : Int) = (n2 : Int)) := by omega
      have h5 : ((n10 : Int) != (n2 : Int)) = true := by simp; omega
      obtain rfl : bad = true := by rw [HBAD.out]; simp [h1]
      clear HBAD
      refine wp_region_held_drew (S := (fun W => W.cell? ⟨B, 10, none⟩ = some (.slice A10 n10 d10) ∧ W.cell? ⟨B, 2, none⟩ = some (.slice A2 n2 d2) ∧ W.cell? ⟨B, 8, none⟩ = some (.int .u32 (st : Int)) ∧ W.cell? ⟨B, 7, none⟩ = some (.bool hs))) (by kernel_rfl) (⟨c10, c2, c8, c7⟩) (fun hHeld => ?_)
      refine dt 0 rfl (v := ?_) ?_ ?_
      rotate_left
      · (intro wy hSw; go_simp; try with_reducible rfl)
      simp only [Act.put, List.setIfInBounds_toArray, List.set_cons_zero, List.set_cons_succ]
      refine dt 1 rfl (v := ?_) ?_ ?_
      rotate_left
      · (intro wy hSw; go_simp; try with_reducible rfl)
      simp only [Act.put, List.setIfInBounds_toArray, List.set_cons_zero, List.set_cons_succ]
      refine dt 2 rfl (v := ?_) ?_ ?_
      rotate_left
      · (intro wy hSw; go_simp; try with_reducible rfl)
      simp only [Act.put, List.setIfInBounds_toArray, List.set_cons_zero, List.set_cons_succ]
      refine dt 3 rfl (v := ?_) ?_ ?_
      rotate_left
      · (intro wy hSw; obtain ⟨q0, q1, q2, q3⟩ := hSw; go_simp; try with_reducible rfl)
      simp only [Act.put, List.setIfInBounds_toArray, List.set_cons_zero, List.set_cons_succ]
      refine dt 4 rfl (v := ?_) ?_ ?_
      rotate_left
      · (intro wy hSw; go_simp; try with_reducible rfl)
      simp only [Act.put, List.setIfInBounds_toArray, List.set_cons_zero, List.set_cons_succ]
      refine dt 5 rfl (v := ?_) ?_ ?_
      rotate_left
      · (intro wy hSw; go_simp; try with_reducible rfl)
      simp only [Act.put, List.setIfInBounds_toArray, List.set_cons_zero, List.set_cons_succ]
      refine dt 6 rfl (v := ?_) ?_ ?_
      rotate_left
      · (intro wy hSw; go_simp; try with_reducible rfl)
      simp only [Act.put, List.setIfInBounds_toArray, List.set_cons_zero, List.set_cons_succ]
      refine dt 7 rfl (v := ?_) ?_ ?_
      rotate_left
      · (intro wy hSw; go_simp; try with_reducible rfl)
      simp only [Act.put, List.setIfInBounds_toArray, List.set_cons_zero, List.set_cons_succ]
      refine dt 8 rfl (v := ?_) ?_ ?_
      rotate_left
      · (intro wy hSw; obtain ⟨q0, q1, q2, q3⟩ := hSw; go_simp; try with_reducible rfl)
      simp only [Act.put, List.setIfInBounds_toArray, List.set_cons_zero, List.set_cons_succ]
      refine dt 9 rfl (v := ?_) ?_ ?_
      rotate_left
      · (intro wy hSw; go_simp; try with_reducible rfl)
      simp only [Act.put, List.setIfInBounds_toArray, List.set_cons_zero, List.set_cons_succ]
      refine dt 10 rfl (v := ?_) ?_ ?_
      rotate_left
      · (intro wy hSw; go_simp; try with_reducible rfl)
      simp only [Act.put, List.setIfInBounds_toArray, List.set_cons_zero, List.set_cons_succ]
      refine dt 11 rfl (v := ?_) ?_ ?_
      rotate_left
      · (intro wy hSw; go_simp; try with_reducible rfl)
      simp only [Act.put, List.setIfInBounds_toArray, List.set_cons_zero, List.set_cons_succ]
      refine drawn_skip 12 rfl (by kernel_rfl) (by kernel_rfl) (by kernel_rfl) (fun _ _ _ h => h) (by rfl) (by assumption) ?_
      simp only [Act.put, List.setIfInBounds_toArray, List.set_cons_zero, List.set_cons_succ]
      refine drawn_skip 13 rfl (by kernel_rfl) (by kernel_rfl) (by kernel_rfl) (fun _ _ _ h => h) (by rfl) (by assumption) ?_
      simp only [Act.put, List.setIfInBounds_toArray, List.set_cons_zero, List.set_cons_succ]
      refine drawn_skip 14 rfl (by kernel_rfl) (by kernel_rfl) (by kernel_rfl) (fun _ _ _ h => h) (by rfl) (by assumption) ?_
      simp only [Act.put, List.setIfInBounds_toArray, List.set_cons_zero, List.set_cons_succ]
      refine drawn_skip 15 rfl (by kernel_rfl) (by kernel_rfl) (by kernel_rfl) (fun _ _ _ h => h) (by rfl) (by assumption) ?_
      simp only [Act.put, List.setIfInBounds_toArray, List.set_cons_zero, List.set_cons_succ]
      refine drawn_skip 16 rfl (by kernel_rfl) (by kernel_rfl) (by kernel_rfl) (fun _ _ _ h => h) (by rfl) (by assumption) ?_
      simp only [Act.put, List.setIfInBounds_toArray, List.set_cons_zero, List.set_cons_succ]
      refine drawn_skip 17 rfl (by kernel_rfl) (by kernel_rfl) (by kernel_rfl) (fun _ _ _ h => h) (by rfl) (by assumption) ?_
      simp only [Act.put, List.setIfInBounds_toArray, List.set_cons_zero, List.set_cons_succ]
      refine drawn_skip 18 rfl (by kernel_rfl) (by kernel_rfl) (by kernel_rfl) (fun _ _ _ h => h) (by rfl) (by assumption) ?_
      simp only [Act.put, List.setIfInBounds_toArray, List.set_cons_zero, List.set_cons_succ]
      refine drawn_skip 19 rfl (by kernel_rfl) (by kernel_rfl) (by kernel_rfl) (fun _ _ _ h => h) (by rfl) (by assumption) ?_
      simp only [Act.put, List.setIfInBounds_toArray, List.set_cons_zero, List.set_cons_succ]
      refine drawn_skip 20 rfl (by kernel_rfl) (by kernel_rfl) (by kernel_rfl) (fun _ _ _ h => h) (by rfl) (by assumption) ?_
      simp only [Act.put, List.setIfInBounds_toArray, List.set_cons_zero, List.set_cons_succ]
      refine drawn_skip 21 rfl (by kernel_rfl) (by kernel_rfl) (by kernel_rfl) (fun _ _ _ h => h) (by rfl) (by assumption) ?_
      simp only [Act.put, List.setIfInBounds_toArray, List.set_cons_zero, List.set_cons_succ]
      refine drawn_skip 22 rfl (by kernel_rfl) (by kernel_rfl) (by kernel_rfl) (fun _ _ _ h => h) (by rfl) (by assumption) ?_
      simp only [Act.put, List.setIfInBounds_toArray, List.set_cons_zero, List.set_cons_succ]
      refine drawn_skip 23 rfl (by kernel_rfl) (by kernel_rfl) (by kernel_rfl) (fun _ _ _ h => h) (by rfl) (by assumption) ?_
      simp only [Act.put, List.setIfInBounds_toArray, List.set_cons_zero, List.set_cons_succ]
      refine dt 24 rfl (v := ?_) ?_ ?_
      rotate_left
      · (intro wy hSw; go_simp; try with_reducible rfl)
      simp only [Act.put, List.setIfInBounds_toArray, List.set_cons_zero, List.set_cons_succ]
      refine wpAnyH_done (by kernel_rfl) ?_ _
      go_wp2_with fail
      go_meet
      case rel => exact ⟨rfl, HBD⟩
  case rest =>
    obtain ⟨rfl, HB⟩ := hcut
    clear c10 c2 c8 c7 HBAD
    cases bad
    · have HOK0 : Hid (okM m ↔ okTo m 11) := Lib.hid (by rw [HOKM.out]; simp)
      go_upto_region 5 with (go_at_call 30; refine (HCO.out _ HB.out).mono ?_; rintro e w1 ⟨rfl, ht, hb⟩; have HTB := Lib.hid ht; have HB1 := Lib.hid (HB.out.trans (hb.mono HB.out.size)); have HLB := Lib.hid ((Array.getElem?_eq_some_iff.1 ht).1); clear ht hb)
      obtain ⟨Bc, hBc⟩ : ∃ Bc, wc.heap.size = Bc := ⟨_, rfl⟩
      rw [hBc] at HTB HLB ⊢
      clear hBc
      go_loopw [4, 36] (fun u i wr => ∃ (j : Nat) (xs : List Sec.S), j ≤ 11 ∧ i = .int .i64 (j : Int) ∧ Hid (OwnS wr 48 w1.heap.size u xs.length xs) ∧ Hid (RelS (upto m j) xs) ∧ Hid (okTo m j) ∧ Hid (Below w1.heap.size w1 wr)) (fun _ i _ => 11 - (intOf i).toNat)
      case atStart => exact ⟨0, [], by omega, rfl, Lib.hid (OwnS.nil _ _ _), Lib.hid trivial, Lib.hid (fun i hi => by cases hi), Lib.hid (Below.refl _ _)⟩
      case round =>
        obtain ⟨j, xs, hj, rfl, HO, HR, HK, HBR⟩ := hrel
        have HBX := Lib.hid (HB1.out.trans (HBR.out.mono HB1.out.size))
        by_cases hj11 : j < 11
        · obtain ⟨q, f, e1, e2, e3, hcf, e4⟩ := cont_at m B v1 v2 v3 v4 v5 v6 v7 v8 v9 v10 j hj11
          have ht := (HBR.out.block Bc HLB.out).trans HTB.out
          have z0 : wr.cell? ⟨Bc, j * 2, none⟩ = some (.bool q) := by rw [cell_of_row wr Bc (j * 2) _ _ (0, 0) ht]; exact e1
          have z1 : wr.cell? ⟨Bc, j * 2 + 1, none⟩ = some (.func (.func f) #[.pointer (some ⟨B, 0, none⟩)] #[]) := by rw [cell_of_row wr Bc (j * 2 + 1) _ _ (0, 0) ht]; exact e2
          have HE4 := Lib.hid e4
          have hji : (j : Int) < 11 := by omega
          have HQV := Lib.hid e3
          clear e1 e2 e3 e4 ht
          have HWA : Hid (Below wr.heap.size wr (wr.alloc (.cells #[.bool q, .func (.func f) #[.pointer (some ⟨B, 0, none⟩)] #[]] 101))) := Lib.hid ((Below.refl _ _).alloc (Nat.le_refl _) _)
          cases q with
          | false =>
            have hno : ¬ 0 < cnt m (j + 1) := by
              have := HQV.out
              intro h
              rw [decide_eq_true h] at this
              cases this
            have HU : Hid (upto m (j + 1) = upto m j) := Lib.hid (upto_no hj11 hno)
            have HKS : Hid (okTo m (j + 1)) := Lib.hid ((okTo_succ hj11).2 ⟨HK.out, fun h => absurd h hno⟩)
            have HO2 := Lib.hid (HO.out.on HWA.out)
            have HB2 := Lib.hid (HBR.out.trans (HWA.out.mono HBR.out.size))
            clear hno
            go_wp2_with fail
            go_roundw
            case rel => exact ⟨j + 1, xs, by omega, by go_num, HO2, Lib.hid (by rw [HU.out]; exact HR.out), HKS, HB2⟩
            case measure => simp [intOf]; omega
          | true =>
            have hyes : 0 < cnt m (j + 1) := of_decide_eq_true HQV.out.symm
            have HU : Hid (upto m (j + 1) = upto m j ++ [⟨j + 1, body m (j + 1)⟩]) := Lib.hid (upto_yes hj11 hyes)
            have HYES := Lib.hid hyes
            clear hyes
            go_upto_region 8 with fail
            have HSA : Hid ((wr.alloc (.cells #[.bool true, .func (.func f) #[.pointer (some ⟨B, 0, none⟩)] #[]] 101)).heap.size = wr.heap.size + 1) := Lib.hid (by simp)
            have HFC : Hid ((wr.alloc (.cells #[.bool true, .func (.func f) #[.pointer (some ⟨B, 0, none⟩)] #[]] 101)).heap[wr.heap.size]? = some (.cells #[.bool true, .func (.func f) #[.pointer (some ⟨B, 0, none⟩)] #[]] 101 (0, 0))) := Lib.hid (heap_alloc_new wr _)
            generalize wr.alloc (.cells #[.bool true, .func (.func f) #[.pointer (some ⟨B, 0, none⟩)] #[]] 101) = wa at HWA HSA HFC ⊢
            go_upto_region 9 with fail
            have h2 : 2 ≤ wa.heap.size := Nat.le_trans h2 (Nat.le_trans HBX.out.size HWA.out.size)
            have HWS := Lib.hid (ws_new (w := wa) h2)
            have HWB : Hid (Below wa.heap.size wa (wa.alloc (.cells #[.slice none 0 0, .bool false] 104))) := Lib.hid ((Below.refl _ _).alloc (Nat.le_refl _) _)
            generalize wa.alloc (.cells #[.slice none 0 0, .bool false] 104) = wb at HWS HWB ⊢
            have HLR : Hid (wr.heap.size < wa.heap.size) := Lib.hid (by have := HSA.out; omega)
            have zf : wb.cell? ⟨wr.heap.size, 1, none⟩ = some (.func (.func f) #[.pointer (some ⟨B, 0, none⟩)] #[]) := by rw [cell_of_row wb _ 1 _ _ (0, 0) ((HWB.out.block wr.heap.size HLR.out).trans HFC.out)]; rfl
            obtain ⟨R, hR⟩ : ∃ R, wa.heap.size = R := ⟨_, rfl⟩
            have HAB := Lib.hid (HWA.out.trans (HWB.out.mono HWA.out.size))
            have HBB := Lib.hid (HBX.out.trans (HAB.out.mono HBX.out.size))
            rw [hR] at HWS HLR ⊢
            have HQ := Lib.hid (HE4.out R _ _ wb HWS.out ((HBB.out.block B HBW.out).trans HMC.out) ((HM.out.mod (T := fun _ => False) (Mod.of_below HBB.out) (fun _ _ _ h => h)).more' (fun k hk => by have := HBX.out.size; have := HLR.out; omega)) HF.out (HT.out.on HBB.out))
            clear z0 z1 hR HSA HFC HWB
            by_cases hok : okB m (j + 1)
            · have e0 : adv (some []) (okB m (j + 1)) (body m (j + 1)) = some (body m (j + 1)) := by rw [adv_yes hok]; rfl
              rw [e0] at HQ
              have HKS : Hid (okTo m (j + 1)) := Lib.hid ((okTo_succ hj11).2 ⟨HK.out, fun _ => hok⟩)
              have hw8 : IntKind.u8.wrap ((j : Int) + 1) = (j : Int) + 1 := IntWalk.u8_in _ ⟨by omega, by omega⟩
              clear e0 hok
              have tok1 : True := trivial
              go_wp2_with (first | (clear tok1; refine HQ.out.mono ?_; rintro e w2 ⟨rfl, vb, hs, hmm⟩; obtain ⟨bs, q1, q2, q3, q4, q5⟩ := hs; obtain ⟨A3, c3, rfl, hx, hnc, hcm, hca, hh⟩ := own_sl q2; clear hx; have k0 : w2.cell? ⟨R, 0, none⟩ = some (.slice A3 bs.length c3) := (by rw [cell_of_row w2 _ 0 _ _ (0, 0) q1]; rfl); have k1 : w2.cell? ⟨R, 1, none⟩ = some (.bool false) := (by rw [cell_of_row w2 _ 1 _ _ (0, 0) q1]; rfl); have HB2 : Hid (Below wr.heap.size wr w2) := Lib.hid (HAB.out.trans ((hmm.low HWS.out).below HAB.out.size (fun k hk e => by have := HLR.out; omega))); have HSAT := Lib.hid (q5 _ rfl); obtain ⟨vx, wx, hrun, ho2, hm2, ht2⟩ := append1s (P := Tryz.prog) 48 44 (by kernel_rfl) (by kernel_rfl) w2 w1.heap.size xs.length u4 xs ⟨j + 1, bs⟩ A3 c3 (HO.out.on HB2.out) (by have := HO.out; have := HR.out.len; have := upto_len m j; omega) (Nat.le_trans HBR.out.size HB2.out.size) ⟨by show j + 1 < 256; omega, hnc, hcm, hca, hh⟩ (fun ad had hne e => by have h1 := own_ge q2 ad.block (by rw [had]; rfl); have h3 := (own_blk HO.out _ e).2; have := HLR.out; omega); have HRUN : Hid ((Builtin.append_ #[44, 44] 44 #[u4, .slice (some ⟨w2.heap.size, 0, none⟩) 1 1]).run Tryz.prog (w2.alloc (.cells #[.int .u8 ((j : Int) + 1), .slice A3 bs.length c3] 48)) = .ok vx wx) := Lib.hid hrun; have HO3 := Lib.hid ho2; have HB3 : Hid (Below w1.heap.size w1 wx) := Lib.hid ((HBR.out.trans (HB2.out.mono HBR.out.size)).trans (hm2.below (Nat.le_trans HBR.out.size HB2.out.size) (fun k hk e => by have := (own_blk HO.out _ e).1; omega))); clear q1 q2 q3 q4 q5 hnc hcm hca hh hmm hrun ho2 hm2 ht2; generalize bs.length = nb at k0 HRUN) | (at_builtin; refine wpList_appends rfl (.tmp 54) (.tmp 63) 44 rfl _ _ _ wx rfl rfl HRUN.out ?_))
              go_roundw
              case rel => exact ⟨j + 1, xs ++ [⟨j + 1, bs⟩], by omega, by go_num, Lib.hid (by rw [List.length_append]; exact HO3.out), Lib.hid (by rw [HU.out]; exact HR.out.app rfl HSAT.out), HKS, HB3⟩
              case measure => simp [intOf]; omega
            · have e0 : adv (some []) (okB m (j + 1)) (body m (j + 1)) = none := adv_no hok
              rw [e0] at HQ
              have HNO : Hid (¬ okM m) := Lib.hid (fun h => hok (((okTo_succ hj11).1 (okTo_le (HOK0.out.1 h) hj11)).2 HYES.out))
              clear e0 hok
              have tok1 : True := trivial
              go_wp2_with (first | (clear tok1; refine HQ.out.mono ?_; rintro e w2 ⟨rfl, vb, hs, hmm⟩; obtain ⟨bs, q1, q2, q3, q4, q5⟩ := hs; have k1 : w2.cell? ⟨R, 1, none⟩ = some (.bool true) := (by rw [cell_of_row w2 _ 1 _ _ (0, 0) q1]; rfl); have HB2 : Hid (Below wr.heap.size wr w2) := Lib.hid (HAB.out.trans ((hmm.low HWS.out).below HAB.out.size (fun k hk e => by have := HLR.out; omega))); clear q1 q2 q3 q4 q5 hmm))
              go_ret2
              exact ⟨HBX.out.trans (HB2.out.mono HBX.out.size), fun h => absurd h HNO.out, fun _ => rfl⟩
        · obtain rfl : j = 11 := by omega
          obtain ⟨A, c, hu, hc1, hc2, hhs⟩ := HO.out.tell
          subst hu
          have HH := Lib.hid hhs
          clear hhs
          have HYM : Hid (okM m) := Lib.hid (HOK0.out.2 HK.out)
          have HXX : Hid (∀ A' c', Value.slice A xs.length c = .slice A' xs.length c' → True) := Lib.hid (fun _ _ _ => trivial)
          generalize hn : xs.length = n at HXX ⊢
          have HN := Lib.hid hn
          clear hn
          go_wp2_with fail
          go_ret2
          refine ⟨HBX.out, fun _ => ⟨A, c, xs, by rw [HN.out]; rfl, hc1, hc2, HH.out, HR.out⟩, fun h => absurd HYM.out h⟩
    · go_wp2_with fail
      go_ret2
      refine ⟨HB.out, fun h => ?_, fun _ => rfl⟩
      have := (HOKM.out.1 h).1
      cases this
end Go.Proofs.YtgnbkfkiigcdgaaGreatDoor
/-
  What Split and Join of layer 5 must do, as two statements that the walks over layer 5's laws take as given.
-/
namespace Go.Proofs.YtgnbkfkiigcdgaaGreatDoor
open Go.RowKit Sec
/-- What a call of Split comes to. -/
def SPost (l : List UInt8) (w : World) (e : Ending) (w' : World) : Prop :=
  Below w.heap.size w w' ∧ match split l with
    | none => ∃ A c, e = .returned (.tuple #[.slice A 0 c, .int .i64 60])
    | some xs => ∃ A c, e = .returned (.tuple #[.slice A xs.length c, .int .i64 0]) ∧ xs.length ≤ c ∧ c ≤ maxLen ∧ HasS w' w'.heap.size A xs
/-- What a call of Join comes to. -/
def JPost (xs : List S) (w : World) (e : Ending) (w' : World) : Prop :=
  Below w.heap.size w w' ∧ if rises 0 xs = true then ∃ A c, e = .returned (.tuple #[.slice A (join xs).length c, .int .i64 0]) ∧ (join xs).length ≤ c ∧ c ≤ maxLen ∧ (A = none → c = 0) ∧ Has w' w'.heap.size A (join xs)
    else ∃ A c, e = .returned (.tuple #[.slice A 0 c, .int .i64 2])
def SplitOk : Prop := ∀ (A : Option Addr) (l : List UInt8) (n c : Nat) (w : World), Has w w.heap.size A l → n = l.length → n ≤ 140737488355328 → n ≤ c → c ≤ maxLen → (A = none → c = 0) → Tb w → Calls Tryz.prog 12 #[.slice A n c] w (SPost l w)
def JoinOk : Prop := ∀ (A : Option Addr) (xs : List S) (n c : Nat) (w : World), HasS w w.heap.size A xs → n = xs.length → n ≤ c → c ≤ maxLen → (join xs).length ≤ 140737488355328 → Calls Tryz.prog 16 #[.slice A n c] w (JPost xs w)
theorem SplitOk.none (hs : SplitOk) {A : Option Addr} {l : List UInt8} {n c : Nat} {w : World} (hA : Has w w.heap.size A l) (hn : n = l.length) (h1 : n ≤ 140737488355328) (h2 : n ≤ c) (h3 : c ≤ maxLen) (h4 : A = Option.none → c = 0) (hT : Tb w) (h : split l = Option.none) :
    Calls Tryz.prog 12 #[.slice A n c] w fun e w' => ∃ A c, e = .returned (.tuple #[.slice A 0 c, .int .i64 60]) ∧ Below w.heap.size w w' := by
  refine (hs A l n c w hA hn h1 h2 h3 h4 hT).mono ?_
  intro e w' hp
  unfold SPost at hp
  rw [h] at hp
  obtain ⟨hb, A', c', he⟩ := hp
  exact ⟨A', c', he, hb⟩
theorem SplitOk.some (hs : SplitOk) {A : Option Addr} {l : List UInt8} {n c : Nat} {w : World} (hA : Has w w.heap.size A l) (hn : n = l.length) (h1 : n ≤ 140737488355328) (h2 : n ≤ c) (h3 : c ≤ maxLen) (h4 : A = Option.none → c = 0) (hT : Tb w) {xs : List S} (h : split l = Option.some xs) :
    Calls Tryz.prog 12 #[.slice A n c] w fun e w' => ∃ A c, e = .returned (.tuple #[.slice A xs.length c, .int .i64 0]) ∧ xs.length ≤ c ∧ c ≤ maxLen ∧ HasS w' w'.heap.size A xs ∧ Below w.heap.size w w' := by
  refine (hs A l n c w hA hn h1 h2 h3 h4 hT).mono ?_
  intro e w' hp
  unfold SPost at hp
  rw [h] at hp
  obtain ⟨hb, A', c', he, q1, q2, q3⟩ := hp
  exact ⟨A', c', he, q1, q2, q3, hb⟩
theorem JoinOk.yes (hj : JoinOk) {A : Option Addr} {xs : List S} {n c : Nat} {w : World} (hX : HasS w w.heap.size A xs) (hn : n = xs.length) (h1 : n ≤ c) (h2 : c ≤ maxLen) (h3 : (join xs).length ≤ 140737488355328) (h : rises 0 xs = true) :
    Calls Tryz.prog 16 #[.slice A n c] w fun e w' => ∃ A c, e = .returned (.tuple #[.slice A (join xs).length c, .int .i64 0]) ∧ (join xs).length ≤ c ∧ c ≤ maxLen ∧ (A = Option.none → c = 0) ∧ Has w' w'.heap.size A (join xs) ∧ Below w.heap.size w w' := by
  refine (hj A xs n c w hX hn h1 h2 h3).mono ?_
  intro e w' hp
  unfold JPost at hp
  rw [if_pos h] at hp
  obtain ⟨hb, A', c', he, q1, q2, q3, q4⟩ := hp
  exact ⟨A', c', he, q1, q2, q3, q4, hb⟩
end Go.Proofs.YtgnbkfkiigcdgaaGreatDoor
