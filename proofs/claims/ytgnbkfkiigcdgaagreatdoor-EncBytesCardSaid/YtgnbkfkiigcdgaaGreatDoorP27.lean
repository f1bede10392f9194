/-
  What Decode of layer 6 must do, as a statement that the walks over layer 6's laws take as given; whole and plain of the laws.
-/
import Derived.Test.YtgnbkfkiigcdgaaGreatDoorP05
import Derived.Test.YtgnbkfkiigcdgaaGreatDoorP18
import Derived.Test.YtgnbkfkiigcdgaaGreatDoorP06
import Derived.Test.YtgnbkfkiigcdgaaGreatDoorP11
import Derived.Test.YtgnbkfkiigcdgaaGreatDoorP07
import Derived.Deep.CutRange
import Derived.Test.YtgnbkfkiigcdgaaGreatDoorP16
import Derived.Test.YtgnbkfkiigcdgaaGreatDoorP24
import Derived.Test.YtgnbkfkiigcdgaaGreatDoorP26
import Derived.Test.YtgnbkfkiigcdgaaGreatDoorP23
import Derived.Test.YtgnbkfkiigcdgaaGreatDoorP25
import Derived.Test.YtgnbkfkiigcdgaaGreatDoorRows
import Derived.LaidMore
import Derived.Lib.LaidU8T
import Derived.Stop.Joined
import Derived.Test.YtgnbkfkiigcdgaaGreatDoorCards
import Derived.Test.YtgnbkfkiigcdgaaGreatDoorTie
import Derived.ProofKit
import Derived.SevenTiedAt
import Derived.SizedLaws
namespace Go.Proofs.YtgnbkfkiigcdgaaGreatDoor
open Go.RowKit Ins Bin
theorem RepM.more {S S' : Nat → Prop} {w : World} {m : M} {v1 v2 v3 v4 v5 v6 v7 v8 v9 v10 : Value} (h : RepM w S m v1 v2 v3 v4 v5 v6 v7 v8 v9 v10) (hs : ∀ k, k < w.heap.size → S k → S' k) : RepM w S' m v1 v2 v3 v4 v5 v6 v7 v8 v9 v10 :=
  ⟨h.types.more hs, h.imports.more hs, h.funcs.more hs, h.tables.more hs, h.mems.more hs, h.globals.more hs, h.exports.more hs, h.start, h.elems.more hs, h.codes.more hs, h.datas.more hs⟩
end Go.Proofs.YtgnbkfkiigcdgaaGreatDoor
/-
  The document's Same of two modules that are one. (gen/binsame.py)
-/
namespace Go.Proofs.YtgnbkfkiigcdgaaGreatDoor
open Go.RowKit Ins Bin
/-- Sizes that walks ask for. -/
def M.small (m : M) : Prop := m.types.length ≤ 140737488355328 ∧ m.imports.length ≤ 140737488355328 ∧ m.funcs.length ≤ 140737488355328 ∧ m.tables.length ≤ 140737488355328 ∧ m.mems.length ≤ 140737488355328 ∧ m.globals.length ≤ 140737488355328 ∧ m.exports.length ≤ 140737488355328 ∧ m.elems.length ≤ 140737488355328 ∧ m.codes.length ≤ 140737488355328 ∧ m.datas.length ≤ 140737488355328 ∧
  (∀ x ∈ m.types, x.params.length ≤ 140737488355328 ∧ x.results.length ≤ 140737488355328) ∧ (∀ x ∈ m.globals, x.init.length ≤ 140737488355328 ∧ ∀ y ∈ x.init, y.l.length ≤ 140737488355328) ∧
  (∀ x ∈ m.elems, x.off.length ≤ 140737488355328 ∧ (∀ y ∈ x.off, y.l.length ≤ 140737488355328) ∧ x.funcs.length ≤ 140737488355328) ∧ (∀ x ∈ m.codes, x.locals.length ≤ 140737488355328 ∧ x.body.length ≤ 140737488355328 ∧ ∀ y ∈ x.body, y.l.length ≤ 140737488355328) ∧
  (∀ x ∈ m.datas, x.off.length ≤ 140737488355328 ∧ (∀ y ∈ x.off, y.l.length ≤ 140737488355328) ∧ x.b.length ≤ 140737488355328)
end Go.Proofs.YtgnbkfkiigcdgaaGreatDoor
/-
  The chapter's rows, as layer 6's laws ask for them, given what Decode does.
-/
namespace Bin
def l1 : List UInt8 := [1, 4, 1, 96, 0, 0, 3, 2, 1, 0, 10, 4, 1, 2, 0, 11]
def l2 : List UInt8 := [1, 5, 1, 96, 1, 125, 0]
def l3 : List UInt8 := [3, 2, 1, 0]
def l4 : List UInt8 := [5, 3, 1, 0, 2]
def l5 : List UInt8 := [5, 4, 1, 1, 2, 3]
def m1 : M := ⟨[⟨[], []⟩], [], [0], [], [], [], [], false, 0, [], [⟨[], []⟩], []⟩
def m4 : M := ⟨[], [], [], [], [⟨2, -1⟩], [], [], false, 0, [], [], []⟩
def m5 : M := ⟨[], [], [], [], [⟨2, 3⟩], [], [], false, 0, [], [], []⟩
end Bin
namespace Go.Proofs.YtgnbkfkiigcdgaaGreatDoor
open Go.RowKit Ins Bin Sec
theorem SliceV.one {α : Type} [Lay α] {W : World} {g : Nat} {x : α} (h : HasL W (fun _ => True) (some ⟨g, 0, none⟩) [x]) : SliceV W (fun _ => True) [x] (.slice (some ⟨g, 0, none⟩) 1 1) := ⟨_, 1, rfl, Nat.le_refl _, by unfold maxLen; omega, by simp, h⟩
end Go.Proofs.YtgnbkfkiigcdgaaGreatDoor
/-
  What is decoded is small: no list of it has more than 2^32 members.
-/
namespace Bin
open Leb Ins Sec
/-- Of at most 2^32 bytes only such is read. -/
def Sm {α : Type} (p : P α) (Q : α → Prop) : Prop := ∀ l x k, l.length ≤ 4294967296 → p l = .ok (x, k) → Q x
theorem Sm.ret {α : Type} {a : α} {Q : α → Prop} (h : Q a) : Sm (P.ret a) Q := fun l x k _ hx => by
  obtain ⟨rfl, _⟩ := ret_ok hx
  exact h
theorem Sm.fail {α : Type} {e : Nat} {Q : α → Prop} : Sm (P.fail e : P α) Q := fun l x k _ hx => by cases hx
theorem Sm.then {α β : Type} {p : P α} {f : α → P β} {R : α → Prop} {Q : β → Prop} (hp : Sm p R) (hf : ∀ a, R a → Sm (f a) Q) : Sm (p.then f) Q := fun l x k hl hx => by
  obtain ⟨a, i, j, h1, h2, _⟩ := P.then_ok hx
  exact hf a (hp l a i hl h1) (l.drop i) x j (by rw [List.length_drop]; omega) h2
theorem Sm.any {α : Type} (p : P α) : Sm p (fun _ => True) := fun _ _ _ _ _ => trivial
end Bin
namespace Go.Proofs.YtgnbkfkiigcdgaaGreatDoor
open Bin Sec
end Go.Proofs.YtgnbkfkiigcdgaaGreatDoor
/-
  What is wrong with bytes that are no module is told by a number that is not 0.
-/
namespace Bin
open Leb Ins Sec
def Er {α : Type} (p : P α) : Prop := ∀ l k, p l = .error k → k ≠ 0
theorem Er.ret {α : Type} {a : α} : Er (P.ret a) := fun _ _ h => by cases h
theorem Er.fail {α : Type} {e : Nat} (h : e ≠ 0) : Er (P.fail e : P α) := fun _ _ hx => by injection hx with hx; subst hx; exact h
theorem Er.then {α β : Type} {p : P α} {f : α → P β} (hp : Er p) (hf : ∀ a, Er (f a)) : Er (p.then f) := fun l k h => by
  unfold P.then at h
  split at h
  · next e he => injection h with h; subst h; exact hp _ _ he
  · next a i he =>
    split at h
    · next e he2 => injection h with h; subst h; exact hf _ _ _ he2
    · cases h
end Bin
/-
  The walk over EncShort, given what Encode, Decode and Split do. (gen/enc/short.py)
-/
namespace Go.Proofs.YtgnbkfkiigcdgaaGreatDoor
open Go.RowKit Ins Bin
structure CellsM (W : World) (B : Nat) (A1 A2 A3 A4 A5 A6 A7 A9 A10 A11 : Option Addr) (n1 c1 n2 c2 n3 c3 n4 c4 n5 c5 n6 c6 n7 c7 n9 c9 n10 c10 n11 c11 : Nat) (hs : Bool) (st : Int) : Prop where
  c0 : W.cell? ⟨B, 0, none⟩ = some (.slice A1 n1 c1)
  c1 : W.cell? ⟨B, 1, none⟩ = some (.slice A2 n2 c2)
  c2 : W.cell? ⟨B, 2, none⟩ = some (.slice A3 n3 c3)
  c3 : W.cell? ⟨B, 3, none⟩ = some (.slice A4 n4 c4)
  c4 : W.cell? ⟨B, 4, none⟩ = some (.slice A5 n5 c5)
  c5 : W.cell? ⟨B, 5, none⟩ = some (.slice A6 n6 c6)
  c6 : W.cell? ⟨B, 6, none⟩ = some (.slice A7 n7 c7)
  c7 : W.cell? ⟨B, 7, none⟩ = some (.bool hs)
  c8 : W.cell? ⟨B, 8, none⟩ = some (.int .u32 st)
  c9 : W.cell? ⟨B, 9, none⟩ = some (.slice A9 n9 c9)
  c10 : W.cell? ⟨B, 10, none⟩ = some (.slice A10 n10 c10)
  c11 : W.cell? ⟨B, 11, none⟩ = some (.slice A11 n11 c11)
theorem RepM.low {w : World} {S : Nat → Prop} {m : M} {v1 v2 v3 v4 v5 v6 v7 v8 v9 v10 : Value} (h : RepM w S m v1 v2 v3 v4 v5 v6 v7 v8 v9 v10) : RepM w (· < w.heap.size) m v1 v2 v3 v4 v5 v6 v7 v8 v9 v10 :=
  ⟨h.types.more (fun _ hk _ => hk), h.imports.more (fun _ hk _ => hk), h.funcs.more (fun _ hk _ => hk), h.tables.more (fun _ hk _ => hk), h.mems.more (fun _ hk _ => hk), h.globals.more (fun _ hk _ => hk), h.exports.more (fun _ hk _ => hk), h.start, h.elems.more (fun _ hk _ => hk), h.codes.more (fun _ hk _ => hk), h.datas.more (fun _ hk _ => hk)⟩
theorem encPost_err {m : M} {k : Nat} {w w' : World} {e : Ending} (h : EncPost m w e w') (he : encode m = .error k) : e = .returned (.tuple #[.slice none 0 0, .int .i64 (k : Int)]) ∧ Below w.heap.size w w' := by
  obtain ⟨hb, h⟩ := h
  rw [he] at h
  exact ⟨h, hb⟩
end Go.Proofs.YtgnbkfkiigcdgaaGreatDoor
/-
  The document's Encode. (gen/enc/all.py)
-/
namespace Go.Proofs.YtgnbkfkiigcdgaaGreatDoor
open Go.RowKit Ins Bin
/-- The rows of the sections ahead of a number are fine. -/
def okUpto (m : M) (id : Nat) : Prop := ∀ i ∈ ids, i < id → ∀ r ∈ rows m i, r.1 = true
theorem rows_len (m : M) {id : Nat} (hid : id ∈ ids) (hS : Small m) : (rows m id).length ≤ 4000 := by
  obtain ⟨h1, h2, h3, h4, h5, h6, h7, h9, h10, h11⟩ := hS.lens
  rcases id_cases hid with rfl | rfl | rfl | rfl | rfl | rfl | rfl | rfl | rfl | rfl | rfl <;> simp [rows] <;> omega
theorem bound_step {x y b id : Nat} (h1 : 1 ≤ id) (h : x ≤ 10 + (id - 1) * 12050000000000) (hy : y = x + b) (hb : b ≤ 12050000000000) : y ≤ 10 + (id + 1 - 1) * 12050000000000 := by
  obtain ⟨k, rfl⟩ : ∃ k, id = k + 1 := ⟨id - 1, by omega⟩
  rw [Nat.add_sub_cancel] at h ⊢
  omega
theorem outTo_step (m : M) {id : Nat} (h : 1 ≤ id) : outTo m id = outTo m (id - 1) ++ if 0 < cnt m id then Sec.enc ⟨id, body m id⟩ else [] := by
  obtain ⟨k, rfl⟩ : ∃ k, id = k + 1 := ⟨id - 1, by omega⟩
  rfl
theorem enc_len (l : List UInt8) (id : Nat) (h : l.length < 18446744073709551616) : (Sec.enc ⟨id, l⟩).length ≤ l.length + 11 := by
  have := Leb.encU_le10 l.length h
  simp [Sec.enc]
  omega
theorem mem_ids {id : Nat} (h1 : 1 ≤ id) (h2 : id < 12) : id ∈ ids := by
  have hc : id = 1 ∨ id = 2 ∨ id = 3 ∨ id = 4 ∨ id = 5 ∨ id = 6 ∨ id = 7 ∨ id = 8 ∨ id = 9 ∨ id = 10 ∨ id = 11 := by omega
  rcases hc with rfl | rfl | rfl | rfl | rfl | rfl | rfl | rfl | rfl | rfl | rfl <;> decide
set_option maxRecDepth 100000 in
set_option maxHeartbeats 2000000 in
theorem rencode_any (m : M) (v1 v2 v3 v4 v5 v6 v7 v8 v9 v10 : Value) (w : World) (hM : RepM w (· < w.heap.size) m v1 v2 v3 v4 v5 v6 v7 v8 v9 v10) (hS : Small m) :
    Calls Tryz.prog 9 #[.agg (modCells m v1 v2 v3 v4 v5 v6 v7 v8 v9 v10)] w (EncPost m w) := by
  obtain ⟨A1, c1, rfl, _⟩ := hM.types
  obtain ⟨A2, c2, rfl, _⟩ := hM.imports
  obtain ⟨A3, c3, rfl, _⟩ := hM.funcs
  obtain ⟨A4, c4, rfl, _⟩ := hM.tables
  obtain ⟨A5, c5, rfl, _⟩ := hM.mems
  obtain ⟨A6, c6, rfl, _⟩ := hM.globals
  obtain ⟨A7, c7, rfl, _⟩ := hM.exports
  obtain ⟨A9, c9, rfl, _⟩ := hM.elems
  obtain ⟨A10, c10, rfl, _⟩ := hM.codes
  obtain ⟨A11, c11, rfl, _⟩ := hM.datas
  have HM := Lib.hid hM
  have HS := Lib.hid hS
  have HOK := Lib.hid (Bin.okM_iff hM.fine)
  have hst32 := hM.start
  clear hM hS
  generalize hcs : modCells m (.slice A1 m.types.length c1) (.slice A2 m.imports.length c2) (.slice A3 m.funcs.length c3) (.slice A4 m.tables.length c4) (.slice A5 m.mems.length c5) (.slice A6 m.globals.length c6) (.slice A7 m.exports.length c7) (.slice A9 m.elems.length c9) (.slice A10 m.codes.length c10) (.slice A11 m.datas.length c11) = cs
  have HCNT : Hid (∀ W, Below w.heap.size w W → ∀ id, id ∈ ids → Calls Tryz.prog 17 #[.agg cs, .int .u8 (id : Int)] W fun e w' => e = .returned (.int .i64 ((rows m id).length : Int)) ∧ Below W.heap.size W w') := Lib.hid (fun W hb id hid => by
    subst hcs
    exact bcount_any m _ _ _ _ _ _ _ _ _ _ W ((HM.out.on hb).more' (fun k hk => Nat.lt_of_lt_of_le hk hb.size)) id hid)
  have HENT : Hid (∀ W, Below w.heap.size w W → ∀ (id i : Nat) (r : Bool × List UInt8), id ∈ ids → (rows m id)[i]? = some r → Calls Tryz.prog 19 #[.agg cs, .int .u8 (id : Int), .int .i64 (i : Int)] W (BResN 3000000000 r.1 r.2 W)) := Lib.hid (fun W hb id i r hid hr => by
    subst hcs
    exact bentry_any m _ _ _ _ _ _ _ _ _ _ W ((HM.out.on hb).more' (fun k hk => Nat.lt_of_lt_of_le hk hb.size)) HS.out id i hid r hr)
  obtain ⟨bad, hbad⟩ : ∃ bad : Bool, bad = (!decide (m.codes.length = m.funcs.length) || (!m.hasStart && decide (0 < m.start))) := ⟨_, rfl⟩
  have HOKM : Hid (okM m ↔ bad = false ∧ okUpto m 12) := Lib.hid (by
    rw [HOK.out, hbad]
    have hu : okUpto m 12 ↔ ∀ id ∈ ids, ∀ r ∈ rows m id, r.1 = true := ⟨fun h id hid => h id hid (by have := (ids_range hid).2; omega), fun h id hid _ => h id hid⟩
    rw [hu]
    by_cases q1 : m.codes.length = m.funcs.length <;> by_cases q2 : m.start = 0 <;> by_cases q3 : m.hasStart = true <;> simp [q1, q2, q3] <;> omega)
  have HBAD := Lib.hid hbad
  clear hbad HOK
  unfold modCells at hcs
  obtain ⟨n1, hn1⟩ : ∃ n, m.types.length = n := ⟨_, rfl⟩
  rw [hn1] at hcs
  clear hn1
  obtain ⟨n2, hn2⟩ : ∃ n, m.imports.length = n := ⟨_, rfl⟩
  rw [hn2] at hcs
  clear hn2
  obtain ⟨n3, hn3⟩ : ∃ n, m.funcs.length = n := ⟨_, rfl⟩
  rw [hn3] at hcs HBAD
  clear hn3
  obtain ⟨n4, hn4⟩ : ∃ n, m.tables.length = n := ⟨_, rfl⟩
  rw [hn4] at hcs
  clear hn4
  obtain ⟨n5, hn5⟩ : ∃ n, m.mems.length = n := ⟨_, rfl⟩
  rw [hn5] at hcs
  clear hn5
  obtain ⟨n6, hn6⟩ : ∃ n, m.globals.length = n := ⟨_, rfl⟩
  rw [hn6] at hcs
  clear hn6
  obtain ⟨n7, hn7⟩ : ∃ n, m.exports.length = n := ⟨_, rfl⟩
  rw [hn7] at hcs
  clear hn7
  obtain ⟨n9, hn9⟩ : ∃ n, m.elems.length = n := ⟨_, rfl⟩
  rw [hn9] at hcs
  clear hn9
  obtain ⟨n10, hn10⟩ : ∃ n, m.codes.length = n := ⟨_, rfl⟩
  rw [hn10] at hcs HBAD
  clear hn10
  obtain ⟨n11, hn11⟩ : ∃ n, m.datas.length = n := ⟨_, rfl⟩
  rw [hn11] at hcs
  clear hn11
  obtain ⟨hs, hhs⟩ : ∃ n, m.hasStart = n := ⟨_, rfl⟩
  rw [hhs] at hcs HBAD
  have HHS := Lib.hid hhs
  obtain ⟨stn, hstn⟩ : ∃ n, m.start = n := ⟨_, rfl⟩
  rw [hstn] at hcs HBAD hst32
  have HST := Lib.hid hstn
  clear hhs hstn
  subst hcs
  have HX0 := Lib.hid (heap_alloc_new w (.cells #[.slice A1 n1 c1, .slice A2 n2 c2, .slice A3 n3 c3, .slice A4 n4 c4, .slice A5 n5 c5, .slice A6 n6 c6, .slice A7 n7 c7, .bool hs, .int .u32 (stn : Int), .slice A9 n9 c9, .slice A10 n10 c10, .slice A11 n11 c11] 33))
  have HB0 : Hid (Below w.heap.size w (w.alloc (.cells #[.slice A1 n1 c1, .slice A2 n2 c2, .slice A3 n3 c3, .slice A4 n4 c4, .slice A5 n5 c5, .slice A6 n6 c6, .slice A7 n7 c7, .bool hs, .int .u32 (stn : Int), .slice A9 n9 c9, .slice A10 n10 c10, .slice A11 n11 c11] 33))) := Lib.hid ((Below.refl _ _).alloc (Nat.le_refl _) _)
  have HS0 : Hid ((w.alloc (.cells #[.slice A1 n1 c1, .slice A2 n2 c2, .slice A3 n3 c3, .slice A4 n4 c4, .slice A5 n5 c5, .slice A6 n6 c6, .slice A7 n7 c7, .bool hs, .int .u32 (stn : Int), .slice A9 n9 c9, .slice A10 n10 c10, .slice A11 n11 c11] 33)).heap.size = w.heap.size + 1) := Lib.hid (by simp)
  go_enter Tryz.func9, Tryz.ntmps9
  go_upto_region 1 with fail
  generalize w.alloc (.cells #[.slice A1 n1 c1, .slice A2 n2 c2, .slice A3 n3 c3, .slice A4 n4 c4, .slice A5 n5 c5, .slice A6 n6 c6, .slice A7 n7 c7, .bool hs, .int .u32 (stn : Int), .slice A9 n9 c9, .slice A10 n10 c10, .slice A11 n11 c11] 33) = w0 at HX0 HB0 HS0 ⊢
  obtain ⟨X1, hX1⟩ : ∃ X, w.heap.size = X := ⟨_, rfl⟩
  have HXB : Hid (∀ W, Below w0.heap.size w0 W → CellsM W X1 A1 A2 A3 A4 A5 A6 A7 A9 A10 A11 n1 c1 n2 c2 n3 c3 n4 c4 n5 c5 n6 c6 n7 c7 n9 c9 n10 c10 n11 c11 hs (stn : Int)) := Lib.hid (fun W hb => by
    have h := (hb.block w.heap.size (by have := HS0.out; omega)).trans HX0.out
    rw [hX1] at h
    exact ⟨by rw [cell_of_row W _ 0 _ _ (0, 0) h]; rfl, by rw [cell_of_row W _ 1 _ _ (0, 0) h]; rfl, by rw [cell_of_row W _ 2 _ _ (0, 0) h]; rfl, by rw [cell_of_row W _ 3 _ _ (0, 0) h]; rfl, by rw [cell_of_row W _ 4 _ _ (0, 0) h]; rfl, by rw [cell_of_row W _ 5 _ _ (0, 0) h]; rfl, by rw [cell_of_row W _ 6 _ _ (0, 0) h]; rfl, by rw [cell_of_row W _ 7 _ _ (0, 0) h]; rfl, by rw [cell_of_row W _ 8 _ _ (0, 0) h]; rfl, by rw [cell_of_row W _ 9 _ _ (0, 0) h]; rfl, by rw [cell_of_row W _ 10 _ _ (0, 0) h]; rfl, by rw [cell_of_row W _ 11 _ _ (0, 0) h]; rfl⟩)
  simp only [hX1]
  clear HX0 HS0 hX1
  obtain ⟨a0, a1, a2, a3, a4, a5, a6, a7, a8, a9, a10, a11⟩ := HXB.out w0 (Below.refl _ _)
  go_cut [27] from 11 to 27 (fun s wx => s = .bool bad ∧ wx = w0)
  case first =>
    by_cases q1 : n10 = n3
    · subst q1
      cases hs
      · by_cases q2 : stn = 0
        · subst q2
          obtain rfl : bad = false := by rw [HBAD.out]; simp
          go_wp2_with fail
          go_meet
          case rel => exact ⟨rfl, rfl⟩
        · obtain rfl : bad = true := by rw [HBAD.out]; simp; omega
          have q3 : (0 : Int) < (stn : Int) := by omega
          go_wp2_with fail
          go_meet
          case rel => exact ⟨congrArg Value.bool (decide_eq_true (by omega)), rfl⟩
      · obtain rfl : bad = false := by rw [HBAD.out]; simp
        go_wp2_with fail
        go_meet
        case rel => exact ⟨rfl, rfl⟩
    · obtain rfl : bad = true := by rw [HBAD.out]; simp [q1]
      have q2 : ¬ (n10 : Int) = (n3 : Int) := by omega
      have q3 : ((n10 : Int) != (n3 : Int)) = true := by simp; omega
      go_wp2_with fail
      go_meet
      case rel => exact ⟨rfl, rfl⟩
  case rest =>
    obtain ⟨rfl, rfl⟩ := hcut
    clear a0 a1 a2 a3 a4 a5 a6 a7 a8 a9 a10 a11 HBAD
    cases bad with
    | true =>
      go_wp2_with fail
      go_ret2
      exact encPost_no (fun h => by have := (HOKM.out.1 h).1; cases this) HB0.out
    | false =>
      have HOK2 : Hid (okM m ↔ okUpto m 12) := Lib.hid (by rw [HOKM.out]; simp)
      clear HOKM
      go_upto_region 5 with (go_at_call 13; refine (begin_any _).mono ?_; rintro e w1 ⟨v1, rfl, ho, hb⟩; have HO1 := Lib.hid ho; have HB1 := Lib.hid hb; clear ho hb)
      go_loopw [4, 5] (fun u i wr => ∃ id : Nat, 1 ≤ id ∧ id ≤ 12 ∧ i = .int .u8 (id : Int) ∧ Hid (wr.ownsRow wc.heap.size 5 1 u (outTo m (id - 1)).length (bytesOf (outTo m (id - 1)))) ∧ Hid (okUpto m id) ∧ Hid ((outTo m (id - 1)).length ≤ 10 + (id - 1) * 12050000000000) ∧ Hid (Below wc.heap.size wc wr)) (fun _ i _ => 12 - (intOf i).toNat)
      case atStart => exact ⟨1, by omega, by omega, rfl, Lib.hid HO1.out, Lib.hid (fun i hi h => by have := (ids_range hi).1; omega), Lib.hid (by show (8 : Nat) ≤ _; omega), Lib.hid HB1.out⟩
      case round =>
        obtain ⟨id, hid1, hid12, rfl, HO, HU, HLN, HB⟩ := hrel
        have HBX := Lib.hid (HB0.out.trans (HB.out.mono HB0.out.size))
        by_cases hid2 : id < 12
        · have hidm := mem_ids hid1 hid2
          have HIDM := Lib.hid hidm
          have hidi : (id : Int) < 12 := by omega
          have hlen4 := rows_len m hidm HS.out
          have HCN := Lib.hid (HCNT.out wr HBX.out id hidm)
          obtain ⟨n, hn⟩ : ∃ n, (rows m id).length = n := ⟨_, rfl⟩
          rw [hn] at hlen4 HCN
          have HN := Lib.hid hn
          clear hn hidm
          obtain ⟨a0, a1, a2, a3, a4, a5, a6, a7, a8, a9, a10, a11⟩ := HXB.out wr HB.out
          go_upto_region 8 with (go_at_call 17; refine HCN.out.mono ?_; rintro e w2 ⟨rfl, hb⟩; have HB2 := Lib.hid hb; have HW2 := Lib.hid (HBX.out.trans (hb.mono HBX.out.size)); clear hb a0 a1 a2 a3 a4 a5 a6 a7 a8 a9 a10 a11)
          have hwn : IntKind.u64.wrap (n : Int) = (n : Int) := IntWalk.u64_in _ (by omega)
          have HUN := Lib.hid (bU_any n w2 (by omega))
          go_upto_region 10 with (go_at_call 18; refine HUN.out.mono ?_; rintro e w3 ⟨v3, rfl, ho, hb⟩; have HO3 := Lib.hid ho; have HB3 := Lib.hid hb; clear ho hb)
          clear hwn
          have HB02 := Lib.hid (HB.out.trans (HB2.out.mono HB.out.size))
          go_loopw [7, 8] (fun b i wi => ∃ j : Nat, j ≤ n ∧ i = .int .i64 (j : Int) ∧ Hid (wi.ownsRow w2.heap.size 5 1 b (Leb.encU n ++ rowsB ((rows m id).take j)).length (bytesOf (Leb.encU n ++ rowsB ((rows m id).take j)))) ∧ Hid ((Leb.encU n ++ rowsB ((rows m id).take j)).length ≤ 10 + j * 3000000000) ∧ Hid (∀ r ∈ (rows m id).take j, r.1 = true) ∧ Hid (Below w2.heap.size w2 wi)) (fun _ i _ => n - (intOf i).toNat)
          case atStart => exact ⟨0, by omega, rfl, Lib.hid (by simpa [rowsB] using HO3.out), Lib.hid (by have := Leb.encU_le10 n (by omega); simpa [rowsB] using this), Lib.hid (by simp), HB3⟩
          case round =>
            obtain ⟨j, hj, rfl, HOB, HLB, HKB, HBI⟩ := hrel
            have HBW := Lib.hid (HB02.out.trans (HBI.out.mono HB02.out.size))
            have HWW := Lib.hid (HB0.out.trans (HBW.out.mono HB0.out.size))
            by_cases hjn : j < n
            · obtain ⟨⟨ok, bs⟩, hr⟩ : ∃ r, (rows m id)[j]? = some r := ⟨_, List.getElem?_eq_getElem (by rw [HN.out]; exact hjn)⟩
              have HRM := Lib.hid (List.mem_of_getElem? hr)
              have HEJ := Lib.hid (HENT.out wr HWW.out id j (ok, bs) HIDM.out hr)
              have HTK : Hid (rowsB ((rows m id).take (j + 1)) = rowsB ((rows m id).take j) ++ bs) := Lib.hid (by rw [List.take_add_one, hr]; simp [rowsB])
              have HTM : Hid (∀ r ∈ (rows m id).take (j + 1), r ∈ (rows m id).take j ∨ r = (ok, bs)) := Lib.hid (fun r h => by
                rw [List.take_add_one, hr] at h
                simpa using h)
              have hji : (j : Int) < (n : Int) := by omega
              clear hr
              obtain ⟨a0, a1, a2, a3, a4, a5, a6, a7, a8, a9, a10, a11⟩ := HXB.out wr HBW.out
              cases ok with
              | false =>
                have HNO : Hid (¬ okM m) := Lib.hid (fun h => by have := HOK2.out.1 h id HIDM.out hid2 (false, bs) HRM.out; cases this)
                go_wp2_with (go_at_call 19; refine HEJ.out.mono ?_; rintro e w4 ⟨hb, v9, l9, rfl, _, _, _⟩; have HW4 := Lib.hid (HWW.out.trans (hb.mono HWW.out.size)); clear hb)
                go_ret2
                exact encPost_no HNO.out HW4.out
              | true =>
                go_wp2_with (first | (go_at_call 19; refine HEJ.out.mono ?_; rintro e w4 ⟨hb, v9, l9, rfl, ho9, hl9, heq⟩; obtain rfl := heq rfl; obtain ⟨A9', c9', n9', v20, w20, rfl, hrun, hadd⟩ := own_app w4 w2.heap.size wr.heap.size u7 v9 _ _ ((Mod.of_below (T := fun _ => False) hb).own HOB.out (fun _ _ h => h)) ho9 (by have := HLB.out; omega) (Nat.le_trans HBI.out.size hb.size); have HRUN := Lib.hid hrun; have HADD := Lib.hid hadd; have HL9 := Lib.hid hl9; have HB20 : Hid (Below w2.heap.size w2 w20) := Lib.hid ((HBI.out.trans (hb.mono HBI.out.size)).trans (hadd.below (own_ge ((Mod.of_below (T := fun _ => False) hb).own HOB.out (fun _ _ h => h))) (Nat.le_trans HBI.out.size hb.size))); clear hrun hadd hl9 ho9 hb heq) | (at_builtin; refine wpList_appends rfl (.tmp 53) (.tmp 54) 36 rfl _ _ _ w20 rfl rfl HRUN.out ?_))
                go_roundw
                case rel => exact ⟨j + 1, by omega, by go_num, Lib.hid (by rw [HTK.out, ← List.append_assoc]; exact HADD.out.1), Lib.hid (by rw [HTK.out, ← List.append_assoc, List.length_append]; have := HLB.out; have := HL9.out; omega), Lib.hid (fun r h => by
                  rcases HTM.out r h with h | rfl
                  · exact HKB.out r h
                  · rfl), HB20⟩
                case measure => simp [intOf]; omega
            · obtain rfl : n = j := by omega
              have HKA : Hid (∀ r ∈ rows m id, r.1 = true) := Lib.hid (by have h := HKB.out; rwa [List.take_of_length_le (by have := HN.out; omega)] at h)
              have HLB1 : Hid (wr.ownsRow w2.heap.size 5 1 u7 (Leb.encU n ++ rowsB (rows m id)).length (bytesOf (Leb.encU n ++ rowsB (rows m id)))) := Lib.hid (by have h := HOB.out; rwa [List.take_of_length_le (by have := HN.out; omega)] at h)
              have HLE : Hid ((Leb.encU n ++ rowsB (rows m id)).length ≤ 12000000000010) := Lib.hid (by have h := HLB.out; rw [List.take_of_length_le (by have := HN.out; omega)] at h; omega)
              have HU2 : Hid (okUpto m (id + 1)) := Lib.hid (fun i hi h => by
                by_cases e : i < id
                · exact HU.out i hi e
                · obtain rfl : i = id := by omega
                  exact HKA.out)
              have HSTEP0 := Lib.hid (outTo_step m hid1)
              have hw8 : IntKind.u8.wrap ((id : Int) + 1) = (id : Int) + 1 := IntWalk.u8_in _ ⟨by omega, by omega⟩
              clear HOB HLB HKB HKA
              obtain ⟨a0, a1, a2, a3, a4, a5, a6, a7, a8, a9, a10, a11⟩ := HXB.out wr HBW.out
              by_cases h8 : id = 8
              · have h8i : (id : Int) = 8 := by omega
                have hn0 : n = 0 := by have h := HN.out; rw [h8] at h; exact h.symm
                have hni : ¬ ((0 : Int) < (n : Int)) := by omega
                have H8 := Lib.hid h8
                clear h8
                cases hs with
                | false =>
                  have HSTEP : Hid (outTo m (id + 1 - 1) = outTo m (id - 1)) := Lib.hid (by rw [Nat.add_sub_cancel, HSTEP0.out, if_neg (by rw [H8.out]; show ¬ 0 < (if m.hasStart = true then 1 else 0); rw [HHS.out]; decide), List.append_nil])
                  have HUA := Lib.hid ((Mod.of_below (T := fun _ => False) (HB2.out.trans (HBI.out.mono HB2.out.size))).own HO.out (fun _ _ h => h))
                  go_wp2_with fail
                  go_roundw
                  case rel => exact ⟨id + 1, by omega, by omega, by go_num, Lib.hid (by rw [HSTEP.out]; exact HUA.out), HU2, Lib.hid (bound_step (b := 0) hid1 HLN.out (congrArg List.length HSTEP.out) (by omega)), HBW⟩
                  case measure => simp [intOf]; omega
                | true =>
                  have HSTEP : Hid (outTo m (id + 1 - 1) = outTo m (id - 1) ++ Sec.enc ⟨id, body m id⟩) := Lib.hid (by rw [Nat.add_sub_cancel, HSTEP0.out, if_pos (by rw [H8.out]; show 0 < (if m.hasStart = true then 1 else 0); rw [HHS.out]; decide)])
                  have HBD : Hid (body m id = Leb.encU stn) := Lib.hid (by rw [H8.out, ← HST.out]; rfl)
                  have HLB2 : Hid ((body m id).length ≤ 12000000000010) := Lib.hid (by rw [HBD.out]; have := Leb.encU_le10 stn (by omega); omega)
                  have hws : IntKind.u64.wrap (stn : Int) = (stn : Int) := IntWalk.u64_in _ (by omega)
                  have HUS := Lib.hid (bU_any stn wr (by omega))
                  go_upto_region 18 with (go_at_call 18; refine HUS.out.mono ?_; rintro e w5 ⟨v5, rfl, ho, hb⟩; have HO5 : Hid (w5.ownsRow wr.heap.size 5 1 v5 (body m id).length (bytesOf (body m id))) := Lib.hid (by rw [HBD.out]; exact ho); have HB5 := Lib.hid hb; clear a0 a1 a2 a3 a4 a5 a6 a7 a8 a9 a10 a11; obtain ⟨a0, a1, a2, a3, a4, a5, a6, a7, a8, a9, a10, a11⟩ := HXB.out w5 (HBW.out.trans (hb.mono HBW.out.size)); clear ho hb)
                  clear hws
                  have hu := (Mod.of_below (T := fun _ => False) ((HB2.out.trans (HBI.out.mono HB2.out.size)).trans (HB5.out.mono (Nat.le_trans HB2.out.size HBI.out.size)))).own HO.out (fun _ _ h => h)
                  obtain ⟨v11, w11, hr1, hb11, hrest⟩ := sec_add w5 wc.heap.size wr.heap.size id u4 _ (outTo m (id - 1)) (body m id) hu HO5.out (fun k hk => by have := own_lt HO.out k hk; have := HB2.out.size; have := HBI.out.size; omega) (by omega) (Nat.le_trans HBW.out.size HB5.out.size) (by have := HLN.out; omega) (by have := HLB2.out; omega)
                  obtain ⟨Ab, cb, hbv, _, _, _, _, _⟩ := own_sl HO5.out
                  subst hbv
                  (try rw [h8i] at hr1)
                  have HR1 := Lib.hid hr1
                  have HB11 := Lib.hid hb11
                  have HREST := Lib.hid hrest
                  obtain ⟨lbn, hlbn⟩ : ∃ n, (body m id).length = n := ⟨_, rfl⟩
                  have hlb3 : lbn ≤ 12000000000010 := by rw [← hlbn]; exact HLB2.out
                  have HLBN := Lib.hid hlbn
                  rw [hlbn]
                  have hwl : IntKind.u64.wrap (lbn : Int) = (lbn : Int) := IntWalk.u64_in _ (by omega)
                  have HUL := Lib.hid (bU_any lbn w11 (by omega))
                  have HZ := Lib.hid (HBW.out.trans (HB5.out.mono HBW.out.size))
                  clear hu hr1 hb11 hrest hlbn
                  have tok1 : True := trivial
                  have tok2 : True := trivial
                  go_wp2_with (first | (at_builtin; clear tok1; refine wpList_appends rfl (.tmp 76) (.tmp 78) 36 rfl _ _ _ w11 rfl rfl HR1.out ?_) | (go_at_call 18; refine HUL.out.mono ?_; rintro e w12 ⟨v12, rfl, ho, hb⟩; obtain ⟨A12, n12, c12, v13, w13, v14, w14, rfl, hr2, hr3, ho14, hb14⟩ := HREST.out w12 v12 hb (by rw [HLBN.out]; exact ho); rw [HLBN.out] at hr3; have HR2 := Lib.hid hr2; have HR3 := Lib.hid hr3; have HO14 := Lib.hid ho14; have HB14 := Lib.hid hb14; clear hr2 hr3 ho14 hb14 ho hb) | (at_builtin; clear tok2; refine wpList_appends rfl (.tmp 80) (.tmp 84) 36 rfl _ _ _ w13 rfl rfl HR2.out ?_) | (at_builtin; refine wpList_appends rfl (.tmp 86) (.tmp 87) 36 rfl _ _ _ w14 rfl rfl HR3.out ?_))
                  go_roundw
                  case rel => exact ⟨id + 1, by omega, by omega, (by first | go_num | (rw [H8.out]; rfl)), Lib.hid (by rw [HSTEP.out]; exact HO14.out), HU2, Lib.hid (bound_step hid1 HLN.out ((congrArg List.length HSTEP.out).trans List.length_append) (by have := enc_len (body m id) id (by have := HLB2.out; omega); have := HLB2.out; omega)), Lib.hid (HZ.out.trans HB14.out)⟩
                  case measure => simp [intOf]; omega
              · have h8i : ¬ (id : Int) = 8 := by omega
                have h8b : ((id : Int) == 8) = false := by simp; omega
                have HBR := Lib.hid (body_rows m HIDM.out h8)
                have HCR := Lib.hid (cnt_rows m HIDM.out h8)
                clear h8
                by_cases hn0 : 0 < n
                · have hni : (0 : Int) < (n : Int) := by omega
                  have HSTEP : Hid (outTo m (id + 1 - 1) = outTo m (id - 1) ++ Sec.enc ⟨id, body m id⟩) := Lib.hid (by rw [Nat.add_sub_cancel, HSTEP0.out, if_pos (by rw [HCR.out, HN.out]; exact hn0)])
                  have HBD : Hid (Leb.encU n ++ rowsB (rows m id) = body m id) := Lib.hid (by rw [← HBR.out, HN.out])
                  have HLB2 : Hid ((body m id).length ≤ 12000000000010) := Lib.hid (by rw [← HBD.out]; exact HLE.out)
                  have HO7 : Hid (wr.ownsRow w2.heap.size 5 1 u7 (body m id).length (bytesOf (body m id))) := Lib.hid (by rw [← HBD.out]; exact HLB1.out)
                  have hu := (Mod.of_below (T := fun _ => False) (HB2.out.trans (HBI.out.mono HB2.out.size))).own HO.out (fun _ _ h => h)
                  obtain ⟨v11, w11, hr1, hb11, hrest⟩ := sec_add wr wc.heap.size w2.heap.size id u4 _ (outTo m (id - 1)) (body m id) hu HO7.out (fun k hk => by have := own_lt HO.out k hk; have := HB2.out.size; have := HBI.out.size; omega) (by omega) HBW.out.size (by have := HLN.out; omega) (by have := HLB2.out; omega)
                  obtain ⟨Ab, cb, hbv, _, _, _, _, _⟩ := own_sl HO7.out
                  subst hbv
                  (try rw [h8i] at hr1)
                  have HR1 := Lib.hid hr1
                  have HB11 := Lib.hid hb11
                  have HREST := Lib.hid hrest
                  obtain ⟨lbn, hlbn⟩ : ∃ n, (body m id).length = n := ⟨_, rfl⟩
                  have hlb3 : lbn ≤ 12000000000010 := by rw [← hlbn]; exact HLB2.out
                  have HLBN := Lib.hid hlbn
                  rw [hlbn]
                  have hwl : IntKind.u64.wrap (lbn : Int) = (lbn : Int) := IntWalk.u64_in _ (by omega)
                  have HUL := Lib.hid (bU_any lbn w11 (by omega))
                  have HZ := Lib.hid (HBW.out)
                  clear hu hr1 hb11 hrest hlbn
                  have tok1 : True := trivial
                  have tok2 : True := trivial
                  go_wp2_with (first | (at_builtin; clear tok1; refine wpList_appends rfl (.tmp 76) (.tmp 78) 36 rfl _ _ _ w11 rfl rfl HR1.out ?_) | (go_at_call 18; refine HUL.out.mono ?_; rintro e w12 ⟨v12, rfl, ho, hb⟩; obtain ⟨A12, n12, c12, v13, w13, v14, w14, rfl, hr2, hr3, ho14, hb14⟩ := HREST.out w12 v12 hb (by rw [HLBN.out]; exact ho); rw [HLBN.out] at hr3; have HR2 := Lib.hid hr2; have HR3 := Lib.hid hr3; have HO14 := Lib.hid ho14; have HB14 := Lib.hid hb14; clear hr2 hr3 ho14 hb14 ho hb) | (at_builtin; clear tok2; refine wpList_appends rfl (.tmp 80) (.tmp 84) 36 rfl _ _ _ w13 rfl rfl HR2.out ?_) | (at_builtin; refine wpList_appends rfl (.tmp 86) (.tmp 87) 36 rfl _ _ _ w14 rfl rfl HR3.out ?_))
                  go_roundw
                  case rel => exact ⟨id + 1, by omega, by omega, (by first | go_num | (rw [H8.out]; rfl)), Lib.hid (by rw [HSTEP.out]; exact HO14.out), HU2, Lib.hid (bound_step hid1 HLN.out ((congrArg List.length HSTEP.out).trans List.length_append) (by have := enc_len (body m id) id (by have := HLB2.out; omega); have := HLB2.out; omega)), Lib.hid (HZ.out.trans HB14.out)⟩
                  case measure => simp [intOf]; omega
                · have hni : ¬ (0 : Int) < (n : Int) := by omega
                  have HSTEP : Hid (outTo m (id + 1 - 1) = outTo m (id - 1)) := Lib.hid (by rw [Nat.add_sub_cancel, HSTEP0.out, if_neg (by rw [HCR.out, HN.out]; exact hn0), List.append_nil])
                  have HUA := Lib.hid ((Mod.of_below (T := fun _ => False) (HB2.out.trans (HBI.out.mono HB2.out.size))).own HO.out (fun _ _ h => h))
                  go_wp2_with fail
                  go_roundw
                  case rel => exact ⟨id + 1, by omega, by omega, by go_num, Lib.hid (by rw [HSTEP.out]; exact HUA.out), HU2, Lib.hid (bound_step (b := 0) hid1 HLN.out (congrArg List.length HSTEP.out) (by omega)), HBW⟩
                  case measure => simp [intOf]; omega
        · obtain rfl : id = 12 := by omega
          have HYM := Lib.hid (HOK2.out.2 HU.out)
          have HOE : Hid (wr.ownsRow wc.heap.size 5 1 u4 (encM m).length (bytesOf (encM m))) := Lib.hid (by have h := HO.out; rw [show 12 - 1 = 11 from rfl, outTo_all] at h; exact h)
          obtain ⟨A, c, hu, _, hc1, hc2, hc3, hh⟩ := own_sl HOE.out
          subst hu
          have HH := Lib.hid hh
          have HC1 := Lib.hid hc1
          have HC2 := Lib.hid hc2
          have HC3 := Lib.hid hc3
          clear hh hc1 hc2 hc3
          obtain ⟨q, hq⟩ : ∃ q, (encM m).length = q := ⟨_, rfl⟩
          rw [hq] at HC1 ⊢
          have HQ := Lib.hid hq
          clear hq HO HOE
          by_cases hl : 65536 < q
          · have hli : (65536 : Int) < (q : Int) := by omega
            go_wp2_with fail
            go_ret2
            exact encPost_long HYM.out (by rw [HQ.out]; exact hl) HBX.out
          · have hli : ¬ (65536 : Int) < (q : Int) := by omega
            go_wp2_with fail
            go_ret2
            exact encPost_yes HYM.out (by rw [HQ.out]; omega) HBX.out HQ.out HC1.out HC2.out HC3.out HH.out
end Go.Proofs.YtgnbkfkiigcdgaaGreatDoor
/-
  The walk over EncBytes, given what Encode does. (gen/enc/bytes.py)
-/
namespace Go.Proofs.YtgnbkfkiigcdgaaGreatDoor
open Go.RowKit Ins Bin
set_option maxRecDepth 100000 in
set_option maxHeartbeats 2000000 in
theorem encBytes_any (he : EncOk) (m : M) (v1 v2 v3 v4 v5 v6 v7 v8 v9 v10 : Value) (w : World) (hM : RepM w (· < w.heap.size) m v1 v2 v3 v4 v5 v6 v7 v8 v9 v10) (hB : BigM m) (hT : Tb w) :
    Calls Tryz.prog 3 #[.agg (modCells m v1 v2 v3 v4 v5 v6 v7 v8 v9 v10)] w fun e w' => e = .returned (.bool true) ∧ Below w.heap.size w w' := by
  have HE := Lib.hid he
  have HKN : Hid (∀ W, Below w.heap.size w W → Calls Tryz.prog 6 #[] W fun e w' => e = .returned (.bool true) ∧ Below W.heap.size W w') := Lib.hid (fun W hb => known7 he W (hT.on hb))
  clear he
  obtain ⟨A1, c1, rfl, _⟩ := hM.types
  obtain ⟨A2, c2, rfl, _⟩ := hM.imports
  obtain ⟨A3, c3, rfl, _⟩ := hM.funcs
  obtain ⟨A4, c4, rfl, _⟩ := hM.tables
  obtain ⟨A5, c5, rfl, _⟩ := hM.mems
  obtain ⟨A6, c6, rfl, _⟩ := hM.globals
  obtain ⟨A7, c7, rfl, _⟩ := hM.exports
  obtain ⟨A9, c9, rfl, _⟩ := hM.elems
  obtain ⟨A10, c10, rfl, _⟩ := hM.codes
  obtain ⟨A11, c11, rfl, _⟩ := hM.datas
  have HM := Lib.hid hM
  have HBIG := Lib.hid hB
  have HT := Lib.hid hT
  clear hM hB hT
  generalize hcs : modCells m (.slice A1 m.types.length c1) (.slice A2 m.imports.length c2) (.slice A3 m.funcs.length c3) (.slice A4 m.tables.length c4) (.slice A5 m.mems.length c5) (.slice A6 m.globals.length c6) (.slice A7 m.exports.length c7) (.slice A9 m.elems.length c9) (.slice A10 m.codes.length c10) (.slice A11 m.datas.length c11) = cs
  have HG : Hid (∀ W, Below w.heap.size w W → Calls Tryz.prog 7 #[.agg cs] W fun e w' => ∃ g : Bool, e = .returned (.bool g) ∧ Below W.heap.size W w' ∧ (g = false → Small m)) := Lib.hid (fun W hb => by
    subst hcs
    exact bgreat_any m _ _ _ _ _ _ _ _ _ _ W ((HM.out.on hb).more' (fun k hk => Nat.lt_of_lt_of_le hk hb.size)) HBIG.out)
  have HEN : Hid (Small m → ∀ W, Below w.heap.size w W → Calls Tryz.prog 8 #[.agg cs] W (EncPost m W)) := Lib.hid (fun hS W hb => by
    subst hcs
    exact HE.out m _ _ _ _ _ _ _ _ _ _ W ((HM.out.on hb).more' (fun k hk => Nat.lt_of_lt_of_le hk hb.size)) (Small.fits hS) (HT.out.on hb))
  have HRF : Hid (Small m → ∀ W, Below w.heap.size w W → Calls Tryz.prog 9 #[.agg cs] W (EncPost m W)) := Lib.hid (fun hS W hb => by
    subst hcs
    exact rencode_any m _ _ _ _ _ _ _ _ _ _ W ((HM.out.on hb).more' (fun k hk => Nat.lt_of_lt_of_le hk hb.size)) hS)
  unfold modCells at hcs
  obtain ⟨n1, hn1⟩ : ∃ n, m.types.length = n := ⟨_, rfl⟩
  rw [hn1] at hcs
  clear hn1
  obtain ⟨n2, hn2⟩ : ∃ n, m.imports.length = n := ⟨_, rfl⟩
  rw [hn2] at hcs
  clear hn2
  obtain ⟨n3, hn3⟩ : ∃ n, m.funcs.length = n := ⟨_, rfl⟩
  rw [hn3] at hcs
  clear hn3
  obtain ⟨n4, hn4⟩ : ∃ n, m.tables.length = n := ⟨_, rfl⟩
  rw [hn4] at hcs
  clear hn4
  obtain ⟨n5, hn5⟩ : ∃ n, m.mems.length = n := ⟨_, rfl⟩
  rw [hn5] at hcs
  clear hn5
  obtain ⟨n6, hn6⟩ : ∃ n, m.globals.length = n := ⟨_, rfl⟩
  rw [hn6] at hcs
  clear hn6
  obtain ⟨n7, hn7⟩ : ∃ n, m.exports.length = n := ⟨_, rfl⟩
  rw [hn7] at hcs
  clear hn7
  obtain ⟨n9, hn9⟩ : ∃ n, m.elems.length = n := ⟨_, rfl⟩
  rw [hn9] at hcs
  clear hn9
  obtain ⟨n10, hn10⟩ : ∃ n, m.codes.length = n := ⟨_, rfl⟩
  rw [hn10] at hcs
  clear hn10
  obtain ⟨n11, hn11⟩ : ∃ n, m.datas.length = n := ⟨_, rfl⟩
  rw [hn11] at hcs
  clear hn11
  generalize m.hasStart = hs at hcs
  generalize (m.start : Int) = st at hcs
  subst hcs
  have HX0 := Lib.hid (heap_alloc_new w (.cells #[.slice A1 n1 c1, .slice A2 n2 c2, .slice A3 n3 c3, .slice A4 n4 c4, .slice A5 n5 c5, .slice A6 n6 c6, .slice A7 n7 c7, .bool hs, .int .u32 st, .slice A9 n9 c9, .slice A10 n10 c10, .slice A11 n11 c11] 33))
  have HB0 : Hid (Below w.heap.size w (w.alloc (.cells #[.slice A1 n1 c1, .slice A2 n2 c2, .slice A3 n3 c3, .slice A4 n4 c4, .slice A5 n5 c5, .slice A6 n6 c6, .slice A7 n7 c7, .bool hs, .int .u32 st, .slice A9 n9 c9, .slice A10 n10 c10, .slice A11 n11 c11] 33))) := Lib.hid ((Below.refl _ _).alloc (Nat.le_refl _) _)
  have HS0 : Hid ((w.alloc (.cells #[.slice A1 n1 c1, .slice A2 n2 c2, .slice A3 n3 c3, .slice A4 n4 c4, .slice A5 n5 c5, .slice A6 n6 c6, .slice A7 n7 c7, .bool hs, .int .u32 st, .slice A9 n9 c9, .slice A10 n10 c10, .slice A11 n11 c11] 33)).heap.size = w.heap.size + 1) := Lib.hid (by simp)
  go_enter Tryz.func3, Tryz.ntmps3
  go_upto_region 1 with fail
  generalize w.alloc (.cells #[.slice A1 n1 c1, .slice A2 n2 c2, .slice A3 n3 c3, .slice A4 n4 c4, .slice A5 n5 c5, .slice A6 n6 c6, .slice A7 n7 c7, .bool hs, .int .u32 st, .slice A9 n9 c9, .slice A10 n10 c10, .slice A11 n11 c11] 33) = w0 at HX0 HB0 HS0 ⊢
  obtain ⟨X1, hX1⟩ : ∃ X, w.heap.size = X := ⟨_, rfl⟩
  have HXB : Hid (∀ W, Below w0.heap.size w0 W → CellsM W X1 A1 A2 A3 A4 A5 A6 A7 A9 A10 A11 n1 c1 n2 c2 n3 c3 n4 c4 n5 c5 n6 c6 n7 c7 n9 c9 n10 c10 n11 c11 hs st) := Lib.hid (fun W hb => by
    have h := (hb.block w.heap.size (by have := HS0.out; omega)).trans HX0.out
    rw [hX1] at h
    exact ⟨by rw [cell_of_row W _ 0 _ _ (0, 0) h]; rfl, by rw [cell_of_row W _ 1 _ _ (0, 0) h]; rfl, by rw [cell_of_row W _ 2 _ _ (0, 0) h]; rfl, by rw [cell_of_row W _ 3 _ _ (0, 0) h]; rfl, by rw [cell_of_row W _ 4 _ _ (0, 0) h]; rfl, by rw [cell_of_row W _ 5 _ _ (0, 0) h]; rfl, by rw [cell_of_row W _ 6 _ _ (0, 0) h]; rfl, by rw [cell_of_row W _ 7 _ _ (0, 0) h]; rfl, by rw [cell_of_row W _ 8 _ _ (0, 0) h]; rfl, by rw [cell_of_row W _ 9 _ _ (0, 0) h]; rfl, by rw [cell_of_row W _ 10 _ _ (0, 0) h]; rfl, by rw [cell_of_row W _ 11 _ _ (0, 0) h]; rfl⟩)
  simp only [hX1]
  clear HX0 HS0 hX1
  obtain ⟨a0, a1, a2, a3, a4, a5, a6, a7, a8, a9, a10, a11⟩ := HXB.out w0 (Below.refl _ _)
  go_upto_region 3 with (go_at_call 6; refine (HKN.out _ HB0.out).mono ?_; rintro e w1 ⟨rfl, hb⟩; have HB1 := Lib.hid hb; have HW1 := Lib.hid (HB0.out.trans (hb.mono HB0.out.size)); clear a0 a1 a2 a3 a4 a5 a6 a7 a8 a9 a10 a11; obtain ⟨b0, b1, b2, b3, b4, b5, b6, b7, b8, b9, b10, b11⟩ := HXB.out w1 hb; clear hb)
  go_cut [10] from 9 to 10 (fun s wx => ∃ g : Bool, s = .bool g ∧ Hid (Below w0.heap.size w0 wx) ∧ Hid (Below w.heap.size w wx) ∧ Hid (g = false → Small m))
  case first =>
    go_wp2_with (go_at_call 7; refine (HG.out _ HW1.out).mono ?_; rintro e w2 ⟨g, rfl, hb, hsm⟩; have HB2 := Lib.hid (HB1.out.trans (hb.mono HB1.out.size)); have HW2 := Lib.hid (HW1.out.trans (hb.mono HW1.out.size)); have HSM := Lib.hid hsm; clear b0 b1 b2 b3 b4 b5 b6 b7 b8 b9 b10 b11 hb hsm)
    go_meet
    case rel => exact ⟨g, rfl, HB2, HW2, HSM⟩
  case rest =>
    obtain ⟨g, rfl, HB2, HW2, HSM⟩ := hcut
    clear HB1 HW1 b0 b1 b2 b3 b4 b5 b6 b7 b8 b9 b10 b11
    cases g with
    | true =>
      go_wp2_with fail
      go_ret
      exact ⟨rfl, HW2.out⟩
    | false =>
      have HSMALL := Lib.hid (HSM.out rfl)
      clear HSM
      obtain ⟨d0, d1, d2, d3, d4, d5, d6, d7, d8, d9, d10, d11⟩ := HXB.out wc HB2.out
      cases hen : encode m with
      | error k =>
        have HERR := Lib.hid hen
        have hk := encode_err hen
        clear hen
        rcases hk with rfl | rfl
        all_goals
          go_upto_region 6 with (go_at_call 8; refine (HEN.out HSMALL.out _ HW2.out).mono ?_; intro e w3 hp; obtain ⟨rfl, hb⟩ := encPost_err hp HERR.out; have HB3 := Lib.hid (HB2.out.trans (hb.mono HB2.out.size)); have HW3 := Lib.hid (HW2.out.trans (hb.mono HW2.out.size)); clear d0 d1 d2 d3 d4 d5 d6 d7 d8 d9 d10 d11; obtain ⟨f0, f1, f2, f3, f4, f5, f6, f7, f8, f9, f10, f11⟩ := HXB.out w3 HB3.out; clear hp hb)
          go_upto_region 7 with (go_at_call 9; refine (HRF.out HSMALL.out _ HW3.out).mono ?_; intro e w4 hp; obtain ⟨rfl, hb⟩ := encPost_err hp HERR.out; have HW4 := Lib.hid (HW3.out.trans (hb.mono HW3.out.size)); clear hp hb)
          have cv0 := run_str (Has.nil w4 w4.heap.size none) (show 0 = ([] : List UInt8).length from rfl) 0
          go_wp2_with fail
          go_ret
          exact ⟨rfl, HW4.out⟩
      | ok b =>
        have HOK := Lib.hid hen
        obtain ⟨nb, hnb⟩ : ∃ n, b.length = n := ⟨_, rfl⟩
        have HNB := Lib.hid hnb
        clear hen hnb
        obtain ⟨W0, hW0⟩ : ∃ W0 : ByteArray, W0 = ⟨b.toArray⟩ := ⟨_, rfl⟩
        have HWW := Lib.hid hW0
        clear hW0
        go_upto_region 6 with (go_at_call 8; refine (HEN.out HSMALL.out _ HW2.out).mono ?_; intro e w3 hp; obtain ⟨A3', c3', rfl, _, _, _, hh, hb⟩ := encPost_good hp HOK.out; rw [HNB.out]; have HH3 := Lib.hid hh; have HB3 := Lib.hid (HB2.out.trans (hb.mono HB2.out.size)); have HW3 := Lib.hid (HW2.out.trans (hb.mono HW2.out.size)); clear d0 d1 d2 d3 d4 d5 d6 d7 d8 d9 d10 d11; obtain ⟨f0, f1, f2, f3, f4, f5, f6, f7, f8, f9, f10, f11⟩ := HXB.out w3 HB3.out; clear hp hb hh)
        go_upto_region 7 with (go_at_call 9; refine (HRF.out HSMALL.out _ HW3.out).mono ?_; intro e w4 hp; obtain ⟨A4', c4', rfl, _, _, _, hh, hb⟩ := encPost_good hp HOK.out; rw [HNB.out]; have cv1 := run_str (HH3.out.on hb) HNB.out.symm c3'; have cv2 := run_str hh HNB.out.symm c4'; rw [← HWW.out] at cv1 cv2; have HW4 := Lib.hid (HW3.out.trans (hb.mono HW3.out.size)); clear hp hb hh)
        go_wp2_with fail
        go_ret
        exact ⟨rfl, HW4.out⟩
end Go.Proofs.YtgnbkfkiigcdgaaGreatDoor
/-
  A module handed in by value, opened.
-/
namespace Go.Proofs.YtgnbkfkiigcdgaaGreatDoor
open Go.RowKit Ins Bin
open Go.ChangeShapes Go.WideShapes Go.ChangeAt Go.Deep
set_option maxRecDepth 100000
def isStructD : Option TypeDesc → Bool
  | some (.struct _) => true
  | _ => false
theorem o_undM' : isStructD (Tryz.prog.underlying 33) = true := by kernel_rfl
theorem o_undM : ∃ fs, Tryz.prog.underlying 33 = some (.struct fs) := by
  have h := o_undM'
  generalize Tryz.prog.underlying 33 = x at h
  unfold isStructD at h
  split at h
  · exact ⟨_, rfl⟩
  · cases h
section
variable {H : Type} {enc : TypeId × Value → H} {W : World}
theorem open_mod {base : Nat} {v : Value} {d : DataW H} {p : List MemPlace} (hval : Value.okWide Tryz.prog W .any base 33 v) (h : DataW.Trod enc Tryz.prog W 0 (fun _ => true) true 33 v d p) (hs : ∀ k ∈ d.weights Tryz.prog 33, k ≤ reachBytes) :
    ∃ (m : M) (v1 v2 v3 v4 v5 v6 v7 v8 v9 v10 : Value), v = .agg (modCells m v1 v2 v3 v4 v5 v6 v7 v8 v9 v10) ∧ RepM W (· < W.heap.size) m v1 v2 v3 v4 v5 v6 v7 v8 v9 v10 ∧ BigM m := by
  obtain ⟨fs, hu⟩ := o_undM
  obtain ⟨cs, rfl, _⟩ := okWide_struct hu hval
  obtain ⟨fuel, hf⟩ := h
  obtain ⟨m, v1, v2, v3, v4, v5, v6, v7, v8, v9, v10, hcs, h1, h2⟩ := open_module ⟨⟨p, hf⟩, hs⟩
  refine ⟨m, v1, v2, v3, v4, v5, v6, v7, v8, v9, v10, ?_, h1, h2⟩
  have hc : cs.toList = (modCells m v1 v2 v3 v4 v5 v6 v7 v8 v9 v10).toList := by rw [← hcs]; simp [Value.cells]
  rw [Array.toList_inj.1 hc]
end
end Go.Proofs.YtgnbkfkiigcdgaaGreatDoor
/-
  What a row that lists unicode/utf8's two tables gives a walk; the witness: a world in which both tables lie as the rows list them.
-/
namespace Go.Proofs.YtgnbkfkiigcdgaaGreatDoor
open Go.RowKit
open Go.ChangeShapes Go.WideShapes Go.ChangeAt
def tabs : List (String × DataW Unit) := [("unicode/utf8.acceptRanges", Rows.laid_unicode_utf8_acceptRanges), ("unicode/utf8.first", Rows.laid_unicode_utf8_first)]
/-- The library's numbers, as this program has them. -/
def rho : Go.Shelf.Ren := ⟨fun x => x, fun n => if n = 5 then 5 else if n = 119 then 218 else if n = 138 then 220 else 221, fun n => if n = 3 then 0 else 1⟩
theorem types_rho : U8Types Tryz.prog rho := ⟨by kernel_rfl, by kernel_rfl, by kernel_rfl, by kernel_rfl⟩
theorem extra_rho : U8Extra Tryz.prog rho := ⟨by kernel_rfl, by kernel_rfl, by kernel_rfl, by kernel_rfl, by kernel_rfl, by kernel_rfl, by kernel_rfl⟩
theorem first_is : Rows.laid_unicode_utf8_first = Lib.firstData := by kernel_rfl
theorem accept_is : (Rows.laid_unicode_utf8_acceptRanges : DataW Unit) = Lib.acceptData := by kernel_rfl
theorem tb_of_laid {W : World} (h : laidMetH Tryz.prog tabs W) : Tb W := by
  rw [MakeChecks.laidMetH_plain _ _ _ (by kernel_rfl)] at h
  have h1 := Lib.laidMet.reads h (n := "unicode/utf8.first") (d := Rows.laid_unicode_utf8_first) (.tail _ (.head _))
  have h2 := Lib.laidMet.reads h (n := "unicode/utf8.acceptRanges") (d := Rows.laid_unicode_utf8_acceptRanges) (.head _)
  rw [first_is] at h1
  rw [accept_is] at h2
  have ht : Lib.Utf8Tabs 0 1 W := utf8Tabs_of_readsT types_rho extra_rho h1 h2
  have hc := (ht.2 0 (by decide)).1
  have hlt := cell_lt hc
  have hlt2 : 1 < W.heap.size := by simpa using hlt
  exact ⟨ht, hlt2⟩
/-- The witness's world. -/
noncomputable def tabWorld (os : Os) : World :=
  let w0 := World.holding Tryz.prog os ⟨#[], #[], []⟩
  let lay (h : Array Obj) (g : Nat) (cs : Array Value) : Array Obj := h.modify g fun
    | .cells _ t fr => .cells cs t fr
    | o => o
  { w0 with heap := lay (lay w0.heap 0 (Lib.firstTab.map fun z => Value.int .u8 z).toArray) 1 ((List.range 16).flatMap fun i => [Value.int .u8 (Lib.accLo i), Value.int .u8 (Lib.accHi i)]).toArray }
theorem tabWorld_met (os : Os) (args : Array Value) : laidMetH Tryz.prog tabs ((tabWorld os).forCall (fun _ _ => 0) ⟨#[], args, []⟩).memory :=
  laidMetH_of_parts3 (fuel := 8) (laidMet_of_run' 8 (by kernel_rfl) (by kernel_rfl)) (by kernel_rfl) (by kernel_rfl)
end Go.Proofs.YtgnbkfkiigcdgaaGreatDoor
/-
  PROVED (a tied card): for every module the statement EncBytes answers true, and each argument reads afterwards as it read before. Conditions: the given row's own (unicode/utf8's two tables lie as the program's text lays them; the card ties them), over a pruned copy of the project.
-/
namespace Go.Proofs.YtgnbkfkiigcdgaaGreatDoor
open Go.RowKit
open Go.ChangeShapes Go.WideShapes Go.ChangeAt
set_option maxRecDepth 100000 in
theorem liftedEncBytes (hen : EncOk) (os : Os) (started : os.Started) (H : Type) (enc : TypeId × Value → H) :
    ReturnsInHanded {} Tryz.checked os 3 .any (fun w args => (Rows.encBytesSpec.pre enc Tryz.prog Tryz.f3 [] false w args ∧ laidMetH Tryz.prog tabs w) ∧ sizedMet enc Tryz.prog Tryz.f3 (OpenSpec.ofChange Rows.encBytesSpec) false w args) (Rows.encBytesSpec.post enc Tryz.prog Tryz.f3 false true false false) := by
  refine returnsInHanded_of_change_and (C := Tryz.checked) (X := fun w _ => laidMetH Tryz.prog tabs w) (fun _ _ _ hh h => h.of_heap hh) own started (by kernel_rfl) Tryz.func3
    (ChangeSpec.witness_at (enc := enc) (C := Tryz.checked) (os := os) (X := fun w _ => laidMetH Tryz.prog tabs w) false (tabWorld os) #[.agg #[.slice none 0 0, .slice none 0 0, .slice none 0 0, .slice none 0 0, .slice none 0 0, .slice none 0 0, .slice none 0 0, .bool false, .int .u32 0, .slice none 0 0, .slice none 0 0, .slice none 0 0]] 8 rfl (by kernel_rfl) (by kernel_rfl) (by kernel_rfl) (by kernel_rfl) (by kernel_rfl) (tabWorld_met os _)) ?_
  intro W base args ds gs before hval0 hW _ hsz hL _
  have hval : ∀ (j : Nat) t v, Tryz.f3.params[j]? = some t → args[j]? = some v → Value.okWide Tryz.prog W .any base t v := hval0
  have hW' := hW
  obtain ⟨p, q, hA0, hV, rfl, hfz, hnd⟩ := hW
  have hA : DataW.TrodAll enc Tryz.prog W 0 (fun _ => true) true Tryz.f3.params.toList args.toList ds p := hA0
  rw [Tryz.params3] at hA hval
  obtain ⟨v0, vs0, d0, ds0, p0, q0, hargs, rfl, rfl, h0, r0⟩ := trodAll_cons hA
  obtain ⟨rfl, rfl, rfl⟩ := trodAll_nil r0
  obtain rfl : args = #[v0] := by cases args; simp_all
  obtain ⟨m0, u1, u2, u3, u4, u5, u6, u7, u8, u9, u10, rfl, hM0, hB0⟩ := open_mod (hval 0 33 v0 rfl rfl) h0 (fun k hk => by
    have h := List.all_eq_true.1 hsz k (DataW.weights_mem_each (j := 0) (t := 33) rfl rfl k hk)
    simpa using h)
  refine (encBytes_any hen m0 u1 u2 u3 u4 u5 u6 u7 u8 u9 u10 W hM0 hB0 (tb_of_laid hL)).mono fun e W' ⟨he, hb⟩ => ?_
  subst he
  exact ⟨_, rfl, law_post (P := Tryz.prog) (f := Tryz.f3) (s := Rows.encBytesSpec) laid (by kernel_rfl) rfl rfl und4 hW' rfl hb⟩
theorem overEncBytes (hen : EncOk) : Rows.encBytesRow.holds Tryz.pinned (OpenSpec.ofChange Rows.encBytesSpec) :=
  OpenClaim.holds_of_wide 3 Tryz.f3 rfl rfl rfl rfl rfl rfl rfl ⟨rfl, rfl, rfl, rfl, rfl⟩ rfl rfl rfl rfl rfl (by kernel_rfl) Tryz.func3 (by kernel_rfl)
    (of_decide_eq_true (by kernel_rfl)) (by unfold Func.isWrapper; first | (rw [if_pos (by decide +kernel)]; kernel_rfl) | (rw [if_neg (by decide +kernel)]; exact ⟨rfl, rfl⟩))
    (fun os started H enc _ => liftedEncBytes hen os started H enc)
theorem encBytes_of (hen : EncOk) : Rows.EncBytesCardSaid :=
  Claim7.holds_tied_plain_at .later [] _ true _ _
    (overEncBytes hen) (fun _ h => by cases h) (by kernel_rfl) (fun _ h => by cases h) encBytes_row_tie rfl ⟨rfl, rfl⟩ (by kernel_rfl) rfl
    (fun f fn hf hfn => by
      obtain rfl : f = 3 := Option.some.inj (hf.symm.trans (show Tryz.prog.funcNamed "gabelle/gabellelaw07.EncBytes" = some 3 by kernel_rfl))
      obtain rfl : fn = Tryz.f3 := Option.some.inj (hfn.symm.trans Tryz.func3)
      refine ⟨by kernel_rfl, fun j t ht => ?_⟩
      rw [Tryz.params3] at ht
      have hm : t ∈ [33] := by
        have := Array.mem_of_getElem? ht
        simp at this
        simp
        omega
      have hall : ([33].all fun u => !Tryz.prog.wantsStandIn u) = true := by kernel_rfl
      have := List.all_eq_true.1 hall t hm
      have h2 : Tryz.prog.wantsStandIn t = false := by simpa using this
      exact h2)
    (by kernel_rfl)
#print axioms encBytes_of
end Go.Proofs.YtgnbkfkiigcdgaaGreatDoor
