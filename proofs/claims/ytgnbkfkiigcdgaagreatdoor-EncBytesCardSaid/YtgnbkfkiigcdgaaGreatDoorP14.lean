/-
  Plain mathematics of the document's answer for layer 7: a section's entries, each with its bytes; what they say of a module's binary.
-/
import Derived.Test.YtgnbkfkiigcdgaaGreatDoorP05
import Derived.Test.YtgnbkfkiigcdgaaGreatDoorP12
namespace Bin
open Leb Ins Sec
def ftOk (x : FT) : Bool := x.params.all whole1 && x.results.all whole1
def gvOk (x : GV) : Bool := whole1 x.type.t && Ins.exprB x.init
def expOk (x : Exp) : Bool := decide (x.kind.toNat < 4) && U8.text x.name
def elOk (x : El) : Bool := Ins.exprB x.off
def daOk (x : Da) : Bool := Ins.exprB x.off
def limOk (x : Lim) : Bool := decide (-1 ≤ x.max) && decide (x.max ≤ 4294967295)
/-- A section's entries: has it bytes, and which. -/
def rows (m : M) (id : Nat) : List (Bool × List UInt8) :=
  if id = 1 then m.types.map (fun x => (ftOk x, encFT x)) else if id = 2 then m.imports.map (fun x => (impOk x, encImp x)) else if id = 3 then m.funcs.map (fun x => (true, encU x))
  else if id = 4 then m.tables.map (fun x => (limOk x, encTable x)) else if id = 5 then m.mems.map (fun x => (limOk x, encLim x)) else if id = 6 then m.globals.map (fun x => (gvOk x, encGV x))
  else if id = 7 then m.exports.map (fun x => (expOk x, encExp x)) else if id = 8 then [] else if id = 9 then m.elems.map (fun x => (elOk x, encEl x)) else if id = 10 then m.codes.map (fun x => (cdOk x, encCd x))
  else m.datas.map (fun x => (daOk x, encDa x))
/-- What memory gives of a module by itself: its numbers are of 32 bits, its instructions are instructions. -/
structure Fine (m : M) : Prop where
  imports : ∀ x ∈ m.imports, x.type < 4294967296 ∧ x.lim.min < 4294967296
  funcs : ∀ x ∈ m.funcs, x < 4294967296
  tables : ∀ x ∈ m.tables, x.min < 4294967296
  mems : ∀ x ∈ m.mems, x.min < 4294967296
  globals : ∀ x ∈ m.globals, ∀ y ∈ x.init, y.wf
  exports : ∀ x ∈ m.exports, x.index < 4294967296
  start : m.start < 4294967296
  elems : ∀ x ∈ m.elems, x.table < 4294967296 ∧ (∀ y ∈ x.off, y.wf) ∧ ∀ y ∈ x.funcs, y < 4294967296
  codes : ∀ x ∈ m.codes, (∀ y ∈ x.locals, y.n < 4294967296) ∧ ∀ y ∈ x.body, y.wf
  datas : ∀ x ∈ m.datas, x.mem < 4294967296 ∧ ∀ y ∈ x.off, y.wf
theorem okExpr_iff {xs : List I} (h : ∀ y ∈ xs, y.wf) : okExpr xs ↔ exprB xs = true := by
  unfold okExpr exprB
  simp only [Bool.and_eq_true, beq_iff_eq]
  exact ⟨fun e => ⟨e.1, e.2.2⟩, fun e => ⟨e.1, h, e.2⟩⟩
theorem okLim_iff {x : Lim} (h : x.min < 4294967296) : okLim x ↔ limOk x = true := by
  unfold okLim limOk
  simp only [Bool.and_eq_true, decide_eq_true_eq]
  exact ⟨fun e => e.2, fun e => ⟨h, e⟩⟩
theorem okFT_iff {x : FT} : okFT x ↔ ftOk x = true := by
  unfold okFT ftOk okT
  simp only [Bool.and_eq_true, List.all_eq_true]
theorem okGV_iff {x : GV} (h : ∀ y ∈ x.init, y.wf) : okGV x ↔ gvOk x = true := by
  unfold okGV gvOk okGlob okT
  rw [okExpr_iff h, Bool.and_eq_true]
theorem okExp_iff {x : Exp} (h : x.index < 4294967296) : okExp x ↔ expOk x = true := by
  unfold okExp expOk okName okNum
  simp only [Bool.and_eq_true, decide_eq_true_eq]
  constructor
  · exact fun e => ⟨by omega, e.1⟩
  · exact fun e => ⟨e.2, by omega, h⟩
theorem okEl_iff {x : El} (h : x.table < 4294967296 ∧ (∀ y ∈ x.off, y.wf) ∧ ∀ y ∈ x.funcs, y < 4294967296) : okEl x ↔ elOk x = true := by
  unfold okEl elOk okNum
  rw [okExpr_iff h.2.1]
  exact ⟨fun e => e.2.1, fun e => ⟨h.1, e, h.2.2⟩⟩
theorem okDa_iff {x : Da} (h : x.mem < 4294967296 ∧ ∀ y ∈ x.off, y.wf) : okDa x ↔ daOk x = true := by
  unfold okDa daOk okNum
  rw [okExpr_iff h.2]
  exact ⟨fun e => e.2, fun e => ⟨h.1, e⟩⟩
theorem okCd_iff {x : Cd} (h : (∀ y ∈ x.locals, y.n < 4294967296) ∧ ∀ y ∈ x.body, y.wf) : okCd x ↔ cdOk x = true := by
  unfold okCd cdOk okLc okNum okT
  rw [okExpr_iff h.2]
  simp only [Bool.and_eq_true, List.all_eq_true, decide_eq_true_eq]
  constructor
  · exact fun e => ⟨⟨fun y hy => (e.1 y hy).2, e.2.2⟩, by omega⟩
  · exact fun e => ⟨fun y hy => ⟨h.1 y hy, e.1.1 y hy⟩, by omega, e.1.2⟩
theorem okMore_iff {x : Imp} (h : x.type < 4294967296 ∧ x.lim.min < 4294967296) : okMore x ↔ moreOk x = true := by
  unfold okMore moreOk okNum okGlob okT
  rw [okLim_iff h.2]
  unfold limOk
  by_cases h0 : x.kind = 0
  · simp [h0, h.1]
  · by_cases h1 : x.kind = 1
    · simp [h1, and_assoc]
    · by_cases h2 : x.kind = 2
      · simp [h2, and_assoc]
      · by_cases h3 : x.kind = 3
        · simp [h3, and_assoc]
        · simp [h0, h1, h2, h3]
theorem okImp_iff {x : Imp} (h : x.type < 4294967296 ∧ x.lim.min < 4294967296) : okImp x ↔ impOk x = true := by
  unfold okImp impOk okName
  rw [okMore_iff h]
  simp only [Bool.and_eq_true, and_assoc]
theorem rows_all {α : Type} {xs : List α} {f : α → Bool} {e : α → List UInt8} {ok : α → Prop} (h : ∀ x ∈ xs, (ok x ↔ f x = true)) : (∀ x ∈ xs, ok x) ↔ ∀ r ∈ xs.map (fun x => (f x, e x)), r.1 = true := by
  constructor
  · intro g r hr
    obtain ⟨x, hx, rfl⟩ := List.mem_map.1 hr
    exact (h x hx).1 (g x hx)
  · exact fun g x hx => (h x hx).2 (g _ (List.mem_map.2 ⟨x, hx, rfl⟩))
/-- A module has a binary: its entries have. -/
theorem okM_iff {m : M} (h : Fine m) : okM m ↔ (m.codes.length = m.funcs.length ∧ (m.hasStart = false → m.start = 0) ∧ ∀ id ∈ ids, ∀ r ∈ rows m id, r.1 = true) := by
  have r1 := rows_all (xs := m.types) (e := encFT) (fun x _ => okFT_iff (x := x))
  have r2 := rows_all (xs := m.imports) (e := encImp) (fun x hx => okImp_iff (h.imports x hx))
  have r4 := rows_all (xs := m.tables) (e := encTable) (fun x hx => okLim_iff (h.tables x hx))
  have r5 := rows_all (xs := m.mems) (e := encLim) (fun x hx => okLim_iff (h.mems x hx))
  have r6 := rows_all (xs := m.globals) (e := encGV) (fun x hx => okGV_iff (h.globals x hx))
  have r7 := rows_all (xs := m.exports) (e := encExp) (fun x hx => okExp_iff (h.exports x hx))
  have r9 := rows_all (xs := m.elems) (e := encEl) (fun x hx => okEl_iff (h.elems x hx))
  have r10 := rows_all (xs := m.codes) (e := encCd) (fun x hx => okCd_iff (h.codes x hx))
  have r11 := rows_all (xs := m.datas) (e := encDa) (fun x hx => okDa_iff (h.datas x hx))
  constructor
  · intro g
    refine ⟨g.many, g.start.2, fun id hid => ?_⟩
    rcases id_cases hid with rfl | rfl | rfl | rfl | rfl | rfl | rfl | rfl | rfl | rfl | rfl
    · exact r1.1 g.types
    · exact r2.1 g.imports
    · intro r hr
      obtain ⟨x, _, rfl⟩ := List.mem_map.1 hr
      rfl
    · exact r4.1 g.tables
    · exact r5.1 g.mems
    · exact r6.1 g.globals
    · exact r7.1 g.exports
    · exact fun r hr => by cases hr
    · exact r9.1 g.elems
    · exact r10.1 g.codes
    · exact r11.1 g.datas
  · rintro ⟨g1, g2, g3⟩
    exact { types := r1.2 (g3 1 (by decide)), imports := r2.2 (g3 2 (by decide)), funcs := h.funcs, tables := r4.2 (g3 4 (by decide)), mems := r5.2 (g3 5 (by decide)), globals := r6.2 (g3 6 (by decide)), exports := r7.2 (g3 7 (by decide)), start := ⟨h.start, g2⟩, elems := r9.2 (g3 9 (by decide)), codes := r10.2 (g3 10 (by decide)), datas := r11.2 (g3 11 (by decide)), many := g1 }
/-- A section's bytes, off its entries. -/
def rowsB (l : List (Bool × List UInt8)) : List UInt8 := l.flatMap (·.2)
theorem rowsB_map {α : Type} (xs : List α) (f : α → Bool) (e : α → List UInt8) : encU (xs.map (fun x => (f x, e x))).length ++ rowsB (xs.map (fun x => (f x, e x))) = encList e xs := by
  unfold encList rowsB
  rw [List.length_map, List.flatMap_map]
theorem body_rows (m : M) {id : Nat} (hid : id ∈ ids) (h8 : id ≠ 8) : encU (rows m id).length ++ rowsB (rows m id) = body m id := by
  rcases id_cases hid with rfl | rfl | rfl | rfl | rfl | rfl | rfl | rfl | rfl | rfl | rfl
  · exact rowsB_map _ _ _
  · exact rowsB_map _ _ _
  · exact rowsB_map _ _ _
  · exact rowsB_map _ _ _
  · exact rowsB_map _ _ _
  · exact rowsB_map _ _ _
  · exact rowsB_map _ _ _
  · exact absurd rfl h8
  · exact rowsB_map _ _ _
  · exact rowsB_map _ _ _
  · exact rowsB_map _ _ _
theorem cnt_rows (m : M) {id : Nat} (hid : id ∈ ids) (h8 : id ≠ 8) : cnt m id = (rows m id).length := by
  rcases id_cases hid with rfl | rfl | rfl | rfl | rfl | rfl | rfl | rfl | rfl | rfl | rfl
  · simp [cnt, rows]
  · simp [cnt, rows]
  · simp [cnt, rows]
  · simp [cnt, rows]
  · simp [cnt, rows]
  · simp [cnt, rows]
  · simp [cnt, rows]
  · exact absurd rfl h8
  · simp [cnt, rows]
  · simp [cnt, rows]
  · simp [cnt, rows]
/-- What stands behind the sections up to a number. -/
def outTo (m : M) : Nat → List UInt8
  | 0 => begin8
  | k + 1 => outTo m k ++ if 0 < cnt m (k + 1) then Sec.enc ⟨k + 1, body m (k + 1)⟩ else []
theorem flat_filter (m : M) : ∀ l : List Nat, ((l.filter fun i => decide (0 < cnt m i)).map fun i => (⟨i, body m i⟩ : S)).flatMap Sec.enc = l.flatMap fun i => if 0 < cnt m i then Sec.enc ⟨i, body m i⟩ else []
  | [] => rfl
  | i :: l => by
    rw [List.filter_cons]
    split
    · next h =>
      have h' : 0 < cnt m i := by simpa using h
      rw [List.map_cons, List.flatMap_cons, List.flatMap_cons, flat_filter m l, if_pos h']
    · next h =>
      have h' : ¬ 0 < cnt m i := by simpa using h
      rw [List.flatMap_cons, flat_filter m l, if_neg h']
      rfl
theorem outTo_all (m : M) : outTo m 11 = encM m := by
  unfold encM join secsOf Sec.encAll own
  rw [flat_filter]
  simp only [ids, List.flatMap_cons, List.flatMap_nil, List.append_nil, outTo, List.append_assoc]
end Bin
