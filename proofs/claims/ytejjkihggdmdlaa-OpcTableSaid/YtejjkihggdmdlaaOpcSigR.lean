/-
  The document's Sig: what an opcode takes and gives.
-/
import Derived.Test.YtejjkihggdmdlaaOpcSigs
namespace Go.Proofs.Ytejjkihggdmdlaa
open Go.RowKit
/-- What a call of the document's Sig comes to. -/
def SigPostR (p r : List UInt8) (ok : Bool) (w : World) (e : Ending) (w' : World) : Prop :=
  ∃ A B c d, e = .returned (.tuple #[.slice A p.length c, .slice B r.length d, .bool ok]) ∧ Has w' w'.heap.size A p ∧ Has w' w'.heap.size B r ∧ Below w.heap.size w w'
set_option maxRecDepth 100000 in
set_option maxHeartbeats 1000000 in
theorem sigR_no (n : Nat) (w : World) (h : Opc.row? n = Option.none ∨ ∃ r, Opc.row? n = some r ∧ r.sig = [45]) : Calls Try.prog 9 #[.int .u8 (n : Int)] w (SigPostR [] [] false w) := by
  have C : ∀ w, Calls Try.prog 7 #[.int .u8 (n : Int)] w (FindPost (Opc.row? n) w) := row_find n
  rcases h with h | ⟨r, h, hs⟩
  · rw [h] at C
    have C' : ∀ w, Calls Try.prog 7 #[.int .u8 (n : Int)] w fun e w' => e = .returned (.tuple #[.agg #[.int .u8 0, .string ⟨#[]⟩, .int .u8 0, .string ⟨#[]⟩, .int .i64 0], .bool false]) ∧ Below w.heap.size w w' := fun w => C w
    have HC := Lib.hid C'
    clear C C' h
    go_enter Try.func9, Try.ntmps9
    go_wp2_with (refine (HC.out _).mono ?_; rintro e w1 ⟨rfl, hb⟩; have HB := Lib.hid hb; clear hb)
    go_ret3
    exact ⟨none, none, 0, 0, rfl, Has.nil _ _ _, Has.nil _ _ _, HB.out.alloc HB.out.size _⟩
  · rw [h] at C
    have hrc : (rowCells r).toArray = #[.int .u8 (r.op : Int), .string ⟨r.name.toArray⟩, .int .u8 (r.form : Int), .string ⟨#[45]⟩, .int .i64 (r.width : Int)] := by simp [rowCells, hs]
    have C' : ∀ w, Calls Try.prog 7 #[.int .u8 (n : Int)] w fun e w' => e = .returned (.tuple #[.agg #[.int .u8 (r.op : Int), .string ⟨r.name.toArray⟩, .int .u8 (r.form : Int), .string ⟨#[45]⟩, .int .i64 (r.width : Int)], .bool true]) ∧ Below w.heap.size w w' := by
      intro w; have := C w; unfold FindPost at this; rw [Option.getD_some, hrc] at this; exact this
    have HC := Lib.hid C'
    clear C C' h hs hrc
    go_enter Try.func9, Try.ntmps9
    go_wp2_with (refine (HC.out _).mono ?_; rintro e w1 ⟨rfl, hb⟩; have HB := Lib.hid hb; clear hb)
    go_ret3
    exact ⟨none, none, 0, 0, rfl, Has.nil _ _ _, Has.nil _ _ _, HB.out.alloc HB.out.size _⟩
theorem keepR {w2 w w' : World} {b1 : Nat} {v : Value} (h : Below w2.heap.size w2 w ∧ w.cell? ⟨b1, 3, none⟩ = some v) (hb : Below w.heap.size w w') (hlt : b1 < w2.heap.size) : Below w2.heap.size w2 w' ∧ w'.cell? ⟨b1, 3, none⟩ = some v :=
  ⟨h.1.trans (hb.mono h.1.size), (hb.cell (p := ⟨b1, 3, none⟩) (by have := h.1.size; simp; omega)).trans h.2⟩
set_option maxRecDepth 100000 in
set_option maxHeartbeats 1000000 in
theorem sigR_yes (n : Nat) (w : World) (r : Opc.Row) (h : Opc.row? n = some r) (p q : List UInt8) (hs : r.sig = p ++ 62 :: q) (hp : ∀ x ∈ p, x ≠ 62) (hl : p.length + q.length ≤ 100) (h45 : r.sig ≠ [45]) :
    Calls Try.prog 9 #[.int .u8 (n : Int)] w (SigPostR (Opc.letters p) (Opc.letters q) true w) := by
  have C : ∀ w, Calls Try.prog 7 #[.int .u8 (n : Int)] w (FindPost (Opc.row? n) w) := row_find n
  rw [h] at C
  obtain ⟨SG, hSG⟩ : ∃ s : ByteArray, s = ⟨r.sig.toArray⟩ := ⟨_, rfl⟩
  have hrc : (rowCells r).toArray = #[.int .u8 (r.op : Int), .string ⟨r.name.toArray⟩, .int .u8 (r.form : Int), .string SG, .int .i64 (r.width : Int)] := by simp [rowCells, hSG]
  have C' : ∀ w, Calls Try.prog 7 #[.int .u8 (n : Int)] w fun e w' => e = .returned (.tuple #[.agg #[.int .u8 (r.op : Int), .string ⟨r.name.toArray⟩, .int .u8 (r.form : Int), .string SG, .int .i64 (r.width : Int)], .bool true]) ∧ Below w.heap.size w w' := by
    intro w; have := C w; unfold FindPost at this; rw [Option.getD_some, hrc] at this; exact this
  have HC := Lib.hid C'
  have hd : SG.data.toList = p ++ 62 :: q := by rw [hSG]; exact hs
  have hne : (SG.toList == [45]) = false := by
    rw [ByteArray.toList_eq, hd, ← hs]; simpa using h45
  have hsz : SG.size = p.length + q.length + 1 := by
    have : SG.data.toList.length = SG.size := by simp
    rw [← this, hd]; simp; omega
  have HSZ := Lib.hid hsz
  have HD := Lib.hid hd
  clear C C' h hrc hSG hd hsz hs h45
  go_enter Try.func9, Try.ntmps9
  go_wp2_with (refine (HC.out _).mono ?_; rintro e w1 ⟨rfl, hb⟩; have HB := Lib.hid hb; clear hb)
  have HB1 : Hid (Below w.heap.size w (w1.alloc (Obj.cells #[.int .u8 (r.op : Int), .string ⟨r.name.toArray⟩, .int .u8 (r.form : Int), .string SG, .int .i64 (r.width : Int)] 24))) := Lib.hid (HB.out.alloc HB.out.size _)
  have hcell : (w1.alloc (Obj.cells #[.int .u8 (r.op : Int), .string ⟨r.name.toArray⟩, .int .u8 (r.form : Int), .string SG, .int .i64 (r.width : Int)] 24)).cell? ⟨w1.heap.size, 3, none⟩ = some (.string SG) := by simp [go_sem]
  have hlt1 : w1.heap.size < (w1.alloc (Obj.cells #[.int .u8 (r.op : Int), .string ⟨r.name.toArray⟩, .int .u8 (r.form : Int), .string SG, .int .i64 (r.width : Int)] 24)).heap.size := by simp
  generalize (w1.alloc (Obj.cells #[.int .u8 (r.op : Int), .string ⟨r.name.toArray⟩, .int .u8 (r.form : Int), .string SG, .int .i64 (r.width : Int)] 24)) = w2 at HB1 hcell hlt1 ⊢
  generalize w1.heap.size = b1 at hcell hlt1 ⊢
  clear HB
  go_loop [7] (fun i => ∃ k : Nat, k ≤ p.length ∧ i = .int .i64 (k : Int)) (fun i => p.length - (intOf i).toNat)
  case atStart => exact ⟨0, by omega, rfl⟩
  case round =>
    obtain ⟨k, hk, rfl⟩ := hrel
    have hks : k < SG.size := by have := HSZ.out; omega
    by_cases hlt : k < p.length
    · have hx : ((SG[k].toNat : Int) == 62) = false := by
        have e1 : SG.data.toList[k]? = some SG[k] := by rw [List.getElem?_eq_getElem (by simpa using hks)]; rfl
        rw [HD.out, List.getElem?_append_left hlt, List.getElem?_eq_getElem hlt] at e1
        injection e1 with e1
        rw [← e1]
        have := hp p[k] (List.getElem_mem hlt)
        simp only [beq_eq_false_iff_ne, ne_eq]
        intro h
        exact this (UInt8.toNat_inj.1 (by have : (62 : UInt8).toNat = 62 := rfl; omega))
      go_wp2_with fail
      go_round
      case rel => exact ⟨k + 1, by omega, by go_num⟩
      case measure => simp [intOf]; omega
    · have hx : ((SG[k].toNat : Int) == 62) = true := by
        have e1 : SG.data.toList[k]? = some SG[k] := by rw [List.getElem?_eq_getElem (by simpa using hks)]; rfl
        have hkp : k - p.length = 0 := by omega
        rw [HD.out, List.getElem?_append_right (by omega), hkp] at e1
        simp at e1
        simp [← e1]
      have HK := Lib.hid (show k = p.length by omega)
      have HL := Lib.hid hl
      clear hlt hl hk hp
      have hpl : (k : Int) < 1000 := by have := HK.out; have := HL.out; omega
      have hp0 : (0 : Int) ≤ (k : Int) := by omega
      have hp1 : IntKind.i64.wrap ((k : Int) + 1) = (k : Int) + 1 := IntWalk.i64_in _ (by omega)
      have hp2 : ((k : Int) + 1).toNat = k + 1 := by omega
      have hp3 : (k : Int) + 1 ≤ (SG.size : Int) := by omega
      have hp4 : (0 : Int) ≤ (k : Int) + 1 := by omega
      have hp5 : (k : Int) ≤ (SG.size : Int) := by omega
      have hsz : SG.size ≤ 101 := by have := HSZ.out; have := HL.out; omega
      have tok1 : True := trivial
      go_wp2_with fail
      go_region_held3 (fun w' => Below w2.heap.size w2 w' ∧ w'.cell? ⟨b1, 3, none⟩ = some (.string SG)) (first | exact ⟨Below.drew (Below.refl _ _), by simpa using hcell⟩ | exact keepR (by assumption) hb4 hlt1 | exact keepR (by assumption) hb3 hlt1)
        (first | ((go_at_call 23; clear tok1; refine (types_any _ (by simp only [ByteArray.size_extract]; omega) _).mono ?_; rintro e w3 ⟨v3, rfl, ho3, hb3⟩)) | ((go_at_call 23; refine (types_any _ (by simp only [ByteArray.size_extract]; omega) _).mono ?_; rintro e w4 ⟨v4, rfl, ho4, hb4⟩)))
      have e1 : (SG.extract 0 k).data.toList = p := by
        rw [Lib.extract_data, HD.out, HK.out]; simp
      have e2 : (SG.extract (k + 1) SG.size).data.toList = q := by
        rw [Lib.extract_to_end, HD.out, HK.out, show p ++ 62 :: q = (p ++ [62]) ++ q by simp]
        exact List.drop_left' (by simp)
      rw [e1] at ho3
      rw [e2] at ho4
      have z1 : (SG.extract 0 k).size = (Opc.letters p).length := by
        have := congrArg List.length e1; simp at this; simp [Opc.letters]; omega
      have z2 : (SG.extract (k + 1) SG.size).size = (Opc.letters q).length := by
        have := congrArg List.length e2; simp at this; simp [Opc.letters]; omega
      rw [z1] at ho3
      rw [z2] at ho4
      obtain ⟨A3, c3, rfl, _, _, hh3⟩ := Has.own ho3
      obtain ⟨A4, c4, rfl, _, _, hh4⟩ := Has.own ho4
      have hf : Below w2.heap.size w2 w4 ∧ w4.cell? ⟨b1, 3, none⟩ = some (.string SG) := by assumption
      have hfin : SigPostR (Opc.letters p) (Opc.letters q) true w (.returned (.tuple #[.slice A3 (Opc.letters p).length c3, .slice A4 (Opc.letters q).length c4, .bool true])) w4 := ⟨A3, A4, c3, c4, rfl, hh3.on hb4, hh4, HB1.out.trans (hf.1.mono HB1.out.size)⟩
      go_wp2
      go_ret3
      exact hfin
end Go.Proofs.Ytejjkihggdmdlaa
