/-
  What Decode of layer 6 must do, as a statement that the walks over layer 6's laws take as given; whole and plain of the laws.
-/
import Derived.Test.YtaloenmpidbhlaaDoorBinLay
import Derived.Test.YtaloenmpidbhlaaDoorNmTake
import Derived.Test.YtaloenmpidbhlaaDoorOpcPure
namespace Go.Proofs.YtaloenmpidbhlaaDoor
open Go.RowKit Ins Bin
theorem RepM.more {S S' : Nat → Prop} {w : World} {m : M} {v1 v2 v3 v4 v5 v6 v7 v8 v9 v10 : Value} (h : RepM w S m v1 v2 v3 v4 v5 v6 v7 v8 v9 v10) (hs : ∀ k, k < w.heap.size → S k → S' k) : RepM w S' m v1 v2 v3 v4 v5 v6 v7 v8 v9 v10 :=
  ⟨h.types.more hs, h.imports.more hs, h.funcs.more hs, h.tables.more hs, h.mems.more hs, h.globals.more hs, h.exports.more hs, h.start, h.elems.more hs, h.codes.more hs, h.datas.more hs⟩
/-- What a call of Decode comes to: the module lies in memory of its own. -/
def DPost (l : List UInt8) (w : World) (e : Ending) (w' : World) : Prop :=
  Below w.heap.size w w' ∧ match dec l with
    | .error k => ∃ v, e = .returned (.tuple #[v, .int .i64 (k : Int)]) ∧ ModV w' (fun b => w.heap.size ≤ b) M.zero v
    | .ok m => ∃ v, e = .returned (.tuple #[v, .int .i64 0]) ∧ ModV w' (fun b => w.heap.size ≤ b) m v
def DecOk : Prop := ∀ (A : Option Addr) (l : List UInt8) (n c : Nat) (w : World), Has w w.heap.size A l → n = l.length → n ≤ 140737488355328 → n ≤ c → c ≤ maxLen → (A = none → c = 0) → Tb w → Calls Tryd.prog 6 #[.slice A n c] w (DPost l w)
set_option maxRecDepth 100000 in
set_option maxHeartbeats 1000000 in
/-- whole, of types that are. -/
theorem whole_any (A : Option Addr) (l : List UInt8) (n c : Nat) (w : World) (hA : Has w w.heap.size A l) (hn : n = l.length) (hsz : n ≤ 140737488355328) (hl : l.all whole1 = true) :
    Calls Tryd.prog 8 #[.slice A n c] w fun e w' => e = .returned (.bool true) ∧ Below w.heap.size w w' := by
  have HA := Lib.hid hA
  have HN := Lib.hid hn
  have HL := Lib.hid hl
  clear hA hn hl
  go_enter Tryd.func8, Tryd.ntmps8
  go_wp2_with fail
  go_loopw [7] (fun i wr => ∃ j : Nat, j ≤ n ∧ i = .int .i64 (j : Int) ∧ Hid (Below w.heap.size w wr)) (fun i _ => n - (intOf i).toNat)
  case atStart => exact ⟨0, by omega, rfl, Lib.hid (Below.refl _ _)⟩
  case round =>
    obtain ⟨j, hj, rfl, HB⟩ := hrel
    by_cases hjn : j < n
    · obtain ⟨x, hx⟩ : ∃ x, l[j]? = some x := ⟨_, List.getElem?_eq_getElem (by have := HN.out; omega)⟩
      obtain ⟨ad, rfl, hlt, hc⟩ := HA.out j x hx
      have hji : (j : Int) < (n : Int) := by omega
      have hbk : (ad.add j).block = ad.block := by unfold Addr.add; split <;> rfl
      have hcell := (HB.out.cell (p := ad.add j) (by rw [hbk]; exact hlt)).trans hc
      have hw := List.all_eq_true.1 HL.out x (List.mem_of_getElem? hx)
      have hx2 : (x.toNat : Int) = 127 ∨ (x.toNat : Int) = 126 := by
        unfold whole1 at hw
        rw [Bool.or_eq_true, beq_iff_eq, beq_iff_eq] at hw
        rcases hw with rfl | rfl
        · exact .inl rfl
        · exact .inr rfl
      clear hw hx hc hbk hlt
      rcases hx2 with h | h
      all_goals
        rw [h] at hcell
        clear h
        go_wp2_with fail
        go_roundw
        case rel => exact ⟨j + 1, by omega, by go_num, HB⟩
        case measure => simp [intOf]; omega
    · obtain rfl : n = j := by omega
      go_wp2_with fail
      go_ret
      exact ⟨rfl, HB.out⟩
set_option maxRecDepth 100000 in
set_option maxHeartbeats 1000000 in
/-- plain, of instructions that are. -/
theorem plain_any (S : Nat → Prop) (A : Option Addr) (xs : List I) (n c : Nat) (w : World) (hA : HasI w S A xs) (hn : n = xs.length) (hsz : n ≤ 140737488355328) (hl : plain xs = true) :
    Calls Tryd.prog 9 #[.slice A n c] w fun e w' => e = .returned (.bool true) ∧ Below w.heap.size w w' := by
  have HA := Lib.hid hA
  have HN := Lib.hid hn
  have HL := Lib.hid hl
  clear hA hn hl
  go_enter Tryd.func9, Tryd.ntmps9
  go_wp2_with fail
  go_loopw [7] (fun i wr => ∃ j : Nat, j ≤ n ∧ i = .int .i64 (j : Int) ∧ Hid (Below w.heap.size w wr)) (fun i _ => n - (intOf i).toNat)
  case atStart => exact ⟨0, by omega, rfl, Lib.hid (Below.refl _ _)⟩
  case round =>
    obtain ⟨j, hj, rfl, HB⟩ := hrel
    by_cases hjn : j < n
    · obtain ⟨x, hx⟩ : ∃ x, xs[j]? = some x := ⟨_, List.getElem?_eq_getElem (by have := HN.out; omega)⟩
      obtain ⟨g, o, A', c', rfl, _, _, _, _, _, k1⟩ := HA.out j x hx
      have hji : (j : Int) < (n : Int) := by omega
      have hg : g < w.heap.size := World.block_lt_of_cell? w _ (k1 0 _ rfl)
      have hw := List.all_eq_true.1 HL.out x (List.mem_of_getElem? hx)
      rw [Bool.and_eq_true] at hw
      obtain ⟨op, xa, xb, xc, xl⟩ := x
      have p0 := (HB.out.cell (p := ⟨g, o + j * 5 + 0, none⟩) hg).trans (k1 0 _ rfl)
      have p1 := (HB.out.cell (p := ⟨g, o + j * 5 + 1, none⟩) hg).trans (k1 1 _ rfl)
      have p2 := (HB.out.cell (p := ⟨g, o + j * 5 + 2, none⟩) hg).trans (k1 2 _ rfl)
      have p3 := (HB.out.cell (p := ⟨g, o + j * 5 + 3, none⟩) hg).trans (k1 3 _ rfl)
      have p4 := (HB.out.cell (p := ⟨g, o + j * 5 + 4, none⟩) hg).trans (k1 4 _ rfl)
      simp only [Nat.add_zero] at p0 p1 p2 p3 p4 hw
      have HK := Lib.hid (fun W => known_any (op : Int) W)
      have HF := Lib.hid (fun W => float_any (op : Int) W)
      have hf : Opc.float (op : Int) = false := by simpa using hw.2
      rw [hw.1] at HK
      rw [hf] at HF
      generalize xl.length = q at p4
      clear hw hf hx k1 hg
      have HBX := Lib.hid (HB.out.alloc (by have := HB.out.size; omega) (.cells #[.int .u8 (op : Int), .int .u32 (xa : Int), .int .u32 (xb : Int), .int .i64 xc, .slice A' q c'] 80))
      go_wp2_with (first | (go_at_call 18; refine (HK.out _).mono ?_; rintro e w1 ⟨rfl, rfl⟩) | (go_at_call 19; refine (HF.out _).mono ?_; rintro e w1 ⟨rfl, rfl⟩))
      go_roundw
      case rel => exact ⟨j + 1, by omega, by go_num, HBX⟩
      case measure => simp [intOf]; omega
    · obtain rfl : n = j := by omega
      go_wp2_with fail
      go_ret
      exact ⟨rfl, HB.out⟩
end Go.Proofs.YtaloenmpidbhlaaDoor
