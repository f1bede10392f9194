/-
  The chapter's rows, as layer 6's laws ask for them, given what Decode does.
-/
import Derived.Test.YtaloenmpidbhlaaDoorBinCon
import Derived.Test.YtaloenmpidbhlaaDoorBinSame
import Derived.Test.YtaloenmpidbhlaaDoorSecSame
import Derived.Test.YtaloenmpidbhlaaDoorBinM
namespace Bin
def l1 : List UInt8 := [1, 4, 1, 96, 0, 0, 3, 2, 1, 0, 10, 4, 1, 2, 0, 11]
def l2 : List UInt8 := [1, 5, 1, 96, 1, 125, 0]
def l3 : List UInt8 := [3, 2, 1, 0]
def l4 : List UInt8 := [5, 3, 1, 0, 2]
def l5 : List UInt8 := [5, 4, 1, 1, 2, 3]
def m1 : M := ⟨[⟨[], []⟩], [], [0], [], [], [], [], false, 0, [], [⟨[], []⟩], []⟩
def m4 : M := ⟨[], [], [], [], [⟨2, -1⟩], [], [], false, 0, [], [], []⟩
def m5 : M := ⟨[], [], [], [], [⟨2, 3⟩], [], [], false, 0, [], [], []⟩
theorem dec1 : dec (Sec.begin8 ++ l1) = .ok m1 := by kernel_rfl
theorem dec2 : dec (Sec.begin8 ++ l2) = .error 61 := by kernel_rfl
theorem dec3 : dec (Sec.begin8 ++ l3) = .error 60 := by kernel_rfl
theorem dec4 : dec (Sec.begin8 ++ l4) = .ok m4 := by kernel_rfl
theorem dec5 : dec (Sec.begin8 ++ l5) = .ok m5 := by kernel_rfl
end Bin
namespace Go.Proofs.YtaloenmpidbhlaaDoor
open Go.RowKit Ins Bin Sec
theorem of_any (A : Option Addr) (l : List UInt8) (n c : Nat) (w : World) (hA : Has w w.heap.size A l) (hn : n = l.length) (hsz : n ≤ 1000000) :
    Calls Tryd.prog 12 #[.slice A n c] w fun e w' => ∃ A' c', e = .returned (.slice A' (8 + n) c') ∧ 8 + n = (begin8 ++ l).length ∧ 8 + n ≤ c' ∧ c' ≤ maxLen ∧ (A' = none → c' = 0) ∧ Has w' w'.heap.size A' (begin8 ++ l) ∧ Below w.heap.size w w' := by
  have HA := Lib.hid (fun W (hb : Below w.heap.size w W) => hA.on hb)
  have HN := Lib.hid hn
  clear hA hn
  go_enter Tryd.func12, Tryd.ntmps12
  go_wp2_with fail
  refine (begin_any _).mono ?_
  rintro e w1 ⟨v1, rfl, ho1, hb1⟩
  obtain ⟨v2, w2, hr2, ha2⟩ := appends_adds w1 w.heap.size n c v1 begin8 l A ho1 (HA.out w1 hb1) HN.out (by have h8 : begin8.length = 8 := rfl; have := HN.out; omega) hb1.size
  obtain ⟨A2, c2, rfl, h1, h2, h3, h4, h5⟩ := own_sl ha2.1
  have HR2 := Lib.hid hr2
  have HF : Hid (8 + n = (begin8 ++ l).length ∧ 8 + n ≤ c2 ∧ c2 ≤ maxLen ∧ (A2 = none → c2 = 0) ∧ Has w2 w2.heap.size A2 (begin8 ++ l) ∧ Below w.heap.size w w2) := Lib.hid (by
    have hl : 8 + n = (begin8 ++ l).length := by rw [List.length_append, HN.out]; rfl
    exact ⟨hl, by omega, h3, h4, h5, hb1.trans (ha2.below (own_ge ho1) hb1.size)⟩)
  have hl : (begin8 ++ l).length = 8 + n := HF.out.1.symm
  rw [hl] at HR2
  clear hr2 ha2 ho1 hb1 h1 h2 h3 h4 h5 hl
  go_wp2_with (at_builtin; refine wpList_appends rfl (.tmp 3) (.tmp 4) 22 rfl _ _ _ w2 rfl rfl HR2.out ?_)
  go_ret
  exact ⟨A2, c2, rfl, HF.out⟩
/-- of, of a literal. -/
theorem of_lit (l : List UInt8) (n : Nat) (w : World) (hn : n = l.length) (hsz : n ≤ 1000000) :
    Calls Tryd.prog 12 #[.slice (some ⟨w.heap.size, 0, none⟩) n n] (w.alloc (.cells (bytesOf l).toArray 5)) fun e w' => ∃ A' c', e = .returned (.slice A' (8 + n) c') ∧ 8 + n = (begin8 ++ l).length ∧ 8 + n ≤ c' ∧ c' ≤ maxLen ∧ (A' = none → c' = 0) ∧ Has w' w'.heap.size A' (begin8 ++ l) ∧ Below w.heap.size w w' := by
  have hb1 : Below w.heap.size w (w.alloc (.cells (bytesOf l).toArray 5)) := (Below.refl _ _).alloc (Nat.le_refl _) _
  refine (of_any (some ⟨w.heap.size, 0, none⟩) l n n _ ((Has.lit w l 5).more (by simp)) hn hsz).mono ?_
  rintro e w' ⟨A', c', h1, h2, h3, h4, h5, h6, h7⟩
  exact ⟨A', c', h1, h2, h3, h4, h5, h6, hb1.trans (h7.mono hb1.size)⟩
theorem heap_at {w : World} {o : Obj} {k : Nat} (h : k = w.heap.size) : (w.alloc o).heap[k]? = some o := by subst h; exact heap_alloc_new w o
theorem row_ft {W : World} {g : Nat} {t : TypeId} (h : W.heap[g]? = some (.cells #[.slice none 0 0, .slice none 0 0] t (0, 0))) : HasL W (fun _ => True) (some ⟨g, 0, none⟩) ([⟨[], []⟩] : List FT) := fun k x hx => by
  cases k with
  | succ k => simp at hx
  | zero =>
    simp at hx
    subst hx
    refine ⟨g, 0, [.slice none 0 0, .slice none 0 0], rfl, trivial, (Array.getElem?_eq_some_iff.1 h).1, ⟨_, _, rfl, SliceV.nil _ _, SliceV.nil _ _⟩, fun j u hj => ?_⟩
    rw [show 0 + 0 * Lay.size FT + j = j by omega, cell_of_row W g j _ _ _ h]
    simpa using hj
theorem row_cd {W : World} {g : Nat} {t : TypeId} (h : W.heap[g]? = some (.cells #[.slice none 0 0, .slice none 0 0] t (0, 0))) : HasL W (fun _ => True) (some ⟨g, 0, none⟩) ([⟨[], []⟩] : List Cd) := fun k x hx => by
  cases k with
  | succ k => simp at hx
  | zero =>
    simp at hx
    subst hx
    refine ⟨g, 0, [.slice none 0 0, .slice none 0 0], rfl, trivial, (Array.getElem?_eq_some_iff.1 h).1, ⟨_, _, rfl, SliceV.nil _ _, SliceV.nil _ _⟩, fun j u hj => ?_⟩
    rw [show 0 + 0 * Lay.size Cd + j = j by omega, cell_of_row W g j _ _ _ h]
    simpa using hj
theorem row_num {W : World} {g n : Nat} {t : TypeId} (hn : n < 4294967296) (h : W.heap[g]? = some (.cells #[.int .u32 (n : Int)] t (0, 0))) : HasL W (fun _ => True) (some ⟨g, 0, none⟩) [n] := fun k x hx => by
  cases k with
  | succ k => simp at hx
  | zero =>
    simp at hx
    subst hx
    refine ⟨g, 0, [.int .u32 (n : Int)], rfl, trivial, (Array.getElem?_eq_some_iff.1 h).1, ⟨rfl, hn⟩, fun j u hj => ?_⟩
    rw [show 0 + 0 * Lay.size Nat + j = j by omega, cell_of_row W g j _ _ _ h]
    simpa using hj
theorem SliceV.one {α : Type} [Lay α] {W : World} {g : Nat} {x : α} (h : HasL W (fun _ => True) (some ⟨g, 0, none⟩) [x]) : SliceV W (fun _ => True) [x] (.slice (some ⟨g, 0, none⟩) 1 1) := ⟨_, 1, rfl, Nat.le_refl _, by unfold maxLen; omega, by simp, h⟩
theorem small1 : M.small m1 := by
  unfold M.small m1
  simp
theorem modV_at {w : World} {S : Nat → Prop} {m : M} {v : Value} (h : ModV w S m v) : ∃ a1 x1 a2 x2 a3 x3 a4 x4 a5 x5 a6 x6 a7 x7 a8 x8 a9 x9 a10 x10, v = .agg #[.slice a1 m.types.length x1, .slice a2 m.imports.length x2, .slice a3 m.funcs.length x3, .slice a4 m.tables.length x4, .slice a5 m.mems.length x5, .slice a6 m.globals.length x6, .slice a7 m.exports.length x7, .bool m.hasStart, .int .u32 (m.start : Int), .slice a8 m.elems.length x8, .slice a9 m.codes.length x9, .slice a10 m.datas.length x10] ∧ RepM w S m (.slice a1 m.types.length x1) (.slice a2 m.imports.length x2) (.slice a3 m.funcs.length x3) (.slice a4 m.tables.length x4) (.slice a5 m.mems.length x5) (.slice a6 m.globals.length x6) (.slice a7 m.exports.length x7) (.slice a8 m.elems.length x8) (.slice a9 m.codes.length x9) (.slice a10 m.datas.length x10) := by
  obtain ⟨v1, v2, v3, v4, v5, v6, v7, v8, v9, v10, hv, hr⟩ := h
  have hr' := hr
  obtain ⟨⟨a1, x1, rfl, _⟩, ⟨a2, x2, rfl, _⟩, ⟨a3, x3, rfl, _⟩, ⟨a4, x4, rfl, _⟩, ⟨a5, x5, rfl, _⟩, ⟨a6, x6, rfl, _⟩, ⟨a7, x7, rfl, _⟩, _, ⟨a8, x8, rfl, _⟩, ⟨a9, x9, rfl, _⟩, ⟨a10, x10, rfl, _⟩⟩ := hr'
  exact ⟨a1, x1, a2, x2, a3, x3, a4, x4, a5, x5, a6, x6, a7, x7, a8, x8, a9, x9, a10, x10, hv, hr⟩
/-- As before, with where it lies. -/
theorem dPost_own {l : List UInt8} {m : M} (h : dec l = .ok m) {w w' : World} {e : Ending} (hp : DPost l w e w') : ∃ a1 x1 a2 x2 a3 x3 a4 x4 a5 x5 a6 x6 a7 x7 a8 x8 a9 x9 a10 x10, e = .returned (.tuple #[.agg #[.slice a1 m.types.length x1, .slice a2 m.imports.length x2, .slice a3 m.funcs.length x3, .slice a4 m.tables.length x4, .slice a5 m.mems.length x5, .slice a6 m.globals.length x6, .slice a7 m.exports.length x7, .bool m.hasStart, .int .u32 (m.start : Int), .slice a8 m.elems.length x8, .slice a9 m.codes.length x9, .slice a10 m.datas.length x10], .int .i64 0]) ∧ RepM w' (fun b => w.heap.size ≤ b) m (.slice a1 m.types.length x1) (.slice a2 m.imports.length x2) (.slice a3 m.funcs.length x3) (.slice a4 m.tables.length x4) (.slice a5 m.mems.length x5) (.slice a6 m.globals.length x6) (.slice a7 m.exports.length x7) (.slice a8 m.elems.length x8) (.slice a9 m.codes.length x9) (.slice a10 m.datas.length x10) ∧ Below w.heap.size w w' := by
  unfold DPost at hp
  rw [h] at hp
  obtain ⟨hb, v, he, hm⟩ := hp
  obtain ⟨a1, x1, a2, x2, a3, x3, a4, x4, a5, x5, a6, x6, a7, x7, a8, x8, a9, x9, a10, x10, hv, hr⟩ := modV_at hm
  exact ⟨a1, x1, a2, x2, a3, x3, a4, x4, a5, x5, a6, x6, a7, x7, a8, x8, a9, x9, a10, x10, by rw [he, hv], hr, hb⟩
theorem dPost_ok {l : List UInt8} {m : M} (h : dec l = .ok m) {w w' : World} {e : Ending} (hp : DPost l w e w') : ∃ a1 x1 a2 x2 a3 x3 a4 x4 a5 x5 a6 x6 a7 x7 a8 x8 a9 x9 a10 x10, e = .returned (.tuple #[.agg #[.slice a1 m.types.length x1, .slice a2 m.imports.length x2, .slice a3 m.funcs.length x3, .slice a4 m.tables.length x4, .slice a5 m.mems.length x5, .slice a6 m.globals.length x6, .slice a7 m.exports.length x7, .bool m.hasStart, .int .u32 (m.start : Int), .slice a8 m.elems.length x8, .slice a9 m.codes.length x9, .slice a10 m.datas.length x10], .int .i64 0]) ∧ RepM w' (fun _ => True) m (.slice a1 m.types.length x1) (.slice a2 m.imports.length x2) (.slice a3 m.funcs.length x3) (.slice a4 m.tables.length x4) (.slice a5 m.mems.length x5) (.slice a6 m.globals.length x6) (.slice a7 m.exports.length x7) (.slice a8 m.elems.length x8) (.slice a9 m.codes.length x9) (.slice a10 m.datas.length x10) ∧ Below w.heap.size w w' := by
  unfold DPost at hp
  rw [h] at hp
  obtain ⟨hb, v, he, hm⟩ := hp
  obtain ⟨a1, x1, a2, x2, a3, x3, a4, x4, a5, x5, a6, x6, a7, x7, a8, x8, a9, x9, a10, x10, hv, hr⟩ := modV_at hm
  exact ⟨a1, x1, a2, x2, a3, x3, a4, x4, a5, x5, a6, x6, a7, x7, a8, x8, a9, x9, a10, x10, by rw [he, hv], hr.more (fun _ _ _ => trivial), hb⟩
theorem dPost_err {l : List UInt8} {k : Nat} (h : dec l = .error k) {w w' : World} {e : Ending} (hp : DPost l w e w') : ∃ a1 x1 a2 x2 a3 x3 a4 x4 a5 x5 a6 x6 a7 x7 a8 x8 a9 x9 a10 x10, e = .returned (.tuple #[.agg #[.slice a1 0 x1, .slice a2 0 x2, .slice a3 0 x3, .slice a4 0 x4, .slice a5 0 x5, .slice a6 0 x6, .slice a7 0 x7, .bool false, .int .u32 0, .slice a8 0 x8, .slice a9 0 x9, .slice a10 0 x10], .int .i64 (k : Int)]) ∧ RepM w' (fun _ => True) M.zero (.slice a1 0 x1) (.slice a2 0 x2) (.slice a3 0 x3) (.slice a4 0 x4) (.slice a5 0 x5) (.slice a6 0 x6) (.slice a7 0 x7) (.slice a8 0 x8) (.slice a9 0 x9) (.slice a10 0 x10) ∧ Below w.heap.size w w' := by
  unfold DPost at hp
  rw [h] at hp
  obtain ⟨hb, v, he, hm⟩ := hp
  obtain ⟨a1, x1, a2, x2, a3, x3, a4, x4, a5, x5, a6, x6, a7, x7, a8, x8, a9, x9, a10, x10, hv, hr⟩ := modV_at hm
  exact ⟨a1, x1, a2, x2, a3, x3, a4, x4, a5, x5, a6, x6, a7, x7, a8, x8, a9, x9, a10, x10, by rw [he, hv]; rfl, hr.more (fun _ _ _ => trivial), hb⟩
set_option maxRecDepth 100000 in
set_option maxHeartbeats 4000000 in
theorem known6 (hd : DecOk) (w : World) (hT : Tb w) : Calls Tryd.prog 5 #[] w fun e w' => e = .returned (.bool true) ∧ Below w.heap.size w w' := by
  have HD := Lib.hid (fun A l n c W hA hn (hs : n ≤ 1000000) hc hcm hA0 (hb : Below w.heap.size w W) => hd A l n c W hA hn (by omega) hc hcm hA0 (hT.on hb))
  have HB0 : Hid (Below w.heap.size w w) := Lib.hid (Below.refl _ _)
  clear hd hT
  have tok1 : True := trivial
  go_enter Tryd.func5, Tryd.ntmps5
  go_upto_region 2 with (first | (go_at_call 12; clear tok1; refine (of_lit l1 16 _ rfl (by omega)).mono ?_; rintro e w1 ⟨A1, c1, rfl, g1, g2, g3, g4, g5, g6⟩; have HB1 := Lib.hid (HB0.out.trans (g6.mono HB0.out.size)); have HC1 := Lib.hid (HD.out A1 _ _ c1 w1 g5 g1 (by omega) g2 g3 g4 HB1.out); clear g1 g2 g3 g4 g5 g6) | (go_at_call 6; refine HC1.out.mono ?_; intro e w2 hp; obtain ⟨a1, x1, a2, x2, a3, x3, a4, x4, a5, x5, a6, x6, a7, x7, a8, x8, a9, x9, a10, x10, rfl, hr, hb⟩ := dPost_ok dec1 hp; simp only [m1, List.length_cons, List.length_nil, Nat.zero_add] at hr; have HR := Lib.hid hr; have HB2 := Lib.hid (HB1.out.trans (hb.mono HB1.out.size)); clear hp hr hb HC1; simp only [m1, List.length_cons, List.length_nil, Nat.zero_add]))
  have hz : (((0 : Nat) : Int)) = 0 := rfl
  go_wp2_with fail
  refine (same6_any (fun _ => True) (fun _ => True) m1 _ _ _ ⟨_, _, _, _, _, _, _, _, _, _, rfl, HR.out.on ?hb⟩ ⟨_, _, _, _, _, _, _, _, _, _, rfl, ⟨SliceV.one (row_ft (t := 41) ?r1), SliceV.nil _ _, SliceV.one (row_num (t := 30) (by omega) ?r2), SliceV.nil _ _, SliceV.nil _ _, SliceV.nil _ _, SliceV.nil _ _, by decide, SliceV.nil _ _, SliceV.one (row_cd (t := 55) ?r3), SliceV.nil _ _⟩⟩ small1).mono ?_
  case hb => exact ((((Below.refl _ _).alloc (Nat.le_refl _) _).alloc (by simp) _).alloc (by simp; omega) _).alloc (by simp; omega) _
  case r1 => exact (Below.heap_alloc _ _ _ (by simp)).trans ((Below.heap_alloc _ _ _ (by simp)).trans (heap_at (by simp)))
  case r2 => exact (Below.heap_alloc _ _ _ (by simp)).trans (heap_at (by simp))
  case r3 => exact heap_at (by simp)
  rintro e w4 ⟨rfl, hb4⟩
  have HB4 : Hid (Below w.heap.size w w4) := Lib.hid (HB2.out.trans ((((((Below.refl _ _).alloc (Nat.le_refl _) _).alloc (by simp) _).alloc (by simp; omega) _).alloc (by simp; omega) _).trans (hb4.mono (by simp; omega)) |>.mono HB2.out.size))
  clear hb4 HR HB1 HB2
  clear HB0
  go_upto_region 5 with (first | (go_at_call 12; refine (of_lit l2 7 _ rfl (by omega)).mono ?_; rintro e w5 ⟨A2, c2, rfl, g1, g2, g3, g4, g5, g6⟩; have HB5 := Lib.hid (HB4.out.trans (g6.mono HB4.out.size)); have HC2 := Lib.hid (HD.out A2 _ _ c2 w5 g5 g1 (by omega) g2 g3 g4 HB5.out); clear g1 g2 g3 g4 g5 g6) | (go_at_call 6; refine HC2.out.mono ?_; intro e w6 hp; obtain ⟨a1b, x1b, a2b, x2b, a3b, x3b, a4b, x4b, a5b, x5b, a6b, x6b, a7b, x7b, a8b, x8b, a9b, x9b, a10b, x10b, rfl, hr, hb⟩ := dPost_err dec2 hp; have HO6 : Hid (∀ o, Below w.heap.size w (w6.alloc o)) := Lib.hid (fun o => ((HB5.out.trans (hb.mono HB5.out.size)).alloc (Nat.le_trans HB5.out.size hb.size) o)); clear hp hb hr HC2 HB5))
  clear HB4
  have HW2 : Hid (Below w.heap.size w (w6.alloc (.cells #[.slice a1b 0 x1b, .slice a2b 0 x2b, .slice a3b 0 x3b, .slice a4b 0 x4b, .slice a5b 0 x5b, .slice a6b 0 x6b, .slice a7b 0 x7b, .bool false, .int .u32 0, .slice a8b 0 x8b, .slice a9b 0 x9b, .slice a10b 0 x10b] 35))) := Lib.hid (HO6.out _)
  generalize w6.alloc (.cells #[.slice a1b 0 x1b, .slice a2b 0 x2b, .slice a3b 0 x3b, .slice a4b 0 x4b, .slice a5b 0 x5b, .slice a6b 0 x6b, .slice a7b 0 x7b, .bool false, .int .u32 0, .slice a8b 0 x8b, .slice a9b 0 x9b, .slice a10b 0 x10b] 35) = y2 at HW2 ⊢
  clear HO6
  go_upto_region 6 with (first | (go_at_call 12; refine (of_lit l3 4 _ rfl (by omega)).mono ?_; rintro e w7 ⟨A3, c3, rfl, g1, g2, g3, g4, g5, g6⟩; have HB7 := Lib.hid (HW2.out.trans (g6.mono HW2.out.size)); have HC3 := Lib.hid (HD.out A3 _ _ c3 w7 g5 g1 (by omega) g2 g3 g4 HB7.out); clear g1 g2 g3 g4 g5 g6) | (go_at_call 6; refine HC3.out.mono ?_; intro e w8 hp; obtain ⟨a1c, x1c, a2c, x2c, a3c, x3c, a4c, x4c, a5c, x5c, a6c, x6c, a7c, x7c, a8c, x8c, a9c, x9c, a10c, x10c, rfl, hr, hb⟩ := dPost_err dec3 hp; have HO8 : Hid (∀ o, Below w.heap.size w (w8.alloc o)) := Lib.hid (fun o => ((HB7.out.trans (hb.mono HB7.out.size)).alloc (Nat.le_trans HB7.out.size hb.size) o)); clear hp hb hr HC3 HB7))
  clear HW2
  have HW3 : Hid (Below w.heap.size w (w8.alloc (.cells #[.slice a1c 0 x1c, .slice a2c 0 x2c, .slice a3c 0 x3c, .slice a4c 0 x4c, .slice a5c 0 x5c, .slice a6c 0 x6c, .slice a7c 0 x7c, .bool false, .int .u32 0, .slice a8c 0 x8c, .slice a9c 0 x9c, .slice a10c 0 x10c] 35))) := Lib.hid (HO8.out _)
  generalize w8.alloc (.cells #[.slice a1c 0 x1c, .slice a2c 0 x2c, .slice a3c 0 x3c, .slice a4c 0 x4c, .slice a5c 0 x5c, .slice a6c 0 x6c, .slice a7c 0 x7c, .bool false, .int .u32 0, .slice a8c 0 x8c, .slice a9c 0 x9c, .slice a10c 0 x10c] 35) = y3 at HW3 ⊢
  clear HO8
  go_upto_region 7 with (first | (go_at_call 12; refine (of_lit l4 5 _ rfl (by omega)).mono ?_; rintro e w9 ⟨A4, c4, rfl, g1, g2, g3, g4, g5, g6⟩; have HB9 := Lib.hid (HW3.out.trans (g6.mono HW3.out.size)); have HC4 := Lib.hid (HD.out A4 _ _ c4 w9 g5 g1 (by omega) g2 g3 g4 HB9.out); clear g1 g2 g3 g4 g5 g6) | (go_at_call 6; refine HC4.out.mono ?_; intro e w10 hp; obtain ⟨a1d, x1d, a2d, x2d, a3d, x3d, a4d, x4d, a5d, x5d, a6d, x6d, a7d, x7d, a8d, x8d, a9d, x9d, a10d, x10d, rfl, hr, hb⟩ := dPost_ok dec4 hp; simp only [m4, List.length_cons, List.length_nil, Nat.zero_add] at hr; have HR4 := Lib.hid hr; have HO10 : Hid (∀ o, Below w.heap.size w (w10.alloc o)) := Lib.hid (fun o => ((HB9.out.trans (hb.mono HB9.out.size)).alloc (Nat.le_trans HB9.out.size hb.size) o)); clear hp hb hr HC4 HB9; simp only [m4, List.length_cons, List.length_nil, Nat.zero_add]))
  clear HW3
  have HW4 : Hid (Below w.heap.size w (w10.alloc (.cells #[.slice a1d 0 x1d, .slice a2d 0 x2d, .slice a3d 0 x3d, .slice a4d 0 x4d, .slice a5d 1 x5d, .slice a6d 0 x6d, .slice a7d 0 x7d, .bool false, .int .u32 0, .slice a8d 0 x8d, .slice a9d 0 x9d, .slice a10d 0 x10d] 35))) := Lib.hid (HO10.out _)
  have HRW4 := Lib.hid (HR4.out.on ((Below.refl _ w10).alloc (Nat.le_refl _) (.cells #[.slice a1d 0 x1d, .slice a2d 0 x2d, .slice a3d 0 x3d, .slice a4d 0 x4d, .slice a5d 1 x5d, .slice a6d 0 x6d, .slice a7d 0 x7d, .bool false, .int .u32 0, .slice a8d 0 x8d, .slice a9d 0 x9d, .slice a10d 0 x10d] 35)))
  have HC4w : Hid ((w10.alloc (.cells #[.slice a1d 0 x1d, .slice a2d 0 x2d, .slice a3d 0 x3d, .slice a4d 0 x4d, .slice a5d 1 x5d, .slice a6d 0 x6d, .slice a7d 0 x7d, .bool false, .int .u32 0, .slice a8d 0 x8d, .slice a9d 0 x9d, .slice a10d 0 x10d] 35)).heap[w10.heap.size]? = some (.cells #[.slice a1d 0 x1d, .slice a2d 0 x2d, .slice a3d 0 x3d, .slice a4d 0 x4d, .slice a5d 1 x5d, .slice a6d 0 x6d, .slice a7d 0 x7d, .bool false, .int .u32 0, .slice a8d 0 x8d, .slice a9d 0 x9d, .slice a10d 0 x10d] 35)) := Lib.hid (heap_alloc_new w10 _)
  generalize w10.alloc (.cells #[.slice a1d 0 x1d, .slice a2d 0 x2d, .slice a3d 0 x3d, .slice a4d 0 x4d, .slice a5d 1 x5d, .slice a6d 0 x6d, .slice a7d 0 x7d, .bool false, .int .u32 0, .slice a8d 0 x8d, .slice a9d 0 x9d, .slice a10d 0 x10d] 35) = y4 at HW4 HRW4 HC4w ⊢
  clear HO10 HR4
  go_upto_region 8 with (first | (go_at_call 12; refine (of_lit l5 6 _ rfl (by omega)).mono ?_; rintro e w11 ⟨A5, c5, rfl, g1, g2, g3, g4, g5, g6⟩; have HB11 := Lib.hid (HW4.out.trans (g6.mono HW4.out.size)); have HC5 := Lib.hid (HD.out A5 _ _ c5 w11 g5 g1 (by omega) g2 g3 g4 HB11.out); have HY := Lib.hid g6; clear g1 g2 g3 g4 g5 g6) | (go_at_call 6; refine HC5.out.mono ?_; intro e w12 hp; obtain ⟨a1e, x1e, a2e, x2e, a3e, x3e, a4e, x4e, a5e, x5e, a6e, x6e, a7e, x7e, a8e, x8e, a9e, x9e, a10e, x10e, rfl, hr, hb⟩ := dPost_ok dec5 hp; simp only [m5, List.length_cons, List.length_nil, Nat.zero_add] at hr; have HR5 := Lib.hid hr; have HO12 : Hid (∀ o, Below w.heap.size w (w12.alloc o)) := Lib.hid (fun o => ((HB11.out.trans (hb.mono HB11.out.size)).alloc (Nat.le_trans HB11.out.size hb.size) o)); have HYO : Hid (∀ o, Below y4.heap.size y4 (w12.alloc o)) := Lib.hid (fun o => ((HY.out.trans (hb.mono HY.out.size)).alloc (Nat.le_trans HY.out.size hb.size) o)); clear hp hb hr HC5 HB11; simp only [m5, List.length_cons, List.length_nil, Nat.zero_add]))
  have HW5 : Hid (Below w.heap.size w (w12.alloc (.cells #[.slice a1e 0 x1e, .slice a2e 0 x2e, .slice a3e 0 x3e, .slice a4e 0 x4e, .slice a5e 1 x5e, .slice a6e 0 x6e, .slice a7e 0 x7e, .bool false, .int .u32 0, .slice a8e 0 x8e, .slice a9e 0 x9e, .slice a10e 0 x10e] 35))) := Lib.hid (HO12.out _)
  have HRW5 := Lib.hid (HR5.out.on ((Below.refl _ w12).alloc (Nat.le_refl _) (.cells #[.slice a1e 0 x1e, .slice a2e 0 x2e, .slice a3e 0 x3e, .slice a4e 0 x4e, .slice a5e 1 x5e, .slice a6e 0 x6e, .slice a7e 0 x7e, .bool false, .int .u32 0, .slice a8e 0 x8e, .slice a9e 0 x9e, .slice a10e 0 x10e] 35)))
  have HC5w : Hid ((w12.alloc (.cells #[.slice a1e 0 x1e, .slice a2e 0 x2e, .slice a3e 0 x3e, .slice a4e 0 x4e, .slice a5e 1 x5e, .slice a6e 0 x6e, .slice a7e 0 x7e, .bool false, .int .u32 0, .slice a8e 0 x8e, .slice a9e 0 x9e, .slice a10e 0 x10e] 35)).heap[w12.heap.size]? = some (.cells #[.slice a1e 0 x1e, .slice a2e 0 x2e, .slice a3e 0 x3e, .slice a4e 0 x4e, .slice a5e 1 x5e, .slice a6e 0 x6e, .slice a7e 0 x7e, .bool false, .int .u32 0, .slice a8e 0 x8e, .slice a9e 0 x9e, .slice a10e 0 x10e] 35)) := Lib.hid (heap_alloc_new w12 _)
  have HYW : Hid (Below y4.heap.size y4 (w12.alloc (.cells #[.slice a1e 0 x1e, .slice a2e 0 x2e, .slice a3e 0 x3e, .slice a4e 0 x4e, .slice a5e 1 x5e, .slice a6e 0 x6e, .slice a7e 0 x7e, .bool false, .int .u32 0, .slice a8e 0 x8e, .slice a9e 0 x9e, .slice a10e 0 x10e] 35))) := Lib.hid (HYO.out _)
  generalize w12.alloc (.cells #[.slice a1e 0 x1e, .slice a2e 0 x2e, .slice a3e 0 x3e, .slice a4e 0 x4e, .slice a5e 1 x5e, .slice a6e 0 x6e, .slice a7e 0 x7e, .bool false, .int .u32 0, .slice a8e 0 x8e, .slice a9e 0 x9e, .slice a10e 0 x10e] 35) = y5 at HW5 HYW HRW5 HC5w ⊢
  clear HO12 HR5
  obtain ⟨A4, d4, e4, _, _, _, hl4⟩ := HRW4.out.mems
  obtain ⟨A5, d5, e5, _, _, _, hl5⟩ := HRW5.out.mems
  obtain ⟨g4, o4, cs4, rfl, _, hg4, ⟨rfl, _⟩, k4⟩ := hl4 0 _ rfl
  obtain ⟨g5, o5, cs5, rfl, _, hg5, ⟨rfl, _⟩, k5⟩ := hl5 0 _ rfl
  injection e4 with e41 e42 e43
  injection e5 with e51 e52 e53
  subst e41
  subst e51
  have lt4 := (Array.getElem?_eq_some_iff.1 HC4w.out).1
  have c4 := (HYW.out.cell (p := ⟨w10.heap.size, 4, none⟩) lt4).trans (cell_of_row y4 _ 4 _ _ _ HC4w.out)
  have c5 := cell_of_row y5 w12.heap.size 4 _ _ _ HC5w.out
  have p0 := (HYW.out.cell (p := ⟨g4, o4 + 0 * 2 + 0, none⟩) hg4).trans (k4 0 _ rfl)
  have p1 := (HYW.out.cell (p := ⟨g4, o4 + 0 * 2 + 1, none⟩) hg4).trans (k4 1 _ rfl)
  have q0 := k5 0 _ rfl
  have q1 := k5 1 _ rfl
  simp only [show Lay.size Lim = 2 from rfl, Nat.zero_mul, Nat.add_zero] at p0 p1 q0 q1
  simp at c4 c5
  clear k4 k5 lt4 hg4 hg5 hl4 hl5 e42 e43 e52 e53 HRW4 HRW5 HC4w HC5w HYW HYO
  clear HD hz
  go_wp2_with fail
  go_ret
  exact ⟨rfl, HW5.out⟩
end Go.Proofs.YtaloenmpidbhlaaDoor
/-
  What is decoded is small: no list of it has more than 2^32 members.
-/
namespace Bin
open Leb Ins Sec
/-- Of at most 2^32 bytes only such is read. -/
def Sm {α : Type} (p : P α) (Q : α → Prop) : Prop := ∀ l x k, l.length ≤ 4294967296 → p l = .ok (x, k) → Q x
theorem Sm.ret {α : Type} {a : α} {Q : α → Prop} (h : Q a) : Sm (P.ret a) Q := fun l x k _ hx => by
  obtain ⟨rfl, _⟩ := ret_ok hx
  exact h
theorem Sm.fail {α : Type} {e : Nat} {Q : α → Prop} : Sm (P.fail e : P α) Q := fun l x k _ hx => by cases hx
theorem Sm.then {α β : Type} {p : P α} {f : α → P β} {R : α → Prop} {Q : β → Prop} (hp : Sm p R) (hf : ∀ a, R a → Sm (f a) Q) : Sm (p.then f) Q := fun l x k hl hx => by
  obtain ⟨a, i, j, h1, h2, _⟩ := P.then_ok hx
  exact hf a (hp l a i hl h1) (l.drop i) x j (by rw [List.length_drop]; omega) h2
theorem Sm.any {α : Type} (p : P α) : Sm p (fun _ => True) := fun _ _ _ _ _ => trivial
theorem Sm.ite {α : Type} {c : Prop} [Decidable c] {p q : P α} {Q : α → Prop} (hp : Sm p Q) (hq : Sm q Q) : Sm (if c then p else q) Q := by split <;> assumption
theorem num_sm : Sm num (fun n => n < 4294967296) := fun _ _ _ _ hx => (rdNum_ok hx).1
theorem many_sm {α : Type} {p : P α} {Q : α → Prop} (hp : Sm p Q) : ∀ n, Sm (many p n) (fun xs => xs.length = n ∧ ∀ x ∈ xs, Q x)
  | 0 => Sm.ret ⟨rfl, by simp⟩
  | n + 1 => Sm.then hp fun x hx => Sm.then (many_sm hp n) fun xs hxs => Sm.ret ⟨by simp [hxs.1], fun y hy => by
      rcases List.mem_cons.1 hy with rfl | hy
      · exact hx
      · exact hxs.2 y hy⟩
theorem list_sm {α : Type} {p : P α} {Q : α → Prop} (hp : Sm p Q) : Sm (list p) (fun xs => xs.length ≤ 140737488355328 ∧ ∀ x ∈ xs, Q x) :=
  Sm.then num_sm fun n hn => fun l x k hl hx => by
    obtain ⟨h1, h2⟩ := many_sm hp n l x k hl hx
    exact ⟨by omega, h2⟩
theorem encAll_ge : ∀ (xs : List I), xs.length ≤ (Ins.encAll xs).length
  | [] => by simp
  | x :: xs => by
    have h := encAll_ge xs
    have e : Ins.encAll (x :: xs) = Ins.enc x ++ Ins.encAll xs := by simp [Ins.encAll]
    rw [e, List.length_append, List.length_cons]
    have : 1 ≤ (Ins.enc x).length := by simp [Ins.enc]
    omega
theorem expr_sm : Sm expr (fun xs => xs.length ≤ 140737488355328 ∧ ∀ y ∈ xs, y.l.length ≤ 140737488355328) := fun l x k hl hx => by
  obtain ⟨_, h2, _, h4, h5⟩ := rdExpr_ok _ _ _ _ _ hx
  have := encAll_ge x
  unfold exprEnc at h5
  rw [List.length_append] at h5
  exact ⟨by omega, fun y hy => by have := (h2 y hy).2; omega⟩
theorem part_sm : Sm part (fun b => b.length ≤ 4294967296) := Sm.then num_sm fun n hn => fun l x k hl hx => by
  split at hx
  · injection hx with hx
    injection hx with hx _
    subst hx
    rw [List.length_take]
    omega
  · cases hx
theorem whole_sm {α : Type} {p : P α} {Q : α → Prop} (hp : Sm p Q) {l : List UInt8} {a : α} (hl : l.length ≤ 4294967296) (h : whole p l = .ok a) : Q a := hp l a _ hl (whole_ok h)
theorem ft_sm : Sm ft (fun x => x.params.length ≤ 140737488355328 ∧ x.results.length ≤ 140737488355328) :=
  Sm.then (Sm.any _) fun _ _ => Sm.ite (Sm.then (list_sm (Sm.any _)) fun _ h1 => Sm.then (list_sm (Sm.any _)) fun _ h2 => Sm.ret ⟨h1.1, h2.1⟩) Sm.fail
theorem gv_sm : Sm gv (fun x => x.init.length ≤ 140737488355328 ∧ ∀ y ∈ x.init, y.l.length ≤ 140737488355328) :=
  Sm.then (Sm.any _) fun _ _ => Sm.then expr_sm fun _ h => Sm.ret h
theorem el_sm : Sm el (fun x => x.off.length ≤ 140737488355328 ∧ (∀ y ∈ x.off, y.l.length ≤ 140737488355328) ∧ x.funcs.length ≤ 140737488355328) :=
  Sm.then (Sm.any _) fun _ _ => Sm.then expr_sm fun _ h => Sm.then (list_sm (Sm.any _)) fun _ h2 => Sm.ret ⟨h.1, h.2, h2.1⟩
theorem da_sm : Sm da (fun x => x.off.length ≤ 140737488355328 ∧ (∀ y ∈ x.off, y.l.length ≤ 140737488355328) ∧ x.b.length ≤ 140737488355328) :=
  Sm.then (Sm.any _) fun _ _ => Sm.then expr_sm fun _ h => Sm.then part_sm fun _ h2 => Sm.ret ⟨h.1, h.2, Nat.le_trans h2 (by decide)⟩
theorem cdIn_sm : Sm cdIn (fun x => x.locals.length ≤ 140737488355328 ∧ x.body.length ≤ 140737488355328 ∧ ∀ y ∈ x.body, y.l.length ≤ 140737488355328) :=
  Sm.then (list_sm (Sm.any _)) fun _ h => Sm.ite (Sm.then expr_sm fun _ h2 => Sm.ret ⟨h.1, h2⟩) Sm.fail
theorem cd_sm : Sm cd (fun x => x.locals.length ≤ 140737488355328 ∧ x.body.length ≤ 140737488355328 ∧ ∀ y ∈ x.body, y.l.length ≤ 140737488355328) :=
  Sm.then part_sm fun b hb => by
    cases h : whole cdIn b with
    | error e => exact Sm.fail
    | ok c => exact Sm.ret (whole_sm cdIn_sm hb h)
end Bin
namespace Go.Proofs.YtaloenmpidbhlaaDoor
open Bin Sec
theorem zero_small : M.small M.zero := by unfold M.small M.zero; simp
theorem sec_small {id : Nat} {b : List UInt8} {m : M} (hb : b.length ≤ 4294967296) (h : sec id b = .ok m) : M.small m := by
  unfold sec at h
  by_cases e1 : id = 1
  · rw [if_pos e1] at h
    obtain ⟨x, hx, rfl⟩ := map_ok h
    have := whole_sm (list_sm ft_sm) hb hx
    unfold M.small; simp; exact ⟨this.1, this.2⟩
  rw [if_neg e1] at h
  by_cases e2 : id = 2
  · rw [if_pos e2] at h
    obtain ⟨x, hx, rfl⟩ := map_ok h
    have := whole_sm (list_sm (Sm.any imp)) hb hx
    unfold M.small; simp; exact this.1
  rw [if_neg e2] at h
  by_cases e3 : id = 3
  · rw [if_pos e3] at h
    obtain ⟨x, hx, rfl⟩ := map_ok h
    have := whole_sm (list_sm (Sm.any num)) hb hx
    unfold M.small; simp; exact this.1
  rw [if_neg e3] at h
  by_cases e4 : id = 4
  · rw [if_pos e4] at h
    obtain ⟨x, hx, rfl⟩ := map_ok h
    have := whole_sm (list_sm (Sm.any table)) hb hx
    unfold M.small; simp; exact this.1
  rw [if_neg e4] at h
  by_cases e5 : id = 5
  · rw [if_pos e5] at h
    obtain ⟨x, hx, rfl⟩ := map_ok h
    have := whole_sm (list_sm (Sm.any lim)) hb hx
    unfold M.small; simp; exact this.1
  rw [if_neg e5] at h
  by_cases e6 : id = 6
  · rw [if_pos e6] at h
    obtain ⟨x, hx, rfl⟩ := map_ok h
    have := whole_sm (list_sm gv_sm) hb hx
    unfold M.small; simp; exact ⟨this.1, this.2⟩
  rw [if_neg e6] at h
  by_cases e7 : id = 7
  · rw [if_pos e7] at h
    obtain ⟨x, hx, rfl⟩ := map_ok h
    have := whole_sm (list_sm (Sm.any Bin.exp)) hb hx
    unfold M.small; simp; exact this.1
  rw [if_neg e7] at h
  by_cases e8 : id = 8
  · rw [if_pos e8] at h
    obtain ⟨x, hx, rfl⟩ := map_ok h
    unfold M.small; simp
  rw [if_neg e8] at h
  by_cases e9 : id = 9
  · rw [if_pos e9] at h
    obtain ⟨x, hx, rfl⟩ := map_ok h
    have := whole_sm (list_sm el_sm) hb hx
    unfold M.small; simp; exact ⟨this.1, this.2⟩
  rw [if_neg e9] at h
  by_cases e10 : id = 10
  · rw [if_pos e10] at h
    obtain ⟨x, hx, rfl⟩ := map_ok h
    have := whole_sm (list_sm cd_sm) hb hx
    unfold M.small; simp; exact ⟨this.1, this.2⟩
  rw [if_neg e10] at h
  obtain ⟨x, hx, rfl⟩ := map_ok h
  have := whole_sm (list_sm da_sm) hb hx
  unfold M.small; simp; exact ⟨this.1, this.2⟩
theorem secs_small : ∀ (xs : List S) (f g : Nat → M), secs f xs = .ok g → (∀ s ∈ xs, s.b.length < 4294967296) → (∀ i, M.small (f i)) → ∀ i, M.small (g i)
  | [], f, g, h, _, hf => by injection h with h; subst h; exact hf
  | s :: xs, f, g, h, hl, hf => by
    simp only [secs] at h
    split at h
    · cases h
    · next m e =>
      refine secs_small xs _ g h (fun t ht => hl t (by simp [ht])) (fun i => ?_)
      unfold upd
      split
      · exact sec_small (Nat.le_of_lt (hl s (by simp))) e
      · exact hf i
theorem of_small {f : Nat → M} (h : ∀ i, M.small (f i)) : M.small (M.of f) :=
  ⟨(h 1).1, (h 2).2.1, (h 3).2.2.1, (h 4).2.2.2.1, (h 5).2.2.2.2.1, (h 6).2.2.2.2.2.1, (h 7).2.2.2.2.2.2.1, (h 9).2.2.2.2.2.2.2.1, (h 10).2.2.2.2.2.2.2.2.1, (h 11).2.2.2.2.2.2.2.2.2.1,
    (h 1).2.2.2.2.2.2.2.2.2.2.1, (h 6).2.2.2.2.2.2.2.2.2.2.2.1, (h 9).2.2.2.2.2.2.2.2.2.2.2.2.1, (h 10).2.2.2.2.2.2.2.2.2.2.2.2.2.1, (h 11).2.2.2.2.2.2.2.2.2.2.2.2.2.2⟩
theorem dec_small {l : List UInt8} {m : M} (h : dec l = .ok m) : M.small m := by
  obtain ⟨_, xs, f, h1, h2, _, rfl⟩ := dec_ok h
  exact of_small (secs_small xs _ _ h2 (split_back h1).2.1 (fun _ => zero_small))
end Go.Proofs.YtaloenmpidbhlaaDoor
/-
  What is wrong with bytes that are no module is told by a number that is not 0.
-/
namespace Bin
open Leb Ins Sec
def Er {α : Type} (p : P α) : Prop := ∀ l k, p l = .error k → k ≠ 0
theorem Er.ret {α : Type} {a : α} : Er (P.ret a) := fun _ _ h => by cases h
theorem Er.fail {α : Type} {e : Nat} (h : e ≠ 0) : Er (P.fail e : P α) := fun _ _ hx => by injection hx with hx; subst hx; exact h
theorem Er.then {α β : Type} {p : P α} {f : α → P β} (hp : Er p) (hf : ∀ a, Er (f a)) : Er (p.then f) := fun l k h => by
  unfold P.then at h
  split at h
  · next e he => injection h with h; subst h; exact hp _ _ he
  · next a i he =>
    split at h
    · next e he2 => injection h with h; subst h; exact hf _ _ _ he2
    · cases h
theorem Er.ite {α : Type} {c : Prop} [Decidable c] {p q : P α} (hp : Er p) (hq : Er q) : Er (if c then p else q) := by split <;> assumption
theorem byte_er : Er byte := fun l k h => by
  cases l with
  | nil => injection h with h; subst h; decide
  | cons x r => cases h
theorem num_er : Er num := fun l k h => by rw [rdNum_err h]; decide
theorem name_er : Er name := fun l k h => by
  unfold name at h
  split at h
  · cases h
  · injection h with h; subst h; decide
theorem many_er {α : Type} {p : P α} (hp : Er p) : ∀ n, Er (many p n)
  | 0 => Er.ret
  | n + 1 => Er.then hp fun _ => Er.then (many_er hp n) fun _ => Er.ret
theorem list_er {α : Type} {p : P α} (hp : Er p) : Er (list p) := Er.then num_er fun _ => many_er hp _
theorem value_er : Er value := Er.then byte_er fun _ => Er.ite (Er.fail (by decide)) (Er.ite Er.ret (Er.fail (by decide)))
theorem flag_er : Er flag := Er.then byte_er fun _ => Er.ite Er.ret (Er.ite Er.ret (Er.fail (by decide)))
theorem lim_er : Er lim := Er.then flag_er fun _ => Er.then num_er fun _ => Er.ite (Er.then num_er fun _ => Er.ret) Er.ret
theorem table_er : Er table := Er.then byte_er fun _ => Er.ite lim_er (Er.fail (by decide))
theorem glob_er : Er glob := Er.then value_er fun _ => Er.then flag_er fun _ => Er.ret
theorem expr_er : Er expr := fun l k h => by rcases rdExpr_err _ _ _ _ h with h | h <;> (subst h; decide)
theorem ft_er : Er ft := Er.then byte_er fun _ => Er.ite (Er.then (list_er value_er) fun _ => Er.then (list_er value_er) fun _ => Er.ret) (Er.fail (by decide))
theorem imp_er : Er imp := Er.then name_er fun _ => Er.then name_er fun _ => Er.then byte_er fun _ => Er.ite (Er.then num_er fun _ => Er.ret) (Er.ite (Er.then table_er fun _ => Er.ret) (Er.ite (Er.then lim_er fun _ => Er.ret) (Er.ite (Er.then glob_er fun _ => Er.ret) (Er.fail (by decide)))))
theorem gv_er : Er gv := Er.then glob_er fun _ => Er.then expr_er fun _ => Er.ret
theorem exp_er : Er exp := Er.then name_er fun _ => Er.then byte_er fun _ => Er.ite (Er.then num_er fun _ => Er.ret) (Er.fail (by decide))
theorem el_er : Er el := Er.then num_er fun _ => Er.then expr_er fun _ => Er.then (list_er num_er) fun _ => Er.ret
theorem part_er : Er part := Er.then num_er fun n => fun l k h => by
  split at h
  · cases h
  · injection h with h; subst h; decide
theorem loc_er : Er loc := Er.then num_er fun _ => Er.then value_er fun _ => Er.ret
theorem whole_er {α : Type} {p : P α} (hp : Er p) {l : List UInt8} {k : Nat} (h : whole p l = .error k) : k ≠ 0 := by
  unfold whole at h
  split at h
  · next e he => injection h with h; subst h; exact hp _ _ he
  · split at h
    · cases h
    · injection h with h; subst h; decide
theorem cdIn_er : Er cdIn := Er.then (list_er loc_er) fun _ => Er.ite (Er.then expr_er fun _ => Er.ret) (Er.fail (by decide))
theorem cd_er : Er cd := Er.then part_er fun b => by
  cases h : whole cdIn b with
  | error e => exact Er.fail (whole_er cdIn_er h)
  | ok c => exact Er.ret
theorem da_er : Er da := Er.then num_er fun _ => Er.then expr_er fun _ => Er.then part_er fun _ => Er.ret
theorem map_err {α β : Type} {r : Except Nat α} {f : α → β} {k : Nat} (h : r.map f = .error k) : r = .error k := by
  cases r with
  | error e => injection h with h; subst h; rfl
  | ok a => cases h
theorem sec_er {id : Nat} {b : List UInt8} {k : Nat} (h : sec id b = .error k) : k ≠ 0 := by
  unfold sec at h
  by_cases e1 : id = 1
  · rw [if_pos e1] at h; exact whole_er (list_er ft_er) (map_err h)
  rw [if_neg e1] at h
  by_cases e2 : id = 2
  · rw [if_pos e2] at h; exact whole_er (list_er imp_er) (map_err h)
  rw [if_neg e2] at h
  by_cases e3 : id = 3
  · rw [if_pos e3] at h; exact whole_er (list_er num_er) (map_err h)
  rw [if_neg e3] at h
  by_cases e4 : id = 4
  · rw [if_pos e4] at h; exact whole_er (list_er table_er) (map_err h)
  rw [if_neg e4] at h
  by_cases e5 : id = 5
  · rw [if_pos e5] at h; exact whole_er (list_er lim_er) (map_err h)
  rw [if_neg e5] at h
  by_cases e6 : id = 6
  · rw [if_pos e6] at h; exact whole_er (list_er gv_er) (map_err h)
  rw [if_neg e6] at h
  by_cases e7 : id = 7
  · rw [if_pos e7] at h; exact whole_er (list_er exp_er) (map_err h)
  rw [if_neg e7] at h
  by_cases e8 : id = 8
  · rw [if_pos e8] at h; exact whole_er num_er (map_err h)
  rw [if_neg e8] at h
  by_cases e9 : id = 9
  · rw [if_pos e9] at h; exact whole_er (list_er el_er) (map_err h)
  rw [if_neg e9] at h
  by_cases e10 : id = 10
  · rw [if_pos e10] at h; exact whole_er (list_er cd_er) (map_err h)
  rw [if_neg e10] at h
  exact whole_er (list_er da_er) (map_err h)
theorem secs_er : ∀ (xs : List S) (f : Nat → M) (k : Nat), secs f xs = .error k → k ≠ 0
  | [], f, k, h => by cases h
  | s :: xs, f, k, h => by
    simp only [secs] at h
    split at h
    · next e he => injection h with h; subst h; exact sec_er he
    · exact secs_er xs _ k h
theorem dec_er {l : List UInt8} {k : Nat} (h : dec l = .error k) : k ≠ 0 := by
  unfold dec at h
  split at h
  · injection h with h; subst h; decide
  · split at h
    · injection h with h; subst h; decide
    · split at h
      · next e he => injection h with h; subst h; exact secs_er _ _ _ he
      · split at h
        · cases h
        · injection h with h; subst h; decide
end Bin
