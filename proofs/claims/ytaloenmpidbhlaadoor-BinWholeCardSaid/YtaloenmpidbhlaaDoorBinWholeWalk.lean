/-
  The walk over BinWhole, given what Decode does. (gen/binwhole.py)
-/
import Derived.Test.YtaloenmpidbhlaaDoorBinKnown
import Derived.Test.YtaloenmpidbhlaaDoorStrBytes
import Derived.Test.YtaloenmpidbhlaaDoorDrawn
import Derived.Deep.CutRange
namespace Bin
def modOf (l : List UInt8) : M := match dec l with
  | .ok m => m
  | .error _ => M.zero
def errOf (l : List UInt8) : Int := match dec l with
  | .ok _ => 0
  | .error k => (k : Int)
theorem modOf_good (l : List UInt8) : (modOf l).good = true ∧ (modOf l).codes.length = (modOf l).funcs.length := by
  unfold modOf
  cases h : dec l with
  | error k => exact ⟨zero_good, rfl⟩
  | ok m => exact dec_good h
end Bin
namespace Go.Proofs.YtaloenmpidbhlaaDoor
open Go.RowKit Ins Bin Sec
theorem dPost_any {l : List UInt8} {w w' : World} {e : Ending} (hp : DPost l w e w') : ∃ a1 x1 a2 x2 a3 x3 a4 x4 a5 x5 a6 x6 a7 x7 a8 x8 a9 x9 a10 x10, e = .returned (.tuple #[.agg #[.slice a1 (modOf l).types.length x1, .slice a2 (modOf l).imports.length x2, .slice a3 (modOf l).funcs.length x3, .slice a4 (modOf l).tables.length x4, .slice a5 (modOf l).mems.length x5, .slice a6 (modOf l).globals.length x6, .slice a7 (modOf l).exports.length x7, .bool (modOf l).hasStart, .int .u32 ((modOf l).start : Int), .slice a8 (modOf l).elems.length x8, .slice a9 (modOf l).codes.length x9, .slice a10 (modOf l).datas.length x10], .int .i64 (errOf l)]) ∧ RepM w' (fun _ => True) (modOf l) (.slice a1 (modOf l).types.length x1) (.slice a2 (modOf l).imports.length x2) (.slice a3 (modOf l).funcs.length x3) (.slice a4 (modOf l).tables.length x4) (.slice a5 (modOf l).mems.length x5) (.slice a6 (modOf l).globals.length x6) (.slice a7 (modOf l).exports.length x7) (.slice a8 (modOf l).elems.length x8) (.slice a9 (modOf l).codes.length x9) (.slice a10 (modOf l).datas.length x10) ∧ Below w.heap.size w w' := by
  unfold modOf errOf
  cases h : dec l with
  | error k =>
    obtain ⟨a1, x1, a2, x2, a3, x3, a4, x4, a5, x5, a6, x6, a7, x7, a8, x8, a9, x9, a10, x10, he, hr, hb⟩ := dPost_err h hp
    exact ⟨a1, x1, a2, x2, a3, x3, a4, x4, a5, x5, a6, x6, a7, x7, a8, x8, a9, x9, a10, x10, he, hr, hb⟩
  | ok m =>
    obtain ⟨a1, x1, a2, x2, a3, x3, a4, x4, a5, x5, a6, x6, a7, x7, a8, x8, a9, x9, a10, x10, he, hr, hb⟩ := dPost_ok h hp
    exact ⟨a1, x1, a2, x2, a3, x3, a4, x4, a5, x5, a6, x6, a7, x7, a8, x8, a9, x9, a10, x10, he, hr, hb⟩
theorem cells3 {w : World} {X : Nat} {x0 x1 x2 : Value} {t : TypeId} (h : w.heap[X]? = some (.cells #[x0, x1, x2] t (0, 0))) : w.cell? ⟨X, 0, none⟩ = some x0 ∧ w.cell? ⟨X, 1, none⟩ = some x1 ∧ w.cell? ⟨X, 2, none⟩ = some x2 := by
  refine ⟨?_, ?_, ?_⟩ <;> (rw [cell_of_row w X _ _ t (0, 0) h]; rfl)
/-- whole, of one type in a row of its own. -/
theorem whole_lit2 (t : UInt8) (w : World) (o : Obj) (h : whole1 t = true) : Calls Tryd.prog 8 #[.slice (some ⟨w.heap.size + 1, 0, none⟩) 1 1] ((w.alloc o).alloc (.cells #[.int .u8 (t.toNat : Int)] 5)) fun e w' => e = .returned (.bool true) ∧ Below w.heap.size w w' ∧ w'.heap[w.heap.size]? = some o := by
  have hb : Below w.heap.size w ((w.alloc o).alloc (.cells #[.int .u8 (t.toNat : Int)] 5)) := ((Below.refl _ _).alloc (Nat.le_refl _) _).alloc (by simp) _
  have hl := (Has.lit (w.alloc o) [t] 5).more (B' := ((w.alloc o).alloc (.cells #[.int .u8 (t.toNat : Int)] 5)).heap.size) (by simp)
  have hsz : (w.alloc o).heap.size = w.heap.size + 1 := by simp
  rw [hsz] at hl
  refine (whole_any (some ⟨w.heap.size + 1, 0, none⟩) [t] 1 1 _ hl rfl (by omega) (by simpa using h)).mono ?_
  rintro e w' ⟨he, h2⟩
  exact ⟨he, hb.trans (h2.mono hb.size), (h2.block w.heap.size (by simp; omega)).trans ((Below.heap_alloc _ _ _ (by simp)).trans (heap_alloc_new w o))⟩
theorem bytes_of2 (w : World) (s : ByteArray) (hs : s.size ≤ maxLen) : ∃ A c w', (convert 9 22 (.string s)).run Tryd.prog w = .ok (.slice A s.size c) w' ∧ s.size ≤ c ∧ c ≤ maxLen ∧ (A = none → c = 0) ∧ Has w' w'.heap.size A s.data.toList ∧ Below w.heap.size w w' := by
  obtain ⟨A, c, w', h1, h2, h3, h4⟩ := bytes_of w s
  have h5 := h1
  rw [run_bytes_of_string w 9 22 5 s und9 und22 und5] at h5
  injection h5 with h5 h6
  injection h5 with h7 h8 h9
  exact ⟨A, c, w', h1, h2, by rw [← h9]; exact grownCap_le_maxLen w s.size 0 5 hs, by rw [← h7]; simp, h3, h4⟩
theorem modOf_small (l : List UInt8) : M.small (modOf l) := by
  unfold modOf
  cases h : dec l with
  | error k => exact zero_small
  | ok m => exact dec_small h
set_option maxRecDepth 100000 in
set_option maxHeartbeats 4000000 in
theorem binWhole_any (hd : DecOk) (A : Option Addr) (l : List UInt8) (n c : Nat) (w : World) (hA : Has w w.heap.size A l) (hn : n = l.length) (hnc : n ≤ c) (hcm : c ≤ maxLen) (hAc : A = none → c = 0) (hT : Tb w) :
    Calls Tryd.prog 3 #[.slice A n c] w fun e w' => e = .returned (.bool true) ∧ Below w.heap.size w w' := by
  by_cases hbig : 3000 < n
  · have hbi : (3000 : Int) < (n : Int) := by omega
    have HK := Lib.hid (known6 hd w hT)
    clear hd hT hA hn hnc hcm hAc hbig
    go_enter Tryd.func3, Tryd.ntmps3
    go_wp2_with (go_at_call 5; refine HK.out.mono ?_; rintro e w1 ⟨rfl, hb⟩; have HB := Lib.hid hb; clear hb)
    go_ret
    exact ⟨rfl, HB.out⟩
  have hbi : decide ((3000 : Int) < (n : Int)) = false := decide_eq_false (by omega)
  have hn3 : n ≤ 3000 := by omega
  have HK := Lib.hid (known6 hd w hT)
  have HA := Lib.hid (fun W (hb : Below w.heap.size w W) => hA.on hb)
  have HN := Lib.hid hn
  have HD := Lib.hid (fun A n c W hA hn (hs : n ≤ 3000) hc hcm hA0 (hb : Below w.heap.size w W) => hd A l n c W hA hn (by omega) hc hcm hA0 (hT.on hb))
  have HAC := Lib.hid hAc
  have HS := Lib.hid (modOf_small l)
  have HG := Lib.hid (modOf_good l)
  clear hd hT hA hn hbig hAc
  have HP := Lib.hid (fun (w w' : World) (e : Ending) (hp : DPost l w e w') => dPost_any hp)
  generalize errOf l = k at HP
  generalize modOf l = m at HS HG HP
  obtain ⟨n1, hn1⟩ : ∃ x, m.types.length = x := ⟨_, rfl⟩
  obtain ⟨n2, hn2⟩ : ∃ x, m.imports.length = x := ⟨_, rfl⟩
  obtain ⟨n3, hn3⟩ : ∃ x, m.funcs.length = x := ⟨_, rfl⟩
  obtain ⟨n4, hn4⟩ : ∃ x, m.tables.length = x := ⟨_, rfl⟩
  obtain ⟨n5, hn5⟩ : ∃ x, m.mems.length = x := ⟨_, rfl⟩
  obtain ⟨n6, hn6⟩ : ∃ x, m.globals.length = x := ⟨_, rfl⟩
  obtain ⟨n7, hn7⟩ : ∃ x, m.exports.length = x := ⟨_, rfl⟩
  obtain ⟨n8, hn8⟩ : ∃ x, m.elems.length = x := ⟨_, rfl⟩
  obtain ⟨n9, hn9⟩ : ∃ x, m.codes.length = x := ⟨_, rfl⟩
  obtain ⟨n10, hn10⟩ : ∃ x, m.datas.length = x := ⟨_, rfl⟩
  obtain ⟨hst, hhst⟩ : ∃ x, m.hasStart = x := ⟨_, rfl⟩
  obtain ⟨st, hhs⟩ : ∃ x, m.start = x := ⟨_, rfl⟩
  rw [hn1, hn2, hn3, hn4, hn5, hn6, hn7, hn8, hn9, hn10, hhst, hhs] at HP
  have L1 := Lib.hid hn1
  have L2 := Lib.hid hn2
  have L3 := Lib.hid hn3
  have L4 := Lib.hid hn4
  have L5 := Lib.hid hn5
  have L6 := Lib.hid hn6
  have L7 := Lib.hid hn7
  have L8 := Lib.hid hn8
  have L9 := Lib.hid hn9
  have L10 := Lib.hid hn10
  have HH1 := Lib.hid hhst
  have HH2 := Lib.hid hhs
  clear hhst hhs hn1 hn2 hn3 hn4 hn5 hn6 hn7 hn8 hn9 hn10
  go_enter Tryd.func3, Tryd.ntmps3
  go_upto_region 7 with (first | (go_at_call 5; refine HK.out.mono ?_; rintro e w1 ⟨rfl, hb⟩; have HB := Lib.hid hb; have hs1 := run_str (HA.out _ hb) HN.out c; clear hb) | (go_at_call 6; refine (HD.out A _ c _ (HA.out _ HB.out) HN.out (by omega) hnc hcm HAC.out HB.out).mono ?_; intro e w2 hp; obtain ⟨a1, x1, a2, x2, a3, x3, a4, x4, a5, x5, a6, x6, a7, x7, a8, x8, a9, x9, a10, x10, rfl, hr, hb⟩ := HP.out _ _ _ hp; have HR := Lib.hid hr; have HB2 := Lib.hid (HB.out.trans (hb.mono HB.out.size)); clear hp hr hb))
  have HX3 : Hid ((w2.alloc (.cells #[.slice a1 n1 x1, .slice a2 n2 x2, .slice a3 n3 x3, .slice a4 n4 x4, .slice a5 n5 x5, .slice a6 n6 x6, .slice a7 n7 x7, .bool hst, .int .u32 (st : Int), .slice a8 n8 x8, .slice a9 n9 x9, .slice a10 n10 x10] 35)).heap[w2.heap.size]? = some (.cells #[.slice a1 n1 x1, .slice a2 n2 x2, .slice a3 n3 x3, .slice a4 n4 x4, .slice a5 n5 x5, .slice a6 n6 x6, .slice a7 n7 x7, .bool hst, .int .u32 (st : Int), .slice a8 n8 x8, .slice a9 n9 x9, .slice a10 n10 x10] 35)) := Lib.hid (heap_alloc_new w2 _)
  have HR3 := Lib.hid (HR.out.on ((Below.refl _ w2).alloc (Nat.le_refl _) (.cells #[.slice a1 n1 x1, .slice a2 n2 x2, .slice a3 n3 x3, .slice a4 n4 x4, .slice a5 n5 x5, .slice a6 n6 x6, .slice a7 n7 x7, .bool hst, .int .u32 (st : Int), .slice a8 n8 x8, .slice a9 n9 x9, .slice a10 n10 x10] 35)))
  have HB3 := Lib.hid (HB2.out.alloc HB2.out.size (.cells #[.slice a1 n1 x1, .slice a2 n2 x2, .slice a3 n3 x3, .slice a4 n4 x4, .slice a5 n5 x5, .slice a6 n6 x6, .slice a7 n7 x7, .bool hst, .int .u32 (st : Int), .slice a8 n8 x8, .slice a9 n9 x9, .slice a10 n10 x10] 35))
  generalize w2.alloc (.cells #[.slice a1 n1 x1, .slice a2 n2 x2, .slice a3 n3 x3, .slice a4 n4 x4, .slice a5 n5 x5, .slice a6 n6 x6, .slice a7 n7 x7, .bool hst, .int .u32 (st : Int), .slice a8 n8 x8, .slice a9 n9 x9, .slice a10 n10 x10] 35) = w3 at HX3 HR3 HB3 ⊢
  obtain ⟨X1, hX1⟩ : ∃ X, w2.heap.size = X := ⟨_, rfl⟩
  rw [hX1] at HX3 ⊢
  clear hX1 HR HB2 HB HK
  have hsz4 : (ByteArray.mk l.toArray).size = n := by rw [HN.out]; simp [ByteArray.size]
  obtain ⟨B4, d4, w4, hr4, hc4, hd4, ha4, hh4, hb4⟩ := bytes_of2 w3 ⟨l.toArray⟩ (by rw [hsz4]; unfold maxLen; omega)
  rw [hsz4] at hr4 hc4
  have HH4 : Hid (Has w4 w4.heap.size B4 l) := Lib.hid (by simpa using hh4)
  have HB4 := Lib.hid (HB3.out.trans (hb4.mono HB3.out.size))
  have HX4 := Lib.hid ((hb4.block X1 (Array.getElem?_eq_some_iff.1 HX3.out).1).trans HX3.out)
  have HR4 := Lib.hid (HR3.out.on hb4)
  have HA4 := Lib.hid ha4
  clear hsz4 hh4 hb4 ha4
  go_upto_region 8 with (go_at_call 6; refine (HD.out B4 _ d4 _ HH4.out HN.out (by omega) hc4 hd4 HA4.out HB4.out).mono ?_; intro e w5 hp; obtain ⟨a1b, x1b, a2b, x2b, a3b, x3b, a4b, x4b, a5b, x5b, a6b, x6b, a7b, x7b, a8b, x8b, a9b, x9b, a10b, x10b, rfl, hr, hb⟩ := HP.out _ _ _ hp; have HR5 := Lib.hid hr; have HB5 := Lib.hid (HB4.out.trans (hb.mono HB4.out.size)); have HX5 := Lib.hid ((hb.block X1 (Array.getElem?_eq_some_iff.1 HX4.out).1).trans HX4.out); have HR5a := Lib.hid (HR4.out.on hb); clear hp hr hb)
  have HX6 := Lib.hid ((Below.heap_alloc w5 (.cells #[.slice a1b n1 x1b, .slice a2b n2 x2b, .slice a3b n3 x3b, .slice a4b n4 x4b, .slice a5b n5 x5b, .slice a6b n6 x6b, .slice a7b n7 x7b, .bool hst, .int .u32 (st : Int), .slice a8b n8 x8b, .slice a9b n9 x9b, .slice a10b n10 x10b] 35) X1 (Array.getElem?_eq_some_iff.1 HX5.out).1).trans HX5.out)
  have HX6b : Hid ((w5.alloc (.cells #[.slice a1b n1 x1b, .slice a2b n2 x2b, .slice a3b n3 x3b, .slice a4b n4 x4b, .slice a5b n5 x5b, .slice a6b n6 x6b, .slice a7b n7 x7b, .bool hst, .int .u32 (st : Int), .slice a8b n8 x8b, .slice a9b n9 x9b, .slice a10b n10 x10b] 35)).heap[w5.heap.size]? = some (.cells #[.slice a1b n1 x1b, .slice a2b n2 x2b, .slice a3b n3 x3b, .slice a4b n4 x4b, .slice a5b n5 x5b, .slice a6b n6 x6b, .slice a7b n7 x7b, .bool hst, .int .u32 (st : Int), .slice a8b n8 x8b, .slice a9b n9 x9b, .slice a10b n10 x10b] 35)) := Lib.hid (heap_alloc_new w5 _)
  have HR6 := Lib.hid (HR5a.out.on ((Below.refl _ w5).alloc (Nat.le_refl _) (.cells #[.slice a1b n1 x1b, .slice a2b n2 x2b, .slice a3b n3 x3b, .slice a4b n4 x4b, .slice a5b n5 x5b, .slice a6b n6 x6b, .slice a7b n7 x7b, .bool hst, .int .u32 (st : Int), .slice a8b n8 x8b, .slice a9b n9 x9b, .slice a10b n10 x10b] 35)))
  have HR6b := Lib.hid (HR5.out.on ((Below.refl _ w5).alloc (Nat.le_refl _) (.cells #[.slice a1b n1 x1b, .slice a2b n2 x2b, .slice a3b n3 x3b, .slice a4b n4 x4b, .slice a5b n5 x5b, .slice a6b n6 x6b, .slice a7b n7 x7b, .bool hst, .int .u32 (st : Int), .slice a8b n8 x8b, .slice a9b n9 x9b, .slice a10b n10 x10b] 35)))
  have HB6 := Lib.hid (HB5.out.alloc HB5.out.size (.cells #[.slice a1b n1 x1b, .slice a2b n2 x2b, .slice a3b n3 x3b, .slice a4b n4 x4b, .slice a5b n5 x5b, .slice a6b n6 x6b, .slice a7b n7 x7b, .bool hst, .int .u32 (st : Int), .slice a8b n8 x8b, .slice a9b n9 x9b, .slice a10b n10 x10b] 35))
  generalize w5.alloc (.cells #[.slice a1b n1 x1b, .slice a2b n2 x2b, .slice a3b n3 x3b, .slice a4b n4 x4b, .slice a5b n5 x5b, .slice a6b n6 x6b, .slice a7b n7 x7b, .bool hst, .int .u32 (st : Int), .slice a8b n8 x8b, .slice a9b n9 x9b, .slice a10b n10 x10b] 35) = w6 at HX6 HX6b HR6 HR6b HB6 ⊢
  obtain ⟨X2, hX2⟩ : ∃ X, w5.heap.size = X := ⟨_, rfl⟩
  rw [hX2] at HX6b ⊢
  clear hX2 HR5 HR5a HB5 HX5 HR4 HB4 HX4 HR3 HB3 HX3 HH4 HA4 HD HAC
  have hs6 := run_str (HA.out _ HB6.out) HN.out c
  go_cut [63] from 23 to 63 (fun s wx => s = .bool false ∧ Hid (Below w.heap.size w wx) ∧ Hid (wx.heap[X1]? = some (.cells #[.slice a1 n1 x1, .slice a2 n2 x2, .slice a3 n3 x3, .slice a4 n4 x4, .slice a5 n5 x5, .slice a6 n6 x6, .slice a7 n7 x7, .bool hst, .int .u32 (st : Int), .slice a8 n8 x8, .slice a9 n9 x9, .slice a10 n10 x10] 35)) ∧ Hid (RepM wx (fun _ => True) m (.slice a1 n1 x1) (.slice a2 n2 x2) (.slice a3 n3 x3) (.slice a4 n4 x4) (.slice a5 n5 x5) (.slice a6 n6 x6) (.slice a7 n7 x7) (.slice a8 n8 x8) (.slice a9 n9 x9) (.slice a10 n10 x10)))
  case first =>
    as_aux_lemma =>
      have HSM := Lib.hid (same6_any (fun _ => True) (fun _ => True) m (.agg #[.slice a1 n1 x1, .slice a2 n2 x2, .slice a3 n3 x3, .slice a4 n4 x4, .slice a5 n5 x5, .slice a6 n6 x6, .slice a7 n7 x7, .bool hst, .int .u32 (st : Int), .slice a8 n8 x8, .slice a9 n9 x9, .slice a10 n10 x10]) (.agg #[.slice a1b n1 x1b, .slice a2b n2 x2b, .slice a3b n3 x3b, .slice a4b n4 x4b, .slice a5b n5 x5b, .slice a6b n6 x6b, .slice a7b n7 x7b, .bool hst, .int .u32 (st : Int), .slice a8b n8 x8b, .slice a9b n9 x9b, .slice a10b n10 x10b]) w6 ⟨_, _, _, _, _, _, _, _, _, _, by unfold modCells; rw [HH1.out, HH2.out], HR6.out⟩ ⟨_, _, _, _, _, _, _, _, _, _, by unfold modCells; rw [HH1.out, HH2.out], HR6b.out⟩ HS.out)
      have p0 : w6.cell? ⟨X1, 0, none⟩ = some (.slice a1 n1 x1) := cell_of_row w6 X1 0 _ _ _ HX6.out
      have p1 : w6.cell? ⟨X1, 1, none⟩ = some (.slice a2 n2 x2) := cell_of_row w6 X1 1 _ _ _ HX6.out
      have p2 : w6.cell? ⟨X1, 2, none⟩ = some (.slice a3 n3 x3) := cell_of_row w6 X1 2 _ _ _ HX6.out
      have p3 : w6.cell? ⟨X1, 3, none⟩ = some (.slice a4 n4 x4) := cell_of_row w6 X1 3 _ _ _ HX6.out
      have p4 : w6.cell? ⟨X1, 4, none⟩ = some (.slice a5 n5 x5) := cell_of_row w6 X1 4 _ _ _ HX6.out
      have p5 : w6.cell? ⟨X1, 5, none⟩ = some (.slice a6 n6 x6) := cell_of_row w6 X1 5 _ _ _ HX6.out
      have p6 : w6.cell? ⟨X1, 6, none⟩ = some (.slice a7 n7 x7) := cell_of_row w6 X1 6 _ _ _ HX6.out
      have p7 : w6.cell? ⟨X1, 7, none⟩ = some (.bool hst) := cell_of_row w6 X1 7 _ _ _ HX6.out
      have p8 : w6.cell? ⟨X1, 8, none⟩ = some (.int .u32 (st : Int)) := cell_of_row w6 X1 8 _ _ _ HX6.out
      have p9 : w6.cell? ⟨X1, 9, none⟩ = some (.slice a8 n8 x8) := cell_of_row w6 X1 9 _ _ _ HX6.out
      have p10 : w6.cell? ⟨X1, 10, none⟩ = some (.slice a9 n9 x9) := cell_of_row w6 X1 10 _ _ _ HX6.out
      have p11 : w6.cell? ⟨X1, 11, none⟩ = some (.slice a10 n10 x10) := cell_of_row w6 X1 11 _ _ _ HX6.out
      have q0 : w6.cell? ⟨X2, 0, none⟩ = some (.slice a1b n1 x1b) := cell_of_row w6 X2 0 _ _ _ HX6b.out
      have q1 : w6.cell? ⟨X2, 1, none⟩ = some (.slice a2b n2 x2b) := cell_of_row w6 X2 1 _ _ _ HX6b.out
      have q2 : w6.cell? ⟨X2, 2, none⟩ = some (.slice a3b n3 x3b) := cell_of_row w6 X2 2 _ _ _ HX6b.out
      have q3 : w6.cell? ⟨X2, 3, none⟩ = some (.slice a4b n4 x4b) := cell_of_row w6 X2 3 _ _ _ HX6b.out
      have q4 : w6.cell? ⟨X2, 4, none⟩ = some (.slice a5b n5 x5b) := cell_of_row w6 X2 4 _ _ _ HX6b.out
      have q5 : w6.cell? ⟨X2, 5, none⟩ = some (.slice a6b n6 x6b) := cell_of_row w6 X2 5 _ _ _ HX6b.out
      have q6 : w6.cell? ⟨X2, 6, none⟩ = some (.slice a7b n7 x7b) := cell_of_row w6 X2 6 _ _ _ HX6b.out
      have q7 : w6.cell? ⟨X2, 7, none⟩ = some (.bool hst) := cell_of_row w6 X2 7 _ _ _ HX6b.out
      have q8 : w6.cell? ⟨X2, 8, none⟩ = some (.int .u32 (st : Int)) := cell_of_row w6 X2 8 _ _ _ HX6b.out
      have q9 : w6.cell? ⟨X2, 9, none⟩ = some (.slice a8b n8 x8b) := cell_of_row w6 X2 9 _ _ _ HX6b.out
      have q10 : w6.cell? ⟨X2, 10, none⟩ = some (.slice a9b n9 x9b) := cell_of_row w6 X2 10 _ _ _ HX6b.out
      have q11 : w6.cell? ⟨X2, 11, none⟩ = some (.slice a10b n10 x10b) := cell_of_row w6 X2 11 _ _ _ HX6b.out
      have HNE : Hid (((n9 : Int) != (n3 : Int)) = false) := Lib.hid (by rw [← L9.out, ← L3.out, HG.out.2]; simp)
      have hkk : (k == k) = true := by simp
      go_wp2_with (go_at_call 7; refine HSM.out.mono ?_; rintro e w7 ⟨rfl, hb⟩; have HB7 := Lib.hid (HB6.out.trans (hb.mono HB6.out.size)); have HX7 := Lib.hid ((hb.block X1 (Array.getElem?_eq_some_iff.1 HX6.out).1).trans HX6.out); have HR7 := Lib.hid (HR6.out.on hb); clear hb; have r10 := cell_of_row w7 X1 10 _ _ _ HX7.out; have r2 := cell_of_row w7 X1 2 _ _ _ HX7.out; simp at r10 r2)
      go_meet
      case rel => exact ⟨congrArg Value.bool HNE.out, HB7, HX7, HR7⟩
  case rest =>
    obtain ⟨rfl, HB7, HX7, HR7⟩ := hcut
    generalize wc = w7 at HB7 HX7 HR7 ⊢
    go_upto_region 10 with fail
    clear hs1 hs6
    have hx1 := (Array.getElem?_eq_some_iff.1 HX7.out).1
    have C1 := Lib.hid (fun W (hb : Below w7.heap.size w7 W) => ((hb.cell (p := ⟨X1, 0, none⟩) hx1).trans (cell_of_row w7 X1 0 _ _ _ HX7.out) : W.cell? ⟨X1, 0, none⟩ = some (.slice a1 n1 x1)))
    have C2 := Lib.hid (fun W (hb : Below w7.heap.size w7 W) => ((hb.cell (p := ⟨X1, 1, none⟩) hx1).trans (cell_of_row w7 X1 1 _ _ _ HX7.out) : W.cell? ⟨X1, 1, none⟩ = some (.slice a2 n2 x2)))
    have C6 := Lib.hid (fun W (hb : Below w7.heap.size w7 W) => ((hb.cell (p := ⟨X1, 5, none⟩) hx1).trans (cell_of_row w7 X1 5 _ _ _ HX7.out) : W.cell? ⟨X1, 5, none⟩ = some (.slice a6 n6 x6)))
    have C9 := Lib.hid (fun W (hb : Below w7.heap.size w7 W) => ((hb.cell (p := ⟨X1, 10, none⟩) hx1).trans (cell_of_row w7 X1 10 _ _ _ HX7.out) : W.cell? ⟨X1, 10, none⟩ = some (.slice a9 n9 x9)))
    have C8 := Lib.hid (fun W (hb : Below w7.heap.size w7 W) => ((hb.cell (p := ⟨X1, 9, none⟩) hx1).trans (cell_of_row w7 X1 9 _ _ _ HX7.out) : W.cell? ⟨X1, 9, none⟩ = some (.slice a8 n8 x8)))
    have C10 := Lib.hid (fun W (hb : Below w7.heap.size w7 W) => ((hb.cell (p := ⟨X1, 11, none⟩) hx1).trans (cell_of_row w7 X1 11 _ _ _ HX7.out) : W.cell? ⟨X1, 11, none⟩ = some (.slice a10 n10 x10)))
    have le1 : n1 ≤ 140737488355328 := by rw [← L1.out]; exact HS.out.1
    have le2 : n2 ≤ 140737488355328 := by rw [← L2.out]; exact HS.out.2.1
    have le6 : n6 ≤ 140737488355328 := by rw [← L6.out]; exact HS.out.2.2.2.2.2.1
    have le8 : n8 ≤ 140737488355328 := by rw [← L8.out]; exact HS.out.2.2.2.2.2.2.2.1
    have le9 : n9 ≤ 140737488355328 := by rw [← L9.out]; exact HS.out.2.2.2.2.2.2.2.2.1
    have le10 : n10 ≤ 140737488355328 := by rw [← L10.out]; exact HS.out.2.2.2.2.2.2.2.2.2.1
    obtain ⟨A1_, c1_, e1_, _, _, _, hl1_⟩ := HR7.out.types
    injection e1_ with e1_ e2_ e3_
    clear e2_ e3_
    have HL1 : Hid (HasL w7 (fun _ => True) a1 m.types) := Lib.hid (by rw [e1_]; exact hl1_)
    clear hl1_ e1_
    obtain ⟨A2_, c2_, e2_, _, _, _, hl2_⟩ := HR7.out.imports
    injection e2_ with e1_ e2_ e3_
    clear e2_ e3_
    have HL2 : Hid (HasL w7 (fun _ => True) a2 m.imports) := Lib.hid (by rw [e1_]; exact hl2_)
    clear hl2_ e1_
    obtain ⟨A6_, c6_, e6_, _, _, _, hl6_⟩ := HR7.out.globals
    injection e6_ with e1_ e2_ e3_
    clear e2_ e3_
    have HL6 : Hid (HasL w7 (fun _ => True) a6 m.globals) := Lib.hid (by rw [e1_]; exact hl6_)
    clear hl6_ e1_
    obtain ⟨A9_, c9_, e9_, _, _, _, hl9_⟩ := HR7.out.codes
    injection e9_ with e1_ e2_ e3_
    clear e2_ e3_
    have HL9 : Hid (HasL w7 (fun _ => True) a9 m.codes) := Lib.hid (by rw [e1_]; exact hl9_)
    clear hl9_ e1_
    obtain ⟨A8_, c8_, e8_, _, _, _, hl8_⟩ := HR7.out.elems
    injection e8_ with e1_ e2_ e3_
    clear e2_ e3_
    have HL8 : Hid (HasL w7 (fun _ => True) a8 m.elems) := Lib.hid (by rw [e1_]; exact hl8_)
    clear hl8_ e1_
    obtain ⟨A10_, c10_, e10_, _, _, _, hl10_⟩ := HR7.out.datas
    injection e10_ with e1_ e2_ e3_
    clear e2_ e3_
    have HL10 : Hid (HasL w7 (fun _ => True) a10 m.datas) := Lib.hid (by rw [e1_]; exact hl10_)
    clear hl10_ e1_
    have R0 : Hid (Below w7.heap.size w7 w7) := Lib.hid (Below.refl _ _)
    have gd := HG.out.1
    unfold M.good at gd
    simp only [Bool.and_eq_true] at gd
    obtain ⟨⟨⟨⟨⟨gd1, gd2⟩, gd6⟩, gd9⟩, gd8⟩, gd10⟩ := gd
    have GD1 := Lib.hid gd1
    have GD2 := Lib.hid gd2
    have GD6 := Lib.hid gd6
    have GD9 := Lib.hid gd9
    have GD8 := Lib.hid gd8
    have GD10 := Lib.hid gd10
    clear gd1 gd2 gd6 gd9 gd8 gd10
    clear hx1 HX6 HX6b HR6 HR6b HB6 HP
    have uu := C1.out _ R0.out
    go_wp2_with fail
    clear uu
    go_loopw [67] (fun i wr => ∃ j : Nat, j ≤ n1 ∧ i = .int .i64 (j : Int) ∧ Hid (Below w7.heap.size w7 wr)) (fun i _ => n1 - (intOf i).toNat)
    case atStart => exact ⟨0, by omega, rfl, R0⟩
    case round =>
      obtain ⟨j, hj, rfl, HB1⟩ := hrel
      clear R0
      by_cases hjn : j < n1
      · as_aux_lemma =>
          have hji : (j : Int) < (n1 : Int) := by omega
          obtain ⟨z, hz⟩ : ∃ z, m.types[j]? = some z := ⟨_, List.getElem?_eq_getElem (by have := L1.out; omega)⟩
          obtain ⟨g1, o1, cs1, hA1, _, hg1, ⟨_, _, rfl, ⟨B1, d1, rfl, _, _, _, hl1⟩, ⟨E1, f1, rfl, _, _, _, hi1⟩⟩, k1⟩ := HL1.out j z hz
          have hgd := List.all_eq_true.1 GD1.out z (List.mem_of_getElem? hz)
          rw [Bool.and_eq_true] at hgd
          obtain ⟨zs1, zs2⟩ := HS.out.2.2.2.2.2.2.2.2.2.2.1 z (List.mem_of_getElem? hz)
          obtain ⟨zp, zr⟩ := z
          simp only at hl1 hi1 k1 hgd zs1 zs2
          have HW1 := Lib.hid (fun W (hb : Below w7.heap.size w7 W) => whole_any B1 zp zp.length d1 W (hl1.has.on hb) rfl zs1 hgd.1)
          have HW2 := Lib.hid (fun W (hb : Below w7.heap.size w7 W) => whole_any E1 zr zr.length f1 W (hi1.has.on hb) rfl zs2 hgd.2)
          have p0 := (HB1.out.cell (p := ⟨g1, o1 + j * 2 + 0, none⟩) hg1).trans (k1 0 _ rfl)
          have p1 := (HB1.out.cell (p := ⟨g1, o1 + j * 2 + 1, none⟩) hg1).trans (k1 1 _ rfl)
          simp only [Nat.add_zero] at p0
          generalize zp.length = np at HW1 p0
          generalize zr.length = nr at HW2 p1
          subst hA1
          clear hz hgd zs1 zs2 hl1 hi1 k1 hg1
          have HBA : Hid (∀ o, Below w7.heap.size w7 (wr.alloc o)) := Lib.hid (fun o => HB1.out.alloc HB1.out.size o)
          have tok1 : True := trivial
          go_wp2_with (first | (go_at_call 8; clear tok1; refine (HW1.out _ (HBA.out _)).mono ?_; rintro e w8 ⟨rfl, hb⟩; have hX := (hb.block wr.heap.size (by simp)).trans (heap_alloc_new wr _); obtain ⟨y0, y1⟩ := cells2 hX; have HB8 := Lib.hid ((HBA.out _).trans (hb.mono (HBA.out _).size)); clear hb hX) | (go_at_call 8; refine (HW2.out _ HB8.out).mono ?_; rintro e w9 ⟨rfl, hb⟩; have HBX := Lib.hid (HB8.out.trans (hb.mono HB8.out.size)); clear hb))
          go_roundw
          case rel => exact ⟨j + 1, by omega, by go_num, HBX⟩
          case measure => simp [intOf]; omega
      · obtain rfl : n1 = j := by omega
        have uu := C2.out _ HB1.out
        go_wp2_with fail
        clear uu
        go_loopw [85] (fun i wr => ∃ j : Nat, j ≤ n2 ∧ i = .int .i64 (j : Int) ∧ Hid (Below w7.heap.size w7 wr)) (fun i _ => n2 - (intOf i).toNat)
        case atStart => exact ⟨0, by omega, rfl, HB1⟩
        case round =>
          obtain ⟨j, hj, rfl, HB2⟩ := hrel
          clear HB1
          by_cases hjn : j < n2
          · as_aux_lemma =>
              have hji : (j : Int) < (n2 : Int) := by omega
              obtain ⟨z, hz⟩ : ∃ z, m.imports[j]? = some z := ⟨_, List.getElem?_eq_getElem (by have := L2.out; omega)⟩
              obtain ⟨g1, o1, cs1, hA1, _, hg1, ⟨rfl, _⟩, k1⟩ := HL2.out j z hz
              have hgd := List.all_eq_true.1 GD2.out z (List.mem_of_getElem? hz)
              rw [Bool.and_eq_true, decide_eq_true_eq] at hgd
              obtain ⟨zm, zn, zk, zt, ⟨zmi, zma⟩, ⟨zgt, zgm⟩⟩ := z
              simp only at hgd
              have hk3 := hgd.1
              have hw3 : zk.toNat = 3 → whole1 zgt = true := fun h => by
                have h2 : zk = 3 := UInt8.toNat_inj.1 (by rw [h]; rfl)
                have h3 := hgd.2
                rw [h2] at h3
                simpa using h3
              have HWL := Lib.hid (fun o (hk : zk.toNat = 3) => whole_lit2 zgt wr o (hw3 hk))
              have p0 := (HB2.out.cell (p := ⟨g1, o1 + j * 8 + 0, none⟩) hg1).trans (k1 0 _ rfl)
              have p1 := (HB2.out.cell (p := ⟨g1, o1 + j * 8 + 1, none⟩) hg1).trans (k1 1 _ rfl)
              have p2 := (HB2.out.cell (p := ⟨g1, o1 + j * 8 + 2, none⟩) hg1).trans (k1 2 _ rfl)
              have p3 := (HB2.out.cell (p := ⟨g1, o1 + j * 8 + 3, none⟩) hg1).trans (k1 3 _ rfl)
              have p4 := (HB2.out.cell (p := ⟨g1, o1 + j * 8 + 4, none⟩) hg1).trans (k1 4 _ rfl)
              have p5 := (HB2.out.cell (p := ⟨g1, o1 + j * 8 + 5, none⟩) hg1).trans (k1 5 _ rfl)
              have p6 := (HB2.out.cell (p := ⟨g1, o1 + j * 8 + 6, none⟩) hg1).trans (k1 6 _ rfl)
              have p7 := (HB2.out.cell (p := ⟨g1, o1 + j * 8 + 7, none⟩) hg1).trans (k1 7 _ rfl)
              simp only [Nat.add_zero] at p0
              simp only [strV] at p0 p1
              generalize ByteArray.mk zm.toArray = sp at p0
              generalize ByteArray.mk zn.toArray = sr at p1
              generalize zk.toNat = vk at p2 hk3 HWL
              generalize zgt.toNat = vg at p6 HWL
              subst hA1
              clear hz hgd hw3 k1 hg1
              have HBA : Hid (∀ o, Below w7.heap.size w7 (wr.alloc o)) := Lib.hid (fun o => HB2.out.alloc HB2.out.size o)
              have hk3i : decide ((3 : Int) < (vk : Int)) = false := decide_eq_false (by omega)
              by_cases hvk : vk = 3
              · have HWC := Lib.hid (fun o => HWL.out o hvk)
                rw [hvk] at p2
                clear hvk hk3 hk3i HWL vk
                go_wp2_with (go_at_call 8; refine (HWC.out _).mono ?_; rintro e w9 ⟨rfl, hb, _⟩; have HBX := Lib.hid (HB2.out.trans (hb.mono HB2.out.size)); clear hb)
                go_roundw
                case rel => exact ⟨j + 1, by omega, by go_num, HBX⟩
                case measure => simp [intOf]; omega
              · have hvi : ((vk : Int) == 3) = false := by simp; omega
                go_wp2_with fail
                have HBX := Lib.hid (HBA.out (.cells #[.string sp, .string sr, .int .u8 (vk : Int), .int .u32 (zt : Int), .int .u32 (zmi : Int), .int .i64 zma, .int .u8 (vg : Int), .bool zgm] 48))
                go_roundw
                case rel => exact ⟨j + 1, by omega, by go_num, HBX⟩
                case measure => simp [intOf]; omega
          · obtain rfl : n2 = j := by omega
            have uu := C6.out _ HB2.out
            go_wp2_with fail
            clear uu
            go_loopw [109] (fun i wr => ∃ j : Nat, j ≤ n6 ∧ i = .int .i64 (j : Int) ∧ Hid (Below w7.heap.size w7 wr)) (fun i _ => n6 - (intOf i).toNat)
            case atStart => exact ⟨0, by omega, rfl, HB2⟩
            case round =>
              obtain ⟨j, hj, rfl, HB6⟩ := hrel
              clear HB2
              by_cases hjn : j < n6
              · as_aux_lemma =>
                  have hji : (j : Int) < (n6 : Int) := by omega
                  obtain ⟨z, hz⟩ : ∃ z, m.globals[j]? = some z := ⟨_, List.getElem?_eq_getElem (by have := L6.out; omega)⟩
                  obtain ⟨g1, o1, cs1, hA1, _, hg1, ⟨_, rfl, ⟨E1, f1, rfl, _, _, _, hi1⟩⟩, k1⟩ := HL6.out j z hz
                  have hgd := List.all_eq_true.1 GD6.out z (List.mem_of_getElem? hz)
                  rw [Bool.and_eq_true] at hgd
                  have hzs := HS.out.2.2.2.2.2.2.2.2.2.2.2.1 z (List.mem_of_getElem? hz)
                  obtain ⟨⟨zgt, zgm⟩, zi⟩ := z
                  simp only at hgd hi1 k1 hzs
                  have HWL := Lib.hid (fun o => whole_lit2 zgt wr o hgd.1)
                  have HPL := Lib.hid (fun W (hb : Below w7.heap.size w7 W) => plain_any (fun _ => True) E1 zi zi.length f1 W (hi1.ins.mod (Mod.of_below (T := fun _ => False) hb) (fun _ _ _ h => h)) rfl hzs.1 hgd.2)
                  have p0 := (HB6.out.cell (p := ⟨g1, o1 + j * 3 + 0, none⟩) hg1).trans (k1 0 _ rfl)
                  have p1 := (HB6.out.cell (p := ⟨g1, o1 + j * 3 + 1, none⟩) hg1).trans (k1 1 _ rfl)
                  have p2 := (HB6.out.cell (p := ⟨g1, o1 + j * 3 + 2, none⟩) hg1).trans (k1 2 _ rfl)
                  simp only [Nat.add_zero] at p0
                  generalize zi.length = ni at HPL p2
                  generalize zgt.toNat = vg at p0 HWL
                  subst hA1
                  clear hz hgd hzs hi1 k1 hg1
                  go_wp2_with (first | (go_at_call 8; refine (HWL.out _).mono ?_; rintro e w8 ⟨rfl, hb, hX⟩; have HB8 := Lib.hid (HB6.out.trans (hb.mono HB6.out.size)); obtain ⟨y0, y1, y2⟩ := cells3 hX; clear hb hX) | (go_at_call 9; refine (HPL.out _ HB8.out).mono ?_; rintro e w9 ⟨rfl, hb⟩; have HBX := Lib.hid (HB8.out.trans (hb.mono HB8.out.size)); clear hb))
                  go_roundw
                  case rel => exact ⟨j + 1, by omega, by go_num, HBX⟩
                  case measure => simp [intOf]; omega
              · obtain rfl : n6 = j := by omega
                have uu := C9.out _ HB6.out
                go_wp2_with fail
                clear uu
                go_loopw [129] (fun i wr => ∃ j : Nat, j ≤ n9 ∧ i = .int .i64 (j : Int) ∧ Hid (Below w7.heap.size w7 wr)) (fun i _ => n9 - (intOf i).toNat)
                case atStart => exact ⟨0, by omega, rfl, HB6⟩
                case round =>
                  obtain ⟨j, hj, rfl, HB9⟩ := hrel
                  clear HB6
                  by_cases hjn : j < n9
                  · as_aux_lemma =>
                      have hji : (j : Int) < (n9 : Int) := by omega
                      obtain ⟨z, hz⟩ : ∃ z, m.codes[j]? = some z := ⟨_, List.getElem?_eq_getElem (by have := L9.out; omega)⟩
                      obtain ⟨g1, o1, cs1, hA1, _, hg1, ⟨_, _, rfl, ⟨B1, d1, rfl, _, _, _, hl1⟩, ⟨E1, f1, rfl, _, _, _, hi1⟩⟩, k1⟩ := HL9.out j z hz
                      have hgd := List.all_eq_true.1 GD9.out z (List.mem_of_getElem? hz)
                      rw [Bool.and_eq_true] at hgd
                      have hzs := HS.out.2.2.2.2.2.2.2.2.2.2.2.2.2.1 z (List.mem_of_getElem? hz)
                      obtain ⟨zl, zi⟩ := z
                      simp only at hgd hi1 hl1 k1 hzs
                      have HPL := Lib.hid (fun W (hb : Below w7.heap.size w7 W) => plain_any (fun _ => True) E1 zi zi.length f1 W (hi1.ins.mod (Mod.of_below (T := fun _ => False) hb) (fun _ _ _ h => h)) rfl hzs.2.1 hgd.2)
                      have p0 := (HB9.out.cell (p := ⟨g1, o1 + j * 2 + 0, none⟩) hg1).trans (k1 0 _ rfl)
                      have p1 := (HB9.out.cell (p := ⟨g1, o1 + j * 2 + 1, none⟩) hg1).trans (k1 1 _ rfl)
                      simp only [Nat.add_zero] at p0
                      obtain ⟨nl, hnl⟩ : ∃ x, zl.length = x := ⟨_, rfl⟩
                      have HNL := Lib.hid hnl
                      have hnl47 : nl ≤ 140737488355328 := by rw [← hnl]; exact hzs.1
                      rw [hnl] at p0
                      generalize zi.length = ni at HPL p1
                      have HGL := Lib.hid hgd.1
                      have HLL := Lib.hid hl1
                      subst hA1
                      clear hz hgd hzs hi1 k1 hg1 hl1 hnl
                      go_upto_region 31 with fail
                      have HXc : Hid ((wr.alloc (.cells #[.slice B1 nl d1, .slice E1 ni f1] 55)).heap[wr.heap.size]? = some (.cells #[.slice B1 nl d1, .slice E1 ni f1] 55 (0, 0))) := Lib.hid (heap_alloc_new wr _)
                      have HBc : Hid (Below w7.heap.size w7 (wr.alloc (.cells #[.slice B1 nl d1, .slice E1 ni f1] 55))) := Lib.hid (HB9.out.alloc HB9.out.size _)
                      generalize wr.alloc (.cells #[.slice B1 nl d1, .slice E1 ni f1] 55) = wq at HXc HBc ⊢
                      obtain ⟨X3, hX3⟩ : ∃ X, wr.heap.size = X := ⟨_, rfl⟩
                      rw [hX3] at HXc ⊢
                      clear hX3 HB9 p0 p1
                      obtain ⟨y0, y1⟩ := cells2 HXc.out
                      have RQ : Hid (Below wq.heap.size wq wq) := Lib.hid (Below.refl _ _)
                      go_wp2_with fail
                      clear y0 y1
                      go_loopw [136] (fun i wr => ∃ q : Nat, q ≤ nl ∧ i = .int .i64 (q : Int) ∧ Hid (Below wq.heap.size wq wr)) (fun i _ => nl - (intOf i).toNat)
                      case atStart => exact ⟨0, by omega, rfl, RQ⟩
                      case round =>
                        obtain ⟨q, hq, rfl, HBq⟩ := hrel
                        clear RQ
                        by_cases hqn : q < nl
                        · as_aux_lemma =>
                            have hqi : (q : Int) < (nl : Int) := by omega
                            obtain ⟨y, hy⟩ : ∃ y, zl[q]? = some y := ⟨_, List.getElem?_eq_getElem (by have := HNL.out; omega)⟩
                            obtain ⟨g2, o2, cs2, hA2, _, hg2, ⟨rfl, _⟩, k2⟩ := HLL.out q y hy
                            have hgy := List.all_eq_true.1 HGL.out y (List.mem_of_getElem? hy)
                            obtain ⟨yn, yt⟩ := y
                            simp only at hgy k2
                            have HBw := HBc.out.trans (HBq.out.mono HBc.out.size)
                            have z0 := (HBw.cell (p := ⟨g2, o2 + q * 2 + 0, none⟩) hg2).trans (k2 0 _ rfl)
                            have z1 := (HBw.cell (p := ⟨g2, o2 + q * 2 + 1, none⟩) hg2).trans (k2 1 _ rfl)
                            simp only [Nat.add_zero] at z0
                            have HWL := Lib.hid (fun o => whole_lit2 yt wr o hgy)
                            generalize yt.toNat = vt at z1 HWL
                            subst hA2
                            clear hy hgy k2 hg2 HBw
                            go_wp2_with (go_at_call 8; refine (HWL.out _).mono ?_; rintro e w9 ⟨rfl, hb, _⟩; have HBX := Lib.hid (HBq.out.trans (hb.mono HBq.out.size)); clear hb)
                            go_roundw
                            case rel => exact ⟨q + 1, by omega, by go_num, HBX⟩
                            case measure => simp [intOf]; omega
                        · obtain rfl : nl = q := by omega
                          have hXw := (HBq.out.block X3 (Array.getElem?_eq_some_iff.1 HXc.out).1).trans HXc.out
                          obtain ⟨y0, y1⟩ := cells2 hXw
                          have HBw := Lib.hid (HBc.out.trans (HBq.out.mono HBc.out.size))
                          clear hXw
                          go_wp2_with (go_at_call 9; refine (HPL.out _ HBw.out).mono ?_; rintro e w9 ⟨rfl, hb⟩; have HBX := Lib.hid (HBw.out.trans (hb.mono HBw.out.size)); clear hb)
                          go_roundw
                          case rel => exact ⟨j + 1, by omega, by go_num, HBX⟩
                          case measure => simp [intOf]; omega
                  · obtain rfl : n9 = j := by omega
                    have uu := C8.out _ HB9.out
                    go_wp2_with fail
                    clear uu
                    go_loopw [154] (fun i wr => ∃ j : Nat, j ≤ n8 ∧ i = .int .i64 (j : Int) ∧ Hid (Below w7.heap.size w7 wr)) (fun i _ => n8 - (intOf i).toNat)
                    case atStart => exact ⟨0, by omega, rfl, HB9⟩
                    case round =>
                      obtain ⟨j, hj, rfl, HB8⟩ := hrel
                      clear HB9
                      by_cases hjn : j < n8
                      · as_aux_lemma =>
                          have hji : (j : Int) < (n8 : Int) := by omega
                          obtain ⟨z, hz⟩ : ∃ z, m.elems[j]? = some z := ⟨_, List.getElem?_eq_getElem (by have := L8.out; omega)⟩
                          obtain ⟨g1, o1, cs1, hA1, _, hg1, ⟨_, _, rfl, _, ⟨E1, f1, rfl, _, _, _, hi1⟩, ⟨B1, d1, rfl, _, _, _, _⟩⟩, k1⟩ := HL8.out j z hz
                          have hgd := List.all_eq_true.1 GD8.out z (List.mem_of_getElem? hz)
                          have hzs := HS.out.2.2.2.2.2.2.2.2.2.2.2.2.1 z (List.mem_of_getElem? hz)
                          obtain ⟨zt, zi, zf⟩ := z
                          simp only at hgd hi1 k1 hzs
                          have HPL := Lib.hid (fun W (hb : Below w7.heap.size w7 W) => plain_any (fun _ => True) E1 zi zi.length f1 W (hi1.ins.mod (Mod.of_below (T := fun _ => False) hb) (fun _ _ _ h => h)) rfl hzs.1 hgd)
                          have p0 := (HB8.out.cell (p := ⟨g1, o1 + j * 3 + 0, none⟩) hg1).trans (k1 0 _ rfl)
                          have p1 := (HB8.out.cell (p := ⟨g1, o1 + j * 3 + 1, none⟩) hg1).trans (k1 1 _ rfl)
                          have p2 := (HB8.out.cell (p := ⟨g1, o1 + j * 3 + 2, none⟩) hg1).trans (k1 2 _ rfl)
                          simp only [Nat.add_zero] at p0
                          generalize zi.length = ni at HPL p1
                          generalize zf.length = nf at p2
                          subst hA1
                          clear hz hgd hzs hi1 k1 hg1
                          have HBA : Hid (∀ o, Below w7.heap.size w7 (wr.alloc o)) := Lib.hid (fun o => HB8.out.alloc HB8.out.size o)
                          go_wp2_with (go_at_call 9; refine (HPL.out _ (HBA.out _)).mono ?_; rintro e w9 ⟨rfl, hb⟩; have HBX := Lib.hid ((HBA.out _).trans (hb.mono (HBA.out _).size)); clear hb)
                          go_roundw
                          case rel => exact ⟨j + 1, by omega, by go_num, HBX⟩
                          case measure => simp [intOf]; omega
                      · obtain rfl : n8 = j := by omega
                        have uu := C10.out _ HB8.out
                        go_wp2_with fail
                        clear uu
                        go_loopw [166] (fun i wr => ∃ j : Nat, j ≤ n10 ∧ i = .int .i64 (j : Int) ∧ Hid (Below w7.heap.size w7 wr)) (fun i _ => n10 - (intOf i).toNat)
                        case atStart => exact ⟨0, by omega, rfl, HB8⟩
                        case round =>
                          obtain ⟨j, hj, rfl, HB10⟩ := hrel
                          clear HB8
                          by_cases hjn : j < n10
                          · as_aux_lemma =>
                              have hji : (j : Int) < (n10 : Int) := by omega
                              obtain ⟨z, hz⟩ : ∃ z, m.datas[j]? = some z := ⟨_, List.getElem?_eq_getElem (by have := L10.out; omega)⟩
                              obtain ⟨g1, o1, cs1, hA1, _, hg1, ⟨_, _, rfl, _, ⟨E1, f1, rfl, _, _, _, hi1⟩, ⟨B1, d1, rfl, _, _, _, _⟩⟩, k1⟩ := HL10.out j z hz
                              have hgd := List.all_eq_true.1 GD10.out z (List.mem_of_getElem? hz)
                              have hzs := HS.out.2.2.2.2.2.2.2.2.2.2.2.2.2.2 z (List.mem_of_getElem? hz)
                              obtain ⟨zt, zi, zf⟩ := z
                              simp only at hgd hi1 k1 hzs
                              have HPL := Lib.hid (fun W (hb : Below w7.heap.size w7 W) => plain_any (fun _ => True) E1 zi zi.length f1 W (hi1.ins.mod (Mod.of_below (T := fun _ => False) hb) (fun _ _ _ h => h)) rfl hzs.1 hgd)
                              have p0 := (HB10.out.cell (p := ⟨g1, o1 + j * 3 + 0, none⟩) hg1).trans (k1 0 _ rfl)
                              have p1 := (HB10.out.cell (p := ⟨g1, o1 + j * 3 + 1, none⟩) hg1).trans (k1 1 _ rfl)
                              have p2 := (HB10.out.cell (p := ⟨g1, o1 + j * 3 + 2, none⟩) hg1).trans (k1 2 _ rfl)
                              simp only [Nat.add_zero] at p0
                              generalize zi.length = ni at HPL p1
                              generalize zf.length = nf at p2
                              subst hA1
                              clear hz hgd hzs hi1 k1 hg1
                              have HBA : Hid (∀ o, Below w7.heap.size w7 (wr.alloc o)) := Lib.hid (fun o => HB10.out.alloc HB10.out.size o)
                              go_wp2_with (go_at_call 9; refine (HPL.out _ (HBA.out _)).mono ?_; rintro e w9 ⟨rfl, hb⟩; have HBX := Lib.hid ((HBA.out _).trans (hb.mono (HBA.out _).size)); clear hb)
                              go_roundw
                              case rel => exact ⟨j + 1, by omega, by go_num, HBX⟩
                              case measure => simp [intOf]; omega
                          · obtain rfl : n10 = j := by omega
                            go_wp2_with fail
                            go_ret
                            exact ⟨rfl, HB7.out.trans (HB10.out.mono HB7.out.size)⟩
end Go.Proofs.YtaloenmpidbhlaaDoor
