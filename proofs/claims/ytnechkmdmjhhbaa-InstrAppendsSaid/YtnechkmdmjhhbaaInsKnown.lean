/-
  The statements' first step: the chapter's rows hold.
-/
import Derived.Test.YtnechkmdmjhhbaaInsTake2
import Derived.Test.YtnechkmdmjhhbaaInsSame
import Derived.Test.YtnechkmdmjhhbaaHasMore
namespace Go.Proofs.Ytnechkmdmjhhbaa
open Go.RowKit Ins
set_option maxRecDepth 100000 in
set_option maxHeartbeats 2000000 in
/-- is, of bytes that are an instruction's. -/
theorem is_any (S : Nat → Prop) (A : Option Addr) (l : List UInt8) (c : Nat) (x : I) (A2 : Option Addr) (c2 : Nat) (w : World) (hA : Has w w.heap.size A l) (hc : l.length ≤ c) (hcm : c ≤ maxLen) (hAc : A = none → c = 0) (hU : HasU w S A2 x.l) (hl : x.l.length ≤ 1000) (h : rdInstr l = .ok (x, l.length)) :
    Calls Try.prog 15 #[.slice A l.length c, insVal x A2 c2] w fun e w' => e = .returned (.bool true) ∧ Below w.heap.size w w' := by
  obtain ⟨op, xa, xb, xc, xl⟩ := x
  have HT := Lib.hid (fun W (hb : Below w.heap.size w W) => take_any A l c W (hA.on hb) hc hcm hAc)
  unfold TPost at HT
  simp only [h] at HT
  have HU := Lib.hid hU
  clear hA hc hAc h hU
  unfold maxLen at hcm
  obtain ⟨n, hn⟩ : ∃ n, l.length = n := ⟨_, rfl⟩
  rw [hn] at HT ⊢
  clear hn
  simp only [insVal, insCells] at HT ⊢
  have hB0 : Below w.heap.size w (w.alloc (.cells #[.int .u8 (op : Int), .int .u32 (xa : Int), .int .u32 (xb : Int), .int .i64 xc, .slice A2 xl.length c2] 26)) := (Below.refl _ _).alloc (Nat.le_refl _) _
  have HB0 := Lib.hid hB0
  have HX0 : Hid ((w.alloc (.cells #[.int .u8 (op : Int), .int .u32 (xa : Int), .int .u32 (xb : Int), .int .i64 xc, .slice A2 xl.length c2] 26)).heap[w.heap.size]? = some (.cells #[.int .u8 (op : Int), .int .u32 (xa : Int), .int .u32 (xb : Int), .int .i64 xc, .slice A2 xl.length c2] 26 (0, 0))) := Lib.hid (heap_alloc_new w _)
  have hsz0 : w.heap.size < (w.alloc (.cells #[.int .u8 (op : Int), .int .u32 (xa : Int), .int .u32 (xb : Int), .int .i64 xc, .slice A2 xl.length c2] 26)).heap.size := by simp
  clear hB0
  have enn : ((n : Int) == (n : Int)) = true := by simp
  go_enter Try.func15, Try.ntmps15
  go_upto_region 1 with (fail)
  generalize w.alloc (.cells #[.int .u8 (op : Int), .int .u32 (xa : Int), .int .u32 (xb : Int), .int .i64 xc, .slice A2 xl.length c2] 26) = w0 at HB0 HX0 hsz0 ⊢
  go_upto_region 2 with (go_at_call 16; refine (HT.out _ HB0.out).mono ?_; rintro e w1 ⟨v, rfl, ⟨A4, c4, rfl, _, _, _, hU4⟩, hb1⟩; have HU4 := Lib.hid hU4; have HB1 := Lib.hid hb1; dsimp only [insVal, insCells]; clear hU4 hb1)
  have hs1 := HB1.out.size
  have HX1 : Hid ((w1.alloc (.cells #[.int .u8 (op : Int), .int .u32 (xa : Int), .int .u32 (xb : Int), .int .i64 xc, .slice A4 xl.length c4] 26)).heap[w.heap.size]? = some (.cells #[.int .u8 (op : Int), .int .u32 (xa : Int), .int .u32 (xb : Int), .int .i64 xc, .slice A2 xl.length c2] 26 (0, 0))) := Lib.hid ((Below.heap_alloc _ _ _ (by omega)).trans ((HB1.out.block _ hsz0).trans HX0.out))
  have HX2 : Hid ((w1.alloc (.cells #[.int .u8 (op : Int), .int .u32 (xa : Int), .int .u32 (xb : Int), .int .i64 xc, .slice A4 xl.length c4] 26)).heap[w1.heap.size]? = some (.cells #[.int .u8 (op : Int), .int .u32 (xa : Int), .int .u32 (xb : Int), .int .i64 xc, .slice A4 xl.length c4] 26 (0, 0))) := Lib.hid (heap_alloc_new w1 _)
  have hBw : Below w.heap.size w (w1.alloc (.cells #[.int .u8 (op : Int), .int .u32 (xa : Int), .int .u32 (xb : Int), .int .i64 xc, .slice A4 xl.length c4] 26)) := (HB0.out.trans (HB1.out.mono (by omega))).alloc (by omega) _
  have HBw := Lib.hid hBw
  have HUA := Lib.hid (HU.out.mod (Mod.of_below (T := fun _ => False) hBw) (fun _ _ _ h => h))
  have HUB := Lib.hid (HU4.out.mod ((Mod.refl (fun _ => False) w1).alloc (.cells #[.int .u8 (op : Int), .int .u32 (xa : Int), .int .u32 (xb : Int), .int .i64 xc, .slice A4 xl.length c4] 26)) (fun _ _ _ h => h))
  obtain ⟨X2, hX2⟩ : ∃ X2, X2 = w1.heap.size := ⟨_, rfl⟩
  rw [← hX2] at HX2 ⊢
  clear hBw hX2
  generalize w1.alloc (.cells #[.int .u8 (op : Int), .int .u32 (xa : Int), .int .u32 (xb : Int), .int .i64 xc, .slice A4 xl.length c4] 26) = w2 at HX1 HX2 HBw HUA HUB ⊢
  obtain ⟨y0, y1, y2, y3, y4⟩ := cells5 HX1.out
  obtain ⟨z0, z1, z2, z3, z4⟩ := cells5 HX2.out
  have HS := Lib.hid (same_any _ _ ⟨op, xa, xb, xc, xl⟩ A2 A4 c2 c4 w2 HUA.out HUB.out (by simp only at hl ⊢; omega))
  simp only [insVal, insCells] at HS
  go_wp2_with (go_at_call 26; refine HS.out.mono ?_; rintro e w3 ⟨rfl, hb3⟩; have HB3 := Lib.hid hb3; clear hb3)
  go_ret
  exact ⟨rfl, HBw.out.trans (HB3.out.mono HBw.out.size)⟩
end Go.Proofs.Ytnechkmdmjhhbaa
