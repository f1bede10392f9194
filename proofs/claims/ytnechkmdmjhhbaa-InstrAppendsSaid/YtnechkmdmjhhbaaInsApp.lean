/-
  Append: the bytes of one instruction behind others.
-/
import Derived.Test.YtnechkmdmjhhbaaInsPut2
import Derived.Test.YtnechkmdmjhhbaaInsFits
import Derived.Test.YtnechkmdmjhhbaaInsM
import Derived.Deep.RegionHeld3
namespace Go.Proofs.Ytnechkmdmjhhbaa
open Go.RowKit Ins
def AppPost (l : List UInt8) (x : I) (w : World) (e : Ending) (w' : World) : Prop :=
  if may x = true then ∃ v, e = .returned (.tuple #[v, .int .i64 0]) ∧ w'.ownsRow w.heap.size 5 1 v (l ++ enc x).length (bytesOf (l ++ enc x)) ∧ Below w.heap.size w w'
  else e = .returned (.tuple #[.slice none 0 0, .int .i64 2]) ∧ Below w.heap.size w w'
def OwnedAt (w1 W : World) (v : Value) (l : List UInt8) : Prop := ∃ b0, w1.heap.size ≤ b0 ∧ b0 ≤ W.heap.size ∧ W.ownsRow b0 5 1 v l.length (bytesOf l) ∧ Below w1.heap.size w1 W
theorem OwnedAt.drew {w1 W : World} {v : Value} {l : List UInt8} (h : OwnedAt w1 W v l) : OwnedAt w1 W.drew v l :=
  let ⟨b0, h1, h2, h3, h4⟩ := h
  ⟨b0, h1, h2, h3, h4.drew⟩
theorem own_at (A : Option Addr) (l : List UInt8) (n c : Nat) (w1 W : World) (hA : Has w1 w1.heap.size A l) (hn : n = l.length) (hsz : n ≤ 140737488355328) (hb : Below w1.heap.size w1 W) :
    Calls Try.prog 19 #[.slice A n c] W fun e W' => ∃ v, e = .returned v ∧ OwnedAt w1 W' v l ∧ Below w1.heap.size w1 W' := by
  subst hn
  refine (own_any A l c W (hA.on hb) hsz).mono ?_
  rintro e W' ⟨v, rfl, ho, hb'⟩
  have h := hb.trans (hb'.mono hb.size)
  exact ⟨v, rfl, ⟨W.heap.size, hb.size, hb'.size, ho, h⟩, h⟩
theorem put_at (l : List UInt8) (x : I) (A2 : Option Addr) (c2 : Nat) (w1 W : World) (v : Value) (hU : HasU w1 (· < w1.heap.size) A2 x.l) (hwf : x.wf) (hc1 : x.l.length ≤ c2) (hc2 : c2 ≤ maxLen) (hm : may x = true) (hxl : x.l.length < 4294967296) (hsz : l.length + 10 * (x.l.length + 5) ≤ 100000000000000) (ho : OwnedAt w1 W v l) :
    Calls Try.prog 18 #[v, insVal x A2 c2] W fun e W' => ∃ v', e = .returned v' ∧ W'.ownsRow w1.heap.size 5 1 v' (l ++ enc x).length (bytesOf (l ++ enc x)) ∧ Below w1.heap.size w1 W' := by
  obtain ⟨b0, h1, h2, h3, h4⟩ := ho
  have hU' := hU.mod (Mod.of_below (T := fun _ => False) h4) (fun _ _ _ h => h)
  refine (put_any b0 v l (· < w1.heap.size) (insVal x A2 c2) x W h3 h2 ⟨A2, c2, rfl, hwf, hc1, hc2, hU'⟩ (fun g hg e => by have := (h3.lt g e).1; omega) hm hxl hsz).mono ?_
  rintro e W' ⟨v', rfl, h5, h6, h7⟩
  refine ⟨v', rfl, own_base h5 h1, ?_⟩
  have h8 : Below b0 W W' := h6.below h2 (fun k hk hT => by have := (h3.lt k hT).1; omega)
  exact h4.trans (h8.mono h1)
set_option maxRecDepth 100000 in
set_option maxHeartbeats 4000000 in
theorem append_any (A : Option Addr) (l : List UInt8) (n c : Nat) (x : I) (A2 : Option Addr) (c2 : Nat) (w : World) (hA : Has w w.heap.size A l) (hn : n = l.length) (hU : HasU w (· < w.heap.size) A2 x.l) (hwf : x.wf) (hc1 : x.l.length ≤ c2) (hc2 : c2 ≤ maxLen) (hxl : x.l.length < 4294967296) (hsz : n + 10 * (x.l.length + 5) ≤ 100000000000000) :
    Calls Try.prog 8 #[.slice A n c, insVal x A2 c2] w (AppPost l x w) := by
  have HF := Lib.hid (fun W => fits_any x A2 c2 W hwf)
  have HPUT := Lib.hid (fun w1 W v (hb : Below w.heap.size w w1) hm ho => put_at l x A2 c2 w1 W v ((hU.mod (Mod.of_below (T := fun _ => False) hb) (fun _ _ _ h => h)).more (fun k _ h => Nat.lt_of_lt_of_le h hb.size)) hwf hc1 hc2 hm hxl (by omega) ho)
  have HOW := Lib.hid (fun w1 W (hb : Below w.heap.size w w1) hb1 => own_at A l n c w1 W (hA.on hb) hn (by omega) hb1)
  unfold AppPost
  generalize l ++ enc x = out at HPUT ⊢
  generalize hmx : may x = mx at HF HPUT ⊢
  obtain ⟨op, xa, xb, xc, xl⟩ := x
  simp only [insVal, insCells] at HF HPUT ⊢
  clear hA hn hU hwf hc1 hc2 hxl hsz hmx
  generalize xl.length = q at HF HPUT ⊢
  have HX0 : Hid ((w.alloc (.cells #[.int .u8 (op : Int), .int .u32 (xa : Int), .int .u32 (xb : Int), .int .i64 xc, .slice A2 q c2] 26)).heap[w.heap.size]? = some (.cells #[.int .u8 (op : Int), .int .u32 (xa : Int), .int .u32 (xb : Int), .int .i64 xc, .slice A2 q c2] 26 (0, 0))) := Lib.hid (heap_alloc_new w _)
  have HB0 : Hid (Below w.heap.size w (w.alloc (.cells #[.int .u8 (op : Int), .int .u32 (xa : Int), .int .u32 (xb : Int), .int .i64 xc, .slice A2 q c2] 26))) := Lib.hid ((Below.refl _ _).alloc (Nat.le_refl _) _)
  have hs0 : w.heap.size < (w.alloc (.cells #[.int .u8 (op : Int), .int .u32 (xa : Int), .int .u32 (xb : Int), .int .i64 xc, .slice A2 q c2] 26)).heap.size := by simp
  cases mx with
  | false =>
    simp only [Bool.false_eq_true, if_false]
    clear HPUT HOW
    go_enter Try.func8, Try.ntmps8
    go_upto_region 1 with (fail)
    generalize w.alloc (.cells #[.int .u8 (op : Int), .int .u32 (xa : Int), .int .u32 (xb : Int), .int .i64 xc, .slice A2 q c2] 26) = w0 at HB0 HX0 hs0 ⊢
    obtain ⟨y0, y1, y2, y3, y4⟩ := cells5 HX0.out
    go_wp2_with (go_at_call 17; refine (HF.out _).mono ?_; rintro e w1 ⟨rfl, hb1⟩; have HB1 := Lib.hid (HB0.out.trans (hb1.mono HB0.out.size)); clear hb1)
    go_ret2
    exact ⟨rfl, HB1.out⟩
  | true =>
    simp only [if_true]
    go_enter Try.func8, Try.ntmps8
    go_upto_region 1 with (fail)
    generalize w.alloc (.cells #[.int .u8 (op : Int), .int .u32 (xa : Int), .int .u32 (xb : Int), .int .i64 xc, .slice A2 q c2] 26) = w0 at HB0 HX0 hs0 ⊢
    obtain ⟨y0, y1, y2, y3, y4⟩ := cells5 HX0.out
    go_upto_region 3 with (go_at_call 17; refine (HF.out _).mono ?_; rintro e w1 ⟨rfl, hb1⟩; have HB1 := Lib.hid (HB0.out.trans (hb1.mono HB0.out.size)); have HC1 := Lib.hid hb1; clear hb1)
    have hlt : ∀ {a : Addr} {v : Value}, w0.cell? a = some v → w1.cell? a = some v := fun h => (HC1.out.cell (World.block_lt_of_cell? w0 _ h)).trans h
    have HQ := Lib.hid (fun W (hb : Below w1.heap.size w1 W) => (⟨(hb.cell (World.block_lt_of_cell? w1 _ (hlt y0))).trans (hlt y0), (hb.cell (World.block_lt_of_cell? w1 _ (hlt y1))).trans (hlt y1), (hb.cell (World.block_lt_of_cell? w1 _ (hlt y2))).trans (hlt y2), (hb.cell (World.block_lt_of_cell? w1 _ (hlt y3))).trans (hlt y3), (hb.cell (World.block_lt_of_cell? w1 _ (hlt y4))).trans (hlt y4)⟩ : W.cell? ⟨w.heap.size, 0, none⟩ = some (.int .u8 (op : Int)) ∧ W.cell? ⟨w.heap.size, 1, none⟩ = some (.int .u32 (xa : Int)) ∧ W.cell? ⟨w.heap.size, 2, none⟩ = some (.int .u32 (xb : Int)) ∧ W.cell? ⟨w.heap.size, 3, none⟩ = some (.int .i64 xc) ∧ W.cell? ⟨w.heap.size, 4, none⟩ = some (.slice A2 q c2)))
    obtain ⟨z0, z1, z2, z3, z4⟩ := HQ.out w1 (Below.refl _ _)
    clear y0 y1 y2 y3 y4 hlt HX0 HC1
    go_region_held3 (fun w' => w'.cell? ⟨w.heap.size, 0, none⟩ = some (.int .u8 (op : Int)) ∧ w'.cell? ⟨w.heap.size, 1, none⟩ = some (.int .u32 (xa : Int)) ∧ w'.cell? ⟨w.heap.size, 2, none⟩ = some (.int .u32 (xb : Int)) ∧ w'.cell? ⟨w.heap.size, 3, none⟩ = some (.int .i64 xc) ∧ w'.cell? ⟨w.heap.size, 4, none⟩ = some (.slice A2 q c2)) (first | exact HQ.out _ (Below.drew (Below.refl _ _)) | exact HQ.out _ (by assumption))
      (first | (go_at_call 19; refine (HOW.out w1 _ HB1.out (by first | assumption | exact Below.drew (Below.refl _ _))).mono ?_; rintro e w2 ⟨v2, rfl, ho2, hb2⟩) | (go_at_call 18; refine (HPUT.out w1 _ _ HB1.out (by first | trivial | rfl) (by first | assumption | exact OwnedAt.drew (by assumption))).mono ?_; rintro e w3 ⟨v3, rfl, ho3, hb3⟩))
    go_wp2_with fail
    go_ret2
    exact ⟨_, rfl, own_base ho3 HB1.out.size, HB1.out.trans (hb3.mono HB1.out.size)⟩
end Go.Proofs.Ytnechkmdmjhhbaa
