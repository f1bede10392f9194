/-
  The document's Bytes: the bytes of an instruction that has some, in a row of the call's own. (gen/rbytes.py)
-/
import Derived.Test.YtgnbkfkiigcdgaaGreatDoorP08
import Derived.Test.YtgnbkfkiigcdgaaGreatDoorP09
import Derived.Test.YtgnbkfkiigcdgaaGreatDoorP04
import Derived.Deep.Cut
namespace Go.Proofs.YtgnbkfkiigcdgaaGreatDoor
open Go.RowKit Ins
/-- A literal of one byte is a row of the call's own. -/
theorem own_lit1 (w : World) (base op : Nat) (h : op < 256) (hb : base ≤ w.heap.size) : (w.alloc (.cells #[.int .u8 (op : Int)] 5)).ownsRow base 5 1 (.slice (some ⟨w.heap.size, 0, none⟩) 1 1) 1 (bytesOf [UInt8.ofNat op]) := by
  refine ⟨rfl, .inr ⟨w.heap.size, 1, #[.int .u8 (op : Int)], rfl, hb, heap_alloc_new w _, Nat.le_refl _, by unfold maxLen; omega, rfl, ?_⟩⟩
  simp [bytesOf, byteNat op h]
/-- What a call of the document's Bytes comes to. -/
def RBPost (l : List UInt8) (w : World) (e : Ending) (w' : World) : Prop := ∃ v', e = .returned v' ∧ w'.ownsRow w.heap.size 5 1 v' l.length (bytesOf l) ∧ Below w.heap.size w w'
set_option maxRecDepth 100000 in
set_option maxHeartbeats 4000000 in
theorem rb_0 (S : Nat → Prop) (A : Option Addr) (c op a b : Nat) (n : Int) (xl : List Nat) (w : World) (hV : HasU w S A xl) (hS : ∀ g, S g → g < w.heap.size)
    (hwf : (⟨op, a, b, n, xl⟩ : I).wf) (T : List UInt8) (HT : Hid (T = [])) (_hsz : 10 * (xl.length + 5) ≤ 10000000000000) (hf : Opc.form op = 0) :
    Calls Tryz.prog 66 #[.agg #[.int .u8 (op : Int), .int .u32 (a : Int), .int .u32 (b : Int), .int .i64 n, .slice A xl.length c]] w (RBPost (UInt8.ofNat op :: T) w) := by
  obtain ⟨hop, ha, hbb, hn0, hn1, hxw⟩ := hwf
  simp only at hop ha hbb hn0 hn1 hxw
  obtain ⟨o, wd, nm, sg, hfi⟩ := find_letters op hop
  rw [hf] at hfi
  have HFI := Lib.hid hfi
  have HV := Lib.hid hV
  have HS := Lib.hid hS
  have HXW := Lib.hid hxw
  have HX0 : Hid ((w.alloc (.cells #[.int .u8 (op : Int), .int .u32 (a : Int), .int .u32 (b : Int), .int .i64 n, .slice A xl.length c] 95)).heap[w.heap.size]? = some (.cells #[.int .u8 (op : Int), .int .u32 (a : Int), .int .u32 (b : Int), .int .i64 n, .slice A xl.length c] 95 (0, 0))) := Lib.hid (heap_alloc_new w _)
  have HB0 : Hid (Below w.heap.size w (w.alloc (.cells #[.int .u8 (op : Int), .int .u32 (a : Int), .int .u32 (b : Int), .int .i64 n, .slice A xl.length c] 95))) := Lib.hid ((Below.refl _ _).alloc (Nat.le_refl _) _)
  have hs0 : w.heap.size < (w.alloc (.cells #[.int .u8 (op : Int), .int .u32 (a : Int), .int .u32 (b : Int), .int .i64 n, .slice A xl.length c] 95)).heap.size := by simp
  clear hf hfi hV hS hxw
  go_enter Tryz.func66, Tryz.ntmps66
  go_upto_region 1 with (fail)
  generalize w.alloc (.cells #[.int .u8 (op : Int), .int .u32 (a : Int), .int .u32 (b : Int), .int .i64 n, .slice A xl.length c] 95) = w0 at HX0 HB0 hs0 ⊢
  obtain ⟨x0, x1, x2, x3, x4⟩ := cells5 HX0.out
  go_upto_region 2 with (go_at_call 113; refine (HFI.out _).mono ?_; rintro e w1 ⟨rfl, hb1⟩; have HB1 := Lib.hid (HB0.out.trans (hb1.mono HB0.out.size)); have HX1 : Hid (w1.heap[w.heap.size]? = some (.cells #[.int .u8 (op : Int), .int .u32 (a : Int), .int .u32 (b : Int), .int .i64 n, .slice A xl.length c] 95 (0, 0))) := Lib.hid ((hb1.block _ hs0).trans HX0.out); have hs1 : w.heap.size < w1.heap.size := Nat.lt_of_lt_of_le hs0 hb1.size; clear hb1)
  clear x0 x1 x2 x3 x4 HX0 HB0 hs0 HFI
  have HX2 : Hid ((w1.alloc (.cells #[.int .u8 o, .string nm, .int .u8 0, .string sg, .int .i64 wd] 187)).heap[w.heap.size]? = some (.cells #[.int .u8 (op : Int), .int .u32 (a : Int), .int .u32 (b : Int), .int .i64 n, .slice A xl.length c] 95 (0, 0))) := Lib.hid ((Below.heap_alloc _ _ _ hs1).trans HX1.out)
  have HR2 : Hid ((w1.alloc (.cells #[.int .u8 o, .string nm, .int .u8 0, .string sg, .int .i64 wd] 187)).heap[w1.heap.size]? = some (.cells #[.int .u8 o, .string nm, .int .u8 0, .string sg, .int .i64 wd] 187 (0, 0))) := Lib.hid (heap_alloc_new w1 _)
  have HB2 : Hid (Below w.heap.size w (w1.alloc (.cells #[.int .u8 o, .string nm, .int .u8 0, .string sg, .int .i64 wd] 187))) := Lib.hid (HB1.out.alloc HB1.out.size _)
  have hs2 : w1.heap.size < (w1.alloc (.cells #[.int .u8 o, .string nm, .int .u8 0, .string sg, .int .i64 wd] 187)).heap.size := by simp
  obtain ⟨R, hR⟩ : ∃ R, R = w1.heap.size := ⟨_, rfl⟩
  obtain ⟨X, hX⟩ : ∃ X, X = w.heap.size := ⟨_, rfl⟩
  rw [← hR] at HR2 hs1 hs2 ⊢
  rw [← hX] at HX2 hs1 ⊢
  have HXX := Lib.hid hX
  clear hR hX HX1 HB1
  generalize w1.alloc (.cells #[.int .u8 o, .string nm, .int .u8 0, .string sg, .int .i64 wd] 187) = w2 at HX2 HR2 HB2 hs2 ⊢
  obtain ⟨y0, y1, y2, y3, y4⟩ := cells5 HX2.out
  have HO3 := Lib.hid (own_lit1 w2 w.heap.size op hop HB2.out.size)
  have HX3 : Hid ((w2.alloc (.cells #[.int .u8 (op : Int)] 5)).heap[X]? = some (.cells #[.int .u8 (op : Int), .int .u32 (a : Int), .int .u32 (b : Int), .int .i64 n, .slice A xl.length c] 95 (0, 0))) := Lib.hid ((Below.heap_alloc _ _ _ (by omega)).trans HX2.out)
  have HR3 : Hid ((w2.alloc (.cells #[.int .u8 (op : Int)] 5)).heap[R]? = some (.cells #[.int .u8 o, .string nm, .int .u8 0, .string sg, .int .i64 wd] 187 (0, 0))) := Lib.hid ((Below.heap_alloc _ _ _ hs2).trans HR2.out)
  have HB3 : Hid (Below w.heap.size w (w2.alloc (.cells #[.int .u8 (op : Int)] 5))) := Lib.hid (HB2.out.alloc HB2.out.size _)
  go_upto_region 3 with (fail)
  obtain ⟨G, hG⟩ : ∃ G, G = w2.heap.size := ⟨_, rfl⟩
  rw [← hG] at HO3 hs2 ⊢
  have hGw : w.heap.size ≤ G := by have := HB2.out.size; omega
  clear hG y0 y1 y2 y3 y4 HX2 HR2 HB2
  generalize w2.alloc (.cells #[.int .u8 (op : Int)] 5) = w3 at HO3 HX3 HR3 HB3 ⊢
  have HKX := Lib.hid (fun (W : World) (v : Value) (l : List UInt8) (h : Adds w.heap.size w3 (.slice (some ⟨G, 0, none⟩) 1 1) W v l) => cells5 (h.2.1.heap HX3.out (fun e => by simp [Value.ownBlock] at e; omega)))
  have HKR := Lib.hid (fun (W : World) (v : Value) (l : List UInt8) (h : Adds w.heap.size w3 (.slice (some ⟨G, 0, none⟩) 1 1) W v l) => cells5 (h.2.1.heap HR3.out (fun e => by simp [Value.ownBlock] at e; omega)))
  have HU := Lib.hid (fun (W : World) (v : Value) (l : List UInt8) (h : Adds w.heap.size w3 (.slice (some ⟨G, 0, none⟩) 1 1) W v l) => (HV.out.mod (Mod.of_below (T := fun _ => False) HB3.out) (fun _ _ _ h => h)).mod h.2.1 (fun g _ hg e => by have := HS.out g hg; simp [Value.ownBlock] at e; omega))
  have FIN := Lib.hid (fun (l : List UInt8) (W : World) (v : Value) (h : Adds w.heap.size w3 (.slice (some ⟨G, 0, none⟩) 1 1) W v l) => (⟨v, rfl, h.1, HB3.out.trans (h.below (fun g e => by simp [Value.ownBlock] at e; omega) HB3.out.size)⟩ : RBPost l w (.returned v) W))
  have HB3s := HB3.out.size
  have HA0 : Hid (Adds w.heap.size w3 (.slice (some ⟨G, 0, none⟩) 1 1) w3 (.slice (some ⟨G, 0, none⟩) 1 1) [UInt8.ofNat op]) := Lib.hid ⟨HO3.out, Mod.refl _ _, fun g h => .inl h⟩
  obtain ⟨y0, y1, y2, y3, y4⟩ := HKX.out _ _ _ HA0.out
  obtain ⟨z0, z1, z2, z3, z4⟩ := HKR.out _ _ _ HA0.out
  clear HV HS HB3 HX3 HR3
  go_wp2_with fail
  go_ret
  have h := HA0.out
  have e : [UInt8.ofNat op] = UInt8.ofNat op :: T := by rw [HT.out]
  rw [e] at h
  exact FIN.out _ _ _ h
set_option maxRecDepth 100000 in
set_option maxHeartbeats 4000000 in
theorem rb_1 (S : Nat → Prop) (A : Option Addr) (c op a b : Nat) (n : Int) (xl : List Nat) (w : World) (hV : HasU w S A xl) (hS : ∀ g, S g → g < w.heap.size)
    (hwf : (⟨op, a, b, n, xl⟩ : I).wf) (T : List UInt8) (HT : Hid (T = [UInt8.ofNat a])) (hab : a < 256) (_hsz : 10 * (xl.length + 5) ≤ 10000000000000) (hf : Opc.form op = 1) :
    Calls Tryz.prog 66 #[.agg #[.int .u8 (op : Int), .int .u32 (a : Int), .int .u32 (b : Int), .int .i64 n, .slice A xl.length c]] w (RBPost (UInt8.ofNat op :: T) w) := by
  obtain ⟨hop, ha, hbb, hn0, hn1, hxw⟩ := hwf
  simp only at hop ha hbb hn0 hn1 hxw
  obtain ⟨o, wd, nm, sg, hfi⟩ := find_letters op hop
  rw [hf] at hfi
  have HFI := Lib.hid hfi
  have HV := Lib.hid hV
  have HS := Lib.hid hS
  have HXW := Lib.hid hxw
  have HX0 : Hid ((w.alloc (.cells #[.int .u8 (op : Int), .int .u32 (a : Int), .int .u32 (b : Int), .int .i64 n, .slice A xl.length c] 95)).heap[w.heap.size]? = some (.cells #[.int .u8 (op : Int), .int .u32 (a : Int), .int .u32 (b : Int), .int .i64 n, .slice A xl.length c] 95 (0, 0))) := Lib.hid (heap_alloc_new w _)
  have HB0 : Hid (Below w.heap.size w (w.alloc (.cells #[.int .u8 (op : Int), .int .u32 (a : Int), .int .u32 (b : Int), .int .i64 n, .slice A xl.length c] 95))) := Lib.hid ((Below.refl _ _).alloc (Nat.le_refl _) _)
  have hs0 : w.heap.size < (w.alloc (.cells #[.int .u8 (op : Int), .int .u32 (a : Int), .int .u32 (b : Int), .int .i64 n, .slice A xl.length c] 95)).heap.size := by simp
  clear hf hfi hV hS hxw
  go_enter Tryz.func66, Tryz.ntmps66
  go_upto_region 1 with (fail)
  generalize w.alloc (.cells #[.int .u8 (op : Int), .int .u32 (a : Int), .int .u32 (b : Int), .int .i64 n, .slice A xl.length c] 95) = w0 at HX0 HB0 hs0 ⊢
  obtain ⟨x0, x1, x2, x3, x4⟩ := cells5 HX0.out
  go_upto_region 2 with (go_at_call 113; refine (HFI.out _).mono ?_; rintro e w1 ⟨rfl, hb1⟩; have HB1 := Lib.hid (HB0.out.trans (hb1.mono HB0.out.size)); have HX1 : Hid (w1.heap[w.heap.size]? = some (.cells #[.int .u8 (op : Int), .int .u32 (a : Int), .int .u32 (b : Int), .int .i64 n, .slice A xl.length c] 95 (0, 0))) := Lib.hid ((hb1.block _ hs0).trans HX0.out); have hs1 : w.heap.size < w1.heap.size := Nat.lt_of_lt_of_le hs0 hb1.size; clear hb1)
  clear x0 x1 x2 x3 x4 HX0 HB0 hs0 HFI
  have HX2 : Hid ((w1.alloc (.cells #[.int .u8 o, .string nm, .int .u8 1, .string sg, .int .i64 wd] 187)).heap[w.heap.size]? = some (.cells #[.int .u8 (op : Int), .int .u32 (a : Int), .int .u32 (b : Int), .int .i64 n, .slice A xl.length c] 95 (0, 0))) := Lib.hid ((Below.heap_alloc _ _ _ hs1).trans HX1.out)
  have HR2 : Hid ((w1.alloc (.cells #[.int .u8 o, .string nm, .int .u8 1, .string sg, .int .i64 wd] 187)).heap[w1.heap.size]? = some (.cells #[.int .u8 o, .string nm, .int .u8 1, .string sg, .int .i64 wd] 187 (0, 0))) := Lib.hid (heap_alloc_new w1 _)
  have HB2 : Hid (Below w.heap.size w (w1.alloc (.cells #[.int .u8 o, .string nm, .int .u8 1, .string sg, .int .i64 wd] 187))) := Lib.hid (HB1.out.alloc HB1.out.size _)
  have hs2 : w1.heap.size < (w1.alloc (.cells #[.int .u8 o, .string nm, .int .u8 1, .string sg, .int .i64 wd] 187)).heap.size := by simp
  obtain ⟨R, hR⟩ : ∃ R, R = w1.heap.size := ⟨_, rfl⟩
  obtain ⟨X, hX⟩ : ∃ X, X = w.heap.size := ⟨_, rfl⟩
  rw [← hR] at HR2 hs1 hs2 ⊢
  rw [← hX] at HX2 hs1 ⊢
  have HXX := Lib.hid hX
  clear hR hX HX1 HB1
  generalize w1.alloc (.cells #[.int .u8 o, .string nm, .int .u8 1, .string sg, .int .i64 wd] 187) = w2 at HX2 HR2 HB2 hs2 ⊢
  obtain ⟨y0, y1, y2, y3, y4⟩ := cells5 HX2.out
  have HO3 := Lib.hid (own_lit1 w2 w.heap.size op hop HB2.out.size)
  have HX3 : Hid ((w2.alloc (.cells #[.int .u8 (op : Int)] 5)).heap[X]? = some (.cells #[.int .u8 (op : Int), .int .u32 (a : Int), .int .u32 (b : Int), .int .i64 n, .slice A xl.length c] 95 (0, 0))) := Lib.hid ((Below.heap_alloc _ _ _ (by omega)).trans HX2.out)
  have HR3 : Hid ((w2.alloc (.cells #[.int .u8 (op : Int)] 5)).heap[R]? = some (.cells #[.int .u8 o, .string nm, .int .u8 1, .string sg, .int .i64 wd] 187 (0, 0))) := Lib.hid ((Below.heap_alloc _ _ _ hs2).trans HR2.out)
  have HB3 : Hid (Below w.heap.size w (w2.alloc (.cells #[.int .u8 (op : Int)] 5))) := Lib.hid (HB2.out.alloc HB2.out.size _)
  go_upto_region 3 with (fail)
  obtain ⟨G, hG⟩ : ∃ G, G = w2.heap.size := ⟨_, rfl⟩
  rw [← hG] at HO3 hs2 ⊢
  have hGw : w.heap.size ≤ G := by have := HB2.out.size; omega
  clear hG y0 y1 y2 y3 y4 HX2 HR2 HB2
  generalize w2.alloc (.cells #[.int .u8 (op : Int)] 5) = w3 at HO3 HX3 HR3 HB3 ⊢
  have HKX := Lib.hid (fun (W : World) (v : Value) (l : List UInt8) (h : Adds w.heap.size w3 (.slice (some ⟨G, 0, none⟩) 1 1) W v l) => cells5 (h.2.1.heap HX3.out (fun e => by simp [Value.ownBlock] at e; omega)))
  have HKR := Lib.hid (fun (W : World) (v : Value) (l : List UInt8) (h : Adds w.heap.size w3 (.slice (some ⟨G, 0, none⟩) 1 1) W v l) => cells5 (h.2.1.heap HR3.out (fun e => by simp [Value.ownBlock] at e; omega)))
  have HU := Lib.hid (fun (W : World) (v : Value) (l : List UInt8) (h : Adds w.heap.size w3 (.slice (some ⟨G, 0, none⟩) 1 1) W v l) => (HV.out.mod (Mod.of_below (T := fun _ => False) HB3.out) (fun _ _ _ h => h)).mod h.2.1 (fun g _ hg e => by have := HS.out g hg; simp [Value.ownBlock] at e; omega))
  have FIN := Lib.hid (fun (l : List UInt8) (W : World) (v : Value) (h : Adds w.heap.size w3 (.slice (some ⟨G, 0, none⟩) 1 1) W v l) => (⟨v, rfl, h.1, HB3.out.trans (h.below (fun g e => by simp [Value.ownBlock] at e; omega) HB3.out.size)⟩ : RBPost l w (.returned v) W))
  have HB3s := HB3.out.size
  have HA0 : Hid (Adds w.heap.size w3 (.slice (some ⟨G, 0, none⟩) 1 1) w3 (.slice (some ⟨G, 0, none⟩) 1 1) [UInt8.ofNat op]) := Lib.hid ⟨HO3.out, Mod.refl _ _, fun g h => .inl h⟩
  obtain ⟨y0, y1, y2, y3, y4⟩ := HKX.out _ _ _ HA0.out
  obtain ⟨z0, z1, z2, z3, z4⟩ := HKR.out _ _ _ HA0.out
  clear HV HS HB3 HX3 HR3
  obtain ⟨v4, w4, hr4, ha4⟩ := append1_adds w3 w.heap.size (.slice (some ⟨G, 0, none⟩) 1 1) [UInt8.ofNat op] (UInt8.ofNat a) HO3.out (by simp) HB3s
  rw [byteNat a hab] at hr4
  have HR4 := Lib.hid hr4
  have HA1 := Lib.hid (HA0.out.trans ha4)
  obtain ⟨y0_1, y1_1, y2_1, y3_1, y4_1⟩ := HKX.out _ _ _ HA1.out; obtain ⟨z0_1, z1_1, z2_1, z3_1, z4_1⟩ := HKR.out _ _ _ HA1.out
  have hwa : IntKind.u8.wrap (a : Int) = (a : Int) := IntWalk.u8_in _ (by omega)
  clear hr4 ha4
  go_wp2_with (at_builtin; refine wpList_appends rfl (.tmp 45) (.tmp 49) 36 rfl _ _ _ w4 rfl rfl HR4.out ?_)
  go_ret
  have h := HA1.out
  have e : [UInt8.ofNat op] ++ [UInt8.ofNat a] = UInt8.ofNat op :: T := by rw [HT.out]; simp
  rw [e] at h
  exact FIN.out _ _ _ h
set_option maxRecDepth 100000 in
set_option maxHeartbeats 4000000 in
theorem rb_2 (S : Nat → Prop) (A : Option Addr) (c op a b : Nat) (n : Int) (xl : List Nat) (w : World) (hV : HasU w S A xl) (hS : ∀ g, S g → g < w.heap.size)
    (hwf : (⟨op, a, b, n, xl⟩ : I).wf) (T : List UInt8) (HT : Hid (T = Leb.encU a)) (_hsz : 10 * (xl.length + 5) ≤ 10000000000000) (hf : Opc.form op = 2) :
    Calls Tryz.prog 66 #[.agg #[.int .u8 (op : Int), .int .u32 (a : Int), .int .u32 (b : Int), .int .i64 n, .slice A xl.length c]] w (RBPost (UInt8.ofNat op :: T) w) := by
  obtain ⟨hop, ha, hbb, hn0, hn1, hxw⟩ := hwf
  simp only at hop ha hbb hn0 hn1 hxw
  obtain ⟨o, wd, nm, sg, hfi⟩ := find_letters op hop
  rw [hf] at hfi
  have HFI := Lib.hid hfi
  have HV := Lib.hid hV
  have HS := Lib.hid hS
  have HXW := Lib.hid hxw
  have HX0 : Hid ((w.alloc (.cells #[.int .u8 (op : Int), .int .u32 (a : Int), .int .u32 (b : Int), .int .i64 n, .slice A xl.length c] 95)).heap[w.heap.size]? = some (.cells #[.int .u8 (op : Int), .int .u32 (a : Int), .int .u32 (b : Int), .int .i64 n, .slice A xl.length c] 95 (0, 0))) := Lib.hid (heap_alloc_new w _)
  have HB0 : Hid (Below w.heap.size w (w.alloc (.cells #[.int .u8 (op : Int), .int .u32 (a : Int), .int .u32 (b : Int), .int .i64 n, .slice A xl.length c] 95))) := Lib.hid ((Below.refl _ _).alloc (Nat.le_refl _) _)
  have hs0 : w.heap.size < (w.alloc (.cells #[.int .u8 (op : Int), .int .u32 (a : Int), .int .u32 (b : Int), .int .i64 n, .slice A xl.length c] 95)).heap.size := by simp
  clear hf hfi hV hS hxw
  go_enter Tryz.func66, Tryz.ntmps66
  go_upto_region 1 with (fail)
  generalize w.alloc (.cells #[.int .u8 (op : Int), .int .u32 (a : Int), .int .u32 (b : Int), .int .i64 n, .slice A xl.length c] 95) = w0 at HX0 HB0 hs0 ⊢
  obtain ⟨x0, x1, x2, x3, x4⟩ := cells5 HX0.out
  go_upto_region 2 with (go_at_call 113; refine (HFI.out _).mono ?_; rintro e w1 ⟨rfl, hb1⟩; have HB1 := Lib.hid (HB0.out.trans (hb1.mono HB0.out.size)); have HX1 : Hid (w1.heap[w.heap.size]? = some (.cells #[.int .u8 (op : Int), .int .u32 (a : Int), .int .u32 (b : Int), .int .i64 n, .slice A xl.length c] 95 (0, 0))) := Lib.hid ((hb1.block _ hs0).trans HX0.out); have hs1 : w.heap.size < w1.heap.size := Nat.lt_of_lt_of_le hs0 hb1.size; clear hb1)
  clear x0 x1 x2 x3 x4 HX0 HB0 hs0 HFI
  have HX2 : Hid ((w1.alloc (.cells #[.int .u8 o, .string nm, .int .u8 2, .string sg, .int .i64 wd] 187)).heap[w.heap.size]? = some (.cells #[.int .u8 (op : Int), .int .u32 (a : Int), .int .u32 (b : Int), .int .i64 n, .slice A xl.length c] 95 (0, 0))) := Lib.hid ((Below.heap_alloc _ _ _ hs1).trans HX1.out)
  have HR2 : Hid ((w1.alloc (.cells #[.int .u8 o, .string nm, .int .u8 2, .string sg, .int .i64 wd] 187)).heap[w1.heap.size]? = some (.cells #[.int .u8 o, .string nm, .int .u8 2, .string sg, .int .i64 wd] 187 (0, 0))) := Lib.hid (heap_alloc_new w1 _)
  have HB2 : Hid (Below w.heap.size w (w1.alloc (.cells #[.int .u8 o, .string nm, .int .u8 2, .string sg, .int .i64 wd] 187))) := Lib.hid (HB1.out.alloc HB1.out.size _)
  have hs2 : w1.heap.size < (w1.alloc (.cells #[.int .u8 o, .string nm, .int .u8 2, .string sg, .int .i64 wd] 187)).heap.size := by simp
  obtain ⟨R, hR⟩ : ∃ R, R = w1.heap.size := ⟨_, rfl⟩
  obtain ⟨X, hX⟩ : ∃ X, X = w.heap.size := ⟨_, rfl⟩
  rw [← hR] at HR2 hs1 hs2 ⊢
  rw [← hX] at HX2 hs1 ⊢
  have HXX := Lib.hid hX
  clear hR hX HX1 HB1
  generalize w1.alloc (.cells #[.int .u8 o, .string nm, .int .u8 2, .string sg, .int .i64 wd] 187) = w2 at HX2 HR2 HB2 hs2 ⊢
  obtain ⟨y0, y1, y2, y3, y4⟩ := cells5 HX2.out
  have HO3 := Lib.hid (own_lit1 w2 w.heap.size op hop HB2.out.size)
  have HX3 : Hid ((w2.alloc (.cells #[.int .u8 (op : Int)] 5)).heap[X]? = some (.cells #[.int .u8 (op : Int), .int .u32 (a : Int), .int .u32 (b : Int), .int .i64 n, .slice A xl.length c] 95 (0, 0))) := Lib.hid ((Below.heap_alloc _ _ _ (by omega)).trans HX2.out)
  have HR3 : Hid ((w2.alloc (.cells #[.int .u8 (op : Int)] 5)).heap[R]? = some (.cells #[.int .u8 o, .string nm, .int .u8 2, .string sg, .int .i64 wd] 187 (0, 0))) := Lib.hid ((Below.heap_alloc _ _ _ hs2).trans HR2.out)
  have HB3 : Hid (Below w.heap.size w (w2.alloc (.cells #[.int .u8 (op : Int)] 5))) := Lib.hid (HB2.out.alloc HB2.out.size _)
  go_upto_region 3 with (fail)
  obtain ⟨G, hG⟩ : ∃ G, G = w2.heap.size := ⟨_, rfl⟩
  rw [← hG] at HO3 hs2 ⊢
  have hGw : w.heap.size ≤ G := by have := HB2.out.size; omega
  clear hG y0 y1 y2 y3 y4 HX2 HR2 HB2
  generalize w2.alloc (.cells #[.int .u8 (op : Int)] 5) = w3 at HO3 HX3 HR3 HB3 ⊢
  have HKX := Lib.hid (fun (W : World) (v : Value) (l : List UInt8) (h : Adds w.heap.size w3 (.slice (some ⟨G, 0, none⟩) 1 1) W v l) => cells5 (h.2.1.heap HX3.out (fun e => by simp [Value.ownBlock] at e; omega)))
  have HKR := Lib.hid (fun (W : World) (v : Value) (l : List UInt8) (h : Adds w.heap.size w3 (.slice (some ⟨G, 0, none⟩) 1 1) W v l) => cells5 (h.2.1.heap HR3.out (fun e => by simp [Value.ownBlock] at e; omega)))
  have HU := Lib.hid (fun (W : World) (v : Value) (l : List UInt8) (h : Adds w.heap.size w3 (.slice (some ⟨G, 0, none⟩) 1 1) W v l) => (HV.out.mod (Mod.of_below (T := fun _ => False) HB3.out) (fun _ _ _ h => h)).mod h.2.1 (fun g _ hg e => by have := HS.out g hg; simp [Value.ownBlock] at e; omega))
  have FIN := Lib.hid (fun (l : List UInt8) (W : World) (v : Value) (h : Adds w.heap.size w3 (.slice (some ⟨G, 0, none⟩) 1 1) W v l) => (⟨v, rfl, h.1, HB3.out.trans (h.below (fun g e => by simp [Value.ownBlock] at e; omega) HB3.out.size)⟩ : RBPost l w (.returned v) W))
  have HB3s := HB3.out.size
  have HA0 : Hid (Adds w.heap.size w3 (.slice (some ⟨G, 0, none⟩) 1 1) w3 (.slice (some ⟨G, 0, none⟩) 1 1) [UInt8.ofNat op]) := Lib.hid ⟨HO3.out, Mod.refl _ _, fun g h => .inl h⟩
  obtain ⟨y0, y1, y2, y3, y4⟩ := HKX.out _ _ _ HA0.out
  obtain ⟨z0, z1, z2, z3, z4⟩ := HKR.out _ _ _ HA0.out
  clear HV HS HB3 HX3 HR3
  have hwa : IntKind.u64.wrap (a : Int) = (a : Int) := IntWalk.u64_in _ (by omega)
  have HQ := Lib.hid (fun (W : World) (v : Value) (l : List UInt8) (h : Adds w.heap.size w3 (.slice (some ⟨G, 0, none⟩) 1 1) W v l) (hl : l.length ≤ 100000000000000) => fewU_adds w.heap.size v l a W h.1 (Nat.le_trans HB3s h.2.1.size) (by omega) hl)
  have hle := Leb.encU_le10 a (by omega)
  generalize hE : Leb.encU a = E at HQ hle
  have HE := Lib.hid hE
  clear hE
  go_wp2_with (first | (go_at_call 32; refine (HQ.out _ _ _ HA0.out (by simp)).mono ?_; rintro e wf0 ⟨Af0, cf0, mf0, w4, v4, rfl, hr0, ha0⟩; have HRU0 := Lib.hid hr0; have HA1 := Lib.hid (HA0.out.trans ha0); clear hr0 ha0; obtain ⟨y0_1, y1_1, y2_1, y3_1, y4_1⟩ := HKX.out _ _ _ HA1.out; obtain ⟨z0_1, z1_1, z2_1, z3_1, z4_1⟩ := HKR.out _ _ _ HA1.out) | (at_builtin; refine wpList_appends rfl (.tmp 59) (.tmp 63) 36 rfl _ _ _ w4 rfl rfl HRU0.out ?_))
  go_ret
  have h := HA1.out
  have e : [UInt8.ofNat op] ++ E = UInt8.ofNat op :: T := by rw [HT.out, ← HE.out]; simp
  rw [e] at h
  exact FIN.out _ _ _ h
set_option maxRecDepth 100000 in
set_option maxHeartbeats 4000000 in
theorem rb_4 (S : Nat → Prop) (A : Option Addr) (c op a b : Nat) (n : Int) (xl : List Nat) (w : World) (hV : HasU w S A xl) (hS : ∀ g, S g → g < w.heap.size)
    (hwf : (⟨op, a, b, n, xl⟩ : I).wf) (T : List UInt8) (HT : Hid (T = Leb.encU a)) (_hsz : 10 * (xl.length + 5) ≤ 10000000000000) (hf : Opc.form op = 4) :
    Calls Tryz.prog 66 #[.agg #[.int .u8 (op : Int), .int .u32 (a : Int), .int .u32 (b : Int), .int .i64 n, .slice A xl.length c]] w (RBPost (UInt8.ofNat op :: T) w) := by
  obtain ⟨hop, ha, hbb, hn0, hn1, hxw⟩ := hwf
  simp only at hop ha hbb hn0 hn1 hxw
  obtain ⟨o, wd, nm, sg, hfi⟩ := find_letters op hop
  rw [hf] at hfi
  have HFI := Lib.hid hfi
  have HV := Lib.hid hV
  have HS := Lib.hid hS
  have HXW := Lib.hid hxw
  have HX0 : Hid ((w.alloc (.cells #[.int .u8 (op : Int), .int .u32 (a : Int), .int .u32 (b : Int), .int .i64 n, .slice A xl.length c] 95)).heap[w.heap.size]? = some (.cells #[.int .u8 (op : Int), .int .u32 (a : Int), .int .u32 (b : Int), .int .i64 n, .slice A xl.length c] 95 (0, 0))) := Lib.hid (heap_alloc_new w _)
  have HB0 : Hid (Below w.heap.size w (w.alloc (.cells #[.int .u8 (op : Int), .int .u32 (a : Int), .int .u32 (b : Int), .int .i64 n, .slice A xl.length c] 95))) := Lib.hid ((Below.refl _ _).alloc (Nat.le_refl _) _)
  have hs0 : w.heap.size < (w.alloc (.cells #[.int .u8 (op : Int), .int .u32 (a : Int), .int .u32 (b : Int), .int .i64 n, .slice A xl.length c] 95)).heap.size := by simp
  clear hf hfi hV hS hxw
  go_enter Tryz.func66, Tryz.ntmps66
  go_upto_region 1 with (fail)
  generalize w.alloc (.cells #[.int .u8 (op : Int), .int .u32 (a : Int), .int .u32 (b : Int), .int .i64 n, .slice A xl.length c] 95) = w0 at HX0 HB0 hs0 ⊢
  obtain ⟨x0, x1, x2, x3, x4⟩ := cells5 HX0.out
  go_upto_region 2 with (go_at_call 113; refine (HFI.out _).mono ?_; rintro e w1 ⟨rfl, hb1⟩; have HB1 := Lib.hid (HB0.out.trans (hb1.mono HB0.out.size)); have HX1 : Hid (w1.heap[w.heap.size]? = some (.cells #[.int .u8 (op : Int), .int .u32 (a : Int), .int .u32 (b : Int), .int .i64 n, .slice A xl.length c] 95 (0, 0))) := Lib.hid ((hb1.block _ hs0).trans HX0.out); have hs1 : w.heap.size < w1.heap.size := Nat.lt_of_lt_of_le hs0 hb1.size; clear hb1)
  clear x0 x1 x2 x3 x4 HX0 HB0 hs0 HFI
  have HX2 : Hid ((w1.alloc (.cells #[.int .u8 o, .string nm, .int .u8 4, .string sg, .int .i64 wd] 187)).heap[w.heap.size]? = some (.cells #[.int .u8 (op : Int), .int .u32 (a : Int), .int .u32 (b : Int), .int .i64 n, .slice A xl.length c] 95 (0, 0))) := Lib.hid ((Below.heap_alloc _ _ _ hs1).trans HX1.out)
  have HR2 : Hid ((w1.alloc (.cells #[.int .u8 o, .string nm, .int .u8 4, .string sg, .int .i64 wd] 187)).heap[w1.heap.size]? = some (.cells #[.int .u8 o, .string nm, .int .u8 4, .string sg, .int .i64 wd] 187 (0, 0))) := Lib.hid (heap_alloc_new w1 _)
  have HB2 : Hid (Below w.heap.size w (w1.alloc (.cells #[.int .u8 o, .string nm, .int .u8 4, .string sg, .int .i64 wd] 187))) := Lib.hid (HB1.out.alloc HB1.out.size _)
  have hs2 : w1.heap.size < (w1.alloc (.cells #[.int .u8 o, .string nm, .int .u8 4, .string sg, .int .i64 wd] 187)).heap.size := by simp
  obtain ⟨R, hR⟩ : ∃ R, R = w1.heap.size := ⟨_, rfl⟩
  obtain ⟨X, hX⟩ : ∃ X, X = w.heap.size := ⟨_, rfl⟩
  rw [← hR] at HR2 hs1 hs2 ⊢
  rw [← hX] at HX2 hs1 ⊢
  have HXX := Lib.hid hX
  clear hR hX HX1 HB1
  generalize w1.alloc (.cells #[.int .u8 o, .string nm, .int .u8 4, .string sg, .int .i64 wd] 187) = w2 at HX2 HR2 HB2 hs2 ⊢
  obtain ⟨y0, y1, y2, y3, y4⟩ := cells5 HX2.out
  have HO3 := Lib.hid (own_lit1 w2 w.heap.size op hop HB2.out.size)
  have HX3 : Hid ((w2.alloc (.cells #[.int .u8 (op : Int)] 5)).heap[X]? = some (.cells #[.int .u8 (op : Int), .int .u32 (a : Int), .int .u32 (b : Int), .int .i64 n, .slice A xl.length c] 95 (0, 0))) := Lib.hid ((Below.heap_alloc _ _ _ (by omega)).trans HX2.out)
  have HR3 : Hid ((w2.alloc (.cells #[.int .u8 (op : Int)] 5)).heap[R]? = some (.cells #[.int .u8 o, .string nm, .int .u8 4, .string sg, .int .i64 wd] 187 (0, 0))) := Lib.hid ((Below.heap_alloc _ _ _ hs2).trans HR2.out)
  have HB3 : Hid (Below w.heap.size w (w2.alloc (.cells #[.int .u8 (op : Int)] 5))) := Lib.hid (HB2.out.alloc HB2.out.size _)
  go_upto_region 3 with (fail)
  obtain ⟨G, hG⟩ : ∃ G, G = w2.heap.size := ⟨_, rfl⟩
  rw [← hG] at HO3 hs2 ⊢
  have hGw : w.heap.size ≤ G := by have := HB2.out.size; omega
  clear hG y0 y1 y2 y3 y4 HX2 HR2 HB2
  generalize w2.alloc (.cells #[.int .u8 (op : Int)] 5) = w3 at HO3 HX3 HR3 HB3 ⊢
  have HKX := Lib.hid (fun (W : World) (v : Value) (l : List UInt8) (h : Adds w.heap.size w3 (.slice (some ⟨G, 0, none⟩) 1 1) W v l) => cells5 (h.2.1.heap HX3.out (fun e => by simp [Value.ownBlock] at e; omega)))
  have HKR := Lib.hid (fun (W : World) (v : Value) (l : List UInt8) (h : Adds w.heap.size w3 (.slice (some ⟨G, 0, none⟩) 1 1) W v l) => cells5 (h.2.1.heap HR3.out (fun e => by simp [Value.ownBlock] at e; omega)))
  have HU := Lib.hid (fun (W : World) (v : Value) (l : List UInt8) (h : Adds w.heap.size w3 (.slice (some ⟨G, 0, none⟩) 1 1) W v l) => (HV.out.mod (Mod.of_below (T := fun _ => False) HB3.out) (fun _ _ _ h => h)).mod h.2.1 (fun g _ hg e => by have := HS.out g hg; simp [Value.ownBlock] at e; omega))
  have FIN := Lib.hid (fun (l : List UInt8) (W : World) (v : Value) (h : Adds w.heap.size w3 (.slice (some ⟨G, 0, none⟩) 1 1) W v l) => (⟨v, rfl, h.1, HB3.out.trans (h.below (fun g e => by simp [Value.ownBlock] at e; omega) HB3.out.size)⟩ : RBPost l w (.returned v) W))
  have HB3s := HB3.out.size
  have HA0 : Hid (Adds w.heap.size w3 (.slice (some ⟨G, 0, none⟩) 1 1) w3 (.slice (some ⟨G, 0, none⟩) 1 1) [UInt8.ofNat op]) := Lib.hid ⟨HO3.out, Mod.refl _ _, fun g h => .inl h⟩
  obtain ⟨y0, y1, y2, y3, y4⟩ := HKX.out _ _ _ HA0.out
  obtain ⟨z0, z1, z2, z3, z4⟩ := HKR.out _ _ _ HA0.out
  clear HV HS HB3 HX3 HR3
  have hwa : IntKind.u64.wrap (a : Int) = (a : Int) := IntWalk.u64_in _ (by omega)
  have HQ := Lib.hid (fun (W : World) (v : Value) (l : List UInt8) (h : Adds w.heap.size w3 (.slice (some ⟨G, 0, none⟩) 1 1) W v l) (hl : l.length ≤ 100000000000000) => fewU_adds w.heap.size v l a W h.1 (Nat.le_trans HB3s h.2.1.size) (by omega) hl)
  have hle := Leb.encU_le10 a (by omega)
  generalize hE : Leb.encU a = E at HQ hle
  have HE := Lib.hid hE
  clear hE
  go_wp2_with (first | (go_at_call 32; refine (HQ.out _ _ _ HA0.out (by simp)).mono ?_; rintro e wf0 ⟨Af0, cf0, mf0, w4, v4, rfl, hr0, ha0⟩; have HRU0 := Lib.hid hr0; have HA1 := Lib.hid (HA0.out.trans ha0); clear hr0 ha0; obtain ⟨y0_1, y1_1, y2_1, y3_1, y4_1⟩ := HKX.out _ _ _ HA1.out; obtain ⟨z0_1, z1_1, z2_1, z3_1, z4_1⟩ := HKR.out _ _ _ HA1.out) | (at_builtin; refine wpList_appends rfl (.tmp 59) (.tmp 63) 36 rfl _ _ _ w4 rfl rfl HRU0.out ?_))
  go_ret
  have h := HA1.out
  have e : [UInt8.ofNat op] ++ E = UInt8.ofNat op :: T := by rw [HT.out, ← HE.out]; simp
  rw [e] at h
  exact FIN.out _ _ _ h
set_option maxRecDepth 100000 in
set_option maxHeartbeats 4000000 in
theorem rb_5 (S : Nat → Prop) (A : Option Addr) (c op a b : Nat) (n : Int) (xl : List Nat) (w : World) (hV : HasU w S A xl) (hS : ∀ g, S g → g < w.heap.size)
    (hwf : (⟨op, a, b, n, xl⟩ : I).wf) (T : List UInt8) (HT : Hid (T = (Leb.encU a ++ [0]))) (_hsz : 10 * (xl.length + 5) ≤ 10000000000000) (hf : Opc.form op = 5) :
    Calls Tryz.prog 66 #[.agg #[.int .u8 (op : Int), .int .u32 (a : Int), .int .u32 (b : Int), .int .i64 n, .slice A xl.length c]] w (RBPost (UInt8.ofNat op :: T) w) := by
  obtain ⟨hop, ha, hbb, hn0, hn1, hxw⟩ := hwf
  simp only at hop ha hbb hn0 hn1 hxw
  obtain ⟨o, wd, nm, sg, hfi⟩ := find_letters op hop
  rw [hf] at hfi
  have HFI := Lib.hid hfi
  have HV := Lib.hid hV
  have HS := Lib.hid hS
  have HXW := Lib.hid hxw
  have HX0 : Hid ((w.alloc (.cells #[.int .u8 (op : Int), .int .u32 (a : Int), .int .u32 (b : Int), .int .i64 n, .slice A xl.length c] 95)).heap[w.heap.size]? = some (.cells #[.int .u8 (op : Int), .int .u32 (a : Int), .int .u32 (b : Int), .int .i64 n, .slice A xl.length c] 95 (0, 0))) := Lib.hid (heap_alloc_new w _)
  have HB0 : Hid (Below w.heap.size w (w.alloc (.cells #[.int .u8 (op : Int), .int .u32 (a : Int), .int .u32 (b : Int), .int .i64 n, .slice A xl.length c] 95))) := Lib.hid ((Below.refl _ _).alloc (Nat.le_refl _) _)
  have hs0 : w.heap.size < (w.alloc (.cells #[.int .u8 (op : Int), .int .u32 (a : Int), .int .u32 (b : Int), .int .i64 n, .slice A xl.length c] 95)).heap.size := by simp
  clear hf hfi hV hS hxw
  go_enter Tryz.func66, Tryz.ntmps66
  go_upto_region 1 with (fail)
  generalize w.alloc (.cells #[.int .u8 (op : Int), .int .u32 (a : Int), .int .u32 (b : Int), .int .i64 n, .slice A xl.length c] 95) = w0 at HX0 HB0 hs0 ⊢
  obtain ⟨x0, x1, x2, x3, x4⟩ := cells5 HX0.out
  go_upto_region 2 with (go_at_call 113; refine (HFI.out _).mono ?_; rintro e w1 ⟨rfl, hb1⟩; have HB1 := Lib.hid (HB0.out.trans (hb1.mono HB0.out.size)); have HX1 : Hid (w1.heap[w.heap.size]? = some (.cells #[.int .u8 (op : Int), .int .u32 (a : Int), .int .u32 (b : Int), .int .i64 n, .slice A xl.length c] 95 (0, 0))) := Lib.hid ((hb1.block _ hs0).trans HX0.out); have hs1 : w.heap.size < w1.heap.size := Nat.lt_of_lt_of_le hs0 hb1.size; clear hb1)
  clear x0 x1 x2 x3 x4 HX0 HB0 hs0 HFI
  have HX2 : Hid ((w1.alloc (.cells #[.int .u8 o, .string nm, .int .u8 5, .string sg, .int .i64 wd] 187)).heap[w.heap.size]? = some (.cells #[.int .u8 (op : Int), .int .u32 (a : Int), .int .u32 (b : Int), .int .i64 n, .slice A xl.length c] 95 (0, 0))) := Lib.hid ((Below.heap_alloc _ _ _ hs1).trans HX1.out)
  have HR2 : Hid ((w1.alloc (.cells #[.int .u8 o, .string nm, .int .u8 5, .string sg, .int .i64 wd] 187)).heap[w1.heap.size]? = some (.cells #[.int .u8 o, .string nm, .int .u8 5, .string sg, .int .i64 wd] 187 (0, 0))) := Lib.hid (heap_alloc_new w1 _)
  have HB2 : Hid (Below w.heap.size w (w1.alloc (.cells #[.int .u8 o, .string nm, .int .u8 5, .string sg, .int .i64 wd] 187))) := Lib.hid (HB1.out.alloc HB1.out.size _)
  have hs2 : w1.heap.size < (w1.alloc (.cells #[.int .u8 o, .string nm, .int .u8 5, .string sg, .int .i64 wd] 187)).heap.size := by simp
  obtain ⟨R, hR⟩ : ∃ R, R = w1.heap.size := ⟨_, rfl⟩
  obtain ⟨X, hX⟩ : ∃ X, X = w.heap.size := ⟨_, rfl⟩
  rw [← hR] at HR2 hs1 hs2 ⊢
  rw [← hX] at HX2 hs1 ⊢
  have HXX := Lib.hid hX
  clear hR hX HX1 HB1
  generalize w1.alloc (.cells #[.int .u8 o, .string nm, .int .u8 5, .string sg, .int .i64 wd] 187) = w2 at HX2 HR2 HB2 hs2 ⊢
  obtain ⟨y0, y1, y2, y3, y4⟩ := cells5 HX2.out
  have HO3 := Lib.hid (own_lit1 w2 w.heap.size op hop HB2.out.size)
  have HX3 : Hid ((w2.alloc (.cells #[.int .u8 (op : Int)] 5)).heap[X]? = some (.cells #[.int .u8 (op : Int), .int .u32 (a : Int), .int .u32 (b : Int), .int .i64 n, .slice A xl.length c] 95 (0, 0))) := Lib.hid ((Below.heap_alloc _ _ _ (by omega)).trans HX2.out)
  have HR3 : Hid ((w2.alloc (.cells #[.int .u8 (op : Int)] 5)).heap[R]? = some (.cells #[.int .u8 o, .string nm, .int .u8 5, .string sg, .int .i64 wd] 187 (0, 0))) := Lib.hid ((Below.heap_alloc _ _ _ hs2).trans HR2.out)
  have HB3 : Hid (Below w.heap.size w (w2.alloc (.cells #[.int .u8 (op : Int)] 5))) := Lib.hid (HB2.out.alloc HB2.out.size _)
  go_upto_region 3 with (fail)
  obtain ⟨G, hG⟩ : ∃ G, G = w2.heap.size := ⟨_, rfl⟩
  rw [← hG] at HO3 hs2 ⊢
  have hGw : w.heap.size ≤ G := by have := HB2.out.size; omega
  clear hG y0 y1 y2 y3 y4 HX2 HR2 HB2
  generalize w2.alloc (.cells #[.int .u8 (op : Int)] 5) = w3 at HO3 HX3 HR3 HB3 ⊢
  have HKX := Lib.hid (fun (W : World) (v : Value) (l : List UInt8) (h : Adds w.heap.size w3 (.slice (some ⟨G, 0, none⟩) 1 1) W v l) => cells5 (h.2.1.heap HX3.out (fun e => by simp [Value.ownBlock] at e; omega)))
  have HKR := Lib.hid (fun (W : World) (v : Value) (l : List UInt8) (h : Adds w.heap.size w3 (.slice (some ⟨G, 0, none⟩) 1 1) W v l) => cells5 (h.2.1.heap HR3.out (fun e => by simp [Value.ownBlock] at e; omega)))
  have HU := Lib.hid (fun (W : World) (v : Value) (l : List UInt8) (h : Adds w.heap.size w3 (.slice (some ⟨G, 0, none⟩) 1 1) W v l) => (HV.out.mod (Mod.of_below (T := fun _ => False) HB3.out) (fun _ _ _ h => h)).mod h.2.1 (fun g _ hg e => by have := HS.out g hg; simp [Value.ownBlock] at e; omega))
  have FIN := Lib.hid (fun (l : List UInt8) (W : World) (v : Value) (h : Adds w.heap.size w3 (.slice (some ⟨G, 0, none⟩) 1 1) W v l) => (⟨v, rfl, h.1, HB3.out.trans (h.below (fun g e => by simp [Value.ownBlock] at e; omega) HB3.out.size)⟩ : RBPost l w (.returned v) W))
  have HB3s := HB3.out.size
  have HA0 : Hid (Adds w.heap.size w3 (.slice (some ⟨G, 0, none⟩) 1 1) w3 (.slice (some ⟨G, 0, none⟩) 1 1) [UInt8.ofNat op]) := Lib.hid ⟨HO3.out, Mod.refl _ _, fun g h => .inl h⟩
  obtain ⟨y0, y1, y2, y3, y4⟩ := HKX.out _ _ _ HA0.out
  obtain ⟨z0, z1, z2, z3, z4⟩ := HKR.out _ _ _ HA0.out
  clear HV HS HB3 HX3 HR3
  have hwa : IntKind.u64.wrap (a : Int) = (a : Int) := IntWalk.u64_in _ (by omega)
  have HQ := Lib.hid (fun (W : World) (v : Value) (l : List UInt8) (h : Adds w.heap.size w3 (.slice (some ⟨G, 0, none⟩) 1 1) W v l) (hl : l.length ≤ 100000000000000) => fewU_adds w.heap.size v l a W h.1 (Nat.le_trans HB3s h.2.1.size) (by omega) hl)
  have hle := Leb.encU_le10 a (by omega)
  generalize hE : Leb.encU a = E at HQ hle
  have HE := Lib.hid hE
  clear hE
  go_wp2_with (first | (go_at_call 32; refine (HQ.out _ _ _ HA0.out (by simp)).mono ?_; rintro e wf0 ⟨Af0, cf0, mf0, w4, v4, rfl, hr0, ha0⟩; have HRU0 := Lib.hid hr0; have HA1 := Lib.hid (HA0.out.trans ha0); clear hr0 ha0; obtain ⟨y0_1, y1_1, y2_1, y3_1, y4_1⟩ := HKX.out _ _ _ HA1.out; obtain ⟨z0_1, z1_1, z2_1, z3_1, z4_1⟩ := HKR.out _ _ _ HA1.out; obtain ⟨v5, w5, hr5, ha5⟩ := append1_adds w4 w.heap.size v4 _ 0 HA1.out.1 (by simp; omega) (Nat.le_trans HB3s HA1.out.2.1.size); have HR5 := Lib.hid hr5; have HA2 := Lib.hid (HA1.out.trans ha5); clear hr5 ha5; obtain ⟨y0_2, y1_2, y2_2, y3_2, y4_2⟩ := HKX.out _ _ _ HA2.out; obtain ⟨z0_2, z1_2, z2_2, z3_2, z4_2⟩ := HKR.out _ _ _ HA2.out) | (at_builtin; refine wpList_appends rfl (.tmp 59) (.tmp 63) 36 rfl _ _ _ w4 rfl rfl HRU0.out ?_) | (at_builtin; refine wpList_appends rfl (.tmp 82) (.tmp 83) 36 rfl _ _ _ w5 rfl rfl HR5.out ?_))
  go_ret
  have h := HA2.out
  have e : [UInt8.ofNat op] ++ E ++ [0] = UInt8.ofNat op :: T := by rw [HT.out, ← HE.out]; simp
  rw [e] at h
  exact FIN.out _ _ _ h
set_option maxRecDepth 100000 in
set_option maxHeartbeats 4000000 in
theorem rb_6 (S : Nat → Prop) (A : Option Addr) (c op a b : Nat) (n : Int) (xl : List Nat) (w : World) (hV : HasU w S A xl) (hS : ∀ g, S g → g < w.heap.size)
    (hwf : (⟨op, a, b, n, xl⟩ : I).wf) (T : List UInt8) (HT : Hid (T = (Leb.encU a ++ Leb.encU b))) (_hsz : 10 * (xl.length + 5) ≤ 10000000000000) (hf : Opc.form op = 6) :
    Calls Tryz.prog 66 #[.agg #[.int .u8 (op : Int), .int .u32 (a : Int), .int .u32 (b : Int), .int .i64 n, .slice A xl.length c]] w (RBPost (UInt8.ofNat op :: T) w) := by
  obtain ⟨hop, ha, hbb, hn0, hn1, hxw⟩ := hwf
  simp only at hop ha hbb hn0 hn1 hxw
  obtain ⟨o, wd, nm, sg, hfi⟩ := find_letters op hop
  rw [hf] at hfi
  have HFI := Lib.hid hfi
  have HV := Lib.hid hV
  have HS := Lib.hid hS
  have HXW := Lib.hid hxw
  have HX0 : Hid ((w.alloc (.cells #[.int .u8 (op : Int), .int .u32 (a : Int), .int .u32 (b : Int), .int .i64 n, .slice A xl.length c] 95)).heap[w.heap.size]? = some (.cells #[.int .u8 (op : Int), .int .u32 (a : Int), .int .u32 (b : Int), .int .i64 n, .slice A xl.length c] 95 (0, 0))) := Lib.hid (heap_alloc_new w _)
  have HB0 : Hid (Below w.heap.size w (w.alloc (.cells #[.int .u8 (op : Int), .int .u32 (a : Int), .int .u32 (b : Int), .int .i64 n, .slice A xl.length c] 95))) := Lib.hid ((Below.refl _ _).alloc (Nat.le_refl _) _)
  have hs0 : w.heap.size < (w.alloc (.cells #[.int .u8 (op : Int), .int .u32 (a : Int), .int .u32 (b : Int), .int .i64 n, .slice A xl.length c] 95)).heap.size := by simp
  clear hf hfi hV hS hxw
  go_enter Tryz.func66, Tryz.ntmps66
  go_upto_region 1 with (fail)
  generalize w.alloc (.cells #[.int .u8 (op : Int), .int .u32 (a : Int), .int .u32 (b : Int), .int .i64 n, .slice A xl.length c] 95) = w0 at HX0 HB0 hs0 ⊢
  obtain ⟨x0, x1, x2, x3, x4⟩ := cells5 HX0.out
  go_upto_region 2 with (go_at_call 113; refine (HFI.out _).mono ?_; rintro e w1 ⟨rfl, hb1⟩; have HB1 := Lib.hid (HB0.out.trans (hb1.mono HB0.out.size)); have HX1 : Hid (w1.heap[w.heap.size]? = some (.cells #[.int .u8 (op : Int), .int .u32 (a : Int), .int .u32 (b : Int), .int .i64 n, .slice A xl.length c] 95 (0, 0))) := Lib.hid ((hb1.block _ hs0).trans HX0.out); have hs1 : w.heap.size < w1.heap.size := Nat.lt_of_lt_of_le hs0 hb1.size; clear hb1)
  clear x0 x1 x2 x3 x4 HX0 HB0 hs0 HFI
  have HX2 : Hid ((w1.alloc (.cells #[.int .u8 o, .string nm, .int .u8 6, .string sg, .int .i64 wd] 187)).heap[w.heap.size]? = some (.cells #[.int .u8 (op : Int), .int .u32 (a : Int), .int .u32 (b : Int), .int .i64 n, .slice A xl.length c] 95 (0, 0))) := Lib.hid ((Below.heap_alloc _ _ _ hs1).trans HX1.out)
  have HR2 : Hid ((w1.alloc (.cells #[.int .u8 o, .string nm, .int .u8 6, .string sg, .int .i64 wd] 187)).heap[w1.heap.size]? = some (.cells #[.int .u8 o, .string nm, .int .u8 6, .string sg, .int .i64 wd] 187 (0, 0))) := Lib.hid (heap_alloc_new w1 _)
  have HB2 : Hid (Below w.heap.size w (w1.alloc (.cells #[.int .u8 o, .string nm, .int .u8 6, .string sg, .int .i64 wd] 187))) := Lib.hid (HB1.out.alloc HB1.out.size _)
  have hs2 : w1.heap.size < (w1.alloc (.cells #[.int .u8 o, .string nm, .int .u8 6, .string sg, .int .i64 wd] 187)).heap.size := by simp
  obtain ⟨R, hR⟩ : ∃ R, R = w1.heap.size := ⟨_, rfl⟩
  obtain ⟨X, hX⟩ : ∃ X, X = w.heap.size := ⟨_, rfl⟩
  rw [← hR] at HR2 hs1 hs2 ⊢
  rw [← hX] at HX2 hs1 ⊢
  have HXX := Lib.hid hX
  clear hR hX HX1 HB1
  generalize w1.alloc (.cells #[.int .u8 o, .string nm, .int .u8 6, .string sg, .int .i64 wd] 187) = w2 at HX2 HR2 HB2 hs2 ⊢
  obtain ⟨y0, y1, y2, y3, y4⟩ := cells5 HX2.out
  have HO3 := Lib.hid (own_lit1 w2 w.heap.size op hop HB2.out.size)
  have HX3 : Hid ((w2.alloc (.cells #[.int .u8 (op : Int)] 5)).heap[X]? = some (.cells #[.int .u8 (op : Int), .int .u32 (a : Int), .int .u32 (b : Int), .int .i64 n, .slice A xl.length c] 95 (0, 0))) := Lib.hid ((Below.heap_alloc _ _ _ (by omega)).trans HX2.out)
  have HR3 : Hid ((w2.alloc (.cells #[.int .u8 (op : Int)] 5)).heap[R]? = some (.cells #[.int .u8 o, .string nm, .int .u8 6, .string sg, .int .i64 wd] 187 (0, 0))) := Lib.hid ((Below.heap_alloc _ _ _ hs2).trans HR2.out)
  have HB3 : Hid (Below w.heap.size w (w2.alloc (.cells #[.int .u8 (op : Int)] 5))) := Lib.hid (HB2.out.alloc HB2.out.size _)
  go_upto_region 3 with (fail)
  obtain ⟨G, hG⟩ : ∃ G, G = w2.heap.size := ⟨_, rfl⟩
  rw [← hG] at HO3 hs2 ⊢
  have hGw : w.heap.size ≤ G := by have := HB2.out.size; omega
  clear hG y0 y1 y2 y3 y4 HX2 HR2 HB2
  generalize w2.alloc (.cells #[.int .u8 (op : Int)] 5) = w3 at HO3 HX3 HR3 HB3 ⊢
  have HKX := Lib.hid (fun (W : World) (v : Value) (l : List UInt8) (h : Adds w.heap.size w3 (.slice (some ⟨G, 0, none⟩) 1 1) W v l) => cells5 (h.2.1.heap HX3.out (fun e => by simp [Value.ownBlock] at e; omega)))
  have HKR := Lib.hid (fun (W : World) (v : Value) (l : List UInt8) (h : Adds w.heap.size w3 (.slice (some ⟨G, 0, none⟩) 1 1) W v l) => cells5 (h.2.1.heap HR3.out (fun e => by simp [Value.ownBlock] at e; omega)))
  have HU := Lib.hid (fun (W : World) (v : Value) (l : List UInt8) (h : Adds w.heap.size w3 (.slice (some ⟨G, 0, none⟩) 1 1) W v l) => (HV.out.mod (Mod.of_below (T := fun _ => False) HB3.out) (fun _ _ _ h => h)).mod h.2.1 (fun g _ hg e => by have := HS.out g hg; simp [Value.ownBlock] at e; omega))
  have FIN := Lib.hid (fun (l : List UInt8) (W : World) (v : Value) (h : Adds w.heap.size w3 (.slice (some ⟨G, 0, none⟩) 1 1) W v l) => (⟨v, rfl, h.1, HB3.out.trans (h.below (fun g e => by simp [Value.ownBlock] at e; omega) HB3.out.size)⟩ : RBPost l w (.returned v) W))
  have HB3s := HB3.out.size
  have HA0 : Hid (Adds w.heap.size w3 (.slice (some ⟨G, 0, none⟩) 1 1) w3 (.slice (some ⟨G, 0, none⟩) 1 1) [UInt8.ofNat op]) := Lib.hid ⟨HO3.out, Mod.refl _ _, fun g h => .inl h⟩
  obtain ⟨y0, y1, y2, y3, y4⟩ := HKX.out _ _ _ HA0.out
  obtain ⟨z0, z1, z2, z3, z4⟩ := HKR.out _ _ _ HA0.out
  clear HV HS HB3 HX3 HR3
  have hwa : IntKind.u64.wrap (a : Int) = (a : Int) := IntWalk.u64_in _ (by omega)
  have hwb : IntKind.u64.wrap (b : Int) = (b : Int) := IntWalk.u64_in _ (by omega)
  have HQ := Lib.hid (fun (W : World) (v : Value) (l : List UInt8) (h : Adds w.heap.size w3 (.slice (some ⟨G, 0, none⟩) 1 1) W v l) (hl : l.length ≤ 100000000000000) => fewU_adds w.heap.size v l a W h.1 (Nat.le_trans HB3s h.2.1.size) (by omega) hl)
  have HQB := Lib.hid (fun (W : World) (v : Value) (l : List UInt8) (h : Adds w.heap.size w3 (.slice (some ⟨G, 0, none⟩) 1 1) W v l) (hl : l.length ≤ 100000000000000) => fewU_adds w.heap.size v l b W h.1 (Nat.le_trans HB3s h.2.1.size) (by omega) hl)
  have hle := Leb.encU_le10 a (by omega)
  generalize hE : Leb.encU a = E at HQ hle
  have HE := Lib.hid hE
  clear hE
  generalize hE2 : Leb.encU b = E2 at HQB
  have HE2 := Lib.hid hE2
  clear hE2
  have tok1 : True := trivial
  go_wp2_with (first | (go_at_call 32; clear tok1; refine (HQ.out _ _ _ HA0.out (by simp)).mono ?_; rintro e wf0 ⟨Af0, cf0, mf0, w4, v4, rfl, hr0, ha0⟩; have HRU0 := Lib.hid hr0; have HA1 := Lib.hid (HA0.out.trans ha0); clear hr0 ha0; obtain ⟨y0_1, y1_1, y2_1, y3_1, y4_1⟩ := HKX.out _ _ _ HA1.out; obtain ⟨z0_1, z1_1, z2_1, z3_1, z4_1⟩ := HKR.out _ _ _ HA1.out) | (at_builtin; refine wpList_appends rfl (.tmp 59) (.tmp 63) 36 rfl _ _ _ w4 rfl rfl HRU0.out ?_) | (go_at_call 32; refine (HQB.out _ _ _ HA1.out (by simp; omega)).mono ?_; rintro e wf1 ⟨Af1, cf1, mf1, w5, v5, rfl, hr1, ha1⟩; have HRU1 := Lib.hid hr1; have HA2 := Lib.hid (HA1.out.trans ha1); clear hr1 ha1; obtain ⟨y0_2, y1_2, y2_2, y3_2, y4_2⟩ := HKX.out _ _ _ HA2.out; obtain ⟨z0_2, z1_2, z2_2, z3_2, z4_2⟩ := HKR.out _ _ _ HA2.out) | (at_builtin; refine wpList_appends rfl (.tmp 68) (.tmp 72) 36 rfl _ _ _ w5 rfl rfl HRU1.out ?_))
  go_ret
  have h := HA2.out
  have e : [UInt8.ofNat op] ++ E ++ E2 = UInt8.ofNat op :: T := by rw [HT.out, ← HE.out, ← HE2.out]; simp
  rw [e] at h
  exact FIN.out _ _ _ h
set_option maxRecDepth 100000 in
set_option maxHeartbeats 4000000 in
theorem rb_7 (S : Nat → Prop) (A : Option Addr) (c op a b : Nat) (n : Int) (xl : List Nat) (w : World) (hV : HasU w S A xl) (hS : ∀ g, S g → g < w.heap.size)
    (hwf : (⟨op, a, b, n, xl⟩ : I).wf) (T : List UInt8) (HT : Hid (T = [0])) (_hsz : 10 * (xl.length + 5) ≤ 10000000000000) (hf : Opc.form op = 7) :
    Calls Tryz.prog 66 #[.agg #[.int .u8 (op : Int), .int .u32 (a : Int), .int .u32 (b : Int), .int .i64 n, .slice A xl.length c]] w (RBPost (UInt8.ofNat op :: T) w) := by
  obtain ⟨hop, ha, hbb, hn0, hn1, hxw⟩ := hwf
  simp only at hop ha hbb hn0 hn1 hxw
  obtain ⟨o, wd, nm, sg, hfi⟩ := find_letters op hop
  rw [hf] at hfi
  have HFI := Lib.hid hfi
  have HV := Lib.hid hV
  have HS := Lib.hid hS
  have HXW := Lib.hid hxw
  have HX0 : Hid ((w.alloc (.cells #[.int .u8 (op : Int), .int .u32 (a : Int), .int .u32 (b : Int), .int .i64 n, .slice A xl.length c] 95)).heap[w.heap.size]? = some (.cells #[.int .u8 (op : Int), .int .u32 (a : Int), .int .u32 (b : Int), .int .i64 n, .slice A xl.length c] 95 (0, 0))) := Lib.hid (heap_alloc_new w _)
  have HB0 : Hid (Below w.heap.size w (w.alloc (.cells #[.int .u8 (op : Int), .int .u32 (a : Int), .int .u32 (b : Int), .int .i64 n, .slice A xl.length c] 95))) := Lib.hid ((Below.refl _ _).alloc (Nat.le_refl _) _)
  have hs0 : w.heap.size < (w.alloc (.cells #[.int .u8 (op : Int), .int .u32 (a : Int), .int .u32 (b : Int), .int .i64 n, .slice A xl.length c] 95)).heap.size := by simp
  clear hf hfi hV hS hxw
  go_enter Tryz.func66, Tryz.ntmps66
  go_upto_region 1 with (fail)
  generalize w.alloc (.cells #[.int .u8 (op : Int), .int .u32 (a : Int), .int .u32 (b : Int), .int .i64 n, .slice A xl.length c] 95) = w0 at HX0 HB0 hs0 ⊢
  obtain ⟨x0, x1, x2, x3, x4⟩ := cells5 HX0.out
  go_upto_region 2 with (go_at_call 113; refine (HFI.out _).mono ?_; rintro e w1 ⟨rfl, hb1⟩; have HB1 := Lib.hid (HB0.out.trans (hb1.mono HB0.out.size)); have HX1 : Hid (w1.heap[w.heap.size]? = some (.cells #[.int .u8 (op : Int), .int .u32 (a : Int), .int .u32 (b : Int), .int .i64 n, .slice A xl.length c] 95 (0, 0))) := Lib.hid ((hb1.block _ hs0).trans HX0.out); have hs1 : w.heap.size < w1.heap.size := Nat.lt_of_lt_of_le hs0 hb1.size; clear hb1)
  clear x0 x1 x2 x3 x4 HX0 HB0 hs0 HFI
  have HX2 : Hid ((w1.alloc (.cells #[.int .u8 o, .string nm, .int .u8 7, .string sg, .int .i64 wd] 187)).heap[w.heap.size]? = some (.cells #[.int .u8 (op : Int), .int .u32 (a : Int), .int .u32 (b : Int), .int .i64 n, .slice A xl.length c] 95 (0, 0))) := Lib.hid ((Below.heap_alloc _ _ _ hs1).trans HX1.out)
  have HR2 : Hid ((w1.alloc (.cells #[.int .u8 o, .string nm, .int .u8 7, .string sg, .int .i64 wd] 187)).heap[w1.heap.size]? = some (.cells #[.int .u8 o, .string nm, .int .u8 7, .string sg, .int .i64 wd] 187 (0, 0))) := Lib.hid (heap_alloc_new w1 _)
  have HB2 : Hid (Below w.heap.size w (w1.alloc (.cells #[.int .u8 o, .string nm, .int .u8 7, .string sg, .int .i64 wd] 187))) := Lib.hid (HB1.out.alloc HB1.out.size _)
  have hs2 : w1.heap.size < (w1.alloc (.cells #[.int .u8 o, .string nm, .int .u8 7, .string sg, .int .i64 wd] 187)).heap.size := by simp
  obtain ⟨R, hR⟩ : ∃ R, R = w1.heap.size := ⟨_, rfl⟩
  obtain ⟨X, hX⟩ : ∃ X, X = w.heap.size := ⟨_, rfl⟩
  rw [← hR] at HR2 hs1 hs2 ⊢
  rw [← hX] at HX2 hs1 ⊢
  have HXX := Lib.hid hX
  clear hR hX HX1 HB1
  generalize w1.alloc (.cells #[.int .u8 o, .string nm, .int .u8 7, .string sg, .int .i64 wd] 187) = w2 at HX2 HR2 HB2 hs2 ⊢
  obtain ⟨y0, y1, y2, y3, y4⟩ := cells5 HX2.out
  have HO3 := Lib.hid (own_lit1 w2 w.heap.size op hop HB2.out.size)
  have HX3 : Hid ((w2.alloc (.cells #[.int .u8 (op : Int)] 5)).heap[X]? = some (.cells #[.int .u8 (op : Int), .int .u32 (a : Int), .int .u32 (b : Int), .int .i64 n, .slice A xl.length c] 95 (0, 0))) := Lib.hid ((Below.heap_alloc _ _ _ (by omega)).trans HX2.out)
  have HR3 : Hid ((w2.alloc (.cells #[.int .u8 (op : Int)] 5)).heap[R]? = some (.cells #[.int .u8 o, .string nm, .int .u8 7, .string sg, .int .i64 wd] 187 (0, 0))) := Lib.hid ((Below.heap_alloc _ _ _ hs2).trans HR2.out)
  have HB3 : Hid (Below w.heap.size w (w2.alloc (.cells #[.int .u8 (op : Int)] 5))) := Lib.hid (HB2.out.alloc HB2.out.size _)
  go_upto_region 3 with (fail)
  obtain ⟨G, hG⟩ : ∃ G, G = w2.heap.size := ⟨_, rfl⟩
  rw [← hG] at HO3 hs2 ⊢
  have hGw : w.heap.size ≤ G := by have := HB2.out.size; omega
  clear hG y0 y1 y2 y3 y4 HX2 HR2 HB2
  generalize w2.alloc (.cells #[.int .u8 (op : Int)] 5) = w3 at HO3 HX3 HR3 HB3 ⊢
  have HKX := Lib.hid (fun (W : World) (v : Value) (l : List UInt8) (h : Adds w.heap.size w3 (.slice (some ⟨G, 0, none⟩) 1 1) W v l) => cells5 (h.2.1.heap HX3.out (fun e => by simp [Value.ownBlock] at e; omega)))
  have HKR := Lib.hid (fun (W : World) (v : Value) (l : List UInt8) (h : Adds w.heap.size w3 (.slice (some ⟨G, 0, none⟩) 1 1) W v l) => cells5 (h.2.1.heap HR3.out (fun e => by simp [Value.ownBlock] at e; omega)))
  have HU := Lib.hid (fun (W : World) (v : Value) (l : List UInt8) (h : Adds w.heap.size w3 (.slice (some ⟨G, 0, none⟩) 1 1) W v l) => (HV.out.mod (Mod.of_below (T := fun _ => False) HB3.out) (fun _ _ _ h => h)).mod h.2.1 (fun g _ hg e => by have := HS.out g hg; simp [Value.ownBlock] at e; omega))
  have FIN := Lib.hid (fun (l : List UInt8) (W : World) (v : Value) (h : Adds w.heap.size w3 (.slice (some ⟨G, 0, none⟩) 1 1) W v l) => (⟨v, rfl, h.1, HB3.out.trans (h.below (fun g e => by simp [Value.ownBlock] at e; omega) HB3.out.size)⟩ : RBPost l w (.returned v) W))
  have HB3s := HB3.out.size
  have HA0 : Hid (Adds w.heap.size w3 (.slice (some ⟨G, 0, none⟩) 1 1) w3 (.slice (some ⟨G, 0, none⟩) 1 1) [UInt8.ofNat op]) := Lib.hid ⟨HO3.out, Mod.refl _ _, fun g h => .inl h⟩
  obtain ⟨y0, y1, y2, y3, y4⟩ := HKX.out _ _ _ HA0.out
  obtain ⟨z0, z1, z2, z3, z4⟩ := HKR.out _ _ _ HA0.out
  clear HV HS HB3 HX3 HR3
  obtain ⟨v4, w4, hr4, ha4⟩ := append1_adds w3 w.heap.size (.slice (some ⟨G, 0, none⟩) 1 1) [UInt8.ofNat op] 0 HO3.out (by simp) HB3s
  have HR4 := Lib.hid hr4
  have HA1 := Lib.hid (HA0.out.trans ha4)
  obtain ⟨y0_1, y1_1, y2_1, y3_1, y4_1⟩ := HKX.out _ _ _ HA1.out; obtain ⟨z0_1, z1_1, z2_1, z3_1, z4_1⟩ := HKR.out _ _ _ HA1.out
  clear hr4 ha4
  go_wp2_with (at_builtin; refine wpList_appends rfl (.tmp 82) (.tmp 83) 36 rfl _ _ _ w4 rfl rfl HR4.out ?_)
  go_ret
  have h := HA1.out
  have e : [UInt8.ofNat op] ++ [0] = UInt8.ofNat op :: T := by rw [HT.out]; simp
  rw [e] at h
  exact FIN.out _ _ _ h
set_option maxRecDepth 100000 in
set_option maxHeartbeats 4000000 in
theorem rb_8 (S : Nat → Prop) (A : Option Addr) (c op a b : Nat) (n : Int) (xl : List Nat) (w : World) (hV : HasU w S A xl) (hS : ∀ g, S g → g < w.heap.size)
    (hwf : (⟨op, a, b, n, xl⟩ : I).wf) (T : List UInt8) (HT : Hid (T = Leb.encS n)) (_hsz : 10 * (xl.length + 5) ≤ 10000000000000) (hf : Opc.form op = 8) :
    Calls Tryz.prog 66 #[.agg #[.int .u8 (op : Int), .int .u32 (a : Int), .int .u32 (b : Int), .int .i64 n, .slice A xl.length c]] w (RBPost (UInt8.ofNat op :: T) w) := by
  obtain ⟨hop, ha, hbb, hn0, hn1, hxw⟩ := hwf
  simp only at hop ha hbb hn0 hn1 hxw
  obtain ⟨o, wd, nm, sg, hfi⟩ := find_letters op hop
  rw [hf] at hfi
  have HFI := Lib.hid hfi
  have HV := Lib.hid hV
  have HS := Lib.hid hS
  have HXW := Lib.hid hxw
  have HX0 : Hid ((w.alloc (.cells #[.int .u8 (op : Int), .int .u32 (a : Int), .int .u32 (b : Int), .int .i64 n, .slice A xl.length c] 95)).heap[w.heap.size]? = some (.cells #[.int .u8 (op : Int), .int .u32 (a : Int), .int .u32 (b : Int), .int .i64 n, .slice A xl.length c] 95 (0, 0))) := Lib.hid (heap_alloc_new w _)
  have HB0 : Hid (Below w.heap.size w (w.alloc (.cells #[.int .u8 (op : Int), .int .u32 (a : Int), .int .u32 (b : Int), .int .i64 n, .slice A xl.length c] 95))) := Lib.hid ((Below.refl _ _).alloc (Nat.le_refl _) _)
  have hs0 : w.heap.size < (w.alloc (.cells #[.int .u8 (op : Int), .int .u32 (a : Int), .int .u32 (b : Int), .int .i64 n, .slice A xl.length c] 95)).heap.size := by simp
  clear hf hfi hV hS hxw
  go_enter Tryz.func66, Tryz.ntmps66
  go_upto_region 1 with (fail)
  generalize w.alloc (.cells #[.int .u8 (op : Int), .int .u32 (a : Int), .int .u32 (b : Int), .int .i64 n, .slice A xl.length c] 95) = w0 at HX0 HB0 hs0 ⊢
  obtain ⟨x0, x1, x2, x3, x4⟩ := cells5 HX0.out
  go_upto_region 2 with (go_at_call 113; refine (HFI.out _).mono ?_; rintro e w1 ⟨rfl, hb1⟩; have HB1 := Lib.hid (HB0.out.trans (hb1.mono HB0.out.size)); have HX1 : Hid (w1.heap[w.heap.size]? = some (.cells #[.int .u8 (op : Int), .int .u32 (a : Int), .int .u32 (b : Int), .int .i64 n, .slice A xl.length c] 95 (0, 0))) := Lib.hid ((hb1.block _ hs0).trans HX0.out); have hs1 : w.heap.size < w1.heap.size := Nat.lt_of_lt_of_le hs0 hb1.size; clear hb1)
  clear x0 x1 x2 x3 x4 HX0 HB0 hs0 HFI
  have HX2 : Hid ((w1.alloc (.cells #[.int .u8 o, .string nm, .int .u8 8, .string sg, .int .i64 wd] 187)).heap[w.heap.size]? = some (.cells #[.int .u8 (op : Int), .int .u32 (a : Int), .int .u32 (b : Int), .int .i64 n, .slice A xl.length c] 95 (0, 0))) := Lib.hid ((Below.heap_alloc _ _ _ hs1).trans HX1.out)
  have HR2 : Hid ((w1.alloc (.cells #[.int .u8 o, .string nm, .int .u8 8, .string sg, .int .i64 wd] 187)).heap[w1.heap.size]? = some (.cells #[.int .u8 o, .string nm, .int .u8 8, .string sg, .int .i64 wd] 187 (0, 0))) := Lib.hid (heap_alloc_new w1 _)
  have HB2 : Hid (Below w.heap.size w (w1.alloc (.cells #[.int .u8 o, .string nm, .int .u8 8, .string sg, .int .i64 wd] 187))) := Lib.hid (HB1.out.alloc HB1.out.size _)
  have hs2 : w1.heap.size < (w1.alloc (.cells #[.int .u8 o, .string nm, .int .u8 8, .string sg, .int .i64 wd] 187)).heap.size := by simp
  obtain ⟨R, hR⟩ : ∃ R, R = w1.heap.size := ⟨_, rfl⟩
  obtain ⟨X, hX⟩ : ∃ X, X = w.heap.size := ⟨_, rfl⟩
  rw [← hR] at HR2 hs1 hs2 ⊢
  rw [← hX] at HX2 hs1 ⊢
  have HXX := Lib.hid hX
  clear hR hX HX1 HB1
  generalize w1.alloc (.cells #[.int .u8 o, .string nm, .int .u8 8, .string sg, .int .i64 wd] 187) = w2 at HX2 HR2 HB2 hs2 ⊢
  obtain ⟨y0, y1, y2, y3, y4⟩ := cells5 HX2.out
  have HO3 := Lib.hid (own_lit1 w2 w.heap.size op hop HB2.out.size)
  have HX3 : Hid ((w2.alloc (.cells #[.int .u8 (op : Int)] 5)).heap[X]? = some (.cells #[.int .u8 (op : Int), .int .u32 (a : Int), .int .u32 (b : Int), .int .i64 n, .slice A xl.length c] 95 (0, 0))) := Lib.hid ((Below.heap_alloc _ _ _ (by omega)).trans HX2.out)
  have HR3 : Hid ((w2.alloc (.cells #[.int .u8 (op : Int)] 5)).heap[R]? = some (.cells #[.int .u8 o, .string nm, .int .u8 8, .string sg, .int .i64 wd] 187 (0, 0))) := Lib.hid ((Below.heap_alloc _ _ _ hs2).trans HR2.out)
  have HB3 : Hid (Below w.heap.size w (w2.alloc (.cells #[.int .u8 (op : Int)] 5))) := Lib.hid (HB2.out.alloc HB2.out.size _)
  go_upto_region 3 with (fail)
  obtain ⟨G, hG⟩ : ∃ G, G = w2.heap.size := ⟨_, rfl⟩
  rw [← hG] at HO3 hs2 ⊢
  have hGw : w.heap.size ≤ G := by have := HB2.out.size; omega
  clear hG y0 y1 y2 y3 y4 HX2 HR2 HB2
  generalize w2.alloc (.cells #[.int .u8 (op : Int)] 5) = w3 at HO3 HX3 HR3 HB3 ⊢
  have HKX := Lib.hid (fun (W : World) (v : Value) (l : List UInt8) (h : Adds w.heap.size w3 (.slice (some ⟨G, 0, none⟩) 1 1) W v l) => cells5 (h.2.1.heap HX3.out (fun e => by simp [Value.ownBlock] at e; omega)))
  have HKR := Lib.hid (fun (W : World) (v : Value) (l : List UInt8) (h : Adds w.heap.size w3 (.slice (some ⟨G, 0, none⟩) 1 1) W v l) => cells5 (h.2.1.heap HR3.out (fun e => by simp [Value.ownBlock] at e; omega)))
  have HU := Lib.hid (fun (W : World) (v : Value) (l : List UInt8) (h : Adds w.heap.size w3 (.slice (some ⟨G, 0, none⟩) 1 1) W v l) => (HV.out.mod (Mod.of_below (T := fun _ => False) HB3.out) (fun _ _ _ h => h)).mod h.2.1 (fun g _ hg e => by have := HS.out g hg; simp [Value.ownBlock] at e; omega))
  have FIN := Lib.hid (fun (l : List UInt8) (W : World) (v : Value) (h : Adds w.heap.size w3 (.slice (some ⟨G, 0, none⟩) 1 1) W v l) => (⟨v, rfl, h.1, HB3.out.trans (h.below (fun g e => by simp [Value.ownBlock] at e; omega) HB3.out.size)⟩ : RBPost l w (.returned v) W))
  have HB3s := HB3.out.size
  have HA0 : Hid (Adds w.heap.size w3 (.slice (some ⟨G, 0, none⟩) 1 1) w3 (.slice (some ⟨G, 0, none⟩) 1 1) [UInt8.ofNat op]) := Lib.hid ⟨HO3.out, Mod.refl _ _, fun g h => .inl h⟩
  obtain ⟨y0, y1, y2, y3, y4⟩ := HKX.out _ _ _ HA0.out
  obtain ⟨z0, z1, z2, z3, z4⟩ := HKR.out _ _ _ HA0.out
  clear HV HS HB3 HX3 HR3
  obtain ⟨Y, hY1, hY2, hY3⟩ : ∃ Y : Nat, IntKind.u64.wrap n = (Y : Int) ∧ Y < 18446744073709551616 ∧ wrap64 (Y : Int) = n := by
    have e : IntKind.u64.wrap n = n % 18446744073709551616 := rfl
    refine ⟨(n % 18446744073709551616).toNat, ?_, by omega, ?_⟩
    · rw [e]; omega
    · unfold wrap64; omega
  have HQ := Lib.hid (fun (W : World) (v : Value) (l : List UInt8) (h : Adds w.heap.size w3 (.slice (some ⟨G, 0, none⟩) 1 1) W v l) (hl : l.length ≤ 100000000000000) => fewS_adds w.heap.size v l n Y W h.1 (Nat.le_trans HB3s h.2.1.size) hY2 hY3 hn0 hn1 hl)
  generalize hE : Leb.encS n = E at HQ
  have HE := Lib.hid hE
  clear hE hY2 hY3
  go_wp2_with (first | (go_at_call 32; refine (HQ.out _ _ _ HA0.out (by simp)).mono ?_; rintro e wf0 ⟨Af0, cf0, mf0, w4, v4, rfl, hr0, ha0⟩; have HRU0 := Lib.hid hr0; have HA1 := Lib.hid (HA0.out.trans ha0); clear hr0 ha0; obtain ⟨y0_1, y1_1, y2_1, y3_1, y4_1⟩ := HKX.out _ _ _ HA1.out; obtain ⟨z0_1, z1_1, z2_1, z3_1, z4_1⟩ := HKR.out _ _ _ HA1.out) | (at_builtin; refine wpList_appends rfl (.tmp 88) (.tmp 92) 36 rfl _ _ _ w4 rfl rfl HRU0.out ?_))
  go_ret
  have h := HA1.out
  have e : [UInt8.ofNat op] ++ E = UInt8.ofNat op :: T := by rw [HT.out, ← HE.out]; simp
  rw [e] at h
  exact FIN.out _ _ _ h
set_option maxRecDepth 100000 in
set_option maxHeartbeats 4000000 in
theorem rb_9 (S : Nat → Prop) (A : Option Addr) (c op a b : Nat) (n : Int) (xl : List Nat) (w : World) (hV : HasU w S A xl) (hS : ∀ g, S g → g < w.heap.size)
    (hwf : (⟨op, a, b, n, xl⟩ : I).wf) (T : List UInt8) (HT : Hid (T = Leb.encS n)) (_hsz : 10 * (xl.length + 5) ≤ 10000000000000) (hf : Opc.form op = 9) :
    Calls Tryz.prog 66 #[.agg #[.int .u8 (op : Int), .int .u32 (a : Int), .int .u32 (b : Int), .int .i64 n, .slice A xl.length c]] w (RBPost (UInt8.ofNat op :: T) w) := by
  obtain ⟨hop, ha, hbb, hn0, hn1, hxw⟩ := hwf
  simp only at hop ha hbb hn0 hn1 hxw
  obtain ⟨o, wd, nm, sg, hfi⟩ := find_letters op hop
  rw [hf] at hfi
  have HFI := Lib.hid hfi
  have HV := Lib.hid hV
  have HS := Lib.hid hS
  have HXW := Lib.hid hxw
  have HX0 : Hid ((w.alloc (.cells #[.int .u8 (op : Int), .int .u32 (a : Int), .int .u32 (b : Int), .int .i64 n, .slice A xl.length c] 95)).heap[w.heap.size]? = some (.cells #[.int .u8 (op : Int), .int .u32 (a : Int), .int .u32 (b : Int), .int .i64 n, .slice A xl.length c] 95 (0, 0))) := Lib.hid (heap_alloc_new w _)
  have HB0 : Hid (Below w.heap.size w (w.alloc (.cells #[.int .u8 (op : Int), .int .u32 (a : Int), .int .u32 (b : Int), .int .i64 n, .slice A xl.length c] 95))) := Lib.hid ((Below.refl _ _).alloc (Nat.le_refl _) _)
  have hs0 : w.heap.size < (w.alloc (.cells #[.int .u8 (op : Int), .int .u32 (a : Int), .int .u32 (b : Int), .int .i64 n, .slice A xl.length c] 95)).heap.size := by simp
  clear hf hfi hV hS hxw
  go_enter Tryz.func66, Tryz.ntmps66
  go_upto_region 1 with (fail)
  generalize w.alloc (.cells #[.int .u8 (op : Int), .int .u32 (a : Int), .int .u32 (b : Int), .int .i64 n, .slice A xl.length c] 95) = w0 at HX0 HB0 hs0 ⊢
  obtain ⟨x0, x1, x2, x3, x4⟩ := cells5 HX0.out
  go_upto_region 2 with (go_at_call 113; refine (HFI.out _).mono ?_; rintro e w1 ⟨rfl, hb1⟩; have HB1 := Lib.hid (HB0.out.trans (hb1.mono HB0.out.size)); have HX1 : Hid (w1.heap[w.heap.size]? = some (.cells #[.int .u8 (op : Int), .int .u32 (a : Int), .int .u32 (b : Int), .int .i64 n, .slice A xl.length c] 95 (0, 0))) := Lib.hid ((hb1.block _ hs0).trans HX0.out); have hs1 : w.heap.size < w1.heap.size := Nat.lt_of_lt_of_le hs0 hb1.size; clear hb1)
  clear x0 x1 x2 x3 x4 HX0 HB0 hs0 HFI
  have HX2 : Hid ((w1.alloc (.cells #[.int .u8 o, .string nm, .int .u8 9, .string sg, .int .i64 wd] 187)).heap[w.heap.size]? = some (.cells #[.int .u8 (op : Int), .int .u32 (a : Int), .int .u32 (b : Int), .int .i64 n, .slice A xl.length c] 95 (0, 0))) := Lib.hid ((Below.heap_alloc _ _ _ hs1).trans HX1.out)
  have HR2 : Hid ((w1.alloc (.cells #[.int .u8 o, .string nm, .int .u8 9, .string sg, .int .i64 wd] 187)).heap[w1.heap.size]? = some (.cells #[.int .u8 o, .string nm, .int .u8 9, .string sg, .int .i64 wd] 187 (0, 0))) := Lib.hid (heap_alloc_new w1 _)
  have HB2 : Hid (Below w.heap.size w (w1.alloc (.cells #[.int .u8 o, .string nm, .int .u8 9, .string sg, .int .i64 wd] 187))) := Lib.hid (HB1.out.alloc HB1.out.size _)
  have hs2 : w1.heap.size < (w1.alloc (.cells #[.int .u8 o, .string nm, .int .u8 9, .string sg, .int .i64 wd] 187)).heap.size := by simp
  obtain ⟨R, hR⟩ : ∃ R, R = w1.heap.size := ⟨_, rfl⟩
  obtain ⟨X, hX⟩ : ∃ X, X = w.heap.size := ⟨_, rfl⟩
  rw [← hR] at HR2 hs1 hs2 ⊢
  rw [← hX] at HX2 hs1 ⊢
  have HXX := Lib.hid hX
  clear hR hX HX1 HB1
  generalize w1.alloc (.cells #[.int .u8 o, .string nm, .int .u8 9, .string sg, .int .i64 wd] 187) = w2 at HX2 HR2 HB2 hs2 ⊢
  obtain ⟨y0, y1, y2, y3, y4⟩ := cells5 HX2.out
  have HO3 := Lib.hid (own_lit1 w2 w.heap.size op hop HB2.out.size)
  have HX3 : Hid ((w2.alloc (.cells #[.int .u8 (op : Int)] 5)).heap[X]? = some (.cells #[.int .u8 (op : Int), .int .u32 (a : Int), .int .u32 (b : Int), .int .i64 n, .slice A xl.length c] 95 (0, 0))) := Lib.hid ((Below.heap_alloc _ _ _ (by omega)).trans HX2.out)
  have HR3 : Hid ((w2.alloc (.cells #[.int .u8 (op : Int)] 5)).heap[R]? = some (.cells #[.int .u8 o, .string nm, .int .u8 9, .string sg, .int .i64 wd] 187 (0, 0))) := Lib.hid ((Below.heap_alloc _ _ _ hs2).trans HR2.out)
  have HB3 : Hid (Below w.heap.size w (w2.alloc (.cells #[.int .u8 (op : Int)] 5))) := Lib.hid (HB2.out.alloc HB2.out.size _)
  go_upto_region 3 with (fail)
  obtain ⟨G, hG⟩ : ∃ G, G = w2.heap.size := ⟨_, rfl⟩
  rw [← hG] at HO3 hs2 ⊢
  have hGw : w.heap.size ≤ G := by have := HB2.out.size; omega
  clear hG y0 y1 y2 y3 y4 HX2 HR2 HB2
  generalize w2.alloc (.cells #[.int .u8 (op : Int)] 5) = w3 at HO3 HX3 HR3 HB3 ⊢
  have HKX := Lib.hid (fun (W : World) (v : Value) (l : List UInt8) (h : Adds w.heap.size w3 (.slice (some ⟨G, 0, none⟩) 1 1) W v l) => cells5 (h.2.1.heap HX3.out (fun e => by simp [Value.ownBlock] at e; omega)))
  have HKR := Lib.hid (fun (W : World) (v : Value) (l : List UInt8) (h : Adds w.heap.size w3 (.slice (some ⟨G, 0, none⟩) 1 1) W v l) => cells5 (h.2.1.heap HR3.out (fun e => by simp [Value.ownBlock] at e; omega)))
  have HU := Lib.hid (fun (W : World) (v : Value) (l : List UInt8) (h : Adds w.heap.size w3 (.slice (some ⟨G, 0, none⟩) 1 1) W v l) => (HV.out.mod (Mod.of_below (T := fun _ => False) HB3.out) (fun _ _ _ h => h)).mod h.2.1 (fun g _ hg e => by have := HS.out g hg; simp [Value.ownBlock] at e; omega))
  have FIN := Lib.hid (fun (l : List UInt8) (W : World) (v : Value) (h : Adds w.heap.size w3 (.slice (some ⟨G, 0, none⟩) 1 1) W v l) => (⟨v, rfl, h.1, HB3.out.trans (h.below (fun g e => by simp [Value.ownBlock] at e; omega) HB3.out.size)⟩ : RBPost l w (.returned v) W))
  have HB3s := HB3.out.size
  have HA0 : Hid (Adds w.heap.size w3 (.slice (some ⟨G, 0, none⟩) 1 1) w3 (.slice (some ⟨G, 0, none⟩) 1 1) [UInt8.ofNat op]) := Lib.hid ⟨HO3.out, Mod.refl _ _, fun g h => .inl h⟩
  obtain ⟨y0, y1, y2, y3, y4⟩ := HKX.out _ _ _ HA0.out
  obtain ⟨z0, z1, z2, z3, z4⟩ := HKR.out _ _ _ HA0.out
  clear HV HS HB3 HX3 HR3
  obtain ⟨Y, hY1, hY2, hY3⟩ : ∃ Y : Nat, IntKind.u64.wrap n = (Y : Int) ∧ Y < 18446744073709551616 ∧ wrap64 (Y : Int) = n := by
    have e : IntKind.u64.wrap n = n % 18446744073709551616 := rfl
    refine ⟨(n % 18446744073709551616).toNat, ?_, by omega, ?_⟩
    · rw [e]; omega
    · unfold wrap64; omega
  have HQ := Lib.hid (fun (W : World) (v : Value) (l : List UInt8) (h : Adds w.heap.size w3 (.slice (some ⟨G, 0, none⟩) 1 1) W v l) (hl : l.length ≤ 100000000000000) => fewS_adds w.heap.size v l n Y W h.1 (Nat.le_trans HB3s h.2.1.size) hY2 hY3 hn0 hn1 hl)
  generalize hE : Leb.encS n = E at HQ
  have HE := Lib.hid hE
  clear hE hY2 hY3
  go_wp2_with (first | (go_at_call 32; refine (HQ.out _ _ _ HA0.out (by simp)).mono ?_; rintro e wf0 ⟨Af0, cf0, mf0, w4, v4, rfl, hr0, ha0⟩; have HRU0 := Lib.hid hr0; have HA1 := Lib.hid (HA0.out.trans ha0); clear hr0 ha0; obtain ⟨y0_1, y1_1, y2_1, y3_1, y4_1⟩ := HKX.out _ _ _ HA1.out; obtain ⟨z0_1, z1_1, z2_1, z3_1, z4_1⟩ := HKR.out _ _ _ HA1.out) | (at_builtin; refine wpList_appends rfl (.tmp 88) (.tmp 92) 36 rfl _ _ _ w4 rfl rfl HRU0.out ?_))
  go_ret
  have h := HA1.out
  have e : [UInt8.ofNat op] ++ E = UInt8.ofNat op :: T := by rw [HT.out, ← HE.out]; simp
  rw [e] at h
  exact FIN.out _ _ _ h
set_option maxRecDepth 100000 in
set_option maxHeartbeats 4000000 in
theorem rb_3 (S : Nat → Prop) (A : Option Addr) (c op a b : Nat) (n : Int) (xl : List Nat) (w : World) (hV : HasU w S A xl) (hS : ∀ g, S g → g < w.heap.size)
    (hwf : (⟨op, a, b, n, xl⟩ : I).wf) (T : List UInt8) (HT : Hid (T = (Leb.encU xl.length ++ labs xl ++ Leb.encU a))) (hsz : 10 * (xl.length + 5) ≤ 10000000000000) (hf : Opc.form op = 3) :
    Calls Tryz.prog 66 #[.agg #[.int .u8 (op : Int), .int .u32 (a : Int), .int .u32 (b : Int), .int .i64 n, .slice A xl.length c]] w (RBPost (UInt8.ofNat op :: T) w) := by
  obtain ⟨hop, ha, hbb, hn0, hn1, hxw⟩ := hwf
  simp only at hop ha hbb hn0 hn1 hxw
  obtain ⟨o, wd, nm, sg, hfi⟩ := find_letters op hop
  rw [hf] at hfi
  have HFI := Lib.hid hfi
  have HV := Lib.hid hV
  have HS := Lib.hid hS
  have HXW := Lib.hid hxw
  have HX0 : Hid ((w.alloc (.cells #[.int .u8 (op : Int), .int .u32 (a : Int), .int .u32 (b : Int), .int .i64 n, .slice A xl.length c] 95)).heap[w.heap.size]? = some (.cells #[.int .u8 (op : Int), .int .u32 (a : Int), .int .u32 (b : Int), .int .i64 n, .slice A xl.length c] 95 (0, 0))) := Lib.hid (heap_alloc_new w _)
  have HB0 : Hid (Below w.heap.size w (w.alloc (.cells #[.int .u8 (op : Int), .int .u32 (a : Int), .int .u32 (b : Int), .int .i64 n, .slice A xl.length c] 95))) := Lib.hid ((Below.refl _ _).alloc (Nat.le_refl _) _)
  have hs0 : w.heap.size < (w.alloc (.cells #[.int .u8 (op : Int), .int .u32 (a : Int), .int .u32 (b : Int), .int .i64 n, .slice A xl.length c] 95)).heap.size := by simp
  clear hf hfi hV hS hxw
  go_enter Tryz.func66, Tryz.ntmps66
  go_upto_region 1 with (fail)
  generalize w.alloc (.cells #[.int .u8 (op : Int), .int .u32 (a : Int), .int .u32 (b : Int), .int .i64 n, .slice A xl.length c] 95) = w0 at HX0 HB0 hs0 ⊢
  obtain ⟨x0, x1, x2, x3, x4⟩ := cells5 HX0.out
  go_upto_region 2 with (go_at_call 113; refine (HFI.out _).mono ?_; rintro e w1 ⟨rfl, hb1⟩; have HB1 := Lib.hid (HB0.out.trans (hb1.mono HB0.out.size)); have HX1 : Hid (w1.heap[w.heap.size]? = some (.cells #[.int .u8 (op : Int), .int .u32 (a : Int), .int .u32 (b : Int), .int .i64 n, .slice A xl.length c] 95 (0, 0))) := Lib.hid ((hb1.block _ hs0).trans HX0.out); have hs1 : w.heap.size < w1.heap.size := Nat.lt_of_lt_of_le hs0 hb1.size; clear hb1)
  clear x0 x1 x2 x3 x4 HX0 HB0 hs0 HFI
  have HX2 : Hid ((w1.alloc (.cells #[.int .u8 o, .string nm, .int .u8 3, .string sg, .int .i64 wd] 187)).heap[w.heap.size]? = some (.cells #[.int .u8 (op : Int), .int .u32 (a : Int), .int .u32 (b : Int), .int .i64 n, .slice A xl.length c] 95 (0, 0))) := Lib.hid ((Below.heap_alloc _ _ _ hs1).trans HX1.out)
  have HR2 : Hid ((w1.alloc (.cells #[.int .u8 o, .string nm, .int .u8 3, .string sg, .int .i64 wd] 187)).heap[w1.heap.size]? = some (.cells #[.int .u8 o, .string nm, .int .u8 3, .string sg, .int .i64 wd] 187 (0, 0))) := Lib.hid (heap_alloc_new w1 _)
  have HB2 : Hid (Below w.heap.size w (w1.alloc (.cells #[.int .u8 o, .string nm, .int .u8 3, .string sg, .int .i64 wd] 187))) := Lib.hid (HB1.out.alloc HB1.out.size _)
  have hs2 : w1.heap.size < (w1.alloc (.cells #[.int .u8 o, .string nm, .int .u8 3, .string sg, .int .i64 wd] 187)).heap.size := by simp
  obtain ⟨R, hR⟩ : ∃ R, R = w1.heap.size := ⟨_, rfl⟩
  obtain ⟨X, hX⟩ : ∃ X, X = w.heap.size := ⟨_, rfl⟩
  rw [← hR] at HR2 hs1 hs2 ⊢
  rw [← hX] at HX2 hs1 ⊢
  have HXX := Lib.hid hX
  clear hR hX HX1 HB1
  generalize w1.alloc (.cells #[.int .u8 o, .string nm, .int .u8 3, .string sg, .int .i64 wd] 187) = w2 at HX2 HR2 HB2 hs2 ⊢
  obtain ⟨y0, y1, y2, y3, y4⟩ := cells5 HX2.out
  have HO3 := Lib.hid (own_lit1 w2 w.heap.size op hop HB2.out.size)
  have HX3 : Hid ((w2.alloc (.cells #[.int .u8 (op : Int)] 5)).heap[X]? = some (.cells #[.int .u8 (op : Int), .int .u32 (a : Int), .int .u32 (b : Int), .int .i64 n, .slice A xl.length c] 95 (0, 0))) := Lib.hid ((Below.heap_alloc _ _ _ (by omega)).trans HX2.out)
  have HR3 : Hid ((w2.alloc (.cells #[.int .u8 (op : Int)] 5)).heap[R]? = some (.cells #[.int .u8 o, .string nm, .int .u8 3, .string sg, .int .i64 wd] 187 (0, 0))) := Lib.hid ((Below.heap_alloc _ _ _ hs2).trans HR2.out)
  have HB3 : Hid (Below w.heap.size w (w2.alloc (.cells #[.int .u8 (op : Int)] 5))) := Lib.hid (HB2.out.alloc HB2.out.size _)
  go_upto_region 3 with (fail)
  obtain ⟨G, hG⟩ : ∃ G, G = w2.heap.size := ⟨_, rfl⟩
  rw [← hG] at HO3 hs2 ⊢
  have hGw : w.heap.size ≤ G := by have := HB2.out.size; omega
  clear hG y0 y1 y2 y3 y4 HX2 HR2 HB2
  generalize w2.alloc (.cells #[.int .u8 (op : Int)] 5) = w3 at HO3 HX3 HR3 HB3 ⊢
  have HKX := Lib.hid (fun (W : World) (v : Value) (l : List UInt8) (h : Adds w.heap.size w3 (.slice (some ⟨G, 0, none⟩) 1 1) W v l) => cells5 (h.2.1.heap HX3.out (fun e => by simp [Value.ownBlock] at e; omega)))
  have HKR := Lib.hid (fun (W : World) (v : Value) (l : List UInt8) (h : Adds w.heap.size w3 (.slice (some ⟨G, 0, none⟩) 1 1) W v l) => cells5 (h.2.1.heap HR3.out (fun e => by simp [Value.ownBlock] at e; omega)))
  have HU := Lib.hid (fun (W : World) (v : Value) (l : List UInt8) (h : Adds w.heap.size w3 (.slice (some ⟨G, 0, none⟩) 1 1) W v l) => (HV.out.mod (Mod.of_below (T := fun _ => False) HB3.out) (fun _ _ _ h => h)).mod h.2.1 (fun g _ hg e => by have := HS.out g hg; simp [Value.ownBlock] at e; omega))
  have FIN := Lib.hid (fun (l : List UInt8) (W : World) (v : Value) (h : Adds w.heap.size w3 (.slice (some ⟨G, 0, none⟩) 1 1) W v l) => (⟨v, rfl, h.1, HB3.out.trans (h.below (fun g e => by simp [Value.ownBlock] at e; omega) HB3.out.size)⟩ : RBPost l w (.returned v) W))
  have HB3s := HB3.out.size
  have HA0 : Hid (Adds w.heap.size w3 (.slice (some ⟨G, 0, none⟩) 1 1) w3 (.slice (some ⟨G, 0, none⟩) 1 1) [UInt8.ofNat op]) := Lib.hid ⟨HO3.out, Mod.refl _ _, fun g h => .inl h⟩
  obtain ⟨y0, y1, y2, y3, y4⟩ := HKX.out _ _ _ HA0.out
  obtain ⟨z0, z1, z2, z3, z4⟩ := HKR.out _ _ _ HA0.out
  clear HV HS HB3 HX3 HR3
  obtain ⟨m, hm⟩ : ∃ m, xl.length = m := ⟨_, rfl⟩
  rw [hm] at hsz HKX
  simp only [hm] at y4
  have HM := Lib.hid hm
  have hwa : IntKind.u64.wrap (a : Int) = (a : Int) := IntWalk.u64_in _ (by omega)
  have hwl : IntKind.u64.wrap (m : Int) = (m : Int) := IntWalk.u64_in _ (by omega)
  have HQ := Lib.hid (fun (W : World) (v : Value) (l : List UInt8) (h : Adds w.heap.size w3 (.slice (some ⟨G, 0, none⟩) 1 1) W v l) (hl : l.length ≤ 100000000000000) => fewU_adds w.heap.size v l a W h.1 (Nat.le_trans HB3s h.2.1.size) (by omega) hl)
  have HQM := Lib.hid (fun (W : World) (v : Value) (l : List UInt8) (h : Adds w.heap.size w3 (.slice (some ⟨G, 0, none⟩) 1 1) W v l) (hl : l.length ≤ 100000000000000) => fewU_adds w.heap.size v l m W h.1 (Nat.le_trans HB3s h.2.1.size) (by omega) hl)
  have HQX := Lib.hid (fun (x : Nat) (hx : x < 4294967296) (W : World) (v : Value) (l : List UInt8) (h : Adds w.heap.size w3 (.slice (some ⟨G, 0, none⟩) 1 1) W v l) (hl : l.length ≤ 100000000000000) => fewU_adds w.heap.size v l x W h.1 (Nat.le_trans HB3s h.2.1.size) (by omega) hl)
  have hleM := Leb.encU_le10 m (by omega)
  generalize hEM : Leb.encU m = EM at HQM hleM
  have HEM := Lib.hid hEM
  have hleA := Leb.encU_le10 a (by omega)
  generalize hE : Leb.encU a = E at HQ hleA
  have HE := Lib.hid hE
  clear hE hEM hm
  go_wp2_with (first | (go_at_call 32; refine (HQM.out _ _ _ HA0.out (by simp)).mono ?_; rintro e wf0 ⟨Af0, cf0, mf0, w4, v4, rfl, hr0, ha0⟩; have HRU0 := Lib.hid hr0; have HA1 := Lib.hid (HA0.out.trans ha0); clear hr0 ha0; obtain ⟨y0_1, y1_1, y2_1, y3_1, y4_1⟩ := HKX.out _ _ _ HA1.out; obtain ⟨z0_1, z1_1, z2_1, z3_1, z4_1⟩ := HKR.out _ _ _ HA1.out) | (at_builtin; refine wpList_appends rfl (.tmp 19) (.tmp 24) 36 rfl _ _ _ w4 rfl rfl HRU0.out ?_))
  go_loopw [5, 6] (fun u i wr => ∃ (j : Nat) (done : List UInt8), j ≤ m ∧ i = .int .i64 (j : Int) ∧ Hid (done = [UInt8.ofNat op] ++ (EM ++ labs (xl.take j))) ∧ done.length ≤ 10 * (j + 2) ∧ Hid (Adds w.heap.size w3 (.slice (some ⟨G, 0, none⟩) 1 1) wr u done)) (fun _ i _ => m - (intOf i).toNat)
  case atStart => exact ⟨0, _, by omega, rfl, Lib.hid (by simp [labs]), by simp; omega, HA1⟩
  case round =>
    obtain ⟨j, done, hj, rfl, HD, hdl, HA⟩ := hrel
    obtain ⟨q0, q1, q2, q3, q4⟩ := HKX.out _ _ _ HA.out
    obtain ⟨r0, r1, r2, r3, r4⟩ := HKR.out _ _ _ HA.out
    by_cases hjn : j < m
    · obtain ⟨x, hx⟩ : ∃ x, xl[j]? = some x := ⟨_, List.getElem?_eq_getElem (by have := HM.out; omega)⟩
      have hLr := HU.out _ _ _ HA.out
      obtain ⟨g, oo, rfl, _, hcell⟩ := hLr j x hx
      have hx32 : x < 4294967296 := HXW.out x (List.mem_of_getElem? hx)
      have hji : (j : Int) < (m : Int) := by omega
      have hwx : IntKind.u64.wrap (x : Int) = (x : Int) := IntWalk.u64_in _ (by omega)
      have HP := Lib.hid (HQX.out x hx32 _ _ _ HA.out (by omega))
      have hle2 := Leb.encU_le10 x (by omega)
      have hlab : labs (xl.take (j + 1)) = labs (xl.take j) ++ Leb.encU x := by rw [List.take_add_one, hx]; simp [labs]
      have HLB := Lib.hid hlab
      clear hx hLr hlab
      generalize Leb.encU x = EX at HP hle2 HLB
      go_wp2_with (first | (go_at_call 32; refine HP.out.mono ?_; rintro e wf ⟨Af, cf, mf, w5, v5, rfl, hr, ha2⟩; have HRU := Lib.hid hr; have HA2 := Lib.hid (HA.out.trans ha2); clear hr ha2) | (at_builtin; refine wpList_appends rfl (.tmp 33) (.tmp 40) 36 rfl _ _ _ w5 rfl rfl HRU.out ?_))
      go_roundw
      case rel => exact ⟨j + 1, done ++ EX, by omega, by go_num, Lib.hid (by rw [HD.out, HLB.out]; simp), by simp; omega, HA2⟩
      case measure => simp [intOf]; omega
    · obtain rfl : j = m := by omega
      have HA1' := HA
      go_wp2_with (first | (go_at_call 32; refine (HQ.out _ _ _ HA1'.out (by omega)).mono ?_; rintro e wf1 ⟨Af1, cf1, mf1, w5, v5, rfl, hr1, ha1⟩; have HRU1 := Lib.hid hr1; have HA2 := Lib.hid (HA1'.out.trans ha1); clear hr1 ha1; obtain ⟨y0_2, y1_2, y2_2, y3_2, y4_2⟩ := HKX.out _ _ _ HA2.out; obtain ⟨z0_2, z1_2, z2_2, z3_2, z4_2⟩ := HKR.out _ _ _ HA2.out) | (at_builtin; refine wpList_appends rfl (.tmp 59) (.tmp 63) 36 rfl _ _ _ w5 rfl rfl HRU1.out ?_))
      go_ret
      have h := HA2.out
      have e : done ++ E = UInt8.ofNat op :: T := by rw [HT.out, HD.out, ← HE.out, ← HEM.out, ← HM.out, List.take_length]; simp
      rw [e] at h
      exact FIN.out _ _ _ h
/-- The document's Bytes, of an instruction that has some. -/
theorem rbytes_any (S : Nat → Prop) (A : Option Addr) (c : Nat) (x : I) (w : World) (hV : HasU w S A x.l) (hS : ∀ g, S g → g < w.heap.size) (hwf : x.wf) (hm : may x = true) (hsz : 10 * (x.l.length + 5) ≤ 10000000000000) :
    Calls Tryz.prog 66 #[insVal x A c] w (RBPost (enc x) w) := by
  obtain ⟨op, a, b, n, xl⟩ := x
  simp only [may, Bool.and_eq_true] at hm
  have hmF := hm.2
  have e : enc ⟨op, a, b, n, xl⟩ = UInt8.ofNat op :: tailF (Opc.form op) ⟨op, a, b, n, xl⟩ := rfl
  rw [e]
  rcases form_range op with hf | hf | hf | hf | hf | hf | hf | hf | hf | hf
  all_goals rw [hf] at hmF ⊢
  · exact rb_0 S A c op a b n xl w hV hS hwf _ (Lib.hid rfl) hsz hf
  · have hab : a < 256 := by
      simp [mayF, hasA] at hmF
      exact (blockB_lt hmF.2).1
    exact rb_1 S A c op a b n xl w hV hS hwf _ (Lib.hid rfl) hab hsz hf
  · exact rb_2 S A c op a b n xl w hV hS hwf _ (Lib.hid rfl) hsz hf
  · exact rb_3 S A c op a b n xl w hV hS hwf _ (Lib.hid rfl) hsz hf
  · exact rb_4 S A c op a b n xl w hV hS hwf _ (Lib.hid rfl) hsz hf
  · exact rb_5 S A c op a b n xl w hV hS hwf _ (Lib.hid rfl) hsz hf
  · exact rb_6 S A c op a b n xl w hV hS hwf _ (Lib.hid rfl) hsz hf
  · exact rb_7 S A c op a b n xl w hV hS hwf _ (Lib.hid rfl) hsz hf
  · exact rb_8 S A c op a b n xl w hV hS hwf _ (Lib.hid rfl) hsz hf
  · exact rb_9 S A c op a b n xl w hV hS hwf _ (Lib.hid rfl) hsz hf
end Go.Proofs.YtgnbkfkiigcdgaaGreatDoor
