/-
  put: an instruction's bytes, laid behind bytes in a row of the call's own.
-/
import Derived.Test.YtelcdmkbaegjoaaGreatTq01
import Derived.Test.YtelcdmkbaegjoaaGreatTq14
import Derived.Deep.Cut
import Derived.Deep.RegionHeld3
set_option maxRecDepth 100000
set_option maxHeartbeats 4000000
namespace Go.Proofs.YtelcdmkbaegjoaaGreat
open Go.RowKit Ins
theorem held_x {w w' : World} {T : Nat → Prop} {X : Nat} {x1 x2 x4 : Value} (hm : Mod T w w') (hT : ¬ T X) (h1 : w.cell? ⟨X, 1, none⟩ = some x1) (h2 : w.cell? ⟨X, 2, none⟩ = some x2) (h4 : w.cell? ⟨X, 4, none⟩ = some x4) : w'.cell? ⟨X, 1, none⟩ = some x1 ∧ w'.cell? ⟨X, 2, none⟩ = some x2 ∧ w'.cell? ⟨X, 4, none⟩ = some x4 :=
 ⟨hm.cell h1 hT, hm.cell h2 hT, hm.cell h4 hT⟩
theorem put_0 (base : Nat) (v : Value) (l : List UInt8) (S : Nat → Prop) (A : Option Addr) (c op a b : Nat) (n : Int) (xl : List Nat) (w : World) (hown : w.ownsRow base 5 1 v l.length (bytesOf l)) (hb : base ≤ w.heap.size) (hV : HasU w S A xl) (hS : ∀ g, S g → v.ownBlock ≠ some g)
  (hwf : (⟨op, a, b, n, xl⟩ : I).wf) (T : List UInt8) (HT : Hid (T = [])) (hxl : xl.length < 4294967296) (hsz : l.length + 10 * (xl.length + 5) ≤ 100000000000000) (hf : Opc.form op = 0) :
  Calls Tryz.prog 69 #[v, .agg #[.int .u8 (op : Int), .int .u32 (a : Int), .int .u32 (b : Int), .int .i64 n, .slice A xl.length c]] w (av base v (l ++ (UInt8.ofNat op :: T)) w) := by
 obtain ⟨hop, ha, hbb, hn0, hn1, hxw⟩ := hwf
 simp only at hop ha hbb hn0 hn1 hxw
 have HFM := J (aN (op : Int))
 rw [hf] at HFM
 have HOL := J (own_lt hown)
 have HOG := J (aV hown)
 have HV := J hV
 have HS := J hS
 have HXW := J hxw
 have HO0 : Hid ((w.alloc (.cells #[.int .u8 (op : Int), .int .u32 (a : Int), .int .u32 (b : Int), .int .i64 n, .slice A xl.length c] 57)).ownsRow base 5 1 v l.length (bytesOf l)) := J (hown.alloc _)
 have HX0 : Hid ((w.alloc (.cells #[.int .u8 (op : Int), .int .u32 (a : Int), .int .u32 (b : Int), .int .i64 n, .slice A xl.length c] 57)).heap[w.heap.size]? = some (.cells #[.int .u8 (op : Int), .int .u32 (a : Int), .int .u32 (b : Int), .int .i64 n, .slice A xl.length c] 57 (0, 0))) := J (heap_alloc_new w _)
 have HB0 : Hid (Below w.heap.size w (w.alloc (.cells #[.int .u8 (op : Int), .int .u32 (a : Int), .int .u32 (b : Int), .int .i64 n, .slice A xl.length c] 57))) := J ((Below.refl _ _).alloc (Nat.le_refl _) _)
 have hsz0 : w.heap.size < (w.alloc (.cells #[.int .u8 (op : Int), .int .u32 (a : Int), .int .u32 (b : Int), .int .i64 n, .slice A xl.length c] 57)).heap.size := by simp
 clear hf hown hV hS hxw
 obtain ⟨X, hX⟩ : ∃ X, X = w.heap.size := ⟨_, rfl⟩
 go_enter Tryz.func69, Tryz.ntmps69
 go_upto_region 1 with (fail)
 rw [← hX] at HX0 hsz0 ⊢
 have HXX := J hX
 clear hX
 generalize w.alloc (.cells #[.int .u8 (op : Int), .int .u32 (a : Int), .int .u32 (b : Int), .int .i64 n, .slice A xl.length c] 57) = w0 at HO0 HX0 HB0 hsz0 ⊢
 obtain ⟨x0, x1, x2, x3, x4⟩ := cells5 HX0.out
 obtain ⟨v1, w1, hr1, ha1⟩ := aq w0 base v l (UInt8.ofNat op) HO0.out (by omega) (Nat.le_trans hb HB0.out.size)
 rw [byteNat op hop] at hr1
 have HR1 := J hr1
 have HA1 := J ha1
 have HNX : Hid (v.ownBlock ≠ some X) := J (fun e => by have := HOL.out X e; have := HXX.out; omega)
 obtain ⟨y0, y1, y2, y3, y4⟩ := cells5 (ha1.2.1.heap HX0.out HNX.out)
 have HNX1 : Hid (v1.ownBlock ≠ some X) := J (fun e => by
  rcases ha1.2.2 X e with h | h
  ·exact HNX.out h
  ·omega)
 have hll : (l ++ [UInt8.ofNat op]).length = l.length + 1 := by simp
 have hs1 := ha1.2.1.size
 have hb1 : base ≤ w1.heap.size := by have := HB0.out.size; omega
 have FIN := J (fun (l2 : List UInt8) (w2 : World) (v2 : Value) (h : Adds base w1 v1 w2 v2 l2) => (⟨v2, rfl, Adds.behind HB0.out (ha1.trans h)⟩ : av base v l2 w (.returned v2) w2))
 clear hr1 ha1
 go_wp2_with (first | (at_builtin; refine ag rfl (.tmp 5) (.tmp 8) 49 rfl _ _ _ w1 rfl rfl HR1.out ?_) | (go_at_call 97; refine (HFM.out _).mono ?_; rintro e wf ⟨rfl, rfl⟩))
 go_ret
 have e : l ++ [UInt8.ofNat op] = l ++ (UInt8.ofNat op :: T) := by rw [HT.out]
 exact FIN.out _ _ _ (e ▸ ⟨HA1.out.1, Mod.refl _ _, fun g h => .inl h⟩)
theorem put_1 (base : Nat) (v : Value) (l : List UInt8) (S : Nat → Prop) (A : Option Addr) (c op a b : Nat) (n : Int) (xl : List Nat) (w : World) (hown : w.ownsRow base 5 1 v l.length (bytesOf l)) (hb : base ≤ w.heap.size) (hV : HasU w S A xl) (hS : ∀ g, S g → v.ownBlock ≠ some g)
  (hwf : (⟨op, a, b, n, xl⟩ : I).wf) (T : List UInt8) (HT : Hid (T = [UInt8.ofNat a])) (hab : a < 256) (hxl : xl.length < 4294967296) (hsz : l.length + 10 * (xl.length + 5) ≤ 100000000000000) (hf : Opc.form op = 1) :
  Calls Tryz.prog 69 #[v, .agg #[.int .u8 (op : Int), .int .u32 (a : Int), .int .u32 (b : Int), .int .i64 n, .slice A xl.length c]] w (av base v (l ++ (UInt8.ofNat op :: T)) w) := by
 obtain ⟨hop, ha, hbb, hn0, hn1, hxw⟩ := hwf
 simp only at hop ha hbb hn0 hn1 hxw
 have HFM := J (aN (op : Int))
 rw [hf] at HFM
 have HOL := J (own_lt hown)
 have HOG := J (aV hown)
 have HV := J hV
 have HS := J hS
 have HXW := J hxw
 have HO0 : Hid ((w.alloc (.cells #[.int .u8 (op : Int), .int .u32 (a : Int), .int .u32 (b : Int), .int .i64 n, .slice A xl.length c] 57)).ownsRow base 5 1 v l.length (bytesOf l)) := J (hown.alloc _)
 have HX0 : Hid ((w.alloc (.cells #[.int .u8 (op : Int), .int .u32 (a : Int), .int .u32 (b : Int), .int .i64 n, .slice A xl.length c] 57)).heap[w.heap.size]? = some (.cells #[.int .u8 (op : Int), .int .u32 (a : Int), .int .u32 (b : Int), .int .i64 n, .slice A xl.length c] 57 (0, 0))) := J (heap_alloc_new w _)
 have HB0 : Hid (Below w.heap.size w (w.alloc (.cells #[.int .u8 (op : Int), .int .u32 (a : Int), .int .u32 (b : Int), .int .i64 n, .slice A xl.length c] 57))) := J ((Below.refl _ _).alloc (Nat.le_refl _) _)
 have hsz0 : w.heap.size < (w.alloc (.cells #[.int .u8 (op : Int), .int .u32 (a : Int), .int .u32 (b : Int), .int .i64 n, .slice A xl.length c] 57)).heap.size := by simp
 clear hf hown hV hS hxw
 obtain ⟨X, hX⟩ : ∃ X, X = w.heap.size := ⟨_, rfl⟩
 go_enter Tryz.func69, Tryz.ntmps69
 go_upto_region 1 with (fail)
 rw [← hX] at HX0 hsz0 ⊢
 have HXX := J hX
 clear hX
 generalize w.alloc (.cells #[.int .u8 (op : Int), .int .u32 (a : Int), .int .u32 (b : Int), .int .i64 n, .slice A xl.length c] 57) = w0 at HO0 HX0 HB0 hsz0 ⊢
 obtain ⟨x0, x1, x2, x3, x4⟩ := cells5 HX0.out
 obtain ⟨v1, w1, hr1, ha1⟩ := aq w0 base v l (UInt8.ofNat op) HO0.out (by omega) (Nat.le_trans hb HB0.out.size)
 rw [byteNat op hop] at hr1
 have HR1 := J hr1
 have HA1 := J ha1
 have HNX : Hid (v.ownBlock ≠ some X) := J (fun e => by have := HOL.out X e; have := HXX.out; omega)
 obtain ⟨y0, y1, y2, y3, y4⟩ := cells5 (ha1.2.1.heap HX0.out HNX.out)
 have HNX1 : Hid (v1.ownBlock ≠ some X) := J (fun e => by
  rcases ha1.2.2 X e with h | h
  ·exact HNX.out h
  ·omega)
 have hll : (l ++ [UInt8.ofNat op]).length = l.length + 1 := by simp
 have hs1 := ha1.2.1.size
 have hb1 : base ≤ w1.heap.size := by have := HB0.out.size; omega
 have FIN := J (fun (l2 : List UInt8) (w2 : World) (v2 : Value) (h : Adds base w1 v1 w2 v2 l2) => (⟨v2, rfl, Adds.behind HB0.out (ha1.trans h)⟩ : av base v l2 w (.returned v2) w2))
 clear hr1 ha1
 obtain ⟨v2, w2, hr2, ha2⟩ := aq w1 base v1 (l ++ [UInt8.ofNat op]) (UInt8.ofNat a) HA1.out.1 (by omega) hb1
 rw [byteNat a hab] at hr2
 have HR2 := J hr2
 have HA2 := J ha2
 have hwa : IntKind.u8.wrap (a : Int) = (a : Int) := IntWalk.u8_in _ (by omega)
 clear hr2 ha2
 go_wp2_with (first | (at_builtin; refine ag rfl (.tmp 5) (.tmp 8) 49 rfl _ _ _ w1 rfl rfl HR1.out ?_) | (go_at_call 97; refine (HFM.out _).mono ?_; rintro e wf ⟨rfl, rfl⟩) | (at_builtin; refine ag rfl (.tmp 15) (.tmp 19) 49 rfl _ _ _ w2 rfl rfl HR2.out ?_))
 go_ret
 have h := HA2.out
 have e : l ++ [UInt8.ofNat op] ++ [UInt8.ofNat a] = l ++ (UInt8.ofNat op :: T) := by rw [HT.out]; simp
 rw [e] at h
 exact FIN.out _ _ _ h
theorem put_2 (base : Nat) (v : Value) (l : List UInt8) (S : Nat → Prop) (A : Option Addr) (c op a b : Nat) (n : Int) (xl : List Nat) (w : World) (hown : w.ownsRow base 5 1 v l.length (bytesOf l)) (hb : base ≤ w.heap.size) (hV : HasU w S A xl) (hS : ∀ g, S g → v.ownBlock ≠ some g)
  (hwf : (⟨op, a, b, n, xl⟩ : I).wf) (T : List UInt8) (HT : Hid (T = Leb.encU a)) (hxl : xl.length < 4294967296) (hsz : l.length + 10 * (xl.length + 5) ≤ 100000000000000) (hf : Opc.form op = 2) :
  Calls Tryz.prog 69 #[v, .agg #[.int .u8 (op : Int), .int .u32 (a : Int), .int .u32 (b : Int), .int .i64 n, .slice A xl.length c]] w (av base v (l ++ (UInt8.ofNat op :: T)) w) := by
 obtain ⟨hop, ha, hbb, hn0, hn1, hxw⟩ := hwf
 simp only at hop ha hbb hn0 hn1 hxw
 have HFM := J (aN (op : Int))
 rw [hf] at HFM
 have HOL := J (own_lt hown)
 have HOG := J (aV hown)
 have HV := J hV
 have HS := J hS
 have HXW := J hxw
 have HO0 : Hid ((w.alloc (.cells #[.int .u8 (op : Int), .int .u32 (a : Int), .int .u32 (b : Int), .int .i64 n, .slice A xl.length c] 57)).ownsRow base 5 1 v l.length (bytesOf l)) := J (hown.alloc _)
 have HX0 : Hid ((w.alloc (.cells #[.int .u8 (op : Int), .int .u32 (a : Int), .int .u32 (b : Int), .int .i64 n, .slice A xl.length c] 57)).heap[w.heap.size]? = some (.cells #[.int .u8 (op : Int), .int .u32 (a : Int), .int .u32 (b : Int), .int .i64 n, .slice A xl.length c] 57 (0, 0))) := J (heap_alloc_new w _)
 have HB0 : Hid (Below w.heap.size w (w.alloc (.cells #[.int .u8 (op : Int), .int .u32 (a : Int), .int .u32 (b : Int), .int .i64 n, .slice A xl.length c] 57))) := J ((Below.refl _ _).alloc (Nat.le_refl _) _)
 have hsz0 : w.heap.size < (w.alloc (.cells #[.int .u8 (op : Int), .int .u32 (a : Int), .int .u32 (b : Int), .int .i64 n, .slice A xl.length c] 57)).heap.size := by simp
 clear hf hown hV hS hxw
 obtain ⟨X, hX⟩ : ∃ X, X = w.heap.size := ⟨_, rfl⟩
 go_enter Tryz.func69, Tryz.ntmps69
 go_upto_region 1 with (fail)
 rw [← hX] at HX0 hsz0 ⊢
 have HXX := J hX
 clear hX
 generalize w.alloc (.cells #[.int .u8 (op : Int), .int .u32 (a : Int), .int .u32 (b : Int), .int .i64 n, .slice A xl.length c] 57) = w0 at HO0 HX0 HB0 hsz0 ⊢
 obtain ⟨x0, x1, x2, x3, x4⟩ := cells5 HX0.out
 obtain ⟨v1, w1, hr1, ha1⟩ := aq w0 base v l (UInt8.ofNat op) HO0.out (by omega) (Nat.le_trans hb HB0.out.size)
 rw [byteNat op hop] at hr1
 have HR1 := J hr1
 have HA1 := J ha1
 have HNX : Hid (v.ownBlock ≠ some X) := J (fun e => by have := HOL.out X e; have := HXX.out; omega)
 obtain ⟨y0, y1, y2, y3, y4⟩ := cells5 (ha1.2.1.heap HX0.out HNX.out)
 have HNX1 : Hid (v1.ownBlock ≠ some X) := J (fun e => by
  rcases ha1.2.2 X e with h | h
  ·exact HNX.out h
  ·omega)
 have hll : (l ++ [UInt8.ofNat op]).length = l.length + 1 := by simp
 have hs1 := ha1.2.1.size
 have hb1 : base ≤ w1.heap.size := by have := HB0.out.size; omega
 have FIN := J (fun (l2 : List UInt8) (w2 : World) (v2 : Value) (h : Adds base w1 v1 w2 v2 l2) => (⟨v2, rfl, Adds.behind HB0.out (ha1.trans h)⟩ : av base v l2 w (.returned v2) w2))
 clear hr1 ha1
 have HP := J (az base v1 (l ++ [UInt8.ofNat op]) a w1 HA1.out.1 hb1 ha (by omega))
 generalize hE : Leb.encU a = E at HP
 have HE := J hE
 clear hE
 go_wp2_with (first | (at_builtin; refine ag rfl (.tmp 5) (.tmp 8) 49 rfl _ _ _ w1 rfl rfl HR1.out ?_) | (go_at_call 97; refine (HFM.out _).mono ?_; rintro e wf ⟨rfl, rfl⟩) | (go_at_call 101; refine HP.out.mono ?_; rintro e w2 ⟨v2, rfl, ha2⟩; have HA2 := J ha2; clear ha2))
 go_ret
 have h := HA2.out
 have e : l ++ [UInt8.ofNat op] ++ E = l ++ (UInt8.ofNat op :: T) := by rw [HT.out, HE.out]; simp
 rw [e] at h
 exact FIN.out _ _ _ h
theorem put_4 (base : Nat) (v : Value) (l : List UInt8) (S : Nat → Prop) (A : Option Addr) (c op a b : Nat) (n : Int) (xl : List Nat) (w : World) (hown : w.ownsRow base 5 1 v l.length (bytesOf l)) (hb : base ≤ w.heap.size) (hV : HasU w S A xl) (hS : ∀ g, S g → v.ownBlock ≠ some g)
  (hwf : (⟨op, a, b, n, xl⟩ : I).wf) (T : List UInt8) (HT : Hid (T = Leb.encU a)) (hxl : xl.length < 4294967296) (hsz : l.length + 10 * (xl.length + 5) ≤ 100000000000000) (hf : Opc.form op = 4) :
  Calls Tryz.prog 69 #[v, .agg #[.int .u8 (op : Int), .int .u32 (a : Int), .int .u32 (b : Int), .int .i64 n, .slice A xl.length c]] w (av base v (l ++ (UInt8.ofNat op :: T)) w) := by
 obtain ⟨hop, ha, hbb, hn0, hn1, hxw⟩ := hwf
 simp only at hop ha hbb hn0 hn1 hxw
 have HFM := J (aN (op : Int))
 rw [hf] at HFM
 have HOL := J (own_lt hown)
 have HOG := J (aV hown)
 have HV := J hV
 have HS := J hS
 have HXW := J hxw
 have HO0 : Hid ((w.alloc (.cells #[.int .u8 (op : Int), .int .u32 (a : Int), .int .u32 (b : Int), .int .i64 n, .slice A xl.length c] 57)).ownsRow base 5 1 v l.length (bytesOf l)) := J (hown.alloc _)
 have HX0 : Hid ((w.alloc (.cells #[.int .u8 (op : Int), .int .u32 (a : Int), .int .u32 (b : Int), .int .i64 n, .slice A xl.length c] 57)).heap[w.heap.size]? = some (.cells #[.int .u8 (op : Int), .int .u32 (a : Int), .int .u32 (b : Int), .int .i64 n, .slice A xl.length c] 57 (0, 0))) := J (heap_alloc_new w _)
 have HB0 : Hid (Below w.heap.size w (w.alloc (.cells #[.int .u8 (op : Int), .int .u32 (a : Int), .int .u32 (b : Int), .int .i64 n, .slice A xl.length c] 57))) := J ((Below.refl _ _).alloc (Nat.le_refl _) _)
 have hsz0 : w.heap.size < (w.alloc (.cells #[.int .u8 (op : Int), .int .u32 (a : Int), .int .u32 (b : Int), .int .i64 n, .slice A xl.length c] 57)).heap.size := by simp
 clear hf hown hV hS hxw
 obtain ⟨X, hX⟩ : ∃ X, X = w.heap.size := ⟨_, rfl⟩
 go_enter Tryz.func69, Tryz.ntmps69
 go_upto_region 1 with (fail)
 rw [← hX] at HX0 hsz0 ⊢
 have HXX := J hX
 clear hX
 generalize w.alloc (.cells #[.int .u8 (op : Int), .int .u32 (a : Int), .int .u32 (b : Int), .int .i64 n, .slice A xl.length c] 57) = w0 at HO0 HX0 HB0 hsz0 ⊢
 obtain ⟨x0, x1, x2, x3, x4⟩ := cells5 HX0.out
 obtain ⟨v1, w1, hr1, ha1⟩ := aq w0 base v l (UInt8.ofNat op) HO0.out (by omega) (Nat.le_trans hb HB0.out.size)
 rw [byteNat op hop] at hr1
 have HR1 := J hr1
 have HA1 := J ha1
 have HNX : Hid (v.ownBlock ≠ some X) := J (fun e => by have := HOL.out X e; have := HXX.out; omega)
 obtain ⟨y0, y1, y2, y3, y4⟩ := cells5 (ha1.2.1.heap HX0.out HNX.out)
 have HNX1 : Hid (v1.ownBlock ≠ some X) := J (fun e => by
  rcases ha1.2.2 X e with h | h
  ·exact HNX.out h
  ·omega)
 have hll : (l ++ [UInt8.ofNat op]).length = l.length + 1 := by simp
 have hs1 := ha1.2.1.size
 have hb1 : base ≤ w1.heap.size := by have := HB0.out.size; omega
 have FIN := J (fun (l2 : List UInt8) (w2 : World) (v2 : Value) (h : Adds base w1 v1 w2 v2 l2) => (⟨v2, rfl, Adds.behind HB0.out (ha1.trans h)⟩ : av base v l2 w (.returned v2) w2))
 clear hr1 ha1
 have HP := J (az base v1 (l ++ [UInt8.ofNat op]) a w1 HA1.out.1 hb1 ha (by omega))
 generalize hE : Leb.encU a = E at HP
 have HE := J hE
 clear hE
 go_wp2_with (first | (at_builtin; refine ag rfl (.tmp 5) (.tmp 8) 49 rfl _ _ _ w1 rfl rfl HR1.out ?_) | (go_at_call 97; refine (HFM.out _).mono ?_; rintro e wf ⟨rfl, rfl⟩) | (go_at_call 101; refine HP.out.mono ?_; rintro e w2 ⟨v2, rfl, ha2⟩; have HA2 := J ha2; clear ha2))
 go_ret
 have h := HA2.out
 have e : l ++ [UInt8.ofNat op] ++ E = l ++ (UInt8.ofNat op :: T) := by rw [HT.out, HE.out]; simp
 rw [e] at h
 exact FIN.out _ _ _ h
theorem put_3 (base : Nat) (v : Value) (l : List UInt8) (S : Nat → Prop) (A : Option Addr) (c op a b : Nat) (n : Int) (xl : List Nat) (w : World) (hown : w.ownsRow base 5 1 v l.length (bytesOf l)) (hb : base ≤ w.heap.size) (hV : HasU w S A xl) (hS : ∀ g, S g → v.ownBlock ≠ some g)
  (hwf : (⟨op, a, b, n, xl⟩ : I).wf) (T : List UInt8) (HT : Hid (T = (Leb.encU xl.length ++ labs xl ++ Leb.encU a))) (hxl : xl.length < 4294967296) (hsz : l.length + 10 * (xl.length + 5) ≤ 100000000000000) (hf : Opc.form op = 3) :
  Calls Tryz.prog 69 #[v, .agg #[.int .u8 (op : Int), .int .u32 (a : Int), .int .u32 (b : Int), .int .i64 n, .slice A xl.length c]] w (av base v (l ++ (UInt8.ofNat op :: T)) w) := by
 obtain ⟨hop, ha, hbb, hn0, hn1, hxw⟩ := hwf
 simp only at hop ha hbb hn0 hn1 hxw
 have HFM := J (aN (op : Int))
 rw [hf] at HFM
 have HOL := J (own_lt hown)
 have HOG := J (aV hown)
 have HV := J hV
 have HS := J hS
 have HXW := J hxw
 have HO0 : Hid ((w.alloc (.cells #[.int .u8 (op : Int), .int .u32 (a : Int), .int .u32 (b : Int), .int .i64 n, .slice A xl.length c] 57)).ownsRow base 5 1 v l.length (bytesOf l)) := J (hown.alloc _)
 have HX0 : Hid ((w.alloc (.cells #[.int .u8 (op : Int), .int .u32 (a : Int), .int .u32 (b : Int), .int .i64 n, .slice A xl.length c] 57)).heap[w.heap.size]? = some (.cells #[.int .u8 (op : Int), .int .u32 (a : Int), .int .u32 (b : Int), .int .i64 n, .slice A xl.length c] 57 (0, 0))) := J (heap_alloc_new w _)
 have HB0 : Hid (Below w.heap.size w (w.alloc (.cells #[.int .u8 (op : Int), .int .u32 (a : Int), .int .u32 (b : Int), .int .i64 n, .slice A xl.length c] 57))) := J ((Below.refl _ _).alloc (Nat.le_refl _) _)
 have hsz0 : w.heap.size < (w.alloc (.cells #[.int .u8 (op : Int), .int .u32 (a : Int), .int .u32 (b : Int), .int .i64 n, .slice A xl.length c] 57)).heap.size := by simp
 clear hf hown hV hS hxw
 obtain ⟨X, hX⟩ : ∃ X, X = w.heap.size := ⟨_, rfl⟩
 go_enter Tryz.func69, Tryz.ntmps69
 go_upto_region 1 with (fail)
 rw [← hX] at HX0 hsz0 ⊢
 have HXX := J hX
 clear hX
 generalize w.alloc (.cells #[.int .u8 (op : Int), .int .u32 (a : Int), .int .u32 (b : Int), .int .i64 n, .slice A xl.length c] 57) = w0 at HO0 HX0 HB0 hsz0 ⊢
 obtain ⟨x0, x1, x2, x3, x4⟩ := cells5 HX0.out
 obtain ⟨v1, w1, hr1, ha1⟩ := aq w0 base v l (UInt8.ofNat op) HO0.out (by omega) (Nat.le_trans hb HB0.out.size)
 rw [byteNat op hop] at hr1
 have HR1 := J hr1
 have HA1 := J ha1
 have HNX : Hid (v.ownBlock ≠ some X) := J (fun e => by have := HOL.out X e; have := HXX.out; omega)
 obtain ⟨y0, y1, y2, y3, y4⟩ := cells5 (ha1.2.1.heap HX0.out HNX.out)
 have HNX1 : Hid (v1.ownBlock ≠ some X) := J (fun e => by
  rcases ha1.2.2 X e with h | h
  ·exact HNX.out h
  ·omega)
 have hll : (l ++ [UInt8.ofNat op]).length = l.length + 1 := by simp
 have hs1 := ha1.2.1.size
 have hb1 : base ≤ w1.heap.size := by have := HB0.out.size; omega
 have FIN := J (fun (l2 : List UInt8) (w2 : World) (v2 : Value) (h : Adds base w1 v1 w2 v2 l2) => (⟨v2, rfl, Adds.behind HB0.out (ha1.trans h)⟩ : av base v l2 w (.returned v2) w2))
 clear hr1 ha1
 have hU1 : HasU w1 S A xl := by
  have h0 : HasU w0 S A xl := HV.out.mod (Mod.of_below (T := fun _ => False) HB0.out) (fun _ _ _ h => h)
  exact h0.mod HA1.out.2.1 (fun g _ hg e => HS.out g hg e)
 have hU2 : HasU w1 (fun g => S g ∧ v1.ownBlock ≠ some g) A xl := by
  have h0 : HasU w0 (fun g => S g ∧ g < w0.heap.size) A xl := (HV.out.mod (Mod.of_below (T := fun _ => False) HB0.out) (fun _ _ _ h => h)).more (fun g hg h => ⟨h, hg⟩)
  refine (h0.mod HA1.out.2.1 (fun g _ hg e => HS.out g hg.1 e)).more (fun g hg h => ⟨h.1, fun e => ?_⟩)
  rcases HA1.out.2.2 g e with h' | h'
  ·exact HS.out g h.1 h'
  ·omega
 have HP := J (fun W (hO : W.ownsRow base 5 1 v1 (l ++ [UInt8.ofNat op]).length (bytesOf (l ++ [UInt8.ofNat op]))) (hB : base ≤ W.heap.size) (hU : HasU W (fun g => S g ∧ v1.ownBlock ≠ some g) A xl) => dM base v1 (l ++ [UInt8.ofNat op]) _ A c xl W hO hB hU (fun g h => h.2) HXW.out hxl (by omega))
 have hle := Leb.encU_le10 xl.length (by omega)
 have hll2 : (labs xl).length ≤ 10 * xl.length := by
  have : ∀ (q : List Nat), (∀ x ∈ q, x < 4294967296) → (labs q).length ≤ 10 * q.length := by
   intro q
   induction q with
   | nil => intro _; simp [labs]
   | cons x q ih =>
    intro hq
    have h1 := ih (fun y hy => hq y (by simp [hy]))
    have h2 := Leb.encU_le10 x (by have := hq x (by simp); omega)
    have e : labs (x :: q) = Leb.encU x ++ labs q := by simp [labs]
    rw [e, List.length_append, List.length_cons]
    omega
  exact this xl HXW.out
 have HQ := J (fun W V (L : List UInt8) (hO : W.ownsRow base 5 1 V L.length (bytesOf L)) (hB : base ≤ W.heap.size) (hL : L.length ≤ 100000000000000) => az base V L a W hO hB ha hL)
 have HK := J (fun W (T : Nat → Prop) (hm : Mod T w1 W) (hT : ¬ T X) => held_x hm hT y1 y2 y4)
 have HU2 := J hU2
 clear hU1 hU2
 generalize hE : Leb.encU a = E at HQ
 generalize hEL : Leb.encU xl.length = EL at HP hle
 generalize hLB : labs xl = LB at HP hll2
 have HE := J (And.intro hE (And.intro hEL hLB))
 clear hE hEL hLB
 go_wp2_with (first | (at_builtin; refine ag rfl (.tmp 5) (.tmp 8) 49 rfl _ _ _ w1 rfl rfl HR1.out ?_) | (go_at_call 97; refine (HFM.out _).mono ?_; rintro e wf ⟨rfl, rfl⟩))
 go_region_held3 (fun w' => w'.cell? ⟨X, 1, none⟩ = some (.int .u32 (a : Int)) ∧ w'.cell? ⟨X, 2, none⟩ = some (.int .u32 (b : Int)) ∧ w'.cell? ⟨X, 4, none⟩ = some (.slice A xl.length c)) (first | exact HK.out _ (fun _ => False) ((Mod.refl _ w1).drew) (fun h => h) | exact HKA.out | exact HKB.out)
  (first | ((go_at_call 102; refine (HP.out w1.drew HA1.out.1 hb1 HU2.out).mono ?_; rintro e w2 ⟨v2, rfl, ha2⟩; have HKA := J (HK.out w2 _ (((Mod.refl _ w1).drew).trans ha2.2.1 (fun g _ h => h)) HNX1.out); have HA2 := J (Adds.behind (Below.drew (Below.refl _ _)) ha2); clear ha2)) | ((go_at_call 101; refine (HQ.out _ _ _ HA2.out.1 (Nat.le_trans hb1 HA2.out.2.1.size) (by simp; omega)).mono ?_; rintro e w3 ⟨v3, rfl, ha3⟩; have HKB := J (HK.out w3 _ (HA2.out.trans ha3).2.1 HNX1.out); have HA3 := J ha3; clear ha3)))
 go_wp2_with fail
 go_ret
 have h := HA2.out.trans HA3.out
 have e : l ++ [UInt8.ofNat op] ++ (EL ++ LB) ++ E = l ++ (UInt8.ofNat op :: T) := by rw [HT.out, HE.out.1, HE.out.2.1, HE.out.2.2]; simp
 rw [e] at h
 exact FIN.out _ _ _ h
theorem put_5 (base : Nat) (v : Value) (l : List UInt8) (S : Nat → Prop) (A : Option Addr) (c op a b : Nat) (n : Int) (xl : List Nat) (w : World) (hown : w.ownsRow base 5 1 v l.length (bytesOf l)) (hb : base ≤ w.heap.size) (hV : HasU w S A xl) (hS : ∀ g, S g → v.ownBlock ≠ some g)
  (hwf : (⟨op, a, b, n, xl⟩ : I).wf) (T : List UInt8) (HT : Hid (T = (Leb.encU a ++ [0]))) (hxl : xl.length < 4294967296) (hsz : l.length + 10 * (xl.length + 5) ≤ 100000000000000) (hf : Opc.form op = 5) :
  Calls Tryz.prog 69 #[v, .agg #[.int .u8 (op : Int), .int .u32 (a : Int), .int .u32 (b : Int), .int .i64 n, .slice A xl.length c]] w (av base v (l ++ (UInt8.ofNat op :: T)) w) := by
 obtain ⟨hop, ha, hbb, hn0, hn1, hxw⟩ := hwf
 simp only at hop ha hbb hn0 hn1 hxw
 have HFM := J (aN (op : Int))
 rw [hf] at HFM
 have HOL := J (own_lt hown)
 have HOG := J (aV hown)
 have HV := J hV
 have HS := J hS
 have HXW := J hxw
 have HO0 : Hid ((w.alloc (.cells #[.int .u8 (op : Int), .int .u32 (a : Int), .int .u32 (b : Int), .int .i64 n, .slice A xl.length c] 57)).ownsRow base 5 1 v l.length (bytesOf l)) := J (hown.alloc _)
 have HX0 : Hid ((w.alloc (.cells #[.int .u8 (op : Int), .int .u32 (a : Int), .int .u32 (b : Int), .int .i64 n, .slice A xl.length c] 57)).heap[w.heap.size]? = some (.cells #[.int .u8 (op : Int), .int .u32 (a : Int), .int .u32 (b : Int), .int .i64 n, .slice A xl.length c] 57 (0, 0))) := J (heap_alloc_new w _)
 have HB0 : Hid (Below w.heap.size w (w.alloc (.cells #[.int .u8 (op : Int), .int .u32 (a : Int), .int .u32 (b : Int), .int .i64 n, .slice A xl.length c] 57))) := J ((Below.refl _ _).alloc (Nat.le_refl _) _)
 have hsz0 : w.heap.size < (w.alloc (.cells #[.int .u8 (op : Int), .int .u32 (a : Int), .int .u32 (b : Int), .int .i64 n, .slice A xl.length c] 57)).heap.size := by simp
 clear hf hown hV hS hxw
 obtain ⟨X, hX⟩ : ∃ X, X = w.heap.size := ⟨_, rfl⟩
 go_enter Tryz.func69, Tryz.ntmps69
 go_upto_region 1 with (fail)
 rw [← hX] at HX0 hsz0 ⊢
 have HXX := J hX
 clear hX
 generalize w.alloc (.cells #[.int .u8 (op : Int), .int .u32 (a : Int), .int .u32 (b : Int), .int .i64 n, .slice A xl.length c] 57) = w0 at HO0 HX0 HB0 hsz0 ⊢
 obtain ⟨x0, x1, x2, x3, x4⟩ := cells5 HX0.out
 obtain ⟨v1, w1, hr1, ha1⟩ := aq w0 base v l (UInt8.ofNat op) HO0.out (by omega) (Nat.le_trans hb HB0.out.size)
 rw [byteNat op hop] at hr1
 have HR1 := J hr1
 have HA1 := J ha1
 have HNX : Hid (v.ownBlock ≠ some X) := J (fun e => by have := HOL.out X e; have := HXX.out; omega)
 obtain ⟨y0, y1, y2, y3, y4⟩ := cells5 (ha1.2.1.heap HX0.out HNX.out)
 have HNX1 : Hid (v1.ownBlock ≠ some X) := J (fun e => by
  rcases ha1.2.2 X e with h | h
  ·exact HNX.out h
  ·omega)
 have hll : (l ++ [UInt8.ofNat op]).length = l.length + 1 := by simp
 have hs1 := ha1.2.1.size
 have hb1 : base ≤ w1.heap.size := by have := HB0.out.size; omega
 have FIN := J (fun (l2 : List UInt8) (w2 : World) (v2 : Value) (h : Adds base w1 v1 w2 v2 l2) => (⟨v2, rfl, Adds.behind HB0.out (ha1.trans h)⟩ : av base v l2 w (.returned v2) w2))
 clear hr1 ha1
 have HP := J (az base v1 (l ++ [UInt8.ofNat op]) a w1 HA1.out.1 hb1 ha (by omega))
 have hle := Leb.encU_le10 a (by omega)
 generalize hE : Leb.encU a = E at HP hle
 have HE := J hE
 clear hE
 go_wp2_with (first | (at_builtin; refine ag rfl (.tmp 5) (.tmp 8) 49 rfl _ _ _ w1 rfl rfl HR1.out ?_) | (go_at_call 97; refine (HFM.out _).mono ?_; rintro e wf ⟨rfl, rfl⟩) | (go_at_call 101; refine HP.out.mono ?_; rintro e w2 ⟨v2, rfl, ha2⟩; obtain ⟨v3, w3, hr3, ha3⟩ := aq w2 base v2 _ 0 ha2.1 (by simp; omega) (Nat.le_trans hb1 ha2.2.1.size); have HR3 := J hr3; have HA2 := J ha2; have HA3 := J ha3; clear ha2 ha3 hr3) | (at_builtin; refine ag rfl (.tmp 42) (.tmp 43) 49 rfl _ _ _ w3 rfl rfl HR3.out ?_))
 go_ret
 have h := HA2.out.trans HA3.out
 have e : l ++ [UInt8.ofNat op] ++ E ++ [0] = l ++ (UInt8.ofNat op :: T) := by rw [HT.out, HE.out]; simp
 rw [e] at h
 exact FIN.out _ _ _ h
theorem put_6 (base : Nat) (v : Value) (l : List UInt8) (S : Nat → Prop) (A : Option Addr) (c op a b : Nat) (n : Int) (xl : List Nat) (w : World) (hown : w.ownsRow base 5 1 v l.length (bytesOf l)) (hb : base ≤ w.heap.size) (hV : HasU w S A xl) (hS : ∀ g, S g → v.ownBlock ≠ some g)
  (hwf : (⟨op, a, b, n, xl⟩ : I).wf) (T : List UInt8) (HT : Hid (T = (Leb.encU a ++ Leb.encU b))) (hxl : xl.length < 4294967296) (hsz : l.length + 10 * (xl.length + 5) ≤ 100000000000000) (hf : Opc.form op = 6) :
  Calls Tryz.prog 69 #[v, .agg #[.int .u8 (op : Int), .int .u32 (a : Int), .int .u32 (b : Int), .int .i64 n, .slice A xl.length c]] w (av base v (l ++ (UInt8.ofNat op :: T)) w) := by
 obtain ⟨hop, ha, hbb, hn0, hn1, hxw⟩ := hwf
 simp only at hop ha hbb hn0 hn1 hxw
 have HFM := J (aN (op : Int))
 rw [hf] at HFM
 have HOL := J (own_lt hown)
 have HOG := J (aV hown)
 have HV := J hV
 have HS := J hS
 have HXW := J hxw
 have HO0 : Hid ((w.alloc (.cells #[.int .u8 (op : Int), .int .u32 (a : Int), .int .u32 (b : Int), .int .i64 n, .slice A xl.length c] 57)).ownsRow base 5 1 v l.length (bytesOf l)) := J (hown.alloc _)
 have HX0 : Hid ((w.alloc (.cells #[.int .u8 (op : Int), .int .u32 (a : Int), .int .u32 (b : Int), .int .i64 n, .slice A xl.length c] 57)).heap[w.heap.size]? = some (.cells #[.int .u8 (op : Int), .int .u32 (a : Int), .int .u32 (b : Int), .int .i64 n, .slice A xl.length c] 57 (0, 0))) := J (heap_alloc_new w _)
 have HB0 : Hid (Below w.heap.size w (w.alloc (.cells #[.int .u8 (op : Int), .int .u32 (a : Int), .int .u32 (b : Int), .int .i64 n, .slice A xl.length c] 57))) := J ((Below.refl _ _).alloc (Nat.le_refl _) _)
 have hsz0 : w.heap.size < (w.alloc (.cells #[.int .u8 (op : Int), .int .u32 (a : Int), .int .u32 (b : Int), .int .i64 n, .slice A xl.length c] 57)).heap.size := by simp
 clear hf hown hV hS hxw
 obtain ⟨X, hX⟩ : ∃ X, X = w.heap.size := ⟨_, rfl⟩
 go_enter Tryz.func69, Tryz.ntmps69
 go_upto_region 1 with (fail)
 rw [← hX] at HX0 hsz0 ⊢
 have HXX := J hX
 clear hX
 generalize w.alloc (.cells #[.int .u8 (op : Int), .int .u32 (a : Int), .int .u32 (b : Int), .int .i64 n, .slice A xl.length c] 57) = w0 at HO0 HX0 HB0 hsz0 ⊢
 obtain ⟨x0, x1, x2, x3, x4⟩ := cells5 HX0.out
 obtain ⟨v1, w1, hr1, ha1⟩ := aq w0 base v l (UInt8.ofNat op) HO0.out (by omega) (Nat.le_trans hb HB0.out.size)
 rw [byteNat op hop] at hr1
 have HR1 := J hr1
 have HA1 := J ha1
 have HNX : Hid (v.ownBlock ≠ some X) := J (fun e => by have := HOL.out X e; have := HXX.out; omega)
 obtain ⟨y0, y1, y2, y3, y4⟩ := cells5 (ha1.2.1.heap HX0.out HNX.out)
 have HNX1 : Hid (v1.ownBlock ≠ some X) := J (fun e => by
  rcases ha1.2.2 X e with h | h
  ·exact HNX.out h
  ·omega)
 have hll : (l ++ [UInt8.ofNat op]).length = l.length + 1 := by simp
 have hs1 := ha1.2.1.size
 have hb1 : base ≤ w1.heap.size := by have := HB0.out.size; omega
 have FIN := J (fun (l2 : List UInt8) (w2 : World) (v2 : Value) (h : Adds base w1 v1 w2 v2 l2) => (⟨v2, rfl, Adds.behind HB0.out (ha1.trans h)⟩ : av base v l2 w (.returned v2) w2))
 clear hr1 ha1
 have HQ1 := J (fun W V (L : List UInt8) (hO : W.ownsRow base 5 1 V L.length (bytesOf L)) (hB : base ≤ W.heap.size) (hL : L.length ≤ 100000000000000) => az base V L a W hO hB ha hL)
 have HQ2 := J (fun W V (L : List UInt8) (hO : W.ownsRow base 5 1 V L.length (bytesOf L)) (hB : base ≤ W.heap.size) (hL : L.length ≤ 100000000000000) => az base V L b W hO hB hbb hL)
 have hle := Leb.encU_le10 a (by omega)
 have HK := J (fun W (T : Nat → Prop) (hm : Mod T w1 W) (hT : ¬ T X) => held_x hm hT y1 y2 y4)
 generalize hE1 : Leb.encU a = E1 at HQ1 hle
 generalize hE2 : Leb.encU b = E2 at HQ2
 have HE := J (And.intro hE1 hE2)
 clear hE1 hE2
 have tok1 : True := trivial
 go_wp2_with (first | (at_builtin; refine ag rfl (.tmp 5) (.tmp 8) 49 rfl _ _ _ w1 rfl rfl HR1.out ?_) | (go_at_call 97; refine (HFM.out _).mono ?_; rintro e wf ⟨rfl, rfl⟩))
 go_region_held3 (fun w' => w'.cell? ⟨X, 1, none⟩ = some (.int .u32 (a : Int)) ∧ w'.cell? ⟨X, 2, none⟩ = some (.int .u32 (b : Int)) ∧ w'.cell? ⟨X, 4, none⟩ = some (.slice A xl.length c)) (first | exact HK.out _ (fun _ => False) ((Mod.refl _ w1).drew) (fun h => h) | exact HKB.out | exact HKA.out)
  (first | ((go_at_call 101; clear tok1; refine (HQ1.out w1.drew _ _ HA1.out.1 hb1 (by omega)).mono ?_; rintro e w2 ⟨v2, rfl, ha2⟩; have HKA := J (HK.out w2 _ (((Mod.refl _ w1).drew).trans ha2.2.1 (fun g _ h => h)) HNX1.out); have HA2 := J (Adds.behind (Below.drew (Below.refl _ _)) ha2); clear ha2)) | ((go_at_call 101; refine (HQ2.out _ _ _ HA2.out.1 (Nat.le_trans hb1 HA2.out.2.1.size) (by simp; omega)).mono ?_; rintro e w3 ⟨v3, rfl, ha3⟩; have HKB := J (HK.out w3 _ (HA2.out.trans ha3).2.1 HNX1.out); have HA3 := J ha3; clear ha3)))
 go_wp2_with fail
 go_ret
 have h := HA2.out.trans HA3.out
 have e : l ++ [UInt8.ofNat op] ++ E1 ++ E2 = l ++ (UInt8.ofNat op :: T) := by rw [HT.out, HE.out.1, HE.out.2]; simp
 rw [e] at h
 exact FIN.out _ _ _ h
theorem put_7 (base : Nat) (v : Value) (l : List UInt8) (S : Nat → Prop) (A : Option Addr) (c op a b : Nat) (n : Int) (xl : List Nat) (w : World) (hown : w.ownsRow base 5 1 v l.length (bytesOf l)) (hb : base ≤ w.heap.size) (hV : HasU w S A xl) (hS : ∀ g, S g → v.ownBlock ≠ some g)
  (hwf : (⟨op, a, b, n, xl⟩ : I).wf) (T : List UInt8) (HT : Hid (T = [0])) (hxl : xl.length < 4294967296) (hsz : l.length + 10 * (xl.length + 5) ≤ 100000000000000) (hf : Opc.form op = 7) :
  Calls Tryz.prog 69 #[v, .agg #[.int .u8 (op : Int), .int .u32 (a : Int), .int .u32 (b : Int), .int .i64 n, .slice A xl.length c]] w (av base v (l ++ (UInt8.ofNat op :: T)) w) := by
 obtain ⟨hop, ha, hbb, hn0, hn1, hxw⟩ := hwf
 simp only at hop ha hbb hn0 hn1 hxw
 have HFM := J (aN (op : Int))
 rw [hf] at HFM
 have HOL := J (own_lt hown)
 have HOG := J (aV hown)
 have HV := J hV
 have HS := J hS
 have HXW := J hxw
 have HO0 : Hid ((w.alloc (.cells #[.int .u8 (op : Int), .int .u32 (a : Int), .int .u32 (b : Int), .int .i64 n, .slice A xl.length c] 57)).ownsRow base 5 1 v l.length (bytesOf l)) := J (hown.alloc _)
 have HX0 : Hid ((w.alloc (.cells #[.int .u8 (op : Int), .int .u32 (a : Int), .int .u32 (b : Int), .int .i64 n, .slice A xl.length c] 57)).heap[w.heap.size]? = some (.cells #[.int .u8 (op : Int), .int .u32 (a : Int), .int .u32 (b : Int), .int .i64 n, .slice A xl.length c] 57 (0, 0))) := J (heap_alloc_new w _)
 have HB0 : Hid (Below w.heap.size w (w.alloc (.cells #[.int .u8 (op : Int), .int .u32 (a : Int), .int .u32 (b : Int), .int .i64 n, .slice A xl.length c] 57))) := J ((Below.refl _ _).alloc (Nat.le_refl _) _)
 have hsz0 : w.heap.size < (w.alloc (.cells #[.int .u8 (op : Int), .int .u32 (a : Int), .int .u32 (b : Int), .int .i64 n, .slice A xl.length c] 57)).heap.size := by simp
 clear hf hown hV hS hxw
 obtain ⟨X, hX⟩ : ∃ X, X = w.heap.size := ⟨_, rfl⟩
 go_enter Tryz.func69, Tryz.ntmps69
 go_upto_region 1 with (fail)
 rw [← hX] at HX0 hsz0 ⊢
 have HXX := J hX
 clear hX
 generalize w.alloc (.cells #[.int .u8 (op : Int), .int .u32 (a : Int), .int .u32 (b : Int), .int .i64 n, .slice A xl.length c] 57) = w0 at HO0 HX0 HB0 hsz0 ⊢
 obtain ⟨x0, x1, x2, x3, x4⟩ := cells5 HX0.out
 obtain ⟨v1, w1, hr1, ha1⟩ := aq w0 base v l (UInt8.ofNat op) HO0.out (by omega) (Nat.le_trans hb HB0.out.size)
 rw [byteNat op hop] at hr1
 have HR1 := J hr1
 have HA1 := J ha1
 have HNX : Hid (v.ownBlock ≠ some X) := J (fun e => by have := HOL.out X e; have := HXX.out; omega)
 obtain ⟨y0, y1, y2, y3, y4⟩ := cells5 (ha1.2.1.heap HX0.out HNX.out)
 have HNX1 : Hid (v1.ownBlock ≠ some X) := J (fun e => by
  rcases ha1.2.2 X e with h | h
  ·exact HNX.out h
  ·omega)
 have hll : (l ++ [UInt8.ofNat op]).length = l.length + 1 := by simp
 have hs1 := ha1.2.1.size
 have hb1 : base ≤ w1.heap.size := by have := HB0.out.size; omega
 have FIN := J (fun (l2 : List UInt8) (w2 : World) (v2 : Value) (h : Adds base w1 v1 w2 v2 l2) => (⟨v2, rfl, Adds.behind HB0.out (ha1.trans h)⟩ : av base v l2 w (.returned v2) w2))
 clear hr1 ha1
 obtain ⟨v2, w2, hr2, ha2⟩ := aq w1 base v1 (l ++ [UInt8.ofNat op]) 0 HA1.out.1 (by omega) hb1
 have HR2 := J hr2
 have HA2 := J ha2
 clear hr2 ha2
 go_wp2_with (first | (at_builtin; refine ag rfl (.tmp 5) (.tmp 8) 49 rfl _ _ _ w1 rfl rfl HR1.out ?_) | (go_at_call 97; refine (HFM.out _).mono ?_; rintro e wf ⟨rfl, rfl⟩) | (at_builtin; refine ag rfl (.tmp 56) (.tmp 57) 49 rfl _ _ _ w2 rfl rfl HR2.out ?_))
 go_ret
 have h := HA2.out
 have e : l ++ [UInt8.ofNat op] ++ [0] = l ++ (UInt8.ofNat op :: T) := by rw [HT.out]; simp
 rw [e] at h
 exact FIN.out _ _ _ h
theorem put_8 (base : Nat) (v : Value) (l : List UInt8) (S : Nat → Prop) (A : Option Addr) (c op a b : Nat) (n : Int) (xl : List Nat) (w : World) (hown : w.ownsRow base 5 1 v l.length (bytesOf l)) (hb : base ≤ w.heap.size) (hV : HasU w S A xl) (hS : ∀ g, S g → v.ownBlock ≠ some g)
  (hwf : (⟨op, a, b, n, xl⟩ : I).wf) (T : List UInt8) (HT : Hid (T = Leb.encS n)) (hxl : xl.length < 4294967296) (hsz : l.length + 10 * (xl.length + 5) ≤ 100000000000000) (hf : Opc.form op = 8) :
  Calls Tryz.prog 69 #[v, .agg #[.int .u8 (op : Int), .int .u32 (a : Int), .int .u32 (b : Int), .int .i64 n, .slice A xl.length c]] w (av base v (l ++ (UInt8.ofNat op :: T)) w) := by
 obtain ⟨hop, ha, hbb, hn0, hn1, hxw⟩ := hwf
 simp only at hop ha hbb hn0 hn1 hxw
 have HFM := J (aN (op : Int))
 rw [hf] at HFM
 have HOL := J (own_lt hown)
 have HOG := J (aV hown)
 have HV := J hV
 have HS := J hS
 have HXW := J hxw
 have HO0 : Hid ((w.alloc (.cells #[.int .u8 (op : Int), .int .u32 (a : Int), .int .u32 (b : Int), .int .i64 n, .slice A xl.length c] 57)).ownsRow base 5 1 v l.length (bytesOf l)) := J (hown.alloc _)
 have HX0 : Hid ((w.alloc (.cells #[.int .u8 (op : Int), .int .u32 (a : Int), .int .u32 (b : Int), .int .i64 n, .slice A xl.length c] 57)).heap[w.heap.size]? = some (.cells #[.int .u8 (op : Int), .int .u32 (a : Int), .int .u32 (b : Int), .int .i64 n, .slice A xl.length c] 57 (0, 0))) := J (heap_alloc_new w _)
 have HB0 : Hid (Below w.heap.size w (w.alloc (.cells #[.int .u8 (op : Int), .int .u32 (a : Int), .int .u32 (b : Int), .int .i64 n, .slice A xl.length c] 57))) := J ((Below.refl _ _).alloc (Nat.le_refl _) _)
 have hsz0 : w.heap.size < (w.alloc (.cells #[.int .u8 (op : Int), .int .u32 (a : Int), .int .u32 (b : Int), .int .i64 n, .slice A xl.length c] 57)).heap.size := by simp
 clear hf hown hV hS hxw
 obtain ⟨X, hX⟩ : ∃ X, X = w.heap.size := ⟨_, rfl⟩
 go_enter Tryz.func69, Tryz.ntmps69
 go_upto_region 1 with (fail)
 rw [← hX] at HX0 hsz0 ⊢
 have HXX := J hX
 clear hX
 generalize w.alloc (.cells #[.int .u8 (op : Int), .int .u32 (a : Int), .int .u32 (b : Int), .int .i64 n, .slice A xl.length c] 57) = w0 at HO0 HX0 HB0 hsz0 ⊢
 obtain ⟨x0, x1, x2, x3, x4⟩ := cells5 HX0.out
 obtain ⟨v1, w1, hr1, ha1⟩ := aq w0 base v l (UInt8.ofNat op) HO0.out (by omega) (Nat.le_trans hb HB0.out.size)
 rw [byteNat op hop] at hr1
 have HR1 := J hr1
 have HA1 := J ha1
 have HNX : Hid (v.ownBlock ≠ some X) := J (fun e => by have := HOL.out X e; have := HXX.out; omega)
 obtain ⟨y0, y1, y2, y3, y4⟩ := cells5 (ha1.2.1.heap HX0.out HNX.out)
 have HNX1 : Hid (v1.ownBlock ≠ some X) := J (fun e => by
  rcases ha1.2.2 X e with h | h
  ·exact HNX.out h
  ·omega)
 have hll : (l ++ [UInt8.ofNat op]).length = l.length + 1 := by simp
 have hs1 := ha1.2.1.size
 have hb1 : base ≤ w1.heap.size := by have := HB0.out.size; omega
 have FIN := J (fun (l2 : List UInt8) (w2 : World) (v2 : Value) (h : Adds base w1 v1 w2 v2 l2) => (⟨v2, rfl, Adds.behind HB0.out (ha1.trans h)⟩ : av base v l2 w (.returned v2) w2))
 clear hr1 ha1
 have HC := J (c12 none [] 0 0 n w1 rfl (by omega) (Has.nil _ _ _) ⟨hn0, hn1⟩)
 have hle := Leb.encS_le10 n hn0 hn1
 generalize hE : Leb.encS n = E at HC hle
 have HE := J hE
 clear hE
 go_wp2_with (first | (at_builtin; refine ag rfl (.tmp 5) (.tmp 8) 49 rfl _ _ _ w1 rfl rfl HR1.out ?_) | (go_at_call 97; refine (HFM.out _).mono ?_; rintro e wf ⟨rfl, rfl⟩))
 refine HC.out.mono ?_
 rintro e w2 ⟨v2, rfl, ho2, hb2⟩
 rw [List.nil_append, Nat.zero_add] at ho2
 obtain ⟨A2, c2, rfl, _, hn2, hh2⟩ := Has.own ho2
 obtain ⟨v3, w3, hr3, ha3⟩ := aZ w2 base E.length c2 v1 (l ++ [UInt8.ofNat op]) E A2 ((Mod.of_below (T := fun _ => False) hb2).own HA1.out.1 (fun _ _ h => h)) hh2 hn2 (by omega) (Nat.le_trans hb1 hb2.size)
 have HR3 := J hr3
 have HA3 := J (Adds.behind hb2 ha3)
 clear ho2 hh2 hr3 ha3 hb2 hn2 HC
 go_wp2_with (at_builtin; refine ag rfl (.tmp 62) (.tmp 65) 49 rfl _ _ _ w3 rfl rfl HR3.out ?_)
 go_ret
 have h := HA3.out
 have e : l ++ [UInt8.ofNat op] ++ E = l ++ (UInt8.ofNat op :: T) := by rw [HT.out, HE.out]; simp
 rw [e] at h
 exact FIN.out _ _ _ h
theorem put_9 (base : Nat) (v : Value) (l : List UInt8) (S : Nat → Prop) (A : Option Addr) (c op a b : Nat) (n : Int) (xl : List Nat) (w : World) (hown : w.ownsRow base 5 1 v l.length (bytesOf l)) (hb : base ≤ w.heap.size) (hV : HasU w S A xl) (hS : ∀ g, S g → v.ownBlock ≠ some g)
  (hwf : (⟨op, a, b, n, xl⟩ : I).wf) (T : List UInt8) (HT : Hid (T = Leb.encS n)) (hxl : xl.length < 4294967296) (hsz : l.length + 10 * (xl.length + 5) ≤ 100000000000000) (hf : Opc.form op = 9) :
  Calls Tryz.prog 69 #[v, .agg #[.int .u8 (op : Int), .int .u32 (a : Int), .int .u32 (b : Int), .int .i64 n, .slice A xl.length c]] w (av base v (l ++ (UInt8.ofNat op :: T)) w) := by
 obtain ⟨hop, ha, hbb, hn0, hn1, hxw⟩ := hwf
 simp only at hop ha hbb hn0 hn1 hxw
 have HFM := J (aN (op : Int))
 rw [hf] at HFM
 have HOL := J (own_lt hown)
 have HOG := J (aV hown)
 have HV := J hV
 have HS := J hS
 have HXW := J hxw
 have HO0 : Hid ((w.alloc (.cells #[.int .u8 (op : Int), .int .u32 (a : Int), .int .u32 (b : Int), .int .i64 n, .slice A xl.length c] 57)).ownsRow base 5 1 v l.length (bytesOf l)) := J (hown.alloc _)
 have HX0 : Hid ((w.alloc (.cells #[.int .u8 (op : Int), .int .u32 (a : Int), .int .u32 (b : Int), .int .i64 n, .slice A xl.length c] 57)).heap[w.heap.size]? = some (.cells #[.int .u8 (op : Int), .int .u32 (a : Int), .int .u32 (b : Int), .int .i64 n, .slice A xl.length c] 57 (0, 0))) := J (heap_alloc_new w _)
 have HB0 : Hid (Below w.heap.size w (w.alloc (.cells #[.int .u8 (op : Int), .int .u32 (a : Int), .int .u32 (b : Int), .int .i64 n, .slice A xl.length c] 57))) := J ((Below.refl _ _).alloc (Nat.le_refl _) _)
 have hsz0 : w.heap.size < (w.alloc (.cells #[.int .u8 (op : Int), .int .u32 (a : Int), .int .u32 (b : Int), .int .i64 n, .slice A xl.length c] 57)).heap.size := by simp
 clear hf hown hV hS hxw
 obtain ⟨X, hX⟩ : ∃ X, X = w.heap.size := ⟨_, rfl⟩
 go_enter Tryz.func69, Tryz.ntmps69
 go_upto_region 1 with (fail)
 rw [← hX] at HX0 hsz0 ⊢
 have HXX := J hX
 clear hX
 generalize w.alloc (.cells #[.int .u8 (op : Int), .int .u32 (a : Int), .int .u32 (b : Int), .int .i64 n, .slice A xl.length c] 57) = w0 at HO0 HX0 HB0 hsz0 ⊢
 obtain ⟨x0, x1, x2, x3, x4⟩ := cells5 HX0.out
 obtain ⟨v1, w1, hr1, ha1⟩ := aq w0 base v l (UInt8.ofNat op) HO0.out (by omega) (Nat.le_trans hb HB0.out.size)
 rw [byteNat op hop] at hr1
 have HR1 := J hr1
 have HA1 := J ha1
 have HNX : Hid (v.ownBlock ≠ some X) := J (fun e => by have := HOL.out X e; have := HXX.out; omega)
 obtain ⟨y0, y1, y2, y3, y4⟩ := cells5 (ha1.2.1.heap HX0.out HNX.out)
 have HNX1 : Hid (v1.ownBlock ≠ some X) := J (fun e => by
  rcases ha1.2.2 X e with h | h
  ·exact HNX.out h
  ·omega)
 have hll : (l ++ [UInt8.ofNat op]).length = l.length + 1 := by simp
 have hs1 := ha1.2.1.size
 have hb1 : base ≤ w1.heap.size := by have := HB0.out.size; omega
 have FIN := J (fun (l2 : List UInt8) (w2 : World) (v2 : Value) (h : Adds base w1 v1 w2 v2 l2) => (⟨v2, rfl, Adds.behind HB0.out (ha1.trans h)⟩ : av base v l2 w (.returned v2) w2))
 clear hr1 ha1
 have HC := J (c12 none [] 0 0 n w1 rfl (by omega) (Has.nil _ _ _) ⟨hn0, hn1⟩)
 have hle := Leb.encS_le10 n hn0 hn1
 generalize hE : Leb.encS n = E at HC hle
 have HE := J hE
 clear hE
 go_wp2_with (first | (at_builtin; refine ag rfl (.tmp 5) (.tmp 8) 49 rfl _ _ _ w1 rfl rfl HR1.out ?_) | (go_at_call 97; refine (HFM.out _).mono ?_; rintro e wf ⟨rfl, rfl⟩))
 refine HC.out.mono ?_
 rintro e w2 ⟨v2, rfl, ho2, hb2⟩
 rw [List.nil_append, Nat.zero_add] at ho2
 obtain ⟨A2, c2, rfl, _, hn2, hh2⟩ := Has.own ho2
 obtain ⟨v3, w3, hr3, ha3⟩ := aZ w2 base E.length c2 v1 (l ++ [UInt8.ofNat op]) E A2 ((Mod.of_below (T := fun _ => False) hb2).own HA1.out.1 (fun _ _ h => h)) hh2 hn2 (by omega) (Nat.le_trans hb1 hb2.size)
 have HR3 := J hr3
 have HA3 := J (Adds.behind hb2 ha3)
 clear ho2 hh2 hr3 ha3 hb2 hn2 HC
 go_wp2_with (at_builtin; refine ag rfl (.tmp 62) (.tmp 65) 49 rfl _ _ _ w3 rfl rfl HR3.out ?_)
 go_ret
 have h := HA3.out
 have e : l ++ [UInt8.ofNat op] ++ E = l ++ (UInt8.ofNat op :: T) := by rw [HT.out, HE.out]; simp
 rw [e] at h
 exact FIN.out _ _ _ h
theorem put_any (base : Nat) (v : Value) (l : List UInt8) (S : Nat → Prop) (u : Value) (x : I) (w : World) (hown : w.ownsRow base 5 1 v l.length (bytesOf l)) (hb : base ≤ w.heap.size) (hV : InsV w S u x) (hS : ∀ g, S g → v.ownBlock ≠ some g)
  (hm : may x = true) (hxl : x.l.length < 4294967296) (hsz : l.length + 10 * (x.l.length + 5) ≤ 100000000000000) :
  Calls Tryz.prog 69 #[v, u] w (av base v (l ++ enc x) w) := by
 obtain ⟨A, c, rfl, hwf, hc1, hc2, hU⟩ := hV
 obtain ⟨op, a, b, n, xl⟩ := x
 simp only [may, Bool.and_eq_true] at hm
 have hmF := hm.2
 have e : enc ⟨op, a, b, n, xl⟩ = UInt8.ofNat op :: tailF (Opc.form op) ⟨op, a, b, n, xl⟩ := rfl
 rw [e]
 rcases dw op with hf | hf | hf | hf | hf | hf | hf | hf | hf | hf
 all_goals rw [hf] at hmF ⊢
 ·exact put_0 base v l S A c op a b n xl w hown hb hU hS hwf _ (J rfl) hxl hsz hf
 ·have hab : a < 256 := by
   simp [mayF, hasA] at hmF
   exact (blockB_lt hmF.2).1
  exact put_1 base v l S A c op a b n xl w hown hb hU hS hwf _ (J rfl) hab hxl hsz hf
 ·exact put_2 base v l S A c op a b n xl w hown hb hU hS hwf _ (J rfl) hxl hsz hf
 ·exact put_3 base v l S A c op a b n xl w hown hb hU hS hwf _ (J rfl) hxl hsz hf
 ·exact put_4 base v l S A c op a b n xl w hown hb hU hS hwf _ (J rfl) hxl hsz hf
 ·exact put_5 base v l S A c op a b n xl w hown hb hU hS hwf _ (J rfl) hxl hsz hf
 ·exact put_6 base v l S A c op a b n xl w hown hb hU hS hwf _ (J rfl) hxl hsz hf
 ·exact put_7 base v l S A c op a b n xl w hown hb hU hS hwf _ (J rfl) hxl hsz hf
 ·exact put_8 base v l S A c op a b n xl w hown hb hU hS hwf _ (J rfl) hxl hsz hf
 ·exact put_9 base v l S A c op a b n xl w hown hb hU hS hwf _ (J rfl) hxl hsz hf
end Go.Proofs.YtelcdmkbaegjoaaGreat
