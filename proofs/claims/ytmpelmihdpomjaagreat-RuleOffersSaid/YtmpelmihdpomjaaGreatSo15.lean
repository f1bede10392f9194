/-
  put: an instruction's bytes, laid behind bytes in a row of the call's own.
-/
import Derived.Test.YtmpelmihdpomjaaGreatSo01
import Derived.Test.YtmpelmihdpomjaaGreatSo14
import Derived.Deep.Cut
import Derived.Deep.RegionHeld3
import Derived.Test.YtmpelmihdpomjaaGreatSo02
import Derived.Test.YtmpelmihdpomjaaGreatSo12
set_option maxRecDepth 100000
set_option maxHeartbeats 4000000
namespace Go.Proofs.YtmpelmihdpomjaaGreat
open Go.RowKit Ins
theorem held_x {w w':World} {T:Nat → Prop} {X:Nat} {x1 x2 x4:Value} (hm:Mod T w w') (hT:¬ T X) (h1:w.cell? ⟨X,1,none⟩ = some x1) (h2:w.cell? ⟨X,2,none⟩ = some x2) (h4:w.cell? ⟨X,4,none⟩ = some x4):w'.cell? ⟨X,1,none⟩ = some x1 ∧ w'.cell? ⟨X,2,none⟩ = some x2 ∧ w'.cell? ⟨X,4,none⟩ = some x4 :=
 ⟨hm.cell h1 hT,hm.cell h2 hT,hm.cell h4 hT⟩
theorem put_0 (base:Nat) (v:Value) (l:List UInt8) (S:Nat → Prop) (A:Option Addr) (c op a b:Nat) (n:Int) (xl:List Nat) (w:World) (hown:w.ownsRow base 5 1 v l.length (bytesOf l)) (hb:base ≤ w.heap.size) (hV:HasU w S A xl) (hS:∀ g,S g → v.ownBlock ≠ some g)
  (hwf:(⟨op,a,b,n,xl⟩:I).wf) (T:List UInt8) (HT:Hid (T = [])) (hxl:xl.length < 4294967296) (hsz:l.length + 10 * (xl.length + 5) ≤ 100000000000000) (hf:Opc.form op = 0) :
  Calls Tryz.prog 97 #[v,.agg #[.int .u8 ↑op,.int .u32 ↑a,.int .u32 ↑b,.int .i64 n,.slice A xl.length c]] w (aw base v (l ++ (UInt8.ofNat op :: T)) w):=by
 obtain ⟨hop,ha,hbb,hn0,hn1,hxw⟩:=hwf
 simp only at hop ha hbb hn0 hn1 hxw
 have HFM:=J (aT (op:Int))
 rw [hf] at HFM
 have HOL:=J (own_lt hown)
 have HOG:=J (aZ hown)
 have HV:=J hV
 have HS:=J hS
 have HXW:=J hxw
 have HO0:Hid ((w.alloc (.cells #[.int .u8 ↑op,.int .u32 ↑a,.int .u32 ↑b,.int .i64 n,.slice A xl.length c] 56)).ownsRow base 5 1 v l.length (bytesOf l)):=J (hown.alloc _)
 have HX0:Hid ((w.alloc (.cells #[.int .u8 ↑op,.int .u32 ↑a,.int .u32 ↑b,.int .i64 n,.slice A xl.length c] 56)).heap[w.heap.size]? = some (.cells #[.int .u8 ↑op,.int .u32 ↑a,.int .u32 ↑b,.int .i64 n,.slice A xl.length c] 56 (0,0))):=J (heap_alloc_new w _)
 have HB0:Hid (Below w.heap.size w (w.alloc (.cells #[.int .u8 ↑op,.int .u32 ↑a,.int .u32 ↑b,.int .i64 n,.slice A xl.length c] 56))):=J bA
 have hsz0:w.heap.size < (w.alloc (.cells #[.int .u8 ↑op,.int .u32 ↑a,.int .u32 ↑b,.int .i64 n,.slice A xl.length c] 56)).heap.size:=by simp
 clear hf hown hV hS hxw
 obtain ⟨X,hX⟩:∃ X,X = w.heap.size:=⟨_,rfl⟩
 go_enter Tryz.func97,Tryz.ntmps97
 go_upto_region 1 with (fail)
 rw [← hX] at HX0 hsz0 ⊢
 have HXX:=J hX
 clear hX
 generalize w.alloc (.cells #[.int .u8 ↑op,.int .u32 ↑a,.int .u32 ↑b,.int .i64 n,.slice A xl.length c] 56) = w0 at HO0 HX0 HB0 hsz0 ⊢
 obtain ⟨x0,x1,x2,x3,x4⟩:=cells5 HX0.out
 obtain ⟨v1,w1,hr1,ha1⟩:=ar w0 base v l (UInt8.ofNat op) HO0.out (by omega) (Nat.le_trans hb HB0.out.size)
 rw [byteNat op hop] at hr1
 have HR1:=J hr1
 have HA1:=J ha1
 have HNX:Hid (v.ownBlock ≠ some X):=J (fun e=>by have:=HOL.out X e;have:=HXX.out;omega)
 obtain ⟨y0,y1,y2,y3,y4⟩:=cells5 (ha1.2.1.heap HX0.out HNX.out)
 have HNX1:Hid (v1.ownBlock ≠ some X):=J (fun e=>by
  rcases ha1.2.2 X e with h | h
  ·exact HNX.out h
  ·omega)
 have hll:(l ++ [UInt8.ofNat op]).length = l.length + 1:=by simp
 have hs1:=ha1.2.1.size
 have hb1:base ≤ w1.heap.size:=by have:=HB0.out.size;omega
 have FIN:=J (fun (l2:List UInt8) (w2:World) (v2:Value) (h:Adds base w1 v1 w2 v2 l2)=>(⟨v2,rfl,Adds.behind HB0.out (ha1.trans h)⟩:aw base v l2 w (.returned v2) w2))
 clear hr1 ha1
 go_wp2_with (first | (at_builtin;refine ag rfl (.tmp 5) (.tmp 8) 27 rfl _ _ _ w1 rfl rfl HR1.out ?_) | (go_at_call 123;refine (HFM.out _).mono ?_;rintro e wf ⟨rfl,rfl⟩))
 go_ret
 have e:l ++ [UInt8.ofNat op] = l ++ (UInt8.ofNat op :: T):=by rw [HT.out]
 exact FIN.out _ _ _ (e ▸ ⟨HA1.out.1,Mod.refl _ _,fun g h=>.inl h⟩)
theorem put_1 (base:Nat) (v:Value) (l:List UInt8) (S:Nat → Prop) (A:Option Addr) (c op a b:Nat) (n:Int) (xl:List Nat) (w:World) (hown:w.ownsRow base 5 1 v l.length (bytesOf l)) (hb:base ≤ w.heap.size) (hV:HasU w S A xl) (hS:∀ g,S g → v.ownBlock ≠ some g)
  (hwf:(⟨op,a,b,n,xl⟩:I).wf) (T:List UInt8) (HT:Hid (T = [UInt8.ofNat a])) (hab:a < 256) (hxl:xl.length < 4294967296) (hsz:l.length + 10 * (xl.length + 5) ≤ 100000000000000) (hf:Opc.form op = 1) :
  Calls Tryz.prog 97 #[v,.agg #[.int .u8 ↑op,.int .u32 ↑a,.int .u32 ↑b,.int .i64 n,.slice A xl.length c]] w (aw base v (l ++ (UInt8.ofNat op :: T)) w):=by
 obtain ⟨hop,ha,hbb,hn0,hn1,hxw⟩:=hwf
 simp only at hop ha hbb hn0 hn1 hxw
 have HFM:=J (aT (op:Int))
 rw [hf] at HFM
 have HOL:=J (own_lt hown)
 have HOG:=J (aZ hown)
 have HV:=J hV
 have HS:=J hS
 have HXW:=J hxw
 have HO0:Hid ((w.alloc (.cells #[.int .u8 ↑op,.int .u32 ↑a,.int .u32 ↑b,.int .i64 n,.slice A xl.length c] 56)).ownsRow base 5 1 v l.length (bytesOf l)):=J (hown.alloc _)
 have HX0:Hid ((w.alloc (.cells #[.int .u8 ↑op,.int .u32 ↑a,.int .u32 ↑b,.int .i64 n,.slice A xl.length c] 56)).heap[w.heap.size]? = some (.cells #[.int .u8 ↑op,.int .u32 ↑a,.int .u32 ↑b,.int .i64 n,.slice A xl.length c] 56 (0,0))):=J (heap_alloc_new w _)
 have HB0:Hid (Below w.heap.size w (w.alloc (.cells #[.int .u8 ↑op,.int .u32 ↑a,.int .u32 ↑b,.int .i64 n,.slice A xl.length c] 56))):=J bA
 have hsz0:w.heap.size < (w.alloc (.cells #[.int .u8 ↑op,.int .u32 ↑a,.int .u32 ↑b,.int .i64 n,.slice A xl.length c] 56)).heap.size:=by simp
 clear hf hown hV hS hxw
 obtain ⟨X,hX⟩:∃ X,X = w.heap.size:=⟨_,rfl⟩
 go_enter Tryz.func97,Tryz.ntmps97
 go_upto_region 1 with (fail)
 rw [← hX] at HX0 hsz0 ⊢
 have HXX:=J hX
 clear hX
 generalize w.alloc (.cells #[.int .u8 ↑op,.int .u32 ↑a,.int .u32 ↑b,.int .i64 n,.slice A xl.length c] 56) = w0 at HO0 HX0 HB0 hsz0 ⊢
 obtain ⟨x0,x1,x2,x3,x4⟩:=cells5 HX0.out
 obtain ⟨v1,w1,hr1,ha1⟩:=ar w0 base v l (UInt8.ofNat op) HO0.out (by omega) (Nat.le_trans hb HB0.out.size)
 rw [byteNat op hop] at hr1
 have HR1:=J hr1
 have HA1:=J ha1
 have HNX:Hid (v.ownBlock ≠ some X):=J (fun e=>by have:=HOL.out X e;have:=HXX.out;omega)
 obtain ⟨y0,y1,y2,y3,y4⟩:=cells5 (ha1.2.1.heap HX0.out HNX.out)
 have HNX1:Hid (v1.ownBlock ≠ some X):=J (fun e=>by
  rcases ha1.2.2 X e with h | h
  ·exact HNX.out h
  ·omega)
 have hll:(l ++ [UInt8.ofNat op]).length = l.length + 1:=by simp
 have hs1:=ha1.2.1.size
 have hb1:base ≤ w1.heap.size:=by have:=HB0.out.size;omega
 have FIN:=J (fun (l2:List UInt8) (w2:World) (v2:Value) (h:Adds base w1 v1 w2 v2 l2)=>(⟨v2,rfl,Adds.behind HB0.out (ha1.trans h)⟩:aw base v l2 w (.returned v2) w2))
 clear hr1 ha1
 obtain ⟨v2,w2,hr2,ha2⟩:=ar w1 base v1 (l ++ [UInt8.ofNat op]) (UInt8.ofNat a) HA1.out.1 (by omega) hb1
 rw [byteNat a hab] at hr2
 have HR2:=J hr2
 have HA2:=J ha2
 have hwa:IntKind.u8.wrap (a:Int) = (a:Int):=IntWalk.u8_in _ (by omega)
 clear hr2 ha2
 go_wp2_with (first | (at_builtin;refine ag rfl (.tmp 5) (.tmp 8) 27 rfl _ _ _ w1 rfl rfl HR1.out ?_) | (go_at_call 123;refine (HFM.out _).mono ?_;rintro e wf ⟨rfl,rfl⟩) | (at_builtin;refine ag rfl (.tmp 15) (.tmp 19) 27 rfl _ _ _ w2 rfl rfl HR2.out ?_))
 go_ret
 have h:=HA2.out
 have e:l ++ [UInt8.ofNat op] ++ [UInt8.ofNat a] = l ++ (UInt8.ofNat op :: T):=by rw [HT.out];simp
 rw [e] at h
 exact FIN.out _ _ _ h
theorem put_2 (base:Nat) (v:Value) (l:List UInt8) (S:Nat → Prop) (A:Option Addr) (c op a b:Nat) (n:Int) (xl:List Nat) (w:World) (hown:w.ownsRow base 5 1 v l.length (bytesOf l)) (hb:base ≤ w.heap.size) (hV:HasU w S A xl) (hS:∀ g,S g → v.ownBlock ≠ some g)
  (hwf:(⟨op,a,b,n,xl⟩:I).wf) (T:List UInt8) (HT:Hid (T = Leb.encU a)) (hxl:xl.length < 4294967296) (hsz:l.length + 10 * (xl.length + 5) ≤ 100000000000000) (hf:Opc.form op = 2) :
  Calls Tryz.prog 97 #[v,.agg #[.int .u8 ↑op,.int .u32 ↑a,.int .u32 ↑b,.int .i64 n,.slice A xl.length c]] w (aw base v (l ++ (UInt8.ofNat op :: T)) w):=by
 obtain ⟨hop,ha,hbb,hn0,hn1,hxw⟩:=hwf
 simp only at hop ha hbb hn0 hn1 hxw
 have HFM:=J (aT (op:Int))
 rw [hf] at HFM
 have HOL:=J (own_lt hown)
 have HOG:=J (aZ hown)
 have HV:=J hV
 have HS:=J hS
 have HXW:=J hxw
 have HO0:Hid ((w.alloc (.cells #[.int .u8 ↑op,.int .u32 ↑a,.int .u32 ↑b,.int .i64 n,.slice A xl.length c] 56)).ownsRow base 5 1 v l.length (bytesOf l)):=J (hown.alloc _)
 have HX0:Hid ((w.alloc (.cells #[.int .u8 ↑op,.int .u32 ↑a,.int .u32 ↑b,.int .i64 n,.slice A xl.length c] 56)).heap[w.heap.size]? = some (.cells #[.int .u8 ↑op,.int .u32 ↑a,.int .u32 ↑b,.int .i64 n,.slice A xl.length c] 56 (0,0))):=J (heap_alloc_new w _)
 have HB0:Hid (Below w.heap.size w (w.alloc (.cells #[.int .u8 ↑op,.int .u32 ↑a,.int .u32 ↑b,.int .i64 n,.slice A xl.length c] 56))):=J bA
 have hsz0:w.heap.size < (w.alloc (.cells #[.int .u8 ↑op,.int .u32 ↑a,.int .u32 ↑b,.int .i64 n,.slice A xl.length c] 56)).heap.size:=by simp
 clear hf hown hV hS hxw
 obtain ⟨X,hX⟩:∃ X,X = w.heap.size:=⟨_,rfl⟩
 go_enter Tryz.func97,Tryz.ntmps97
 go_upto_region 1 with (fail)
 rw [← hX] at HX0 hsz0 ⊢
 have HXX:=J hX
 clear hX
 generalize w.alloc (.cells #[.int .u8 ↑op,.int .u32 ↑a,.int .u32 ↑b,.int .i64 n,.slice A xl.length c] 56) = w0 at HO0 HX0 HB0 hsz0 ⊢
 obtain ⟨x0,x1,x2,x3,x4⟩:=cells5 HX0.out
 obtain ⟨v1,w1,hr1,ha1⟩:=ar w0 base v l (UInt8.ofNat op) HO0.out (by omega) (Nat.le_trans hb HB0.out.size)
 rw [byteNat op hop] at hr1
 have HR1:=J hr1
 have HA1:=J ha1
 have HNX:Hid (v.ownBlock ≠ some X):=J (fun e=>by have:=HOL.out X e;have:=HXX.out;omega)
 obtain ⟨y0,y1,y2,y3,y4⟩:=cells5 (ha1.2.1.heap HX0.out HNX.out)
 have HNX1:Hid (v1.ownBlock ≠ some X):=J (fun e=>by
  rcases ha1.2.2 X e with h | h
  ·exact HNX.out h
  ·omega)
 have hll:(l ++ [UInt8.ofNat op]).length = l.length + 1:=by simp
 have hs1:=ha1.2.1.size
 have hb1:base ≤ w1.heap.size:=by have:=HB0.out.size;omega
 have FIN:=J (fun (l2:List UInt8) (w2:World) (v2:Value) (h:Adds base w1 v1 w2 v2 l2)=>(⟨v2,rfl,Adds.behind HB0.out (ha1.trans h)⟩:aw base v l2 w (.returned v2) w2))
 clear hr1 ha1
 have HP:=J (aF base v1 (l ++ [UInt8.ofNat op]) a w1 HA1.out.1 hb1 ha (by omega))
 generalize hE:Leb.encU a = E at HP
 have HE:=J hE
 clear hE
 go_wp2_with (first | (at_builtin;refine ag rfl (.tmp 5) (.tmp 8) 27 rfl _ _ _ w1 rfl rfl HR1.out ?_) | (go_at_call 123;refine (HFM.out _).mono ?_;rintro e wf ⟨rfl,rfl⟩) | (go_at_call 127;refine HP.out.mono ?_;rintro e w2 ⟨v2,rfl,ha2⟩;have HA2:=J ha2;clear ha2))
 go_ret
 have h:=HA2.out
 have e:l ++ [UInt8.ofNat op] ++ E = l ++ (UInt8.ofNat op :: T):=by rw [HT.out,HE.out];simp
 rw [e] at h
 exact FIN.out _ _ _ h
theorem put_4 (base:Nat) (v:Value) (l:List UInt8) (S:Nat → Prop) (A:Option Addr) (c op a b:Nat) (n:Int) (xl:List Nat) (w:World) (hown:w.ownsRow base 5 1 v l.length (bytesOf l)) (hb:base ≤ w.heap.size) (hV:HasU w S A xl) (hS:∀ g,S g → v.ownBlock ≠ some g)
  (hwf:(⟨op,a,b,n,xl⟩:I).wf) (T:List UInt8) (HT:Hid (T = Leb.encU a)) (hxl:xl.length < 4294967296) (hsz:l.length + 10 * (xl.length + 5) ≤ 100000000000000) (hf:Opc.form op = 4) :
  Calls Tryz.prog 97 #[v,.agg #[.int .u8 ↑op,.int .u32 ↑a,.int .u32 ↑b,.int .i64 n,.slice A xl.length c]] w (aw base v (l ++ (UInt8.ofNat op :: T)) w):=by
 obtain ⟨hop,ha,hbb,hn0,hn1,hxw⟩:=hwf
 simp only at hop ha hbb hn0 hn1 hxw
 have HFM:=J (aT (op:Int))
 rw [hf] at HFM
 have HOL:=J (own_lt hown)
 have HOG:=J (aZ hown)
 have HV:=J hV
 have HS:=J hS
 have HXW:=J hxw
 have HO0:Hid ((w.alloc (.cells #[.int .u8 ↑op,.int .u32 ↑a,.int .u32 ↑b,.int .i64 n,.slice A xl.length c] 56)).ownsRow base 5 1 v l.length (bytesOf l)):=J (hown.alloc _)
 have HX0:Hid ((w.alloc (.cells #[.int .u8 ↑op,.int .u32 ↑a,.int .u32 ↑b,.int .i64 n,.slice A xl.length c] 56)).heap[w.heap.size]? = some (.cells #[.int .u8 ↑op,.int .u32 ↑a,.int .u32 ↑b,.int .i64 n,.slice A xl.length c] 56 (0,0))):=J (heap_alloc_new w _)
 have HB0:Hid (Below w.heap.size w (w.alloc (.cells #[.int .u8 ↑op,.int .u32 ↑a,.int .u32 ↑b,.int .i64 n,.slice A xl.length c] 56))):=J bA
 have hsz0:w.heap.size < (w.alloc (.cells #[.int .u8 ↑op,.int .u32 ↑a,.int .u32 ↑b,.int .i64 n,.slice A xl.length c] 56)).heap.size:=by simp
 clear hf hown hV hS hxw
 obtain ⟨X,hX⟩:∃ X,X = w.heap.size:=⟨_,rfl⟩
 go_enter Tryz.func97,Tryz.ntmps97
 go_upto_region 1 with (fail)
 rw [← hX] at HX0 hsz0 ⊢
 have HXX:=J hX
 clear hX
 generalize w.alloc (.cells #[.int .u8 ↑op,.int .u32 ↑a,.int .u32 ↑b,.int .i64 n,.slice A xl.length c] 56) = w0 at HO0 HX0 HB0 hsz0 ⊢
 obtain ⟨x0,x1,x2,x3,x4⟩:=cells5 HX0.out
 obtain ⟨v1,w1,hr1,ha1⟩:=ar w0 base v l (UInt8.ofNat op) HO0.out (by omega) (Nat.le_trans hb HB0.out.size)
 rw [byteNat op hop] at hr1
 have HR1:=J hr1
 have HA1:=J ha1
 have HNX:Hid (v.ownBlock ≠ some X):=J (fun e=>by have:=HOL.out X e;have:=HXX.out;omega)
 obtain ⟨y0,y1,y2,y3,y4⟩:=cells5 (ha1.2.1.heap HX0.out HNX.out)
 have HNX1:Hid (v1.ownBlock ≠ some X):=J (fun e=>by
  rcases ha1.2.2 X e with h | h
  ·exact HNX.out h
  ·omega)
 have hll:(l ++ [UInt8.ofNat op]).length = l.length + 1:=by simp
 have hs1:=ha1.2.1.size
 have hb1:base ≤ w1.heap.size:=by have:=HB0.out.size;omega
 have FIN:=J (fun (l2:List UInt8) (w2:World) (v2:Value) (h:Adds base w1 v1 w2 v2 l2)=>(⟨v2,rfl,Adds.behind HB0.out (ha1.trans h)⟩:aw base v l2 w (.returned v2) w2))
 clear hr1 ha1
 have HP:=J (aF base v1 (l ++ [UInt8.ofNat op]) a w1 HA1.out.1 hb1 ha (by omega))
 generalize hE:Leb.encU a = E at HP
 have HE:=J hE
 clear hE
 go_wp2_with (first | (at_builtin;refine ag rfl (.tmp 5) (.tmp 8) 27 rfl _ _ _ w1 rfl rfl HR1.out ?_) | (go_at_call 123;refine (HFM.out _).mono ?_;rintro e wf ⟨rfl,rfl⟩) | (go_at_call 127;refine HP.out.mono ?_;rintro e w2 ⟨v2,rfl,ha2⟩;have HA2:=J ha2;clear ha2))
 go_ret
 have h:=HA2.out
 have e:l ++ [UInt8.ofNat op] ++ E = l ++ (UInt8.ofNat op :: T):=by rw [HT.out,HE.out];simp
 rw [e] at h
 exact FIN.out _ _ _ h
theorem put_3 (base:Nat) (v:Value) (l:List UInt8) (S:Nat → Prop) (A:Option Addr) (c op a b:Nat) (n:Int) (xl:List Nat) (w:World) (hown:w.ownsRow base 5 1 v l.length (bytesOf l)) (hb:base ≤ w.heap.size) (hV:HasU w S A xl) (hS:∀ g,S g → v.ownBlock ≠ some g)
  (hwf:(⟨op,a,b,n,xl⟩:I).wf) (T:List UInt8) (HT:Hid (T = (Leb.encU xl.length ++ labs xl ++ Leb.encU a))) (hxl:xl.length < 4294967296) (hsz:l.length + 10 * (xl.length + 5) ≤ 100000000000000) (hf:Opc.form op = 3) :
  Calls Tryz.prog 97 #[v,.agg #[.int .u8 ↑op,.int .u32 ↑a,.int .u32 ↑b,.int .i64 n,.slice A xl.length c]] w (aw base v (l ++ (UInt8.ofNat op :: T)) w):=by
 obtain ⟨hop,ha,hbb,hn0,hn1,hxw⟩:=hwf
 simp only at hop ha hbb hn0 hn1 hxw
 have HFM:=J (aT (op:Int))
 rw [hf] at HFM
 have HOL:=J (own_lt hown)
 have HOG:=J (aZ hown)
 have HV:=J hV
 have HS:=J hS
 have HXW:=J hxw
 have HO0:Hid ((w.alloc (.cells #[.int .u8 ↑op,.int .u32 ↑a,.int .u32 ↑b,.int .i64 n,.slice A xl.length c] 56)).ownsRow base 5 1 v l.length (bytesOf l)):=J (hown.alloc _)
 have HX0:Hid ((w.alloc (.cells #[.int .u8 ↑op,.int .u32 ↑a,.int .u32 ↑b,.int .i64 n,.slice A xl.length c] 56)).heap[w.heap.size]? = some (.cells #[.int .u8 ↑op,.int .u32 ↑a,.int .u32 ↑b,.int .i64 n,.slice A xl.length c] 56 (0,0))):=J (heap_alloc_new w _)
 have HB0:Hid (Below w.heap.size w (w.alloc (.cells #[.int .u8 ↑op,.int .u32 ↑a,.int .u32 ↑b,.int .i64 n,.slice A xl.length c] 56))):=J bA
 have hsz0:w.heap.size < (w.alloc (.cells #[.int .u8 ↑op,.int .u32 ↑a,.int .u32 ↑b,.int .i64 n,.slice A xl.length c] 56)).heap.size:=by simp
 clear hf hown hV hS hxw
 obtain ⟨X,hX⟩:∃ X,X = w.heap.size:=⟨_,rfl⟩
 go_enter Tryz.func97,Tryz.ntmps97
 go_upto_region 1 with (fail)
 rw [← hX] at HX0 hsz0 ⊢
 have HXX:=J hX
 clear hX
 generalize w.alloc (.cells #[.int .u8 ↑op,.int .u32 ↑a,.int .u32 ↑b,.int .i64 n,.slice A xl.length c] 56) = w0 at HO0 HX0 HB0 hsz0 ⊢
 obtain ⟨x0,x1,x2,x3,x4⟩:=cells5 HX0.out
 obtain ⟨v1,w1,hr1,ha1⟩:=ar w0 base v l (UInt8.ofNat op) HO0.out (by omega) (Nat.le_trans hb HB0.out.size)
 rw [byteNat op hop] at hr1
 have HR1:=J hr1
 have HA1:=J ha1
 have HNX:Hid (v.ownBlock ≠ some X):=J (fun e=>by have:=HOL.out X e;have:=HXX.out;omega)
 obtain ⟨y0,y1,y2,y3,y4⟩:=cells5 (ha1.2.1.heap HX0.out HNX.out)
 have HNX1:Hid (v1.ownBlock ≠ some X):=J (fun e=>by
  rcases ha1.2.2 X e with h | h
  ·exact HNX.out h
  ·omega)
 have hll:(l ++ [UInt8.ofNat op]).length = l.length + 1:=by simp
 have hs1:=ha1.2.1.size
 have hb1:base ≤ w1.heap.size:=by have:=HB0.out.size;omega
 have FIN:=J (fun (l2:List UInt8) (w2:World) (v2:Value) (h:Adds base w1 v1 w2 v2 l2)=>(⟨v2,rfl,Adds.behind HB0.out (ha1.trans h)⟩:aw base v l2 w (.returned v2) w2))
 clear hr1 ha1
 have hU1:HasU w1 S A xl:=by
  have h0:HasU w0 S A xl:=HV.out.mod (Mod.of_below (T:=fun _=>False) HB0.out) (fun _ _ _ h=>h)
  exact h0.mod HA1.out.2.1 (fun g _ hg e=>HS.out g hg e)
 have hU2:HasU w1 (fun g=>S g ∧ v1.ownBlock ≠ some g) A xl:=by
  have h0:HasU w0 (fun g=>S g ∧ g < w0.heap.size) A xl:=(HV.out.mod (Mod.of_below (T:=fun _=>False) HB0.out) (fun _ _ _ h=>h)).more (fun g hg h=>⟨h,hg⟩)
  refine (h0.mod HA1.out.2.1 (fun g _ hg e=>HS.out g hg.1 e)).more (fun g hg h=>⟨h.1,fun e=>?_⟩)
  rcases HA1.out.2.2 g e with h' | h'
  ·exact HS.out g h.1 h'
  ·omega
 have HP:=J (fun W (hO:W.ownsRow base 5 1 v1 (l ++ [UInt8.ofNat op]).length (bytesOf (l ++ [UInt8.ofNat op]))) (hB:base ≤ W.heap.size) (hU:HasU W (fun g=>S g ∧ v1.ownBlock ≠ some g) A xl)=>eA base v1 (l ++ [UInt8.ofNat op]) _ A c xl W hO hB hU (fun g h=>h.2) HXW.out hxl (by omega))
 have hle:=Leb.encU_le10 xl.length (by omega)
 have hll2:(labs xl).length ≤ 10 * xl.length:=by
  have:∀ (q:List Nat),(∀ x ∈ q,x < 4294967296) → (labs q).length ≤ 10 * q.length:=by
   intro q
   induction q with
   | nil=>intro _;simp [labs]
   | cons x q ih =>
    intro hq
    have h1:=ih (fun y hy=>hq y (by simp [hy]))
    have h2:=Leb.encU_le10 x (by have:=hq x (by simp);omega)
    have e:labs (x :: q) = Leb.encU x ++ labs q:=by simp [labs]
    rw [e,List.length_append,List.length_cons]
    omega
  exact this xl HXW.out
 have HQ:=J (fun W V (L:List UInt8) (hO:W.ownsRow base 5 1 V L.length (bytesOf L)) (hB:base ≤ W.heap.size) (hL:L.length ≤ 100000000000000)=>aF base V L a W hO hB ha hL)
 have HK:=J (fun W (T:Nat → Prop) (hm:Mod T w1 W) (hT:¬ T X)=>held_x hm hT y1 y2 y4)
 have HU2:=J hU2
 clear hU1 hU2
 generalize hE:Leb.encU a = E at HQ
 generalize hEL:Leb.encU xl.length = EL at HP hle
 generalize hLB:labs xl = LB at HP hll2
 have HE:=J (And.intro hE (And.intro hEL hLB))
 clear hE hEL hLB
 go_wp2_with (first | (at_builtin;refine ag rfl (.tmp 5) (.tmp 8) 27 rfl _ _ _ w1 rfl rfl HR1.out ?_) | (go_at_call 123;refine (HFM.out _).mono ?_;rintro e wf ⟨rfl,rfl⟩))
 go_region_held3 (fun w'=>w'.cell? ⟨X,1,none⟩ = some (.int .u32 ↑a) ∧ w'.cell? ⟨X,2,none⟩ = some (.int .u32 ↑b) ∧ w'.cell? ⟨X,4,none⟩ = some (.slice A xl.length c)) (first | exact HK.out _ (fun _=>False) ((Mod.refl _ w1).drew) (fun h=>h) | exact HKA.out | exact HKB.out)
  (first | ((go_at_call 128;refine (HP.out w1.drew HA1.out.1 hb1 HU2.out).mono ?_;rintro e w2 ⟨v2,rfl,ha2⟩;have HKA:=J (HK.out w2 _ (((Mod.refl _ w1).drew).trans ha2.2.1 (fun g _ h=>h)) HNX1.out);have HA2:=J (Adds.behind (Below.drew (Below.refl _ _)) ha2);clear ha2)) | ((go_at_call 127;refine (HQ.out _ _ _ HA2.out.1 (Nat.le_trans hb1 HA2.out.2.1.size) (by simp;omega)).mono ?_;rintro e w3 ⟨v3,rfl,ha3⟩;have HKB:=J (HK.out w3 _ (HA2.out.trans ha3).2.1 HNX1.out);have HA3:=J ha3;clear ha3)))
 go_wp2_with fail
 go_ret
 have h:=HA2.out.trans HA3.out
 have e:l ++ [UInt8.ofNat op] ++ (EL ++ LB) ++ E = l ++ (UInt8.ofNat op :: T):=by rw [HT.out,HE.out.1,HE.out.2.1,HE.out.2.2];simp
 rw [e] at h
 exact FIN.out _ _ _ h
theorem put_5 (base:Nat) (v:Value) (l:List UInt8) (S:Nat → Prop) (A:Option Addr) (c op a b:Nat) (n:Int) (xl:List Nat) (w:World) (hown:w.ownsRow base 5 1 v l.length (bytesOf l)) (hb:base ≤ w.heap.size) (hV:HasU w S A xl) (hS:∀ g,S g → v.ownBlock ≠ some g)
  (hwf:(⟨op,a,b,n,xl⟩:I).wf) (T:List UInt8) (HT:Hid (T = (Leb.encU a ++ [0]))) (hxl:xl.length < 4294967296) (hsz:l.length + 10 * (xl.length + 5) ≤ 100000000000000) (hf:Opc.form op = 5) :
  Calls Tryz.prog 97 #[v,.agg #[.int .u8 ↑op,.int .u32 ↑a,.int .u32 ↑b,.int .i64 n,.slice A xl.length c]] w (aw base v (l ++ (UInt8.ofNat op :: T)) w):=by
 obtain ⟨hop,ha,hbb,hn0,hn1,hxw⟩:=hwf
 simp only at hop ha hbb hn0 hn1 hxw
 have HFM:=J (aT (op:Int))
 rw [hf] at HFM
 have HOL:=J (own_lt hown)
 have HOG:=J (aZ hown)
 have HV:=J hV
 have HS:=J hS
 have HXW:=J hxw
 have HO0:Hid ((w.alloc (.cells #[.int .u8 ↑op,.int .u32 ↑a,.int .u32 ↑b,.int .i64 n,.slice A xl.length c] 56)).ownsRow base 5 1 v l.length (bytesOf l)):=J (hown.alloc _)
 have HX0:Hid ((w.alloc (.cells #[.int .u8 ↑op,.int .u32 ↑a,.int .u32 ↑b,.int .i64 n,.slice A xl.length c] 56)).heap[w.heap.size]? = some (.cells #[.int .u8 ↑op,.int .u32 ↑a,.int .u32 ↑b,.int .i64 n,.slice A xl.length c] 56 (0,0))):=J (heap_alloc_new w _)
 have HB0:Hid (Below w.heap.size w (w.alloc (.cells #[.int .u8 ↑op,.int .u32 ↑a,.int .u32 ↑b,.int .i64 n,.slice A xl.length c] 56))):=J bA
 have hsz0:w.heap.size < (w.alloc (.cells #[.int .u8 ↑op,.int .u32 ↑a,.int .u32 ↑b,.int .i64 n,.slice A xl.length c] 56)).heap.size:=by simp
 clear hf hown hV hS hxw
 obtain ⟨X,hX⟩:∃ X,X = w.heap.size:=⟨_,rfl⟩
 go_enter Tryz.func97,Tryz.ntmps97
 go_upto_region 1 with (fail)
 rw [← hX] at HX0 hsz0 ⊢
 have HXX:=J hX
 clear hX
 generalize w.alloc (.cells #[.int .u8 ↑op,.int .u32 ↑a,.int .u32 ↑b,.int .i64 n,.slice A xl.length c] 56) = w0 at HO0 HX0 HB0 hsz0 ⊢
 obtain ⟨x0,x1,x2,x3,x4⟩:=cells5 HX0.out
 obtain ⟨v1,w1,hr1,ha1⟩:=ar w0 base v l (UInt8.ofNat op) HO0.out (by omega) (Nat.le_trans hb HB0.out.size)
 rw [byteNat op hop] at hr1
 have HR1:=J hr1
 have HA1:=J ha1
 have HNX:Hid (v.ownBlock ≠ some X):=J (fun e=>by have:=HOL.out X e;have:=HXX.out;omega)
 obtain ⟨y0,y1,y2,y3,y4⟩:=cells5 (ha1.2.1.heap HX0.out HNX.out)
 have HNX1:Hid (v1.ownBlock ≠ some X):=J (fun e=>by
  rcases ha1.2.2 X e with h | h
  ·exact HNX.out h
  ·omega)
 have hll:(l ++ [UInt8.ofNat op]).length = l.length + 1:=by simp
 have hs1:=ha1.2.1.size
 have hb1:base ≤ w1.heap.size:=by have:=HB0.out.size;omega
 have FIN:=J (fun (l2:List UInt8) (w2:World) (v2:Value) (h:Adds base w1 v1 w2 v2 l2)=>(⟨v2,rfl,Adds.behind HB0.out (ha1.trans h)⟩:aw base v l2 w (.returned v2) w2))
 clear hr1 ha1
 have HP:=J (aF base v1 (l ++ [UInt8.ofNat op]) a w1 HA1.out.1 hb1 ha (by omega))
 have hle:=Leb.encU_le10 a (by omega)
 generalize hE:Leb.encU a = E at HP hle
 have HE:=J hE
 clear hE
 go_wp2_with (first | (at_builtin;refine ag rfl (.tmp 5) (.tmp 8) 27 rfl _ _ _ w1 rfl rfl HR1.out ?_) | (go_at_call 123;refine (HFM.out _).mono ?_;rintro e wf ⟨rfl,rfl⟩) | (go_at_call 127;refine HP.out.mono ?_;rintro e w2 ⟨v2,rfl,ha2⟩;obtain ⟨v3,w3,hr3,ha3⟩:=ar w2 base v2 _ 0 ha2.1 (by simp;omega) (Nat.le_trans hb1 ha2.2.1.size);have HR3:=J hr3;have HA2:=J ha2;have HA3:=J ha3;clear ha2 ha3 hr3) | (at_builtin;refine ag rfl (.tmp 42) (.tmp 43) 27 rfl _ _ _ w3 rfl rfl HR3.out ?_))
 go_ret
 have h:=HA2.out.trans HA3.out
 have e:l ++ [UInt8.ofNat op] ++ E ++ [0] = l ++ (UInt8.ofNat op :: T):=by rw [HT.out,HE.out];simp
 rw [e] at h
 exact FIN.out _ _ _ h
theorem put_6 (base:Nat) (v:Value) (l:List UInt8) (S:Nat → Prop) (A:Option Addr) (c op a b:Nat) (n:Int) (xl:List Nat) (w:World) (hown:w.ownsRow base 5 1 v l.length (bytesOf l)) (hb:base ≤ w.heap.size) (hV:HasU w S A xl) (hS:∀ g,S g → v.ownBlock ≠ some g)
  (hwf:(⟨op,a,b,n,xl⟩:I).wf) (T:List UInt8) (HT:Hid (T = (Leb.encU a ++ Leb.encU b))) (hxl:xl.length < 4294967296) (hsz:l.length + 10 * (xl.length + 5) ≤ 100000000000000) (hf:Opc.form op = 6) :
  Calls Tryz.prog 97 #[v,.agg #[.int .u8 ↑op,.int .u32 ↑a,.int .u32 ↑b,.int .i64 n,.slice A xl.length c]] w (aw base v (l ++ (UInt8.ofNat op :: T)) w):=by
 obtain ⟨hop,ha,hbb,hn0,hn1,hxw⟩:=hwf
 simp only at hop ha hbb hn0 hn1 hxw
 have HFM:=J (aT (op:Int))
 rw [hf] at HFM
 have HOL:=J (own_lt hown)
 have HOG:=J (aZ hown)
 have HV:=J hV
 have HS:=J hS
 have HXW:=J hxw
 have HO0:Hid ((w.alloc (.cells #[.int .u8 ↑op,.int .u32 ↑a,.int .u32 ↑b,.int .i64 n,.slice A xl.length c] 56)).ownsRow base 5 1 v l.length (bytesOf l)):=J (hown.alloc _)
 have HX0:Hid ((w.alloc (.cells #[.int .u8 ↑op,.int .u32 ↑a,.int .u32 ↑b,.int .i64 n,.slice A xl.length c] 56)).heap[w.heap.size]? = some (.cells #[.int .u8 ↑op,.int .u32 ↑a,.int .u32 ↑b,.int .i64 n,.slice A xl.length c] 56 (0,0))):=J (heap_alloc_new w _)
 have HB0:Hid (Below w.heap.size w (w.alloc (.cells #[.int .u8 ↑op,.int .u32 ↑a,.int .u32 ↑b,.int .i64 n,.slice A xl.length c] 56))):=J bA
 have hsz0:w.heap.size < (w.alloc (.cells #[.int .u8 ↑op,.int .u32 ↑a,.int .u32 ↑b,.int .i64 n,.slice A xl.length c] 56)).heap.size:=by simp
 clear hf hown hV hS hxw
 obtain ⟨X,hX⟩:∃ X,X = w.heap.size:=⟨_,rfl⟩
 go_enter Tryz.func97,Tryz.ntmps97
 go_upto_region 1 with (fail)
 rw [← hX] at HX0 hsz0 ⊢
 have HXX:=J hX
 clear hX
 generalize w.alloc (.cells #[.int .u8 ↑op,.int .u32 ↑a,.int .u32 ↑b,.int .i64 n,.slice A xl.length c] 56) = w0 at HO0 HX0 HB0 hsz0 ⊢
 obtain ⟨x0,x1,x2,x3,x4⟩:=cells5 HX0.out
 obtain ⟨v1,w1,hr1,ha1⟩:=ar w0 base v l (UInt8.ofNat op) HO0.out (by omega) (Nat.le_trans hb HB0.out.size)
 rw [byteNat op hop] at hr1
 have HR1:=J hr1
 have HA1:=J ha1
 have HNX:Hid (v.ownBlock ≠ some X):=J (fun e=>by have:=HOL.out X e;have:=HXX.out;omega)
 obtain ⟨y0,y1,y2,y3,y4⟩:=cells5 (ha1.2.1.heap HX0.out HNX.out)
 have HNX1:Hid (v1.ownBlock ≠ some X):=J (fun e=>by
  rcases ha1.2.2 X e with h | h
  ·exact HNX.out h
  ·omega)
 have hll:(l ++ [UInt8.ofNat op]).length = l.length + 1:=by simp
 have hs1:=ha1.2.1.size
 have hb1:base ≤ w1.heap.size:=by have:=HB0.out.size;omega
 have FIN:=J (fun (l2:List UInt8) (w2:World) (v2:Value) (h:Adds base w1 v1 w2 v2 l2)=>(⟨v2,rfl,Adds.behind HB0.out (ha1.trans h)⟩:aw base v l2 w (.returned v2) w2))
 clear hr1 ha1
 have HQ1:=J (fun W V (L:List UInt8) (hO:W.ownsRow base 5 1 V L.length (bytesOf L)) (hB:base ≤ W.heap.size) (hL:L.length ≤ 100000000000000)=>aF base V L a W hO hB ha hL)
 have HQ2:=J (fun W V (L:List UInt8) (hO:W.ownsRow base 5 1 V L.length (bytesOf L)) (hB:base ≤ W.heap.size) (hL:L.length ≤ 100000000000000)=>aF base V L b W hO hB hbb hL)
 have hle:=Leb.encU_le10 a (by omega)
 have HK:=J (fun W (T:Nat → Prop) (hm:Mod T w1 W) (hT:¬ T X)=>held_x hm hT y1 y2 y4)
 generalize hE1:Leb.encU a = E1 at HQ1 hle
 generalize hE2:Leb.encU b = E2 at HQ2
 have HE:=J (And.intro hE1 hE2)
 clear hE1 hE2
 have tok1:True:=trivial
 go_wp2_with (first | (at_builtin;refine ag rfl (.tmp 5) (.tmp 8) 27 rfl _ _ _ w1 rfl rfl HR1.out ?_) | (go_at_call 123;refine (HFM.out _).mono ?_;rintro e wf ⟨rfl,rfl⟩))
 go_region_held3 (fun w'=>w'.cell? ⟨X,1,none⟩ = some (.int .u32 ↑a) ∧ w'.cell? ⟨X,2,none⟩ = some (.int .u32 ↑b) ∧ w'.cell? ⟨X,4,none⟩ = some (.slice A xl.length c)) (first | exact HK.out _ (fun _=>False) ((Mod.refl _ w1).drew) (fun h=>h) | exact HKB.out | exact HKA.out)
  (first | ((go_at_call 127;clear tok1;refine (HQ1.out w1.drew _ _ HA1.out.1 hb1 (by omega)).mono ?_;rintro e w2 ⟨v2,rfl,ha2⟩;have HKA:=J (HK.out w2 _ (((Mod.refl _ w1).drew).trans ha2.2.1 (fun g _ h=>h)) HNX1.out);have HA2:=J (Adds.behind (Below.drew (Below.refl _ _)) ha2);clear ha2)) | ((go_at_call 127;refine (HQ2.out _ _ _ HA2.out.1 (Nat.le_trans hb1 HA2.out.2.1.size) (by simp;omega)).mono ?_;rintro e w3 ⟨v3,rfl,ha3⟩;have HKB:=J (HK.out w3 _ (HA2.out.trans ha3).2.1 HNX1.out);have HA3:=J ha3;clear ha3)))
 go_wp2_with fail
 go_ret
 have h:=HA2.out.trans HA3.out
 have e:l ++ [UInt8.ofNat op] ++ E1 ++ E2 = l ++ (UInt8.ofNat op :: T):=by rw [HT.out,HE.out.1,HE.out.2];simp
 rw [e] at h
 exact FIN.out _ _ _ h
theorem put_7 (base:Nat) (v:Value) (l:List UInt8) (S:Nat → Prop) (A:Option Addr) (c op a b:Nat) (n:Int) (xl:List Nat) (w:World) (hown:w.ownsRow base 5 1 v l.length (bytesOf l)) (hb:base ≤ w.heap.size) (hV:HasU w S A xl) (hS:∀ g,S g → v.ownBlock ≠ some g)
  (hwf:(⟨op,a,b,n,xl⟩:I).wf) (T:List UInt8) (HT:Hid (T = [0])) (hxl:xl.length < 4294967296) (hsz:l.length + 10 * (xl.length + 5) ≤ 100000000000000) (hf:Opc.form op = 7) :
  Calls Tryz.prog 97 #[v,.agg #[.int .u8 ↑op,.int .u32 ↑a,.int .u32 ↑b,.int .i64 n,.slice A xl.length c]] w (aw base v (l ++ (UInt8.ofNat op :: T)) w):=by
 obtain ⟨hop,ha,hbb,hn0,hn1,hxw⟩:=hwf
 simp only at hop ha hbb hn0 hn1 hxw
 have HFM:=J (aT (op:Int))
 rw [hf] at HFM
 have HOL:=J (own_lt hown)
 have HOG:=J (aZ hown)
 have HV:=J hV
 have HS:=J hS
 have HXW:=J hxw
 have HO0:Hid ((w.alloc (.cells #[.int .u8 ↑op,.int .u32 ↑a,.int .u32 ↑b,.int .i64 n,.slice A xl.length c] 56)).ownsRow base 5 1 v l.length (bytesOf l)):=J (hown.alloc _)
 have HX0:Hid ((w.alloc (.cells #[.int .u8 ↑op,.int .u32 ↑a,.int .u32 ↑b,.int .i64 n,.slice A xl.length c] 56)).heap[w.heap.size]? = some (.cells #[.int .u8 ↑op,.int .u32 ↑a,.int .u32 ↑b,.int .i64 n,.slice A xl.length c] 56 (0,0))):=J (heap_alloc_new w _)
 have HB0:Hid (Below w.heap.size w (w.alloc (.cells #[.int .u8 ↑op,.int .u32 ↑a,.int .u32 ↑b,.int .i64 n,.slice A xl.length c] 56))):=J bA
 have hsz0:w.heap.size < (w.alloc (.cells #[.int .u8 ↑op,.int .u32 ↑a,.int .u32 ↑b,.int .i64 n,.slice A xl.length c] 56)).heap.size:=by simp
 clear hf hown hV hS hxw
 obtain ⟨X,hX⟩:∃ X,X = w.heap.size:=⟨_,rfl⟩
 go_enter Tryz.func97,Tryz.ntmps97
 go_upto_region 1 with (fail)
 rw [← hX] at HX0 hsz0 ⊢
 have HXX:=J hX
 clear hX
 generalize w.alloc (.cells #[.int .u8 ↑op,.int .u32 ↑a,.int .u32 ↑b,.int .i64 n,.slice A xl.length c] 56) = w0 at HO0 HX0 HB0 hsz0 ⊢
 obtain ⟨x0,x1,x2,x3,x4⟩:=cells5 HX0.out
 obtain ⟨v1,w1,hr1,ha1⟩:=ar w0 base v l (UInt8.ofNat op) HO0.out (by omega) (Nat.le_trans hb HB0.out.size)
 rw [byteNat op hop] at hr1
 have HR1:=J hr1
 have HA1:=J ha1
 have HNX:Hid (v.ownBlock ≠ some X):=J (fun e=>by have:=HOL.out X e;have:=HXX.out;omega)
 obtain ⟨y0,y1,y2,y3,y4⟩:=cells5 (ha1.2.1.heap HX0.out HNX.out)
 have HNX1:Hid (v1.ownBlock ≠ some X):=J (fun e=>by
  rcases ha1.2.2 X e with h | h
  ·exact HNX.out h
  ·omega)
 have hll:(l ++ [UInt8.ofNat op]).length = l.length + 1:=by simp
 have hs1:=ha1.2.1.size
 have hb1:base ≤ w1.heap.size:=by have:=HB0.out.size;omega
 have FIN:=J (fun (l2:List UInt8) (w2:World) (v2:Value) (h:Adds base w1 v1 w2 v2 l2)=>(⟨v2,rfl,Adds.behind HB0.out (ha1.trans h)⟩:aw base v l2 w (.returned v2) w2))
 clear hr1 ha1
 obtain ⟨v2,w2,hr2,ha2⟩:=ar w1 base v1 (l ++ [UInt8.ofNat op]) 0 HA1.out.1 (by omega) hb1
 have HR2:=J hr2
 have HA2:=J ha2
 clear hr2 ha2
 go_wp2_with (first | (at_builtin;refine ag rfl (.tmp 5) (.tmp 8) 27 rfl _ _ _ w1 rfl rfl HR1.out ?_) | (go_at_call 123;refine (HFM.out _).mono ?_;rintro e wf ⟨rfl,rfl⟩) | (at_builtin;refine ag rfl (.tmp 56) (.tmp 57) 27 rfl _ _ _ w2 rfl rfl HR2.out ?_))
 go_ret
 have h:=HA2.out
 have e:l ++ [UInt8.ofNat op] ++ [0] = l ++ (UInt8.ofNat op :: T):=by rw [HT.out];simp
 rw [e] at h
 exact FIN.out _ _ _ h
theorem put_8 (base:Nat) (v:Value) (l:List UInt8) (S:Nat → Prop) (A:Option Addr) (c op a b:Nat) (n:Int) (xl:List Nat) (w:World) (hown:w.ownsRow base 5 1 v l.length (bytesOf l)) (hb:base ≤ w.heap.size) (hV:HasU w S A xl) (hS:∀ g,S g → v.ownBlock ≠ some g)
  (hwf:(⟨op,a,b,n,xl⟩:I).wf) (T:List UInt8) (HT:Hid (T = Leb.encS n)) (hxl:xl.length < 4294967296) (hsz:l.length + 10 * (xl.length + 5) ≤ 100000000000000) (hf:Opc.form op = 8) :
  Calls Tryz.prog 97 #[v,.agg #[.int .u8 ↑op,.int .u32 ↑a,.int .u32 ↑b,.int .i64 n,.slice A xl.length c]] w (aw base v (l ++ (UInt8.ofNat op :: T)) w):=by
 obtain ⟨hop,ha,hbb,hn0,hn1,hxw⟩:=hwf
 simp only at hop ha hbb hn0 hn1 hxw
 have HFM:=J (aT (op:Int))
 rw [hf] at HFM
 have HOL:=J (own_lt hown)
 have HOG:=J (aZ hown)
 have HV:=J hV
 have HS:=J hS
 have HXW:=J hxw
 have HO0:Hid ((w.alloc (.cells #[.int .u8 ↑op,.int .u32 ↑a,.int .u32 ↑b,.int .i64 n,.slice A xl.length c] 56)).ownsRow base 5 1 v l.length (bytesOf l)):=J (hown.alloc _)
 have HX0:Hid ((w.alloc (.cells #[.int .u8 ↑op,.int .u32 ↑a,.int .u32 ↑b,.int .i64 n,.slice A xl.length c] 56)).heap[w.heap.size]? = some (.cells #[.int .u8 ↑op,.int .u32 ↑a,.int .u32 ↑b,.int .i64 n,.slice A xl.length c] 56 (0,0))):=J (heap_alloc_new w _)
 have HB0:Hid (Below w.heap.size w (w.alloc (.cells #[.int .u8 ↑op,.int .u32 ↑a,.int .u32 ↑b,.int .i64 n,.slice A xl.length c] 56))):=J bA
 have hsz0:w.heap.size < (w.alloc (.cells #[.int .u8 ↑op,.int .u32 ↑a,.int .u32 ↑b,.int .i64 n,.slice A xl.length c] 56)).heap.size:=by simp
 clear hf hown hV hS hxw
 obtain ⟨X,hX⟩:∃ X,X = w.heap.size:=⟨_,rfl⟩
 go_enter Tryz.func97,Tryz.ntmps97
 go_upto_region 1 with (fail)
 rw [← hX] at HX0 hsz0 ⊢
 have HXX:=J hX
 clear hX
 generalize w.alloc (.cells #[.int .u8 ↑op,.int .u32 ↑a,.int .u32 ↑b,.int .i64 n,.slice A xl.length c] 56) = w0 at HO0 HX0 HB0 hsz0 ⊢
 obtain ⟨x0,x1,x2,x3,x4⟩:=cells5 HX0.out
 obtain ⟨v1,w1,hr1,ha1⟩:=ar w0 base v l (UInt8.ofNat op) HO0.out (by omega) (Nat.le_trans hb HB0.out.size)
 rw [byteNat op hop] at hr1
 have HR1:=J hr1
 have HA1:=J ha1
 have HNX:Hid (v.ownBlock ≠ some X):=J (fun e=>by have:=HOL.out X e;have:=HXX.out;omega)
 obtain ⟨y0,y1,y2,y3,y4⟩:=cells5 (ha1.2.1.heap HX0.out HNX.out)
 have HNX1:Hid (v1.ownBlock ≠ some X):=J (fun e=>by
  rcases ha1.2.2 X e with h | h
  ·exact HNX.out h
  ·omega)
 have hll:(l ++ [UInt8.ofNat op]).length = l.length + 1:=by simp
 have hs1:=ha1.2.1.size
 have hb1:base ≤ w1.heap.size:=by have:=HB0.out.size;omega
 have FIN:=J (fun (l2:List UInt8) (w2:World) (v2:Value) (h:Adds base w1 v1 w2 v2 l2)=>(⟨v2,rfl,Adds.behind HB0.out (ha1.trans h)⟩:aw base v l2 w (.returned v2) w2))
 clear hr1 ha1
 have HC:=J (c12 none [] 0 0 n w1 rfl (by omega) (Has.nil _ _ _) ⟨hn0,hn1⟩)
 have hle:=Leb.encS_le10 n hn0 hn1
 generalize hE:Leb.encS n = E at HC hle
 have HE:=J hE
 clear hE
 go_wp2_with (first | (at_builtin;refine ag rfl (.tmp 5) (.tmp 8) 27 rfl _ _ _ w1 rfl rfl HR1.out ?_) | (go_at_call 123;refine (HFM.out _).mono ?_;rintro e wf ⟨rfl,rfl⟩))
 refine HC.out.mono ?_
 rintro e w2 ⟨v2,rfl,ho2,hb2⟩
 rw [List.nil_append,Nat.zero_add] at ho2
 obtain ⟨A2,c2,rfl,_,hn2,hh2⟩:=Has.own ho2
 obtain ⟨v3,w3,hr3,ha3⟩:=bh w2 base E.length c2 v1 (l ++ [UInt8.ofNat op]) E A2 ((Mod.of_below (T:=fun _=>False) hb2).own HA1.out.1 (fun _ _ h=>h)) hh2 hn2 (by omega) (Nat.le_trans hb1 hb2.size)
 have HR3:=J hr3
 have HA3:=J (Adds.behind hb2 ha3)
 clear ho2 hh2 hr3 ha3 hb2 hn2 HC
 go_wp2_with (at_builtin;refine ag rfl (.tmp 62) (.tmp 65) 27 rfl _ _ _ w3 rfl rfl HR3.out ?_)
 go_ret
 have h:=HA3.out
 have e:l ++ [UInt8.ofNat op] ++ E = l ++ (UInt8.ofNat op :: T):=by rw [HT.out,HE.out];simp
 rw [e] at h
 exact FIN.out _ _ _ h
theorem put_9 (base:Nat) (v:Value) (l:List UInt8) (S:Nat → Prop) (A:Option Addr) (c op a b:Nat) (n:Int) (xl:List Nat) (w:World) (hown:w.ownsRow base 5 1 v l.length (bytesOf l)) (hb:base ≤ w.heap.size) (hV:HasU w S A xl) (hS:∀ g,S g → v.ownBlock ≠ some g)
  (hwf:(⟨op,a,b,n,xl⟩:I).wf) (T:List UInt8) (HT:Hid (T = Leb.encS n)) (hxl:xl.length < 4294967296) (hsz:l.length + 10 * (xl.length + 5) ≤ 100000000000000) (hf:Opc.form op = 9) :
  Calls Tryz.prog 97 #[v,.agg #[.int .u8 ↑op,.int .u32 ↑a,.int .u32 ↑b,.int .i64 n,.slice A xl.length c]] w (aw base v (l ++ (UInt8.ofNat op :: T)) w):=by
 obtain ⟨hop,ha,hbb,hn0,hn1,hxw⟩:=hwf
 simp only at hop ha hbb hn0 hn1 hxw
 have HFM:=J (aT (op:Int))
 rw [hf] at HFM
 have HOL:=J (own_lt hown)
 have HOG:=J (aZ hown)
 have HV:=J hV
 have HS:=J hS
 have HXW:=J hxw
 have HO0:Hid ((w.alloc (.cells #[.int .u8 ↑op,.int .u32 ↑a,.int .u32 ↑b,.int .i64 n,.slice A xl.length c] 56)).ownsRow base 5 1 v l.length (bytesOf l)):=J (hown.alloc _)
 have HX0:Hid ((w.alloc (.cells #[.int .u8 ↑op,.int .u32 ↑a,.int .u32 ↑b,.int .i64 n,.slice A xl.length c] 56)).heap[w.heap.size]? = some (.cells #[.int .u8 ↑op,.int .u32 ↑a,.int .u32 ↑b,.int .i64 n,.slice A xl.length c] 56 (0,0))):=J (heap_alloc_new w _)
 have HB0:Hid (Below w.heap.size w (w.alloc (.cells #[.int .u8 ↑op,.int .u32 ↑a,.int .u32 ↑b,.int .i64 n,.slice A xl.length c] 56))):=J bA
 have hsz0:w.heap.size < (w.alloc (.cells #[.int .u8 ↑op,.int .u32 ↑a,.int .u32 ↑b,.int .i64 n,.slice A xl.length c] 56)).heap.size:=by simp
 clear hf hown hV hS hxw
 obtain ⟨X,hX⟩:∃ X,X = w.heap.size:=⟨_,rfl⟩
 go_enter Tryz.func97,Tryz.ntmps97
 go_upto_region 1 with (fail)
 rw [← hX] at HX0 hsz0 ⊢
 have HXX:=J hX
 clear hX
 generalize w.alloc (.cells #[.int .u8 ↑op,.int .u32 ↑a,.int .u32 ↑b,.int .i64 n,.slice A xl.length c] 56) = w0 at HO0 HX0 HB0 hsz0 ⊢
 obtain ⟨x0,x1,x2,x3,x4⟩:=cells5 HX0.out
 obtain ⟨v1,w1,hr1,ha1⟩:=ar w0 base v l (UInt8.ofNat op) HO0.out (by omega) (Nat.le_trans hb HB0.out.size)
 rw [byteNat op hop] at hr1
 have HR1:=J hr1
 have HA1:=J ha1
 have HNX:Hid (v.ownBlock ≠ some X):=J (fun e=>by have:=HOL.out X e;have:=HXX.out;omega)
 obtain ⟨y0,y1,y2,y3,y4⟩:=cells5 (ha1.2.1.heap HX0.out HNX.out)
 have HNX1:Hid (v1.ownBlock ≠ some X):=J (fun e=>by
  rcases ha1.2.2 X e with h | h
  ·exact HNX.out h
  ·omega)
 have hll:(l ++ [UInt8.ofNat op]).length = l.length + 1:=by simp
 have hs1:=ha1.2.1.size
 have hb1:base ≤ w1.heap.size:=by have:=HB0.out.size;omega
 have FIN:=J (fun (l2:List UInt8) (w2:World) (v2:Value) (h:Adds base w1 v1 w2 v2 l2)=>(⟨v2,rfl,Adds.behind HB0.out (ha1.trans h)⟩:aw base v l2 w (.returned v2) w2))
 clear hr1 ha1
 have HC:=J (c12 none [] 0 0 n w1 rfl (by omega) (Has.nil _ _ _) ⟨hn0,hn1⟩)
 have hle:=Leb.encS_le10 n hn0 hn1
 generalize hE:Leb.encS n = E at HC hle
 have HE:=J hE
 clear hE
 go_wp2_with (first | (at_builtin;refine ag rfl (.tmp 5) (.tmp 8) 27 rfl _ _ _ w1 rfl rfl HR1.out ?_) | (go_at_call 123;refine (HFM.out _).mono ?_;rintro e wf ⟨rfl,rfl⟩))
 refine HC.out.mono ?_
 rintro e w2 ⟨v2,rfl,ho2,hb2⟩
 rw [List.nil_append,Nat.zero_add] at ho2
 obtain ⟨A2,c2,rfl,_,hn2,hh2⟩:=Has.own ho2
 obtain ⟨v3,w3,hr3,ha3⟩:=bh w2 base E.length c2 v1 (l ++ [UInt8.ofNat op]) E A2 ((Mod.of_below (T:=fun _=>False) hb2).own HA1.out.1 (fun _ _ h=>h)) hh2 hn2 (by omega) (Nat.le_trans hb1 hb2.size)
 have HR3:=J hr3
 have HA3:=J (Adds.behind hb2 ha3)
 clear ho2 hh2 hr3 ha3 hb2 hn2 HC
 go_wp2_with (at_builtin;refine ag rfl (.tmp 62) (.tmp 65) 27 rfl _ _ _ w3 rfl rfl HR3.out ?_)
 go_ret
 have h:=HA3.out
 have e:l ++ [UInt8.ofNat op] ++ E = l ++ (UInt8.ofNat op :: T):=by rw [HT.out,HE.out];simp
 rw [e] at h
 exact FIN.out _ _ _ h
theorem put_any (base:Nat) (v:Value) (l:List UInt8) (S:Nat → Prop) (u:Value) (x:I) (w:World) (hown:w.ownsRow base 5 1 v l.length (bytesOf l)) (hb:base ≤ w.heap.size) (hV:InsV w S u x) (hS:∀ g,S g → v.ownBlock ≠ some g)
  (hm:may x = true) (hxl:x.l.length < 4294967296) (hsz:l.length + 10 * (x.l.length + 5) ≤ 100000000000000) :
  Calls Tryz.prog 97 #[v,u] w (aw base v (l ++ enc x) w):=by
 obtain ⟨A,c,rfl,hwf,hc1,hc2,hU⟩:=hV
 obtain ⟨op,a,b,n,xl⟩:=x
 simp only [may,Bool.and_eq_true] at hm
 have hmF:=hm.2
 have e:enc ⟨op,a,b,n,xl⟩ = UInt8.ofNat op :: tailF (Opc.form op) ⟨op,a,b,n,xl⟩:=rfl
 rw [e]
 rcases ej op with hf | hf | hf | hf | hf | hf | hf | hf | hf | hf
 all_goals rw [hf] at hmF ⊢
 ·exact put_0 base v l S A c op a b n xl w hown hb hU hS hwf _ (J rfl) hxl hsz hf
 ·have hab:a < 256:=by
   simp [mayF,hasA] at hmF
   exact (blockB_lt hmF.2).1
  exact put_1 base v l S A c op a b n xl w hown hb hU hS hwf _ (J rfl) hab hxl hsz hf
 ·exact put_2 base v l S A c op a b n xl w hown hb hU hS hwf _ (J rfl) hxl hsz hf
 ·exact put_3 base v l S A c op a b n xl w hown hb hU hS hwf _ (J rfl) hxl hsz hf
 ·exact put_4 base v l S A c op a b n xl w hown hb hU hS hwf _ (J rfl) hxl hsz hf
 ·exact put_5 base v l S A c op a b n xl w hown hb hU hS hwf _ (J rfl) hxl hsz hf
 ·exact put_6 base v l S A c op a b n xl w hown hb hU hS hwf _ (J rfl) hxl hsz hf
 ·exact put_7 base v l S A c op a b n xl w hown hb hU hS hwf _ (J rfl) hxl hsz hf
 ·exact put_8 base v l S A c op a b n xl w hown hb hU hS hwf _ (J rfl) hxl hsz hf
 ·exact put_9 base v l S A c op a b n xl w hown hb hU hS hwf _ (J rfl) hxl hsz hf
def cS (l:List UInt8) (xs:List I) (w:World) (e:Ending) (w':World):Prop :=
 if exprB xs = true then ∃ v,e = .returned (.tuple #[v,.int .i64 0]) ∧ w'.ownsRow w.heap.size 5 1 v (l ++ exprEnc xs).length (bytesOf (l ++ exprEnc xs)) ∧ Below w.heap.size w w'
 else e = .returned (.tuple #[.slice none 0 0,.int .i64 2]) ∧ Below w.heap.size w w'
theorem dD {l:List UInt8} {xs:List I} {w w':World} (h:exprB xs = false) (hb:Below w.heap.size w w'):cS l xs w (.returned (.tuple #[.slice none 0 0,.int .i64 2])) w':=by
 unfold cS
 rw [h]
 exact ⟨rfl,hb⟩
theorem dY (A:Option Addr) (l:List UInt8) (c:Nat) (B:Option Addr) (xs:List I) (cx:Nat) (w:World) (hA:Has w w.heap.size A l) (hX:HasI w (· < w.heap.size) B xs) (hxl:∀ x ∈ xs,x.l.length < 4294967296) (hsz:l.length + 10 * tot xs ≤ 10000000000000) :
  Calls Tryz.prog 87 #[.slice A l.length c,.slice B xs.length cx] w (cS l xs w):=by
 have hwfs:=hX.wf
 have htl:=fF xs
 have HOW:=J (own_any A l c w hA (by omega))
 have HX:=J hX
 have HWF:=J hwfs
 have HXL:=J hxl
 obtain ⟨n,hn⟩:∃ n,xs.length = n:=⟨_,rfl⟩
 rw [hn] at htl ⊢
 have HN:=J hn
 clear hA hX hwfs hxl hn
 go_enter Tryz.func87,Tryz.ntmps87
 go_upto_region 3 with (go_at_call 94;refine HOW.out.mono ?_;rintro e w1 ⟨v1,rfl,ho1,hb1⟩;have HO1:=J ho1;have HB1:=J hb1;clear ho1 hb1)
 have hs1:=HB1.out.size
 have HK1:Hid (aW (w1.alloc (.cells #[.slice none 0 0] 174)) w1.heap.size w.heap.size [] none):=J ⟨.slice none 0 0,0,heap_alloc_new w1 _,World.ownsRow_nil _ _ _ _,rfl,by simp⟩
 have HO2:Hid ((w1.alloc (.cells #[.slice none 0 0] 174)).ownsRow w.heap.size 5 1 v1 l.length (bytesOf l)):=J (HO1.out.alloc _)
 have HB2:Hid (Below w.heap.size w (w1.alloc (.cells #[.slice none 0 0] 174))):=J (HB1.out.alloc hs1 _)
 have HV1:Hid (v1.ownBlock ≠ some w1.heap.size):=J (fun e=>by have:=(HO1.out.lt _ e).2;omega)
 obtain ⟨K,hK⟩:∃ K,K = w1.heap.size:=⟨_,rfl⟩
 rw [← hK] at HK1 HV1 ⊢
 have hKw:w.heap.size ≤ K:=by omega
 clear hK HO1 HB1 hs1 HOW
 generalize w1.alloc (.cells #[.slice none 0 0] 174) = w2 at HK1 HO2 HB2 ⊢
 go_wp2_with fail
 go_loopw [6,14] (fun v i wr=>∃ (j:Nat) (out:List UInt8) (o:List Bool) (own:Option Nat),j ≤ n ∧ i = .int .i64 ↑j ∧ Hid (out = l ++ encAll (xs.take j)) ∧ out.length ≤ l.length + 10 * tot (xs.take j) ∧ Hid (wr.ownsRow w.heap.size 5 1 v out.length (bytesOf out)) ∧ Hid (aW wr K w.heap.size o own) ∧ Hid (v.ownBlock ≠ some K ∧ ∀ g,own = some g → v.ownBlock ≠ some g) ∧ o.length ≤ j ∧ Hid (Below w.heap.size w wr) ∧ Hid ((xs.take j).all may = true ∧ steps [] (xs.take j) = some o)) (fun _ i _=>n - (intOf i).toNat)
 case atStart=>exact ⟨0,l,[],none,by omega,rfl,J (by simp [encAll]),by simp,HO2,HK1,J ⟨HV1.out,fun g h=>by cases h⟩,by simp,HB2,J ⟨rfl,rfl⟩⟩
 case round =>
  obtain ⟨j,out,o,own,hj,rfl,HD,hol,HO,HB,HV,hoj,HBW,HE⟩:=hrel
  by_cases hjn:j < n
  ·obtain ⟨x,hx⟩:∃ x,xs[j]? = some x:=⟨_,List.getElem?_eq_getElem (by have:=HN.out;omega)⟩
   have hwx:=HWF.out x (List.mem_of_getElem? hx)
   have hxx:=HXL.out x (List.mem_of_getElem? hx)
   have htt:=tot_take hx
   have htl2:=dR xs (j + 1)
   have hel:=enc_le x hwx hxx
   have hjtot:=fF (xs.take j)
   obtain ⟨g,oo,A4,c4,rfl,hgB,_,hlc,hcm,hU,hcells⟩:=HX.out j x hx
   have hji:(j:Int) < (n:Int):=by omega
   have HXJ:=J hx
   have HEA:=J (encAll_take hx)
   have HSM:=J (fun (h:may x = false)=>exprB_may hx h)
   have HSN:=J (fun (h:Ins.step o x.op = none)=>exprB_step HE.out.2 hx h)
   have HSS:=J (fun (o':List Bool) (h:Ins.step o x.op = some o')=>steps_next HE.out.2 hx h)
   have HALL:=J (fun (h:may x = true)=>all_take HE.out.1 hx h)
   obtain ⟨ys,hys⟩:∃ ys,ys = encAll (xs.take (j + 1)):=⟨_,rfl⟩
   clear hx
   obtain ⟨op,xa,xb,xc,xl⟩:=x
   have k0:wr.cell? ⟨g,oo + j * 5,none⟩ = some (.int .u8 ↑op):=(HBW.out.cell hgB).trans (hcells 0 _ rfl)
   have k1:wr.cell? ⟨g,oo + j * 5 + 1,none⟩ = some (.int .u32 ↑xa):=(HBW.out.cell hgB).trans (hcells 1 _ rfl)
   have k2:wr.cell? ⟨g,oo + j * 5 + 2,none⟩ = some (.int .u32 ↑xb):=(HBW.out.cell hgB).trans (hcells 2 _ rfl)
   have k3:wr.cell? ⟨g,oo + j * 5 + 3,none⟩ = some (.int .i64 xc):=(HBW.out.cell hgB).trans (hcells 3 _ rfl)
   have k4:wr.cell? ⟨g,oo + j * 5 + 4,none⟩ = some (.slice A4 xl.length c4):=(HBW.out.cell hgB).trans (hcells 4 _ rfl)
   have HU:=J hU
   have HWX:=J hwx
   have HLC:=J hlc
   have HCM:=J hcm
   have hrs:=HBW.out.size
   clear hcells hU hwx hlc hcm hys
   go_upto_region 6 with (fail)
   have hKr:=HB.out.own_lt.1
   have HX3:Hid ((wr.alloc (.cells #[.int .u8 ↑op,.int .u32 ↑xa,.int .u32 ↑xb,.int .i64 xc,.slice A4 xl.length c4] 56)).heap[wr.heap.size]? = some (.cells #[.int .u8 ↑op,.int .u32 ↑xa,.int .u32 ↑xb,.int .i64 xc,.slice A4 xl.length c4] 56 (0,0))):=J (heap_alloc_new wr _)
   have HM3:Hid (Below wr.heap.size wr (wr.alloc (.cells #[.int .u8 ↑op,.int .u32 ↑xa,.int .u32 ↑xb,.int .i64 xc,.slice A4 xl.length c4] 56))):=J bA
   have hs3:wr.heap.size < (wr.alloc (.cells #[.int .u8 ↑op,.int .u32 ↑xa,.int .u32 ↑xb,.int .i64 xc,.slice A4 xl.length c4] 56)).heap.size:=by simp
   obtain ⟨X,hX⟩:∃ X,X = wr.heap.size:=⟨_,rfl⟩
   rw [← hX] at HX3 hs3 ⊢
   have HXX:=J hX
   have hXK:K < X:=by omega
   have hXw:w.heap.size ≤ X:=by omega
   clear hX
   generalize wr.alloc (.cells #[.int .u8 ↑op,.int .u32 ↑xa,.int .u32 ↑xb,.int .i64 xc,.slice A4 xl.length c4] 56) = w3 at HX3 HM3 hs3 ⊢
   obtain ⟨z0,z1,z2,z3,z4⟩:=cells5 HX3.out
   have HM3':Hid (Mod (fun _=>False) wr w3):=J (Mod.of_below HM3.out)
   have HB3:=J (HB.out.mod HM3'.out (fun h=>h) (fun _ _ h=>h))
   have HO3:=J (HM3'.out.own HO.out (fun _ _ h=>h))
   have HVL:=J (fun g (h:u6.ownBlock = some g)=>HO.out.lt g h)
   have HWL:=J (HB.out.own_lt.2)
   have HBW3:=J (HBW.out.trans (HM3.out.mono hrs))
   have HFT:=J (fits_any ⟨op,xa,xb,xc,xl⟩ A4 c4 w3 HWX.out)
   simp only [insVal,insCells] at HFT
   cases hm:may ⟨op,xa,xb,xc,xl⟩ with
   | false =>
    rw [hm] at HFT
    have HNO:=J (HSM.out hm)
    clear hm
    go_wp2_with (go_at_call 95;refine HFT.out.mono ?_;rintro e w4 ⟨rfl,hb4⟩;have HB4:=J (HBW3.out.trans (hb4.mono (by omega)));clear hb4)
    go_ret2
    exact dD HNO.out HB4.out
   | true =>
    rw [hm] at HFT
    have HMAY:=J hm
    clear hm
    have HP:=J (fun W (hB:aW W K w.heap.size o own) (hb:w.heap.size ≤ W.heap.size)=>pass_any K w.heap.size o own op W hB hb (by omega))
    cases hs:Ins.step o op with
    | none =>
     have HNO:=J (HSN.out hs)
     have HST:=J hs
     clear hs
     go_wp2_with (first | (go_at_call 95;refine HFT.out.mono ?_;rintro e w4 ⟨rfl,hb4⟩;have HM4:=J (Mod.of_below (T:=fun _=>False) hb4);have HB4:=J (HBW3.out.trans (hb4.mono (by omega)));have HL4:=J (HB3.out.mod HM4.out (fun h=>h) (fun _ _ h=>h));obtain ⟨q0,q1,q2,q3,q4⟩:=cells5 (HM4.out.heap HX3.out (fun h=>h));have hs4:=hb4.size;clear hb4) | (go_at_call 96;refine (HP.out _ HL4.out (by omega)).mono ?_;rintro e w5 ⟨he,hm5,_⟩;rw [HST.out] at he;obtain rfl:e = .returned (.bool false):=he;have HM5:=J hm5;clear hm5))
     go_ret2
     refine dD HNO.out (HB4.out.trans (HM5.out.below (by omega) (fun k hk e=>?_)))
     rcases e with e | e
     ·omega
     ·have:=(HWL.out k e).1;omega
    | some o' =>
     have HST:=J hs
     have hsl:=step_length hs
     have HSO:=J (HSS.out o' hs)
     have HAL:=J (HALL.out HMAY.out)
     clear hs
     go_upto_region 8 with (first | (go_at_call 95;refine HFT.out.mono ?_;rintro e w4 ⟨rfl,hb4⟩;have HM4:=J (Mod.of_below (T:=fun _=>False) hb4);have HB4:=J (HBW3.out.trans (hb4.mono (by omega)));have HL4:=J (HB3.out.mod HM4.out (fun h=>h) (fun _ _ h=>h));obtain ⟨q0,q1,q2,q3,q4⟩:=cells5 (HM4.out.heap HX3.out (fun h=>h));have hs4:=hb4.size;clear hb4) | (go_at_call 96;refine (HP.out _ HL4.out (by omega)).mono ?_;rintro e w5 ⟨he,hm5,hst5⟩;rw [HST.out] at he;obtain rfl:e = .returned (.bool true):=he;have HM5:=J hm5;have HST5:=J hst5;clear hm5 hst5))
     obtain ⟨own',hL5,ht5⟩:=HST5.out o' HST.out
     have hs5:=HM5.out.size
     have hX5:=HM5.out.heap (HM4.out.heap HX3.out (fun h=>h)) (fun h=>by
      rcases h with h | h
      ·omega
      ·have:=(HWL.out X h).2;have:=HXX.out;omega)
     obtain ⟨y0,y1,y2,y3,y4⟩:=cells5 hX5
     have hO5:=HM5.out.own (HM4.out.own HO3.out (fun _ _ h=>h)) (fun g hg e=>by
      rcases e with e | e
      ·exact HV.out.1 (by rw [hg,e])
      ·exact HV.out.2 g e hg)
     have hU5:HasU w5 (· < w.heap.size) A4 xl:=by
      have h1:HasU w3 (· < w.heap.size) A4 xl:=HU.out.mod (Mod.of_base HBW3.out) (fun g _ h e=>Nat.lt_irrefl _ (Nat.lt_of_lt_of_le h e))
      refine (h1.mod HM4.out (fun _ _ _ h=>h)).mod HM5.out (fun g _ h e=>?_)
      have h:g < w.heap.size:=h
      rcases e with e | e
      ·omega
      ·have:=(HWL.out g e).1;omega
     have HPT:=J (put_any w.heap.size u6 out (· < w.heap.size) (insVal ⟨op,xa,xb,xc,xl⟩ A4 c4) ⟨op,xa,xb,xc,xl⟩ w5 hO5 (by omega) ⟨A4,c4,rfl,HWX.out,HLC.out,HCM.out,hU5⟩ (fun g h e=>by have:=(HVL.out g e).1;omega) HMAY.out hxx (by simp only at htt ⊢;omega))
     simp only [insVal,insCells] at HPT
     have HL5:=J hL5
     have HT5:=J ht5
     clear hO5 hU5 hL5 ht5 HST5 hX5
     obtain ⟨EX,hEX⟩:∃ EX,EX = enc ⟨op,xa,xb,xc,xl⟩:=⟨_,rfl⟩
     rw [← hEX] at HPT HEA hel
     clear hEX
     go_wp2_with (go_at_call 97;refine HPT.out.mono ?_;rintro e w6 ⟨v6,rfl,ha6⟩;have HA6:=J ha6;clear ha6)
     go_roundw
     case rel =>
      have hvk:v6.ownBlock ≠ some K:=fun e=>by
       rcases HA6.out.2.2 K e with h | h
       ·exact HV.out.1 h
       ·omega
      have hdis:∀ g,own' = some g → u6.ownBlock ≠ some g:=fun g e e2=>by
       rcases HT5.out g e with h | h
       ·exact HV.out.2 g h e2
       ·have:=(HVL.out g e2).2;have:=HXX.out;omega
      refine ⟨j + 1,out ++ EX,o',own',by omega,by go_num,J (by rw [HD.out,HEA.out];simp),by rw [List.length_append,htt];omega,J HA6.out.1,J (HL5.out.mod HA6.out.2.1 (fun e=>HV.out.1 e) (fun g e=>hdis g e)),J ⟨hvk,fun g e e2=>?_⟩,by omega,J ?_,J ⟨HAL.out,HSO.out⟩⟩
      ·rcases HA6.out.2.2 g e2 with h | h
       ·exact hdis g e h
       ·have:=(HL5.out.own_lt.2 g e).2;omega
      ·refine (HB4.out.trans (HM5.out.below (by omega) (fun k hk e=>?_))).trans (HA6.out.2.1.below (by omega) (fun k hk e=>?_))
       ·rcases e with e | e
        ·omega
        ·have:=(HWL.out k e).1;omega
       ·have:=(HVL.out k e).1;omega
     case measure=>simp [intOf];omega
  ·obtain rfl:j = n:=by omega
   have htk:xs.take j = xs:=by rw [← HN.out];exact List.take_length
   have HTK:=J htk
   clear htk
   obtain ⟨A5,c5,kK,hoc,hcm5⟩:=blocks_cell HB.out
   unfold maxLen at hcm5
   have hrs:=HBW.out.size
   by_cases h0:o = []
   ·subst h0
    have hex:exprB xs = true:=by
     have h1:=HE.out
     rw [HTK.out] at h1
     unfold exprB
     rw [h1.1,h1.2]
     rfl
    have hle:=dR xs j
    obtain ⟨v2,w3,hr3,ha3⟩:=ar wr w.heap.size u6 out 11 HO.out (by omega) hrs
    have HR3:=J hr3
    have HA3:=J ha3
    have HVL:=J (fun g (h:u6.ownBlock = some g)=>HO.out.lt g h)
    have HEX:=J hex
    clear hr3 ha3 hex
    go_wp2_with (at_builtin;refine ag rfl (.tmp 34) (.tmp 35) 27 rfl _ _ _ w3 rfl rfl HR3.out ?_)
    go_ret2
    unfold cS
    rw [HEX.out,if_pos rfl]
    have e:out ++ [11] = l ++ exprEnc xs:=by rw [HD.out,HTK.out];simp [exprEnc]
    have h1:=HA3.out.1
    rw [e] at h1
    exact ⟨_,rfl,h1,HBW.out.trans (HA3.out.2.1.below hrs (fun k hk e=>by have:=(HVL.out k e).1;omega))⟩
   ·have hex:exprB xs = false:=by
     have h1:=HE.out
     rw [HTK.out] at h1
     unfold exprB
     rw [h1.1,h1.2]
     simp [h0]
    have HEX:=J hex
    have hpos:(0:Int) < (o.length:Int):=by have:=List.length_pos_iff.2 h0;omega
    clear hex h0
    go_wp2_with fail
    go_ret2
    exact dD HEX.out HBW.out
end Go.Proofs.YtmpelmihdpomjaaGreat
