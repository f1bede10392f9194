/-
  Layer 10's program: unreachable, return, drop, select, plain, memory.size and memory.grow. (gen/body/meth1.py)
-/
import Derived.Test.YtmpelmihdpomjaaGreatSo01
import Derived.Test.YtmpelmihdpomjaaGreatSo26
import Derived.Test.YtmpelmihdpomjaaGreatSo14
set_option maxRecDepth 100000
set_option maxHeartbeats 4000000
namespace Go.Proofs.YtmpelmihdpomjaaGreat
open Go.RowKit Ins Bin Sp
theorem aj.num {C:Ctx} {R P:Nat} {G:Nat → Prop} {o':List Bool} {w w':World} {r:Bo.R} {e:Ending} (h:aj C R P G o' w r e w'):∃ k:Int,e = .returned (.int .i64 k) ∧ aj C R P G o' w r (.returned (.int .i64 k)) w':=by
 cases r with
 | error n =>
  obtain ⟨rfl,h2⟩:=h
  exact ⟨_,rfl,rfl,h2⟩
 | ok s' =>
  obtain ⟨rfl,h2⟩:=h
  exact ⟨0,rfl,rfl,h2⟩
theorem aj.err {C:Ctx} {R P:Nat} {G:Nat → Prop} {o':List Bool} {w w':World} {r:Bo.R} {n:Nat} (hr:r = .error n) (h:Below C.B C.w0 w'):aj C R P G o' w r (.returned (.int .i64 ↑n)) w':=by
 subst hr
 exact ⟨rfl,h⟩
theorem aj.ok {C:Ctx} {R P:Nat} {G G':Nat → Prop} {o':List Bool} {w w':World} {r:Bo.R} {s':Ty.T} (hr:r = .ok s') (h:Wk C R P w' G' s' o') (hn:Nxt G w G' w'):aj C R P G o' w r (.returned (.int .i64 0)) w':=by
 subst hr
 exact ⟨rfl,_,h,hn⟩
theorem Wk.lit {C:Ctx} {R P:Nat} {w:World} {G:Nat → Prop} {s:Ty.T} {o:List Bool} (h:Wk C R P w G s o) (x:UInt8):Wk C R P (w.alloc (.cells #[.int .u8 ↑x.toNat] 5)) G s o ∧ Nxt G w G (w.alloc (.cells #[.int .u8 ↑x.toNat] 5)) ∧ aa (w.alloc (.cells #[.int .u8 ↑x.toNat] 5)) (Apt (w.alloc (.cells #[.int .u8 ↑x.toNat] 5)) G) [x] (.slice (some ⟨w.heap.size,0,none⟩) 1 1):=by
 have hb:Below w.heap.size w (w.alloc (.cells #[.int .u8 ↑x.toNat] 5)):=bA
 exact ⟨h.on hb,Nxt.of_below hb,h.fresh hb (lit1 w x)⟩
theorem Wk.i32 {C:Ctx} {R P n:Nat} {w:World} {G:Nat → Prop} {s:Ty.T} {o:List Bool} (h:Wk C R P w G s o) (hs:s.sm n) (hn:n ≤ 500000000) :
  Calls Tryz.prog 130 #[.pointer (some ⟨P,0,none⟩),.slice (some ⟨w.heap.size,0,none⟩) 1 1] (w.alloc (.cells #[.int .u8 127] 5)) fun e w'=>e = .returned (.bool (s.wantA [127])) ∧ ∃ G',Wk C R P w' G' (s.want [127]) o ∧ Nxt G w G' w':=by
 obtain ⟨h1,h2,h3⟩:=h.lit 127
 refine (fJ h1 hs hn [127] _ h3 (by decide)).mono ?_
 rintro e w' ⟨rfl,G',q1,q2⟩
 exact ⟨rfl,G',q1,h2.trans q2⟩
theorem fg {C:Ctx} {R P n:Nat} {w:World} {G:Nat → Prop} {s:Ty.T} {o:List Bool} (h:Wk C R P w G s o) (hs:s.sm n) (hn:n ≤ 400000000) (op a b:Nat) (c:Int) (A4:Option Addr) (l4 c4:Nat) :
  Calls Tryz.prog 106 #[.pointer (some ⟨R,0,none⟩),.agg #[.int .u8 ↑op,.int .u32 ↑a,.int .u32 ↑b,.int .i64 c,.slice A4 l4 c4]] w (aj C R P G o w (Bo.goes s [])):=by
 have HX0:=J (heap_alloc_new w (.cells #[.int .u8 ↑op,.int .u32 ↑a,.int .u32 ↑b,.int .i64 c,.slice A4 l4 c4] 56))
 have HB0:Hid (Below w.heap.size w (w.alloc (.cells #[.int .u8 ↑op,.int .u32 ↑a,.int .u32 ↑b,.int .i64 c,.slice A4 l4 c4] 56))):=J bA
 have H0:=J (h.on HB0.out)
 have HN0:Hid (Nxt G w G (w.alloc (.cells #[.int .u8 ↑op,.int .u32 ↑a,.int .u32 ↑b,.int .i64 c,.slice A4 l4 c4] 56))):=J (Nxt.of_below HB0.out)
 have HGX:Hid (¬ G w.heap.size ∧ w.heap.size < (w.alloc (.cells #[.int .u8 ↑op,.int .u32 ↑a,.int .u32 ↑b,.int .i64 c,.slice A4 l4 c4] 56)).heap.size):=J ⟨fun hg=>Nat.lt_irrefl _ (h.out _ hg).2,by simp⟩
 clear h
 go_enter Tryz.func106,Tryz.ntmps106
 go_upto_region 1 with fail
 generalize (w.alloc (.cells #[.int .u8 ↑op,.int .u32 ↑a,.int .u32 ↑b,.int .i64 c,.slice A4 l4 c4] 56)) = w0 at HX0 HB0 H0 HN0 HGX ⊢
 obtain ⟨X,hX⟩:∃ X,w.heap.size = X:=⟨_,rfl⟩
 rw [hX] at HX0 HGX
 simp only [hX]
 clear hX HB0
 obtain ⟨z0,z1,z2,z3,z4⟩:=cells5 HX0.out
 obtain ⟨q0,q1,q2,q3,q4,q5⟩:=H0.out.cells
 have HGO:=J (dk H0.out hs hn [] (.slice none 0 0) (aa.nil _ _) (by simp))
 clear hs hn
 go_wp2_with (go_at_call 133;refine (HGO.out).mono ?_;rintro e w9 he;obtain ⟨k,rfl,hk⟩:=he.num;have HK:=J hk;clear he hk)
 go_ret
 exact HK.out.ahead HN0.out
theorem bleave_any {C:Ctx} {R P n:Nat} {w:World} {G:Nat → Prop} {s:Ty.T} {o:List Bool} (hC:C.Good) (h:Wk C R P w G s o) (hs:s.sm n) (hn:n ≤ 400000000) (op a b:Nat) (c:Int) (A4:Option Addr) (l4 c4:Nat) :
  Calls Tryz.prog 105 #[.pointer (some ⟨R,0,none⟩),.agg #[.int .u8 ↑op,.int .u32 ↑a,.int .u32 ↑b,.int .i64 c,.slice A4 l4 c4]] w (aj C R P G o w (Bo.goes s C.rs)):=by
 have HX0:=J (heap_alloc_new w (.cells #[.int .u8 ↑op,.int .u32 ↑a,.int .u32 ↑b,.int .i64 c,.slice A4 l4 c4] 56))
 have HB0:Hid (Below w.heap.size w (w.alloc (.cells #[.int .u8 ↑op,.int .u32 ↑a,.int .u32 ↑b,.int .i64 c,.slice A4 l4 c4] 56))):=J bA
 have H0:=J (h.on HB0.out)
 have HN0:Hid (Nxt G w G (w.alloc (.cells #[.int .u8 ↑op,.int .u32 ↑a,.int .u32 ↑b,.int .i64 c,.slice A4 l4 c4] 56))):=J (Nxt.of_below HB0.out)
 have HGX:Hid (¬ G w.heap.size ∧ w.heap.size < (w.alloc (.cells #[.int .u8 ↑op,.int .u32 ↑a,.int .u32 ↑b,.int .i64 c,.slice A4 l4 c4] 56)).heap.size):=J ⟨fun hg=>Nat.lt_irrefl _ (h.out _ hg).2,by simp⟩
 have HV:=J (fun (W:World) (hW:Wk C R P W G s o)=>dk hW hs hn C.rs C.v2 (hW.old hC.rs) (by have:=hC.lr;omega))
 obtain ⟨A2,c2,e2,_⟩:=hC.rs
 rw [e2] at HV
 clear h hC hs hn
 go_enter Tryz.func105,Tryz.ntmps105
 go_upto_region 1 with fail
 generalize (w.alloc (.cells #[.int .u8 ↑op,.int .u32 ↑a,.int .u32 ↑b,.int .i64 c,.slice A4 l4 c4] 56)) = w0 at HX0 HB0 H0 HN0 HGX ⊢
 obtain ⟨X,hX⟩:∃ X,w.heap.size = X:=⟨_,rfl⟩
 rw [hX] at HX0 HGX
 simp only [hX]
 clear hX HB0
 obtain ⟨z0,z1,z2,z3,z4⟩:=cells5 HX0.out
 obtain ⟨q0,q1,q2,q3,q4,q5⟩:=H0.out.cells
 have HGO:=J (HV.out _ H0.out)
 clear HV
 rw [e2] at q2
 clear e2
 generalize C.rs.length = n2 at q2 HGO
 go_wp2_with (go_at_call 133;refine (HGO.out).mono ?_;rintro e w9 he;obtain ⟨k,rfl,hk⟩:=he.num;have HK:=J hk;clear he hk)
 go_ret
 exact HK.out.ahead HN0.out
theorem bdrop_any {C:Ctx} {R P n:Nat} {w:World} {G:Nat → Prop} {s:Ty.T} {o:List Bool} (h:Wk C R P w G s o) (hs:s.sm n) (hn:n ≤ 400000000) (op a b:Nat) (c:Int) (A4:Option Addr) (l4 c4:Nat) :
  Calls Tryz.prog 109 #[.pointer (some ⟨R,0,none⟩),.agg #[.int .u8 ↑op,.int .u32 ↑a,.int .u32 ↑b,.int .i64 c,.slice A4 l4 c4]] w (aj C R P G o w (Bo.drop s)):=by
 have HX0:=J (heap_alloc_new w (.cells #[.int .u8 ↑op,.int .u32 ↑a,.int .u32 ↑b,.int .i64 c,.slice A4 l4 c4] 56))
 have HB0:Hid (Below w.heap.size w (w.alloc (.cells #[.int .u8 ↑op,.int .u32 ↑a,.int .u32 ↑b,.int .i64 c,.slice A4 l4 c4] 56))):=J bA
 have H0:=J (h.on HB0.out)
 have HN0:Hid (Nxt G w G (w.alloc (.cells #[.int .u8 ↑op,.int .u32 ↑a,.int .u32 ↑b,.int .i64 c,.slice A4 l4 c4] 56))):=J (Nxt.of_below HB0.out)
 have HGX:Hid (¬ G w.heap.size ∧ w.heap.size < (w.alloc (.cells #[.int .u8 ↑op,.int .u32 ↑a,.int .u32 ↑b,.int .i64 c,.slice A4 l4 c4] 56)).heap.size):=J ⟨fun hg=>Nat.lt_irrefl _ (h.out _ hg).2,by simp⟩
 clear h
 go_enter Tryz.func109,Tryz.ntmps109
 go_upto_region 1 with fail
 generalize (w.alloc (.cells #[.int .u8 ↑op,.int .u32 ↑a,.int .u32 ↑b,.int .i64 c,.slice A4 l4 c4] 56)) = w0 at HX0 HB0 H0 HN0 HGX ⊢
 obtain ⟨X,hX⟩:∃ X,w.heap.size = X:=⟨_,rfl⟩
 rw [hX] at HX0 HGX
 simp only [hX]
 clear hX HB0
 obtain ⟨z0,z1,z2,z3,z4⟩:=cells5 HX0.out
 obtain ⟨q0,q1,q2,q3,q4,q5⟩:=H0.out.cells
 have hpo:=wk_pop H0.out hs (by omega)
 cases hp:s.popA.2 with
 | false =>
  rw [hp] at hpo
  have HT:Hid (Bo.drop s = .error 100):=J (by unfold Bo.drop;rw [hp];rfl)
  have HPO:=J hpo
  clear hpo hp hs hn
  go_wp2_with (go_at_call 135;refine HPO.out.mono ?_;rintro e w1 ⟨rfl,G1,h1,n1⟩;have H1:=J h1;have HN1:=J n1;clear h1 n1)
  go_ret
  exact aj.err HT.out (H0.out.below HN1.out)
 | true =>
  rw [hp] at hpo
  have HT:Hid (Bo.drop s = .ok s.pop):=J (by unfold Bo.drop;rw [hp];rfl)
  have HPO:=J hpo
  clear hpo hp hs hn
  go_wp2_with (go_at_call 135;refine HPO.out.mono ?_;rintro e w1 ⟨rfl,G1,h1,n1⟩;have H1:=J h1;have HN1:=J n1;clear h1 n1)
  go_ret
  exact aj.ok HT.out H1.out (HN0.out.trans HN1.out)
theorem cV {C:Ctx} {R P n:Nat} {w:World} {G:Nat → Prop} {s:Ty.T} {o:List Bool} (h:Wk C R P w G s o) (hs:s.sm n) (hn:n ≤ 400000000) (op a b:Nat) (c:Int) (A4:Option Addr) (l4 c4:Nat) :
  Calls Tryz.prog 117 #[.pointer (some ⟨R,0,none⟩),.agg #[.int .u8 ↑op,.int .u32 ↑a,.int .u32 ↑b,.int .i64 c,.slice A4 l4 c4]] w (aj C R P G o w (Bo.plain op s)):=by
 have HX0:=J (heap_alloc_new w (.cells #[.int .u8 ↑op,.int .u32 ↑a,.int .u32 ↑b,.int .i64 c,.slice A4 l4 c4] 56))
 have HB0:Hid (Below w.heap.size w (w.alloc (.cells #[.int .u8 ↑op,.int .u32 ↑a,.int .u32 ↑b,.int .i64 c,.slice A4 l4 c4] 56))):=J bA
 have H0:=J (h.on HB0.out)
 have HN0:Hid (Nxt G w G (w.alloc (.cells #[.int .u8 ↑op,.int .u32 ↑a,.int .u32 ↑b,.int .i64 c,.slice A4 l4 c4] 56))):=J (Nxt.of_below HB0.out)
 have HGX:Hid (¬ G w.heap.size ∧ w.heap.size < (w.alloc (.cells #[.int .u8 ↑op,.int .u32 ↑a,.int .u32 ↑b,.int .i64 c,.slice A4 l4 c4] 56)).heap.size):=J ⟨fun hg=>Nat.lt_irrefl _ (h.out _ hg).2,by simp⟩
 have HTU:Hid (∀ W v1 v2,Wk C R P W G s o → aa W (Apt W G) (Opc.sigP op) v1 → aa W (Apt W G) (Opc.sigR op) v2 → Calls Tryz.prog 134 #[.pointer (some ⟨R,0,none⟩),v1,v2] W (aj C R P G o W (Bo.plain op s))):=J (fun W v1 v2 hW h1 h2=>aP hW hs hn _ _ v1 v2 h1 h2 (by have:=(Bo.sig_len op).1;omega) (by have:=(Bo.sig_len op).2;omega))
 clear h hs hn
 go_enter Tryz.func117,Tryz.ntmps117
 go_upto_region 1 with fail
 generalize (w.alloc (.cells #[.int .u8 ↑op,.int .u32 ↑a,.int .u32 ↑b,.int .i64 c,.slice A4 l4 c4] 56)) = w0 at HX0 HB0 H0 HN0 HGX ⊢
 obtain ⟨X,hX⟩:∃ X,w.heap.size = X:=⟨_,rfl⟩
 rw [hX] at HX0 HGX
 simp only [hX]
 clear hX HB0
 obtain ⟨z0,z1,z2,z3,z4⟩:=cells5 HX0.out
 obtain ⟨q0,q1,q2,q3,q4,q5⟩:=H0.out.cells
 have HSG:=J (sigV_any (op:Int) w0)
 generalize Opc.sigP op = p1 at HTU HSG
 generalize Opc.sigR op = p2 at HTU HSG
 generalize Opc.plain op = pk at HSG
 go_wp2_with (first | (go_at_call 138;refine HSG.out.mono ?_;rintro e w1 ⟨A1,A2,rfl,s1,s2,hb⟩;have H1:=J (H0.out.on hb);have HV1:=J (H0.out.fresh hb s1);have HV2:=J (H0.out.fresh hb s2);have HN1:Hid (Nxt G w0 G w1):=J (Nxt.of_below hb);clear s1 s2 hb) | (go_at_call 134;refine (HTU.out _ _ _ H1.out HV1.out HV2.out).mono ?_;rintro e w9 he;obtain ⟨k,rfl,hk⟩:=he.num;have HK:=J hk;clear he hk))
 go_ret
 exact (HK.out.ahead HN1.out).ahead HN0.out
theorem dZ {C:Ctx} {R P n:Nat} {w:World} {G:Nat → Prop} {s:Ty.T} {o:List Bool} (hC:C.Good) (h:Wk C R P w G s o) (hs:s.sm n) (hn:n ≤ 400000000) (op a b:Nat) (c:Int) (A4:Option Addr) (l4 c4:Nat) :
  Calls Tryz.prog 114 #[.pointer (some ⟨R,0,none⟩),.agg #[.int .u8 ↑op,.int .u32 ↑a,.int .u32 ↑b,.int .i64 c,.slice A4 l4 c4]] w (aj C R P G o w (Bo.pages C.env op s)):=by
 have HX0:=J (heap_alloc_new w (.cells #[.int .u8 ↑op,.int .u32 ↑a,.int .u32 ↑b,.int .i64 c,.slice A4 l4 c4] 56))
 have HB0:Hid (Below w.heap.size w (w.alloc (.cells #[.int .u8 ↑op,.int .u32 ↑a,.int .u32 ↑b,.int .i64 c,.slice A4 l4 c4] 56))):=J bA
 have H0:=J (h.on HB0.out)
 have HN0:Hid (Nxt G w G (w.alloc (.cells #[.int .u8 ↑op,.int .u32 ↑a,.int .u32 ↑b,.int .i64 c,.slice A4 l4 c4] 56))):=J (Nxt.of_below HB0.out)
 have HGX:Hid (¬ G w.heap.size ∧ w.heap.size < (w.alloc (.cells #[.int .u8 ↑op,.int .u32 ↑a,.int .u32 ↑b,.int .i64 c,.slice A4 l4 c4] 56)).heap.size):=J ⟨fun hg=>Nat.lt_irrefl _ (h.out _ hg).2,by simp⟩
 have HM:=J (fun (W:World) (hW:Wk C R P W G s o)=>dw (some ⟨C.sp,0,none⟩) C.m 0 W (.inl ⟨C.sp,rfl,hC.space.grow hW.base⟩) (Lots.some hC.few) (by omega))
 have HPL:Hid (∀ W G1,Wk C R P W G1 s o → Calls Tryz.prog 117 #[.pointer (some ⟨R,0,none⟩),.agg #[.int .u8 ↑op,.int .u32 ↑a,.int .u32 ↑b,.int .i64 c,.slice A4 l4 c4]] W (aj C R P G1 o W (Bo.plain op s))):=J (fun W G1 hW=>cV hW hs hn op a b c A4 l4 c4)
 clear h hs hn hC
 go_enter Tryz.func114,Tryz.ntmps114
 go_upto_region 1 with fail
 generalize (w.alloc (.cells #[.int .u8 ↑op,.int .u32 ↑a,.int .u32 ↑b,.int .i64 c,.slice A4 l4 c4] 56)) = w0 at HX0 HB0 H0 HN0 HGX ⊢
 obtain ⟨X,hX⟩:∃ X,w.heap.size = X:=⟨_,rfl⟩
 rw [hX] at HX0 HGX
 simp only [hX]
 clear hX HB0
 obtain ⟨z0,z1,z2,z3,z4⟩:=cells5 HX0.out
 obtain ⟨q0,q1,q2,q3,q4,q5⟩:=H0.out.cells
 have hm:=HM.out _ H0.out
 clear HM
 unfold bR at hm
 have HE:Hid (C.env.mem = ((mems C.m)[0]?).isSome):=J rfl
 obtain ⟨y1,y2,hy⟩:∃ y1 y2:Int,limArr (((mems C.m)[0]?).getD ⟨0,0⟩) = #[.int .u32 y1,.int .i64 y2]:=⟨_,_,rfl⟩
 rw [hy] at hm
 clear hy
 cases hp:((mems C.m)[0]?).isSome with
 | false =>
  rw [hp] at hm HE
  have HT:Hid (Bo.pages C.env op s = .error 80):=J (by unfold Bo.pages;rw [HE.out];rfl)
  have HM:=J hm
  clear hm hp
  go_wp2_with (go_at_call 63;refine HM.out.mono ?_;rintro e w1 ⟨rfl,hb⟩;have HB1:=J hb;clear hb)
  go_ret
  exact aj.err HT.out (H0.out.on (HB1.out.alloc HB1.out.size _)).base
 | true =>
  rw [hp] at hm HE
  have HT:Hid (Bo.pages C.env op s = Bo.plain op s):=J (by unfold Bo.pages;rw [HE.out];rfl)
  have HM:=J hm
  clear hm hp
  go_wp2_with (first | (go_at_call 63;refine HM.out.mono ?_;rintro e w1 ⟨rfl,hb⟩;have hb2:Below w0.heap.size w0 (w1.alloc (.cells #[.int .u32 y1,.int .i64 y2] 66)):=hb.alloc hb.size _;obtain ⟨x0,x1,x2,x3,x4⟩:=cells5 ((hb2.block X HGX.out.2).trans HX0.out);have HB1:=J hb2;clear hb hb2) | (go_at_call 117;refine (HPL.out _ _ (H0.out.on HB1.out)).mono ?_;rintro e w9 he;obtain ⟨k,rfl,hk⟩:=he.num;have HK:=J hk;clear he hk))
  go_ret
  rw [HT.out]
  exact (HK.out.ahead (Nxt.of_below HB1.out)).ahead HN0.out
theorem Bo.sm_label {s:Ty.T} {n k:Nat} {l:List UInt8} (h:s.sm n) (hl:s.labelA k = some l):l.length ≤ n:=by
 unfold Ty.T.labelA at hl
 rw [Option.map_eq_some_iff] at hl
 obtain ⟨f,hf,rfl⟩:=hl
 exact (h.2.2.2 f (by have:=List.mem_of_getElem? hf;simpa using this)).1
theorem bbr_any {C:Ctx} {R P n:Nat} {w:World} {G:Nat → Prop} {s:Ty.T} {o:List Bool} (h:Wk C R P w G s o) (hs:s.sm n) (hn:n ≤ 400000000) (op a b:Nat) (c:Int) (A4:Option Addr) (l4 c4:Nat) (ha:a < 4294967296) :
  Calls Tryz.prog 102 #[.pointer (some ⟨R,0,none⟩),.agg #[.int .u8 ↑op,.int .u32 ↑a,.int .u32 ↑b,.int .i64 c,.slice A4 l4 c4]] w (aj C R P G o w (Bo.br a s)):=by
 have HX0:=J (heap_alloc_new w (.cells #[.int .u8 ↑op,.int .u32 ↑a,.int .u32 ↑b,.int .i64 c,.slice A4 l4 c4] 56))
 have HB0:Hid (Below w.heap.size w (w.alloc (.cells #[.int .u8 ↑op,.int .u32 ↑a,.int .u32 ↑b,.int .i64 c,.slice A4 l4 c4] 56))):=J bA
 have H0:=J (h.on HB0.out)
 have HN0:Hid (Nxt G w G (w.alloc (.cells #[.int .u8 ↑op,.int .u32 ↑a,.int .u32 ↑b,.int .i64 c,.slice A4 l4 c4] 56))):=J (Nxt.of_below HB0.out)
 have HGX:Hid (¬ G w.heap.size ∧ w.heap.size < (w.alloc (.cells #[.int .u8 ↑op,.int .u32 ↑a,.int .u32 ↑b,.int .i64 c,.slice A4 l4 c4] 56)).heap.size):=J ⟨fun hg=>Nat.lt_irrefl _ (h.out _ hg).2,by simp⟩
 clear h
 go_enter Tryz.func102,Tryz.ntmps102
 go_upto_region 1 with fail
 generalize (w.alloc (.cells #[.int .u8 ↑op,.int .u32 ↑a,.int .u32 ↑b,.int .i64 c,.slice A4 l4 c4] 56)) = w0 at HX0 HB0 H0 HN0 HGX ⊢
 obtain ⟨X,hX⟩:∃ X,w.heap.size = X:=⟨_,rfl⟩
 rw [hX] at HX0 HGX
 simp only [hX]
 clear hX HB0
 obtain ⟨z0,z1,z2,z3,z4⟩:=cells5 HX0.out
 obtain ⟨q0,q1,q2,q3,q4,q5⟩:=H0.out.cells
 have HCC:=J (fun W (hb:Below w0.heap.size w0 W)=>And.intro (cells5 ((hb.block X HGX.out.2).trans HX0.out)) (H0.out.on hb).cells)
 clear z0 z1 z2 z3 z4 q0 q1 q2 q3 q4 q5
 have HLB:=J (fun W (hb:Below w0.heap.size w0 W)=>cB (H0.out.on hb) hs (by omega) a ha)
 cases hl:s.labelA a with
 | none =>
  rw [hl] at HLB
  have HT:Hid (Bo.br a s = .error 101):=J (by unfold Bo.br;rw [hl])
  clear hl hs hn ha
  go_upto_region 1 with fail
  refine wp_region_held_drew (S:=fun W'=>Below w0.heap.size w0 W') (by kernel_rfl) (Below.drew (Below.refl _ _)) (fun hHeld=>?_)
  refine da1 0 rfl ?_
  refine da1 1 rfl ?_
  refine da1 2 rfl ?_
  refine da1 3 rfl ?_
  refine da1 4 rfl ?_
  refine da1 5 rfl ?_
  refine dA 6 rfl fun K hK=>?_
  go_simp
  refine (HLB.out _ hHeld).mono ?_
  rintro e w1 ⟨he,hb⟩
  obtain rfl:e = .returned (.tuple #[.slice none 0 0,.bool false]):=he
  have hH:Below w0.heap.size w0 w1:=hHeld.trans (hb.mono hHeld.size)
  have HW1:=J hH
  clear hb
  go_wp2_with fail
  refine hK.out _ _ (hH) fun hHeld=>?_
  clear hK K
  refine dW 7 rfl ?_
  refine dW 8 rfl ?_
  refine dW 9 rfl ?_
  refine dW 10 rfl ?_
  refine dW 11 rfl ?_
  refine dN ?_
  go_wp2_with fail
  go_ret
  exact aj.err HT.out (H0.out.on HW1.out).base
 | some l =>
  rw [hl] at HLB
  have hll:=Bo.sm_label hs hl
  have HT:Hid (Bo.br a s = Bo.goes s l):=J (by unfold Bo.br;rw [hl])
  have HGO:=J (fun W v (hW:Below w0.heap.size w0 W) (hv:aa W (Apt W G) l v)=>dk (H0.out.on hW) hs hn l v hv (by omega))
  clear hl hs hn ha hll
  go_upto_region 1 with fail
  refine wp_region_held_drew (S:=fun W'=>Below w0.heap.size w0 W') (by kernel_rfl) (Below.drew (Below.refl _ _)) (fun hHeld=>?_)
  refine da1 0 rfl ?_
  refine da1 1 rfl ?_
  refine da1 2 rfl ?_
  refine da1 3 rfl ?_
  refine da1 4 rfl ?_
  refine da1 5 rfl ?_
  refine dA 6 rfl fun K hK=>?_
  go_simp
  have hz:=hHeld.size
  refine (HLB.out _ hHeld).mono ?_
  rintro e w1 ⟨⟨A1,c1,rfl,hv⟩,hb⟩
  have hH:Below w0.heap.size w0 w1:=hHeld.trans (hb.mono hHeld.size)
  have HW1:=J hH
  have HV1:Hid (aa w1 (Apt w1 G) l (.slice A1 l.length c1)):=J (H0.out.fresh hH (hv.more (fun k _ hk=>Nat.le_trans hz hk)))
  clear hb hv hz
  go_wp2_with fail
  refine hK.out _ _ (hH) fun hHeld=>?_
  clear hK K
  refine dW 7 rfl ?_
  refine dW 8 rfl ?_
  refine dW 9 rfl ?_
  refine dW 10 rfl ?_
  refine dW 11 rfl ?_
  refine dN ?_
  go_wp2_with (go_at_call 133;refine (HGO.out _ _ HW1.out HV1.out).mono ?_;rintro e w9 he;obtain ⟨k,rfl,hk⟩:=he.num;have HK:=J hk;clear he hk)
  go_ret
  rw [HT.out]
  exact (HK.out.ahead (Nxt.of_below HW1.out)).ahead HN0.out
theorem bbrIf_any {C:Ctx} {R P n:Nat} {w:World} {G:Nat → Prop} {s:Ty.T} {o:List Bool} (h:Wk C R P w G s o) (hs:s.sm n) (hn:n ≤ 400000000) (op a b:Nat) (c:Int) (A4:Option Addr) (l4 c4:Nat) (ha:a < 4294967296) :
  Calls Tryz.prog 103 #[.pointer (some ⟨R,0,none⟩),.agg #[.int .u8 ↑op,.int .u32 ↑a,.int .u32 ↑b,.int .i64 c,.slice A4 l4 c4]] w (aj C R P G o w (Bo.brIf a s)):=by
 have HX0:=J (heap_alloc_new w (.cells #[.int .u8 ↑op,.int .u32 ↑a,.int .u32 ↑b,.int .i64 c,.slice A4 l4 c4] 56))
 have HB0:Hid (Below w.heap.size w (w.alloc (.cells #[.int .u8 ↑op,.int .u32 ↑a,.int .u32 ↑b,.int .i64 c,.slice A4 l4 c4] 56))):=J bA
 have H0:=J (h.on HB0.out)
 have HN0:Hid (Nxt G w G (w.alloc (.cells #[.int .u8 ↑op,.int .u32 ↑a,.int .u32 ↑b,.int .i64 c,.slice A4 l4 c4] 56))):=J (Nxt.of_below HB0.out)
 have HGX:Hid (¬ G w.heap.size ∧ w.heap.size < (w.alloc (.cells #[.int .u8 ↑op,.int .u32 ↑a,.int .u32 ↑b,.int .i64 c,.slice A4 l4 c4] 56)).heap.size):=J ⟨fun hg=>Nat.lt_irrefl _ (h.out _ hg).2,by simp⟩
 clear h
 go_enter Tryz.func103,Tryz.ntmps103
 go_upto_region 1 with fail
 generalize (w.alloc (.cells #[.int .u8 ↑op,.int .u32 ↑a,.int .u32 ↑b,.int .i64 c,.slice A4 l4 c4] 56)) = w0 at HX0 HB0 H0 HN0 HGX ⊢
 obtain ⟨X,hX⟩:∃ X,w.heap.size = X:=⟨_,rfl⟩
 rw [hX] at HX0 HGX
 simp only [hX]
 clear hX HB0
 obtain ⟨z0,z1,z2,z3,z4⟩:=cells5 HX0.out
 obtain ⟨q0,q1,q2,q3,q4,q5⟩:=H0.out.cells
 have HCC:=J (fun W (hb:Below w0.heap.size w0 W)=>And.intro (cells5 ((hb.block X HGX.out.2).trans HX0.out)) (H0.out.on hb).cells)
 clear z0 z1 z2 z3 z4 q0 q1 q2 q3 q4 q5
 have HLB:=J (fun W (hb:Below w0.heap.size w0 W)=>cB (H0.out.on hb) hs (by omega) a ha)
 cases hl:s.labelA a with
 | none =>
  rw [hl] at HLB
  have HT:Hid (Bo.brIf a s = .error 101):=J (by unfold Bo.brIf;rw [hl])
  clear hl hs hn ha
  go_upto_region 1 with fail
  refine wp_region_held_drew (S:=fun W'=>Below w0.heap.size w0 W') (by kernel_rfl) (Below.drew (Below.refl _ _)) (fun hHeld=>?_)
  refine da1 0 rfl ?_
  refine da1 1 rfl ?_
  refine da1 2 rfl ?_
  refine da1 3 rfl ?_
  refine da1 4 rfl ?_
  refine da1 5 rfl ?_
  refine dA 6 rfl fun K hK=>?_
  go_simp
  refine (HLB.out _ hHeld).mono ?_
  rintro e w1 ⟨he,hb⟩
  obtain rfl:e = .returned (.tuple #[.slice none 0 0,.bool false]):=he
  have hH:Below w0.heap.size w0 w1:=hHeld.trans (hb.mono hHeld.size)
  have HW1:=J hH
  clear hb
  go_wp2_with fail
  refine hK.out _ _ (hH) fun hHeld=>?_
  clear hK K
  refine dW 7 rfl ?_
  refine dW 8 rfl ?_
  refine dW 9 rfl ?_
  refine dW 10 rfl ?_
  refine dW 11 rfl ?_
  refine dN ?_
  go_wp2_with fail
  go_ret
  exact aj.err HT.out (H0.out.on HW1.out).base
 | some l =>
  rw [hl] at HLB
  have hll:=Bo.sm_label hs hl
  have hwa:=fun W (hW:Below w0.heap.size w0 W)=>Wk.i32 (H0.out.on hW) hs (by omega)
  cases hw:s.wantA [127] with
  | false =>
   rw [hw] at hwa
   have HWA:=J hwa
   have HT:Hid (Bo.brIf a s = .error 100):=J (by unfold Bo.brIf;rw [hl];dsimp only;rw [hw];rfl)
   clear hl hs hn ha hll hw hwa
   go_upto_region 1 with fail
   refine wp_region_held_drew (S:=fun W'=>Below w0.heap.size w0 W') (by kernel_rfl) (Below.drew (Below.refl _ _)) (fun hHeld=>?_)
   refine da1 0 rfl ?_
   refine da1 1 rfl ?_
   refine da1 2 rfl ?_
   refine da1 3 rfl ?_
   refine da1 4 rfl ?_
   refine da1 5 rfl ?_
   refine dA 6 rfl fun K hK=>?_
   go_simp
   have hz:=hHeld.size
   refine (HLB.out _ hHeld).mono ?_
   rintro e w1 ⟨⟨A1,c1,rfl,hv⟩,hb⟩
   have hH:Below w0.heap.size w0 w1:=hHeld.trans (hb.mono hHeld.size)
   have HW1:=J hH
   have HV1:Hid (aa w1 (Apt w1 G) l (.slice A1 l.length c1)):=J (H0.out.fresh hH (hv.more (fun k _ hk=>Nat.le_trans hz hk)))
   clear hb hv hz
   go_wp2_with fail
   refine hK.out _ _ (hH) fun hHeld=>?_
   clear hK K
   refine dW 7 rfl ?_
   refine dW 8 rfl ?_
   refine dW 9 rfl ?_
   refine dW 10 rfl ?_
   refine dW 11 rfl ?_
   refine dN ?_
   obtain ⟨⟨x0,x1,x2,x3,x4⟩,y0,y1,y2,y3,y4,y5⟩:=HCC.out w1 HW1.out
   go_wp2_with (go_at_call 130;refine (HWA.out _ HW1.out).mono ?_;rintro e w2 ⟨rfl,G2,h2,n2⟩;have H2:=J h2;have HN2:=J n2;clear h2 n2)
   go_ret
   exact aj.err HT.out ((H0.out.on HW1.out).below HN2.out)
  | true =>
   rw [hw] at hwa
   have HWA:=J hwa
   have HT:Hid (Bo.brIf a s = Bo.turned (s.want [127]) l l):=J (by unfold Bo.brIf;rw [hl];dsimp only;rw [hw];rfl)
   have HTU:=J (fun W G2 v (hW:Wk C R P W G2 (s.want [127]) o) (hv:aa W (Apt W G2) l v)=>aP hW (Ty.sm_want hs _) hn l l v v hv hv (by omega) (by omega))
   clear hl hs hn ha hll hw hwa
   go_upto_region 1 with fail
   refine wp_region_held_drew (S:=fun W'=>Below w0.heap.size w0 W') (by kernel_rfl) (Below.drew (Below.refl _ _)) (fun hHeld=>?_)
   refine da1 0 rfl ?_
   refine da1 1 rfl ?_
   refine da1 2 rfl ?_
   refine da1 3 rfl ?_
   refine da1 4 rfl ?_
   refine da1 5 rfl ?_
   refine dA 6 rfl fun K hK=>?_
   go_simp
   have hz:=hHeld.size
   refine (HLB.out _ hHeld).mono ?_
   rintro e w1 ⟨⟨A1,c1,rfl,hv⟩,hb⟩
   have hH:Below w0.heap.size w0 w1:=hHeld.trans (hb.mono hHeld.size)
   have HW1:=J hH
   have HV1:Hid (aa w1 (Apt w1 G) l (.slice A1 l.length c1)):=J (H0.out.fresh hH (hv.more (fun k _ hk=>Nat.le_trans hz hk)))
   clear hb hv hz
   go_wp2_with fail
   refine hK.out _ _ (hH) fun hHeld=>?_
   clear hK K
   refine dW 7 rfl ?_
   refine dW 8 rfl ?_
   refine dW 9 rfl ?_
   refine dW 10 rfl ?_
   refine dW 11 rfl ?_
   refine dN ?_
   obtain ⟨⟨x0,x1,x2,x3,x4⟩,y0,y1,y2,y3,y4,y5⟩:=HCC.out w1 HW1.out
   go_wp2_with (first | (go_at_call 130;refine (HWA.out _ HW1.out).mono ?_;rintro e w2 ⟨rfl,G2,h2,n2⟩;have H2:=J h2;have HN2:=J n2;clear h2 n2) | (go_at_call 134;refine (HTU.out _ _ _ H2.out (Apt.next HV1.out HN2.out)).mono ?_;rintro e w9 he;obtain ⟨k,rfl,hk⟩:=he.num;have HK:=J hk;clear he hk))
   go_ret
   rw [HT.out]
   exact ((HK.out.ahead HN2.out).ahead (Nxt.of_below HW1.out)).ahead HN0.out
end Go.Proofs.YtmpelmihdpomjaaGreat
