/-
  Layer 12: what Check, Hosts and Find tell, as contracts; how great a module may be that the statements go through.
-/
import Derived.Test.YtmpelmihdpomjaaGreatSo01
import Derived.Test.YtmpelmihdpomjaaGreatSo08
import Derived.Test.YtmpelmihdpomjaaGreatSo22
import Derived.Test.YtmpelmihdpomjaaGreatSo21
set_option maxRecDepth 100000
set_option maxHeartbeats 4000000
namespace Ru
structure Hst where
 name:List UInt8
 type:Bin.FT
def hosts:List Hst:=host.map fun h=>⟨h.1,h.2⟩
end Ru
namespace Go.Proofs.YtmpelmihdpomjaaGreat
open Go.RowKit Ins Bin Sp
instance : Lay Ru.Hst where
 size:=3
 rep w S x cs:=∃ u v,cs = [strV x.name,u,v] ∧ aa w S x.type.params u ∧ aa w S x.type.results v
 len h:=by obtain ⟨u,v,rfl,_⟩:=h;rfl
 mod h hm hd:=by obtain ⟨u,v,h1,h2,h3⟩:=h;exact ⟨u,v,h1,h2.mod hm hd,h3.mod hm hd⟩
 more h hs:=by obtain ⟨u,v,h1,h2,h3⟩:=h;exact ⟨u,v,h1,h2.more hs,h3.more hs⟩
def FitR (m:M):Prop:=FitV m ∧ ∀ x ∈ m.imports,x.mod.length ≤ 1050000 ∧ x.name.length ≤ 1050000
def RuleOk:Prop:=∀ (m:M) (v1 v2 v3 v4 v5 v6 v7 v8 v9 v10:Value) (w:World),RepM w (· < w.heap.size) m v1 v2 v3 v4 v5 v6 v7 v8 v9 v10 → FitR m → Calls Tryz.prog 13 #[.agg (modCells m v1 v2 v3 v4 v5 v6 v7 v8 v9 v10)] w fun e w'=>e = .returned (.int .i64 (Ru.check m:Int)) ∧ Below w.heap.size w w'
def FindOk:Prop:=∀ (nm:List UInt8) (w:World),Calls Tryz.prog 10 #[strV nm] w fun e w'=>e = .returned (.tuple #[.int .i64 (((Ru.find nm).getD 0:Nat):Int),.bool (Ru.find nm).isSome]) ∧ Below w.heap.size w w'
def HostsOk:Prop:=∀ (w:World),Calls Tryz.prog 7 #[] w fun e w'=>∃ v,e = .returned v ∧ aa w' (w.heap.size ≤ ·) Ru.hosts v ∧ Below w.heap.size w w'
theorem many_tot:∀ (xs:List I),xs.length ≤ Ins.many xs
 | []=>by simp
 | x :: xs=>by have:=many_tot xs;simp only [Ins.many,List.length_cons];omega
theorem cC {xs:List I} (h:Ins.many xs ≤ 200000):FewI xs:=⟨by have:=many_tot xs;omega,by have:=tot_many xs;omega⟩
theorem fitV_small {m:M} (h:Small m):FitV m:=by
 obtain ⟨a1,a2,a3,a4,a5,a6,a7,a8,a9,a10⟩:=h.lens
 exact ⟨⟨by omega,by omega,by omega,by omega,by omega,by omega,by omega,fun x hx=>⟨by have:=(h.types x hx).1;omega,by have:=(h.types x hx).2;omega⟩⟩,fun x hx=>by have:=h.exports x hx;omega,fun x hx=>cC (h.globals x hx),
  ⟨by omega,fun x hx=>⟨cC (h.elems x hx).1,by have:=(h.elems x hx).2;omega⟩⟩,⟨by omega,fun x hx=>⟨by have:=(h.codes x hx).1;omega,cC (h.codes x hx).2⟩⟩,⟨by omega,fun x hx=>⟨cC (h.datas x hx).1,by have:=(h.datas x hx).2;omega⟩⟩⟩
theorem fitR_small {m:M} (h:Small m):FitR m:=⟨fitV_small h,fun x hx=>by have:=h.imports x hx;omega⟩
theorem dj {m:M} (h:wtM m ≤ 1048576):FitR m:=⟨fitV_of h,fun x hx=>by
 have e:x.mod.length + x.name.length + 1 ≤ wts m.imports:=bM hx
 unfold wtM at h
 omega⟩
theorem des_host:(Tryz.prog.underlying 31).map aggS = some true:=by kernel_rfl
theorem siz_host:(Tryz.prog.info? 31).map (·.size) = some 3:=by kernel_rfl
def Hs (w W:World) (fs:List (List UInt8 × Value)):Prop:=Below w.heap.size w W ∧ ∀ p ∈ fs,aa W (w.heap.size ≤ ·) p.1 p.2
theorem Hs.nil (w:World):Hs w w []:=⟨Below.refl _ _,nofun⟩
theorem Hs.call {w W W':World} {fs:List (List UInt8 × Value)} (h:Hs w W fs) (hb:Below W.heap.size W W'):Hs w W' fs :=
 ⟨h.1.trans (hb.mono h.1.size),fun p hp=>(h.2 p hp).mod (T:=fun _=>False) (Mod.of_below hb) (fun _ _ _ h=>h)⟩
theorem Hs.litAt {w W:World} {fs:List (List UInt8 × Value)} (h:Hs w W fs) (l:List UInt8) (cs:Array Value) (n k:Nat) (hk:W.heap.size = k) (hc:(l.map fun x=>Value.int .u8 ↑x.toNat).toArray = cs) (hn:l.length = n) (hl:n ≤ 1000) :
  Hs w (W.alloc (.cells cs 5)) ((l,.slice (some ⟨k,0,none⟩) n n) :: fs):=by
 have hb:Below W.heap.size W (W.alloc (.cells cs 5)):=bA
 refine ⟨h.1.alloc h.1.size _,fun p hp=>?_⟩
 rcases List.mem_cons.1 hp with rfl | hp
 ·subst hk
  refine litV (α:=UInt8) (l.map fun x=>(x,[Value.int .u8 ↑x.toNat])) (heap_alloc_new W _) h.1.size (fun y hy=>?_) ?_ (by rw [List.map_map];simp [Function.comp_def]) n (by simp [hn]) hl
  ·obtain ⟨x,_,rfl⟩:=List.mem_map.1 hy
   rfl
  ·rw [← hc]
   congr 1
   rw [List.flatMap_map]
   clear hc hn hp h hb
   induction l with
   | nil=>rfl
   | cons x l ih=>simp [ih]
 ·exact (h.call hb).2 p hp
theorem Hs.lit {w W:World} {fs:List (List UInt8 × Value)} (h:Hs w W fs) (l:List UInt8) (cs:Array Value) (n:Nat) (hc:(l.map fun x=>Value.int .u8 ↑x.toNat).toArray = cs) (hn:l.length = n) (hl:n ≤ 1000) :
  Hs w (W.alloc (.cells cs 5)) ((l,.slice (some ⟨W.heap.size,0,none⟩) n n) :: fs):=h.litAt l cs n _ rfl hc hn hl
theorem aB (A:Option Addr) (n c:Nat) (w:World):Calls Tryz.prog 17 #[.slice A n c] w fun e w'=>e = .returned (.slice A n c) ∧ w = w':=by
 go_enter Tryz.func17,Tryz.ntmps17
 go_wp2_with fail
 go_ret
 exact ⟨rfl,rfl⟩
theorem az (s:ByteArray) (A B:Option Addr) (n c k d:Nat) (w:World):Calls Tryz.prog 16 #[.string s,.slice A n c,.slice B k d] w fun e w'=>e = .returned (.agg #[.string s,.slice A n c,.slice B k d]) ∧ Below w.heap.size w w':=by
 obtain ⟨D,hu,hd⟩:=descOf des_host
 have HU:=J hu
 have HD:=J hd
 clear hu hd
 have HZ0:=J (heap_alloc_new w (.cells #[.string ⟨#[]⟩,.slice none 0 0,.slice none 0 0] 31))
 have HB0:Hid (Below w.heap.size w (w.alloc (.cells #[.string ⟨#[]⟩,.slice none 0 0,.slice none 0 0] 31))):=J bA
 go_enter Tryz.func16,Tryz.ntmps16
 go_upto_region 1 with fail
 generalize w.alloc (.cells #[.string ⟨#[]⟩,.slice none 0 0,.slice none 0 0] 31) = w0 at HZ0 HB0 ⊢
 obtain ⟨Y,hY⟩:∃ Y,w.heap.size = Y:=⟨_,rfl⟩
 rw [hY] at HZ0
 have HY:Hid (w.heap.size = Y):=J hY
 simp only [hY]
 clear hY
 go_wp2_with (refine ah rfl 31 (.tmp 6) (.tmp 11) rfl rfl Y #[.string s,.slice A n c,.slice B k d] rfl rfl 31 #[.string ⟨#[]⟩,.slice none 0 0,.slice none 0 0] HZ0.out siz_host rfl (by simp [Value.oneCell']) ?_)
 refine bodyPost_ret (v:=.agg #[.string s,.slice A n c,.slice B k d]) (bv (p:=6) (ty:=31) (by kernel_rfl) _ _ Y 31 #[.string s,.slice A n c,.slice B k d] (0,0) D rfl (setRow_heap _ _ #[.string ⟨#[]⟩,.slice none 0 0,.slice none 0 0] _ _ _ HZ0.out) HU.out HD.out siz_host) rfl ?_
 exact ⟨rfl,ab HB0.out (Nat.le_of_eq HY.out) _⟩
theorem bZ:HostsOk:=by
 intro w
 have HS:=J (Hs.nil w)
 go_enter Tryz.func7,Tryz.ntmps7
 go_wp2_with fail
 refine (az _ _ _ _ _ _ _ _).mono ?_
 rintro e w1 ⟨rfl,hb⟩
 have HS1:=J (Hs.call (HS.out.lit [127] _ 1 rfl rfl (by decide)) hb)
 clear HS hb
 have HS:=HS1
 clear HS1
 go_wp2_with fail
 refine (aB _ _ _ _).mono ?_
 rintro e w2 ⟨rfl,rfl⟩
 go_wp2_with fail
 refine (az _ _ _ _ _ _ _ _).mono ?_
 rintro e w2 ⟨rfl,hb⟩
 have HS1:=J (Hs.call (HS.out.lit [127,127,127] _ 3 rfl rfl (by decide)) hb)
 clear HS hb
 have HS:=HS1
 clear HS1
 go_wp2_with fail
 refine (aB _ _ _ _).mono ?_
 rintro e w3 ⟨rfl,rfl⟩
 go_wp2_with fail
 refine (az _ _ _ _ _ _ _ _).mono ?_
 rintro e w3 ⟨rfl,hb⟩
 have HS1:=J (Hs.call (HS.out.lit [127] _ 1 rfl rfl (by decide)) hb)
 clear HS hb
 have HS:=HS1
 clear HS1
 go_wp2_with fail
 refine (aB _ _ _ _).mono ?_
 rintro e w4 ⟨rfl,rfl⟩
 go_wp2_with fail
 refine (az _ _ _ _ _ _ _ _).mono ?_
 rintro e w4 ⟨rfl,hb⟩
 have HS1:=J (Hs.call (HS.out.lit [127] _ 1 rfl rfl (by decide)) hb)
 clear HS hb
 have HS:=HS1
 clear HS1
 go_wp2_with fail
 refine (az _ _ _ _ _ _ _ _).mono ?_
 rintro e w5 ⟨rfl,hb⟩
 have HS1:=J (Hs.call (HS.out.lit [126] _ 1 rfl rfl (by decide)) hb)
 clear HS hb
 have HS:=HS1
 clear HS1
 go_wp2_with fail
 refine (aB _ _ _ _).mono ?_
 rintro e w6 ⟨rfl,rfl⟩
 go_wp2_with fail
 refine (az _ _ _ _ _ _ _ _).mono ?_
 rintro e w6 ⟨rfl,hb⟩
 have HS1:=J (Hs.call ((HS.out.lit [127] _ 1 rfl rfl (by decide)).litAt [126] _ 1 (w5.heap.size + 1) (by simp) rfl rfl (by decide)) hb)
 clear HS hb
 have HS:=HS1
 clear HS1
 go_wp2_with fail
 refine (aB _ _ _ _).mono ?_
 rintro e w7 ⟨rfl,rfl⟩
 go_wp2_with fail
 refine (az _ _ _ _ _ _ _ _).mono ?_
 rintro e w7 ⟨rfl,hb⟩
 have HS1:=J (Hs.call ((HS.out.lit [127,127,127,127] _ 4 rfl rfl (by decide)).litAt [127] _ 1 (w6.heap.size + 1) (by simp) rfl rfl (by decide)) hb)
 clear HS hb
 have HS:=HS1
 clear HS1
 go_wp2_with fail
 refine (aB _ _ _ _).mono ?_
 rintro e w8 ⟨rfl,rfl⟩
 go_wp2_with fail
 refine (az _ _ _ _ _ _ _ _).mono ?_
 rintro e w8 ⟨rfl,hb⟩
 have HS1:=J (Hs.call (HS.out.lit [127,127,127,127] _ 4 rfl rfl (by decide)) hb)
 clear HS hb
 have HS:=HS1
 clear HS1
 go_wp2_with fail
 refine (aB _ _ _ _).mono ?_
 rintro e w9 ⟨rfl,rfl⟩
 go_wp2_with fail
 refine (az _ _ _ _ _ _ _ _).mono ?_
 rintro e w9 ⟨rfl,hb⟩
 have HS1:=J (Hs.call ((HS.out.lit [127,127] _ 2 rfl rfl (by decide)).litAt [127] _ 1 (w8.heap.size + 1) (by simp) rfl rfl (by decide)) hb)
 clear HS hb
 have HS:=HS1
 clear HS1
 go_wp2_with fail
 refine (aB _ _ _ _).mono ?_
 rintro e w10 ⟨rfl,rfl⟩
 go_wp2_with fail
 refine (az _ _ _ _ _ _ _ _).mono ?_
 rintro e w10 ⟨rfl,hb⟩
 have HS1:=J (Hs.call (HS.out.lit [127,127] _ 2 rfl rfl (by decide)) hb)
 clear HS hb
 have HS:=HS1
 clear HS1
 go_wp2_with fail
 refine (aB _ _ _ _).mono ?_
 rintro e w11 ⟨rfl,rfl⟩
 go_wp2_with fail
 refine (az _ _ _ _ _ _ _ _).mono ?_
 rintro e w11 ⟨rfl,hb⟩
 have HS1:=J (Hs.call ((HS.out.lit [127,126,126,127,127] _ 5 rfl rfl (by decide)).litAt [127] _ 1 (w10.heap.size + 1) (by simp) rfl rfl (by decide)) hb)
 clear HS hb
 have HS:=HS1
 clear HS1
 go_wp2_with fail
 refine (az _ _ _ _ _ _ _ _).mono ?_
 rintro e w12 ⟨rfl,hb⟩
 have HS1:=J (Hs.call (HS.out.lit [127] _ 1 rfl rfl (by decide)) hb)
 clear HS hb
 have HS:=HS1
 clear HS1
 go_wp2_with fail
 refine (aB _ _ _ _).mono ?_
 rintro e w13 ⟨rfl,rfl⟩
 go_wp2_with fail
 refine (az _ _ _ _ _ _ _ _).mono ?_
 rintro e w13 ⟨rfl,hb⟩
 have HS1:=J (Hs.call (HS.out.lit [127,127,127] _ 3 rfl rfl (by decide)) hb)
 clear HS hb
 have HS:=HS1
 clear HS1
 go_wp2_with fail
 refine (aB _ _ _ _).mono ?_
 rintro e w14 ⟨rfl,rfl⟩
 go_wp2_with fail
 refine (az _ _ _ _ _ _ _ _).mono ?_
 rintro e w14 ⟨rfl,hb⟩
 have HS1:=J (Hs.call (HS.out.lit [127,127] _ 2 rfl rfl (by decide)) hb)
 clear HS hb
 have HS:=HS1
 clear HS1
 go_wp2_with fail
 refine (aB _ _ _ _).mono ?_
 rintro e w15 ⟨rfl,rfl⟩
 go_wp2_with fail
 refine (az _ _ _ _ _ _ _ _).mono ?_
 rintro e w15 ⟨rfl,hb⟩
 have HS1:=J (Hs.call (HS.out.lit [127,127] _ 2 rfl rfl (by decide)) hb)
 clear HS hb
 have HS:=HS1
 clear HS1
 go_wp2_with fail
 refine (az _ _ _ _ _ _ _ _).mono ?_
 rintro e w16 ⟨rfl,hb⟩
 have HS1:=J (Hs.call (HS.out.lit [126] _ 1 rfl rfl (by decide)) hb)
 clear HS hb
 have HS:=HS1
 clear HS1
 go_wp2_with fail
 go_ret
 have hb:Below w16.heap.size w16 (w16.alloc (.cells #[.string ⟨#[105,110,112,117,116,95,108,101,110]⟩,.slice none 0 0,.slice (some ⟨w.heap.size,0,none⟩) 1 1,.string ⟨#[105,110,112,117,116]⟩,.slice (some ⟨w1.heap.size,0,none⟩) 3 3,.slice none 0 0,.string ⟨#[99,97,108,108,101,114]⟩,.slice (some ⟨w2.heap.size,0,none⟩) 1 1,.slice none 0 0,.string ⟨#[115,101,108,102]⟩,.slice (some ⟨w3.heap.size,0,none⟩) 1 1,.slice none 0 0,.string ⟨#[118,97,108,117,101]⟩,.slice none 0 0,.slice (some ⟨w4.heap.size,0,none⟩) 1 1,.string ⟨#[98,97,108,97,110,99,101]⟩,.slice (some ⟨w5.heap.size,0,none⟩) 1 1,.slice (some ⟨w5.heap.size + 1,0,none⟩) 1 1,.string ⟨#[114,101,97,100]⟩,.slice (some ⟨w6.heap.size,0,none⟩) 4 4,.slice (some ⟨w6.heap.size + 1,0,none⟩) 1 1,.string ⟨#[119,114,105,116,101]⟩,.slice (some ⟨w7.heap.size,0,none⟩) 4 4,.slice none 0 0,.string ⟨#[114,101,109,111,118,101]⟩,.slice (some ⟨w8.heap.size,0,none⟩) 2 2,.slice (some ⟨w8.heap.size + 1,0,none⟩) 1 1,.string ⟨#[101,109,105,116]⟩,.slice (some ⟨w9.heap.size,0,none⟩) 2 2,.slice none 0 0,.string ⟨#[99,97,108,108]⟩,.slice (some ⟨w10.heap.size,0,none⟩) 5 5,.slice (some ⟨w10.heap.size + 1,0,none⟩) 1 1,.string ⟨#[114,101,116,95,108,101,110]⟩,.slice none 0 0,.slice (some ⟨w11.heap.size,0,none⟩) 1 1,.string ⟨#[114,101,116]⟩,.slice (some ⟨w12.heap.size,0,none⟩) 3 3,.slice none 0 0,.string ⟨#[102,105,110,105,115,104]⟩,.slice (some ⟨w13.heap.size,0,none⟩) 2 2,.slice none 0 0,.string ⟨#[114,101,118,101,114,116]⟩,.slice (some ⟨w14.heap.size,0,none⟩) 2 2,.slice none 0 0,.string ⟨#[103,97,115,95,108,101,102,116]⟩,.slice none 0 0,.slice (some ⟨w15.heap.size,0,none⟩) 1 1] 31)):=bA
 have hs:=(HS.out.call hb)
 obtain ⟨hbl,hall⟩:=hs
 simp only [List.forall_mem_cons] at hall
 obtain ⟨q19,q18,q17,q16,q15,q14,q13,q12,q11,q10,q9,q8,q7,q6,q5,q4,q3,q2,q1,q0,_⟩:=hall
 refine ⟨_,rfl,litV (α:=Ru.Hst) [(⟨[105,110,112,117,116,95,108,101,110],⟨[],[127]⟩⟩,[.string ⟨#[105,110,112,117,116,95,108,101,110]⟩,.slice none 0 0,.slice (some ⟨w.heap.size,0,none⟩) 1 1]),(⟨[105,110,112,117,116],⟨[127,127,127],[]⟩⟩,[.string ⟨#[105,110,112,117,116]⟩,.slice (some ⟨w1.heap.size,0,none⟩) 3 3,.slice none 0 0]),(⟨[99,97,108,108,101,114],⟨[127],[]⟩⟩,[.string ⟨#[99,97,108,108,101,114]⟩,.slice (some ⟨w2.heap.size,0,none⟩) 1 1,.slice none 0 0]),(⟨[115,101,108,102],⟨[127],[]⟩⟩,[.string ⟨#[115,101,108,102]⟩,.slice (some ⟨w3.heap.size,0,none⟩) 1 1,.slice none 0 0]),(⟨[118,97,108,117,101],⟨[],[126]⟩⟩,[.string ⟨#[118,97,108,117,101]⟩,.slice none 0 0,.slice (some ⟨w4.heap.size,0,none⟩) 1 1]),(⟨[98,97,108,97,110,99,101],⟨[127],[126]⟩⟩,[.string ⟨#[98,97,108,97,110,99,101]⟩,.slice (some ⟨w5.heap.size,0,none⟩) 1 1,.slice (some ⟨w5.heap.size + 1,0,none⟩) 1 1]),(⟨[114,101,97,100],⟨[127,127,127,127],[127]⟩⟩,[.string ⟨#[114,101,97,100]⟩,.slice (some ⟨w6.heap.size,0,none⟩) 4 4,.slice (some ⟨w6.heap.size + 1,0,none⟩) 1 1]),(⟨[119,114,105,116,101],⟨[127,127,127,127],[]⟩⟩,[.string ⟨#[119,114,105,116,101]⟩,.slice (some ⟨w7.heap.size,0,none⟩) 4 4,.slice none 0 0]),(⟨[114,101,109,111,118,101],⟨[127,127],[127]⟩⟩,[.string ⟨#[114,101,109,111,118,101]⟩,.slice (some ⟨w8.heap.size,0,none⟩) 2 2,.slice (some ⟨w8.heap.size + 1,0,none⟩) 1 1]),(⟨[101,109,105,116],⟨[127,127],[]⟩⟩,[.string ⟨#[101,109,105,116]⟩,.slice (some ⟨w9.heap.size,0,none⟩) 2 2,.slice none 0 0]),(⟨[99,97,108,108],⟨[127,126,126,127,127],[127]⟩⟩,[.string ⟨#[99,97,108,108]⟩,.slice (some ⟨w10.heap.size,0,none⟩) 5 5,.slice (some ⟨w10.heap.size + 1,0,none⟩) 1 1]),(⟨[114,101,116,95,108,101,110],⟨[],[127]⟩⟩,[.string ⟨#[114,101,116,95,108,101,110]⟩,.slice none 0 0,.slice (some ⟨w11.heap.size,0,none⟩) 1 1]),(⟨[114,101,116],⟨[127,127,127],[]⟩⟩,[.string ⟨#[114,101,116]⟩,.slice (some ⟨w12.heap.size,0,none⟩) 3 3,.slice none 0 0]),(⟨[102,105,110,105,115,104],⟨[127,127],[]⟩⟩,[.string ⟨#[102,105,110,105,115,104]⟩,.slice (some ⟨w13.heap.size,0,none⟩) 2 2,.slice none 0 0]),(⟨[114,101,118,101,114,116],⟨[127,127],[]⟩⟩,[.string ⟨#[114,101,118,101,114,116]⟩,.slice (some ⟨w14.heap.size,0,none⟩) 2 2,.slice none 0 0]),(⟨[103,97,115,95,108,101,102,116],⟨[],[126]⟩⟩,[.string ⟨#[103,97,115,95,108,101,102,116]⟩,.slice none 0 0,.slice (some ⟨w15.heap.size,0,none⟩) 1 1])] (heap_alloc_new w16 _) HS.out.1.size (fun y hy=>?_) rfl rfl 16 rfl (by decide),hbl⟩
 simp only [List.mem_cons,List.not_mem_nil,or_false] at hy
 rcases hy with rfl | rfl | rfl | rfl | rfl | rfl | rfl | rfl | rfl | rfl | rfl | rfl | rfl | rfl | rfl | rfl
 ·exact ⟨_,_,rfl,aa.nil _ _,q0⟩
 ·exact ⟨_,_,rfl,q1,aa.nil _ _⟩
 ·exact ⟨_,_,rfl,q2,aa.nil _ _⟩
 ·exact ⟨_,_,rfl,q3,aa.nil _ _⟩
 ·exact ⟨_,_,rfl,aa.nil _ _,q4⟩
 ·exact ⟨_,_,rfl,q5,q6⟩
 ·exact ⟨_,_,rfl,q7,q8⟩
 ·exact ⟨_,_,rfl,q9,aa.nil _ _⟩
 ·exact ⟨_,_,rfl,q10,q11⟩
 ·exact ⟨_,_,rfl,q12,aa.nil _ _⟩
 ·exact ⟨_,_,rfl,q13,q14⟩
 ·exact ⟨_,_,rfl,aa.nil _ _,q15⟩
 ·exact ⟨_,_,rfl,q16,aa.nil _ _⟩
 ·exact ⟨_,_,rfl,q17,aa.nil _ _⟩
 ·exact ⟨_,_,rfl,q18,aa.nil _ _⟩
 ·exact ⟨_,_,rfl,aa.nil _ _,q19⟩
theorem eg (w:World):Calls Tryz.prog 8 #[] w fun e w'=>∃ v,e = .returned v ∧ aa w' (w.heap.size ≤ ·) Ru.hosts v ∧ Below w.heap.size w w':=by
 go_enter Tryz.func8,Tryz.ntmps8
 go_wp2_with fail
 go_ret
 have hs0:=(((((((((((((((((((((Hs.nil w).litAt [127] #[.int .u8 127] 1 (w.heap.size) (by simp) rfl rfl (by decide)).litAt [127,127,127] #[.int .u8 127,.int .u8 127,.int .u8 127] 3 (w.heap.size + 1) (by simp) rfl rfl (by decide)).litAt [127] #[.int .u8 127] 1 (w.heap.size + 2) (by simp) rfl rfl (by decide)).litAt [127] #[.int .u8 127] 1 (w.heap.size + 3) (by simp) rfl rfl (by decide)).litAt [126] #[.int .u8 126] 1 (w.heap.size + 4) (by simp) rfl rfl (by decide)).litAt [127] #[.int .u8 127] 1 (w.heap.size + 5) (by simp) rfl rfl (by decide)).litAt [126] #[.int .u8 126] 1 (w.heap.size + 6) (by simp) rfl rfl (by decide)).litAt [127,127,127,127] #[.int .u8 127,.int .u8 127,.int .u8 127,.int .u8 127] 4 (w.heap.size + 7) (by simp) rfl rfl (by decide)).litAt [127] #[.int .u8 127] 1 (w.heap.size + 8) (by simp) rfl rfl (by decide)).litAt [127,127,127,127] #[.int .u8 127,.int .u8 127,.int .u8 127,.int .u8 127] 4 (w.heap.size + 9) (by simp) rfl rfl (by decide)).litAt [127,127] #[.int .u8 127,.int .u8 127] 2 (w.heap.size + 10) (by simp) rfl rfl (by decide)).litAt [127] #[.int .u8 127] 1 (w.heap.size + 11) (by simp) rfl rfl (by decide)).litAt [127,127] #[.int .u8 127,.int .u8 127] 2 (w.heap.size + 12) (by simp) rfl rfl (by decide)).litAt [127,126,126,127,127] #[.int .u8 127,.int .u8 126,.int .u8 126,.int .u8 127,.int .u8 127] 5 (w.heap.size + 13) (by simp) rfl rfl (by decide)).litAt [127] #[.int .u8 127] 1 (w.heap.size + 14) (by simp) rfl rfl (by decide)).litAt [127] #[.int .u8 127] 1 (w.heap.size + 15) (by simp) rfl rfl (by decide)).litAt [127,127,127] #[.int .u8 127,.int .u8 127,.int .u8 127] 3 (w.heap.size + 16) (by simp) rfl rfl (by decide)).litAt [127,127] #[.int .u8 127,.int .u8 127] 2 (w.heap.size + 17) (by simp) rfl rfl (by decide)).litAt [127,127] #[.int .u8 127,.int .u8 127] 2 (w.heap.size + 18) (by simp) rfl rfl (by decide)).litAt [126] #[.int .u8 126] 1 (w.heap.size + 19) (by simp) rfl rfl (by decide))
 obtain ⟨W,hW⟩:∃ W,W = ((((((((((((((((((((w.alloc (.cells #[.int .u8 127] 5)).alloc (.cells #[.int .u8 127,.int .u8 127,.int .u8 127] 5)).alloc (.cells #[.int .u8 127] 5)).alloc (.cells #[.int .u8 127] 5)).alloc (.cells #[.int .u8 126] 5)).alloc (.cells #[.int .u8 127] 5)).alloc (.cells #[.int .u8 126] 5)).alloc (.cells #[.int .u8 127,.int .u8 127,.int .u8 127,.int .u8 127] 5)).alloc (.cells #[.int .u8 127] 5)).alloc (.cells #[.int .u8 127,.int .u8 127,.int .u8 127,.int .u8 127] 5)).alloc (.cells #[.int .u8 127,.int .u8 127] 5)).alloc (.cells #[.int .u8 127] 5)).alloc (.cells #[.int .u8 127,.int .u8 127] 5)).alloc (.cells #[.int .u8 127,.int .u8 126,.int .u8 126,.int .u8 127,.int .u8 127] 5)).alloc (.cells #[.int .u8 127] 5)).alloc (.cells #[.int .u8 127] 5)).alloc (.cells #[.int .u8 127,.int .u8 127,.int .u8 127] 5)).alloc (.cells #[.int .u8 127,.int .u8 127] 5)).alloc (.cells #[.int .u8 127,.int .u8 127] 5)).alloc (.cells #[.int .u8 126] 5)):=⟨_,rfl⟩
 have hz:W.heap.size = w.heap.size + 20:=by rw [hW];simp
 rw [← hW] at hs0 ⊢
 clear hW
 have HS:=J hs0
 clear hs0
 have hb:Below W.heap.size W (W.alloc (.cells #[.string ⟨#[105,110,112,117,116,95,108,101,110]⟩,.slice none 0 0,.slice (some ⟨w.heap.size,0,none⟩) 1 1,.string ⟨#[105,110,112,117,116]⟩,.slice (some ⟨w.heap.size + 1,0,none⟩) 3 3,.slice none 0 0,.string ⟨#[99,97,108,108,101,114]⟩,.slice (some ⟨w.heap.size + 2,0,none⟩) 1 1,.slice none 0 0,.string ⟨#[115,101,108,102]⟩,.slice (some ⟨w.heap.size + 3,0,none⟩) 1 1,.slice none 0 0,.string ⟨#[118,97,108,117,101]⟩,.slice none 0 0,.slice (some ⟨w.heap.size + 4,0,none⟩) 1 1,.string ⟨#[98,97,108,97,110,99,101]⟩,.slice (some ⟨w.heap.size + 5,0,none⟩) 1 1,.slice (some ⟨w.heap.size + 6,0,none⟩) 1 1,.string ⟨#[114,101,97,100]⟩,.slice (some ⟨w.heap.size + 7,0,none⟩) 4 4,.slice (some ⟨w.heap.size + 8,0,none⟩) 1 1,.string ⟨#[119,114,105,116,101]⟩,.slice (some ⟨w.heap.size + 9,0,none⟩) 4 4,.slice none 0 0,.string ⟨#[114,101,109,111,118,101]⟩,.slice (some ⟨w.heap.size + 10,0,none⟩) 2 2,.slice (some ⟨w.heap.size + 11,0,none⟩) 1 1,.string ⟨#[101,109,105,116]⟩,.slice (some ⟨w.heap.size + 12,0,none⟩) 2 2,.slice none 0 0,.string ⟨#[99,97,108,108]⟩,.slice (some ⟨w.heap.size + 13,0,none⟩) 5 5,.slice (some ⟨w.heap.size + 14,0,none⟩) 1 1,.string ⟨#[114,101,116,95,108,101,110]⟩,.slice none 0 0,.slice (some ⟨w.heap.size + 15,0,none⟩) 1 1,.string ⟨#[114,101,116]⟩,.slice (some ⟨w.heap.size + 16,0,none⟩) 3 3,.slice none 0 0,.string ⟨#[102,105,110,105,115,104]⟩,.slice (some ⟨w.heap.size + 17,0,none⟩) 2 2,.slice none 0 0,.string ⟨#[114,101,118,101,114,116]⟩,.slice (some ⟨w.heap.size + 18,0,none⟩) 2 2,.slice none 0 0,.string ⟨#[103,97,115,95,108,101,102,116]⟩,.slice none 0 0,.slice (some ⟨w.heap.size + 19,0,none⟩) 1 1] 32)):=bA
 have hs:=(HS.out.call hb)
 obtain ⟨hbl,hall⟩:=hs
 simp only [List.forall_mem_cons] at hall
 obtain ⟨q19,q18,q17,q16,q15,q14,q13,q12,q11,q10,q9,q8,q7,q6,q5,q4,q3,q2,q1,q0,_⟩:=hall
 refine ⟨_,rfl,litV (α:=Ru.Hst) [(⟨[105,110,112,117,116,95,108,101,110],⟨[],[127]⟩⟩,[.string ⟨#[105,110,112,117,116,95,108,101,110]⟩,.slice none 0 0,.slice (some ⟨w.heap.size,0,none⟩) 1 1]),(⟨[105,110,112,117,116],⟨[127,127,127],[]⟩⟩,[.string ⟨#[105,110,112,117,116]⟩,.slice (some ⟨w.heap.size + 1,0,none⟩) 3 3,.slice none 0 0]),(⟨[99,97,108,108,101,114],⟨[127],[]⟩⟩,[.string ⟨#[99,97,108,108,101,114]⟩,.slice (some ⟨w.heap.size + 2,0,none⟩) 1 1,.slice none 0 0]),(⟨[115,101,108,102],⟨[127],[]⟩⟩,[.string ⟨#[115,101,108,102]⟩,.slice (some ⟨w.heap.size + 3,0,none⟩) 1 1,.slice none 0 0]),(⟨[118,97,108,117,101],⟨[],[126]⟩⟩,[.string ⟨#[118,97,108,117,101]⟩,.slice none 0 0,.slice (some ⟨w.heap.size + 4,0,none⟩) 1 1]),(⟨[98,97,108,97,110,99,101],⟨[127],[126]⟩⟩,[.string ⟨#[98,97,108,97,110,99,101]⟩,.slice (some ⟨w.heap.size + 5,0,none⟩) 1 1,.slice (some ⟨w.heap.size + 6,0,none⟩) 1 1]),(⟨[114,101,97,100],⟨[127,127,127,127],[127]⟩⟩,[.string ⟨#[114,101,97,100]⟩,.slice (some ⟨w.heap.size + 7,0,none⟩) 4 4,.slice (some ⟨w.heap.size + 8,0,none⟩) 1 1]),(⟨[119,114,105,116,101],⟨[127,127,127,127],[]⟩⟩,[.string ⟨#[119,114,105,116,101]⟩,.slice (some ⟨w.heap.size + 9,0,none⟩) 4 4,.slice none 0 0]),(⟨[114,101,109,111,118,101],⟨[127,127],[127]⟩⟩,[.string ⟨#[114,101,109,111,118,101]⟩,.slice (some ⟨w.heap.size + 10,0,none⟩) 2 2,.slice (some ⟨w.heap.size + 11,0,none⟩) 1 1]),(⟨[101,109,105,116],⟨[127,127],[]⟩⟩,[.string ⟨#[101,109,105,116]⟩,.slice (some ⟨w.heap.size + 12,0,none⟩) 2 2,.slice none 0 0]),(⟨[99,97,108,108],⟨[127,126,126,127,127],[127]⟩⟩,[.string ⟨#[99,97,108,108]⟩,.slice (some ⟨w.heap.size + 13,0,none⟩) 5 5,.slice (some ⟨w.heap.size + 14,0,none⟩) 1 1]),(⟨[114,101,116,95,108,101,110],⟨[],[127]⟩⟩,[.string ⟨#[114,101,116,95,108,101,110]⟩,.slice none 0 0,.slice (some ⟨w.heap.size + 15,0,none⟩) 1 1]),(⟨[114,101,116],⟨[127,127,127],[]⟩⟩,[.string ⟨#[114,101,116]⟩,.slice (some ⟨w.heap.size + 16,0,none⟩) 3 3,.slice none 0 0]),(⟨[102,105,110,105,115,104],⟨[127,127],[]⟩⟩,[.string ⟨#[102,105,110,105,115,104]⟩,.slice (some ⟨w.heap.size + 17,0,none⟩) 2 2,.slice none 0 0]),(⟨[114,101,118,101,114,116],⟨[127,127],[]⟩⟩,[.string ⟨#[114,101,118,101,114,116]⟩,.slice (some ⟨w.heap.size + 18,0,none⟩) 2 2,.slice none 0 0]),(⟨[103,97,115,95,108,101,102,116],⟨[],[126]⟩⟩,[.string ⟨#[103,97,115,95,108,101,102,116]⟩,.slice none 0 0,.slice (some ⟨w.heap.size + 19,0,none⟩) 1 1])] (aQ W _ _ hz) (Nat.le_add_right _ _) (fun y hy=>?_) rfl rfl 16 rfl (by decide),hbl⟩
 simp only [List.mem_cons,List.not_mem_nil,or_false] at hy
 rcases hy with rfl | rfl | rfl | rfl | rfl | rfl | rfl | rfl | rfl | rfl | rfl | rfl | rfl | rfl | rfl | rfl
 ·exact ⟨_,_,rfl,aa.nil _ _,q0⟩
 ·exact ⟨_,_,rfl,q1,aa.nil _ _⟩
 ·exact ⟨_,_,rfl,q2,aa.nil _ _⟩
 ·exact ⟨_,_,rfl,q3,aa.nil _ _⟩
 ·exact ⟨_,_,rfl,aa.nil _ _,q4⟩
 ·exact ⟨_,_,rfl,q5,q6⟩
 ·exact ⟨_,_,rfl,q7,q8⟩
 ·exact ⟨_,_,rfl,q9,aa.nil _ _⟩
 ·exact ⟨_,_,rfl,q10,q11⟩
 ·exact ⟨_,_,rfl,q12,aa.nil _ _⟩
 ·exact ⟨_,_,rfl,q13,q14⟩
 ·exact ⟨_,_,rfl,aa.nil _ _,q15⟩
 ·exact ⟨_,_,rfl,q16,aa.nil _ _⟩
 ·exact ⟨_,_,rfl,q17,aa.nil _ _⟩
 ·exact ⟨_,_,rfl,q18,aa.nil _ _⟩
 ·exact ⟨_,_,rfl,aa.nil _ _,q19⟩
end Go.Proofs.YtmpelmihdpomjaaGreat
namespace Ru
open Go.Proofs.YtmpelmihdpomjaaGreat Sp
theorem hosts_len:hosts.length = 16:=rfl
theorem find_at {nm:List UInt8} {j:Nat} {x:Hst} (hx:hosts[j]? = some x) (hn:x.name = nm) (hno:bS (fun x:Hst=>x.name == nm) hosts j):find nm = some j:=by
 have hl:hosts.length = host.length:=by unfold hosts;rw [List.length_map]
 have hj:=(List.getElem?_eq_some_iff.1 hx).1
 have hg:∀ k (hk:k < host.length),∃ y,hosts[k]? = some y ∧ y.name = host[k].1:=fun k hk=>by
  refine ⟨⟨host[k].1,host[k].2⟩,?_,rfl⟩
  unfold hosts
  rw [List.getElem?_map,List.getElem?_eq_getElem hk]
  rfl
 unfold find
 rw [List.findIdx?_eq_some_iff_getElem]
 refine ⟨by omega,?_,fun k hk=>?_⟩
 ·obtain ⟨y,h1,h2⟩:=hg j (by omega)
  rw [hx] at h1
  injection h1 with h1
  subst h1
  rw [← h2,hn]
  exact beq_self_eq_true _
 ·obtain ⟨y,h1,h2⟩:=hg k (by omega)
  have:=hno k y hk h1
  rw [← h2]
  simpa using this
theorem find_none {nm:List UInt8} (hno:bS (fun x:Hst=>x.name == nm) hosts 16):find nm = none:=by
 unfold find
 rw [List.findIdx?_eq_none_iff]
 intro h hh
 obtain ⟨k,hk⟩:=List.mem_iff_getElem?.1 hh
 have h1:hosts[k]? = some ⟨h.1,h.2⟩:=by unfold hosts;rw [List.getElem?_map,hk];rfl
 exact hno k _ (by have:=(List.getElem?_eq_some_iff.1 h1).1;rw [hosts_len] at this;exact this) h1
end Ru
namespace Go.Proofs.YtmpelmihdpomjaaGreat
open Go.RowKit Ins Bin Sp
theorem cF {w:World} {S:Nat → Prop} {A:Option Addr} {xs:List Ru.Hst} {k:Nat} {x:Ru.Hst} (h:HasL w S A xs) (hx:xs[k]? = some x):∃ g o A1 c1 A2 c2,A = some ⟨g,o,none⟩ ∧ S g ∧ g < w.heap.size ∧ w.cell? ⟨g,o + k * 3,none⟩ = some (.string ⟨x.name.toArray⟩) ∧ w.cell? ⟨g,o + k * 3 + 1,none⟩ = some (.slice A1 x.type.params.length c1) ∧ w.cell? ⟨g,o + k * 3 + 2,none⟩ = some (.slice A2 x.type.results.length c2) ∧ aa w S x.type.params (.slice A1 x.type.params.length c1) ∧ aa w S x.type.results (.slice A2 x.type.results.length c2):=by
 obtain ⟨g,o,cs,hA,hg,hlt,⟨u,v,rfl,h1,h2⟩,hc⟩:=h k x hx
 obtain ⟨A1,c1,rfl,_⟩:=id h1
 obtain ⟨A2,c2,rfl,_⟩:=id h2
 exact ⟨g,o,A1,c1,A2,c2,hA,hg,hlt,hc 0 _ rfl,hc 1 _ rfl,hc 2 _ rfl,h1,h2⟩
theorem bx:FindOk:=by
 intro nm w
 unfold strV
 generalize hNB:(⟨nm.toArray⟩:ByteArray) = NB
 have HNL:Hid (NB.toList = nm):=J (by rw [← hNB,ByteArray.toList_eq])
 clear hNB
 obtain ⟨n,hnh⟩:∃ n,Ru.hosts.length = n:=⟨_,rfl⟩
 have HNH:=J hnh
 have hn16:n ≤ 16:=by rw [← hnh,Ru.hosts_len];exact Nat.le_refl _
 clear hnh
 go_enter Tryz.func10,Tryz.ntmps10
 go_upto_region 2 with (go_at_call 7;refine (bZ w).mono ?_;rintro e w1 ⟨v,rfl,hs,hb⟩;have HB1:=J hb;obtain ⟨A,c,e0,hcc,_,_,hL⟩:=hs;rw [HNH.out] at e0 hcc;subst e0;have HLX:=J hL;clear hb hL)
 go_loopw [8] (fun i wr=>∃ j:Nat,j ≤ n ∧ i = .int .i64 ↑j ∧ Hid (bS (fun x:Ru.Hst=>x.name == nm) Ru.hosts j) ∧ Hid (Below w1.heap.size w1 wr)) (fun i _=>n - (intOf i).toNat)
 case atStart=>exact ⟨0,Nat.zero_le _,rfl,J (bE _ _),J (Below.refl _ _)⟩
 case round =>
  obtain ⟨j,hj,rfl,HNO,HB⟩:=hrel
  by_cases hlt:j < n
  ·have hlti:(j:Int) < (n:Int):=by omega
   obtain ⟨x,hx⟩:∃ x,Ru.hosts[j]? = some x:=⟨_,List.getElem?_eq_getElem (by rw [HNH.out];exact hlt)⟩
   obtain ⟨g,o,A1,c1,A2,c2,rfl,_,hg,hc0,hc1,hc2,hu,hv⟩:=cF HLX.out hx
   have z0:=(HB.out.cell (p:=⟨g,o + j * 3,none⟩) hg).trans hc0
   have z1:=(HB.out.cell (p:=⟨g,o + j * 3 + 1,none⟩) hg).trans hc1
   have z2:=(HB.out.cell (p:=⟨g,o + j * 3 + 2,none⟩) hg).trans hc2
   generalize hXB:(⟨x.name.toArray⟩:ByteArray) = XB at z0
   have HXL:Hid (XB.toList = x.name):=J (by rw [← hXB,ByteArray.toList_eq])
   have HX:=J hx
   obtain ⟨n1,e1⟩:∃ n,x.type.params.length = n:=⟨_,rfl⟩
   obtain ⟨n2,e2⟩:∃ n,x.type.results.length = n:=⟨_,rfl⟩
   rw [e1] at z1
   rw [e2] at z2
   have HA:=J (heap_alloc_new wr (.cells #[.string XB,.slice A1 n1 c1,.slice A2 n2 c2] 31))
   have HBA:Hid (Below w1.heap.size w1 (wr.alloc (.cells #[.string XB,.slice A1 n1 c1,.slice A2 n2 c2] 31))):=J (HB.out.alloc HB.out.size _)
   clear hc0 hc1 hc2 hXB hx hg hu hv e1 e2
   by_cases hn:x.name = nm
   ·have he:(XB.toList == NB.toList) = true:=by rw [HXL.out,HNL.out,hn];exact beq_self_eq_true _
    have HF:Hid (Ru.find nm = some j):=J (Ru.find_at HX.out hn HNO.out)
    clear hn
    go_upto_region 4 with fail
    generalize wr.alloc (.cells #[.string XB,.slice A1 n1 c1,.slice A2 n2 c2] 31) = wa at HA HBA ⊢
    clear z0 z1 z2
    obtain ⟨a0,a1,a2⟩:wa.cell? ⟨wr.heap.size,0,none⟩ = some (.string XB) ∧ wa.cell? ⟨wr.heap.size,1,none⟩ = some (.slice A1 n1 c1) ∧ wa.cell? ⟨wr.heap.size,2,none⟩ = some (.slice A2 n2 c2):=⟨by rw [cell_of_row wa _ 0 _ _ (0,0) HA.out];rfl,by rw [cell_of_row wa _ 1 _ _ (0,0) HA.out];rfl,by rw [cell_of_row wa _ 2 _ _ (0,0) HA.out];rfl⟩
    go_wp2_with fail
    go_ret2
    exact ⟨by rw [HF.out];rfl,HB1.out.trans (HBA.out.mono HB1.out.size)⟩
   ·have he:(XB.toList == NB.toList) = false:=by rw [HXL.out,HNL.out];exact beq_eq_false_iff_ne.2 hn
    have HNX:=J (bg HX.out (p:=fun x:Ru.Hst=>x.name == nm) (by simp [hn]) HNO.out)
    clear hn
    go_upto_region 4 with fail
    generalize wr.alloc (.cells #[.string XB,.slice A1 n1 c1,.slice A2 n2 c2] 31) = wa at HA HBA ⊢
    clear z0 z1 z2
    obtain ⟨a0,a1,a2⟩:wa.cell? ⟨wr.heap.size,0,none⟩ = some (.string XB) ∧ wa.cell? ⟨wr.heap.size,1,none⟩ = some (.slice A1 n1 c1) ∧ wa.cell? ⟨wr.heap.size,2,none⟩ = some (.slice A2 n2 c2):=⟨by rw [cell_of_row wa _ 0 _ _ (0,0) HA.out];rfl,by rw [cell_of_row wa _ 1 _ _ (0,0) HA.out];rfl,by rw [cell_of_row wa _ 2 _ _ (0,0) HA.out];rfl⟩
    go_wp2_with fail
    go_roundw
    case rel=>exact ⟨j + 1,by omega,by go_num,HNX,HBA⟩
    case measure=>simp [intOf];omega
  ·have hlti:decide ((j:Int) < (n:Int)) = false:=decide_eq_false (by omega)
   have HF:Hid (Ru.find nm = none):=J (Ru.find_none (by have h1:=HNO.out;rw [show j = 16 from by have h2:=HNH.out;rw [Ru.hosts_len] at h2;omega] at h1;exact h1))
   go_wp2_with fail
   go_ret2
   exact ⟨by rw [HF.out];rfl,HB1.out.trans (HB.out.mono HB1.out.size)⟩
theorem dfind_any:∀ (nm:List UInt8) (w:World),Calls Tryz.prog 11 #[strV nm] w fun e w'=>e = .returned (.int .i64 ((((Ru.find nm).map (Int.ofNat ·)).getD (-1)):Int)) ∧ Below w.heap.size w w':=by
 intro nm w
 unfold strV
 generalize hNB:(⟨nm.toArray⟩:ByteArray) = NB
 have HNL:Hid (NB.toList = nm):=J (by rw [← hNB,ByteArray.toList_eq])
 clear hNB
 obtain ⟨n,hnh⟩:∃ n,Ru.hosts.length = n:=⟨_,rfl⟩
 have HNH:=J hnh
 have hn16:n ≤ 16:=by rw [← hnh,Ru.hosts_len];exact Nat.le_refl _
 clear hnh
 go_enter Tryz.func11,Tryz.ntmps11
 go_upto_region 3 with (go_at_call 8;refine (eg w).mono ?_;rintro e w1 ⟨v,rfl,hs,hb⟩;have HB1:=J hb;obtain ⟨A,c,e0,hcc,_,_,hL⟩:=hs;rw [HNH.out] at e0 hcc;subst e0;have HLX:=J hL;clear hb hL)
 go_loopw [4] (fun i wr=>∃ j:Nat,j ≤ n ∧ i = .int .i64 ↑j ∧ Hid (bS (fun x:Ru.Hst=>x.name == nm) Ru.hosts j) ∧ Hid (Below w1.heap.size w1 wr)) (fun i _=>n - (intOf i).toNat)
 case atStart=>exact ⟨0,Nat.zero_le _,rfl,J (bE _ _),J (Below.refl _ _)⟩
 case round =>
  obtain ⟨j,hj,rfl,HNO,HB⟩:=hrel
  by_cases hlt:j < n
  ·have hlti:(j:Int) < (n:Int):=by omega
   obtain ⟨x,hx⟩:∃ x,Ru.hosts[j]? = some x:=⟨_,List.getElem?_eq_getElem (by rw [HNH.out];exact hlt)⟩
   obtain ⟨g,o,A1,c1,A2,c2,rfl,_,hg,hc0,hc1,hc2,hu,hv⟩:=cF HLX.out hx
   have z0:=(HB.out.cell (p:=⟨g,o + j * 3,none⟩) hg).trans hc0
   have z1:=(HB.out.cell (p:=⟨g,o + j * 3 + 1,none⟩) hg).trans hc1
   have z2:=(HB.out.cell (p:=⟨g,o + j * 3 + 2,none⟩) hg).trans hc2
   generalize hXB:(⟨x.name.toArray⟩:ByteArray) = XB at z0
   have HXL:Hid (XB.toList = x.name):=J (by rw [← hXB,ByteArray.toList_eq])
   have HX:=J hx
   obtain ⟨n1,e1⟩:∃ n,x.type.params.length = n:=⟨_,rfl⟩
   obtain ⟨n2,e2⟩:∃ n,x.type.results.length = n:=⟨_,rfl⟩
   rw [e1] at z1
   rw [e2] at z2
   clear hc0 hc1 hc2 hXB hx hg hu hv e1 e2
   by_cases hn:x.name = nm
   ·have he:(XB.toList == NB.toList) = true:=by rw [HXL.out,HNL.out,hn];exact beq_self_eq_true _
    have HF:Hid (Ru.find nm = some j):=J (Ru.find_at HX.out hn HNO.out)
    clear hn
    go_wp2_with fail
    go_ret
    exact ⟨by rw [HF.out];rfl,HB1.out.trans (HB.out.mono HB1.out.size)⟩
   ·have he:(XB.toList == NB.toList) = false:=by rw [HXL.out,HNL.out];exact beq_eq_false_iff_ne.2 hn
    have HNX:=J (bg HX.out (p:=fun x:Ru.Hst=>x.name == nm) (by simp [hn]) HNO.out)
    clear hn
    go_wp2_with fail
    go_roundw
    case rel=>exact ⟨j + 1,by omega,by go_num,HNX,HB⟩
    case measure=>simp [intOf];omega
  ·have hlti:decide ((j:Int) < (n:Int)) = false:=decide_eq_false (by omega)
   have HF:Hid (Ru.find nm = none):=J (Ru.find_none (by have h1:=HNO.out;rw [show j = 16 from by have h2:=HNH.out;rw [Ru.hosts_len] at h2;omega] at h1;exact h1))
   go_wp2_with fail
   go_ret
   exact ⟨by rw [HF.out];rfl,HB1.out.trans (HB.out.mono HB1.out.size)⟩
end Go.Proofs.YtmpelmihdpomjaaGreat
