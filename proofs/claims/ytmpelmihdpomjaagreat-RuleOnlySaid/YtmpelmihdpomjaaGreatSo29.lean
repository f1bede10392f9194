/-
  Layer 12's statements: the least module that may be deployed; the chapter's rows hold, given what Check and Find do. (gen/rule/known.py)
-/
import Derived.Test.YtmpelmihdpomjaaGreatSo01
import Derived.Test.YtmpelmihdpomjaaGreatSo28
import Derived.Test.YtmpelmihdpomjaaGreatSo22
import Derived.Test.YtmpelmihdpomjaaGreatSo08
set_option maxRecDepth 100000
set_option maxHeartbeats 4000000
namespace Ru
open Bin
def caller:List UInt8:=[99,97,108,108,101,114]
def sender:List UInt8:=[115,101,110,100,101,114]
def kA:M:=⟨lt,[⟨env,caller,0,1,⟨0,0⟩,⟨0,false⟩⟩],[0],[],[],[],[⟨main,0,1⟩],false,0,[],[⟨[],[]⟩],[]⟩
def kB:M:=⟨lt,[⟨env,sender,0,2,⟨0,0⟩,⟨0,false⟩⟩],[0],[],[],[],[⟨main,0,1⟩],false,0,[],[⟨[],[]⟩],[]⟩
def kC:M:=⟨lt,[⟨env,caller,2,0,⟨0,-1⟩,⟨0,false⟩⟩],[0],[],[],[],[⟨main,0,0⟩],false,0,[],[⟨[],[]⟩],[]⟩
def kD:M:=⟨lt,[],[0],[],[⟨17,-1⟩],[],[⟨main,0,0⟩],false,0,[],[⟨[],[]⟩],[]⟩
theorem r0:check Va.nilM = 121:=by rfl
theorem rL:check least = 0:=by rfl
theorem rA:check kA = 120:=by rfl
theorem rB:check kB = 120:=by rfl
theorem rC:check kC = 120:=by rfl
theorem rD:check kD = 122:=by rfl
theorem fG:find [103,97,115,95,108,101,102,116] = some 15:=by rfl
theorem fM:find [109,101,116,101,114] = none:=by rfl
end Ru
namespace Go.Proofs.YtmpelmihdpomjaaGreat
open Go.RowKit Ins Bin Sp
theorem sixV (w:World) (o0:Obj) (o1:Obj) (o2:Obj) (o3:Obj) (o4:Obj) (o5:Obj):((((((w.alloc o0).alloc o1).alloc o2).alloc o3).alloc o4).alloc o5).heap[w.heap.size]? = some o0 ∧ ((((((w.alloc o0).alloc o1).alloc o2).alloc o3).alloc o4).alloc o5).heap[w.heap.size + 1]? = some o1 ∧ ((((((w.alloc o0).alloc o1).alloc o2).alloc o3).alloc o4).alloc o5).heap[w.heap.size + 2]? = some o2 ∧ ((((((w.alloc o0).alloc o1).alloc o2).alloc o3).alloc o4).alloc o5).heap[w.heap.size + 3]? = some o3 ∧ ((((((w.alloc o0).alloc o1).alloc o2).alloc o3).alloc o4).alloc o5).heap[w.heap.size + 4]? = some o4 ∧ ((((((w.alloc o0).alloc o1).alloc o2).alloc o3).alloc o4).alloc o5).heap[w.heap.size + 5]? = some o5 ∧ Below w.heap.size w ((((((w.alloc o0).alloc o1).alloc o2).alloc o3).alloc o4).alloc o5):=by
 refine ⟨?_,?_,?_,?_,?_,?_,?_⟩
 ·exact (Below.heap_alloc _ _ _ (by simp <;> omega)).trans ((Below.heap_alloc _ _ _ (by simp <;> omega)).trans ((Below.heap_alloc _ _ _ (by simp <;> omega)).trans ((Below.heap_alloc _ _ _ (by simp <;> omega)).trans ((Below.heap_alloc _ _ _ (by simp <;> omega)).trans (aQ _ _ _ (by simp))))))
 ·exact (Below.heap_alloc _ _ _ (by simp <;> omega)).trans ((Below.heap_alloc _ _ _ (by simp <;> omega)).trans ((Below.heap_alloc _ _ _ (by simp <;> omega)).trans ((Below.heap_alloc _ _ _ (by simp <;> omega)).trans (aQ _ _ _ (by simp)))))
 ·exact (Below.heap_alloc _ _ _ (by simp <;> omega)).trans ((Below.heap_alloc _ _ _ (by simp <;> omega)).trans ((Below.heap_alloc _ _ _ (by simp <;> omega)).trans (aQ _ _ _ (by simp))))
 ·exact (Below.heap_alloc _ _ _ (by simp <;> omega)).trans ((Below.heap_alloc _ _ _ (by simp <;> omega)).trans (aQ _ _ _ (by simp)))
 ·exact (Below.heap_alloc _ _ _ (by simp <;> omega)).trans (aQ _ _ _ (by simp))
 ·exact aQ _ _ _ (by simp)
 ·exact (((((bA.alloc (by simp) _).alloc (by simp;omega) _).alloc (by simp;omega) _).alloc (by simp;omega) _).alloc (by simp;omega) _)
structure dB (W:World) (g:Nat):Prop where
 h0:W.heap[g]? = some (.cells #[.int .u8 126] 5 (0,0))
 h1:W.heap[g + 1]? = some (.cells #[.int .u8 127] 5 (0,0))
 h2:W.heap[g + 2]? = some (.cells #[.slice none 0 0,.slice none 0 0,.slice (some ⟨g,0,none⟩) 1 1,.slice none 0 0,.slice (some ⟨g + 1,0,none⟩) 1 1,.slice none 0 0] 29 (0,0))
 h3:W.heap[g + 3]? = some (.cells #[.int .u32 0] 44 (0,0))
 h4:W.heap[g + 4]? = some (.cells #[.slice none 0 0,.slice none 0 0] 64 (0,0))
 h5:W.heap[g + 5]? = some (.cells #[.string ⟨#[109,97,105,110]⟩,.int .u8 0,.int .u32 0] 52 (0,0))
theorem vleast_raw (w:World) :
  Calls Tryz.prog 12 #[] w fun e w'=>∃ g,e = .returned (.agg #[.slice (some ⟨g + 2,0,none⟩) 3 3,.slice none 0 0,.slice (some ⟨g + 3,0,none⟩) 1 1,.slice none 0 0,.slice none 0 0,.slice none 0 0,.slice (some ⟨g + 5,0,none⟩) 1 1,.bool false,.int .u32 0,.slice none 0 0,.slice (some ⟨g + 4,0,none⟩) 1 1,.slice none 0 0]) ∧ w.heap.size ≤ g ∧ dB w' g ∧ Below w.heap.size w w':=by
 obtain ⟨D,hu,hd⟩:=descOf des_vmod
 have HU:=J hu
 have HD:=J hd
 clear hu hd
 have HZ0:=J (heap_alloc_new w (.cells #[.slice none 0 0,.slice none 0 0,.slice none 0 0,.slice none 0 0,.slice none 0 0,.slice none 0 0,.slice none 0 0,.bool false,.int .u32 0,.slice none 0 0,.slice none 0 0,.slice none 0 0] 49))
 have HB0:Hid (Below w.heap.size w (w.alloc (.cells #[.slice none 0 0,.slice none 0 0,.slice none 0 0,.slice none 0 0,.slice none 0 0,.slice none 0 0,.slice none 0 0,.bool false,.int .u32 0,.slice none 0 0,.slice none 0 0,.slice none 0 0] 49))):=J bA
 go_enter Tryz.func12,Tryz.ntmps12
 go_upto_region 1 with fail
 generalize w.alloc (.cells #[.slice none 0 0,.slice none 0 0,.slice none 0 0,.slice none 0 0,.slice none 0 0,.slice none 0 0,.slice none 0 0,.bool false,.int .u32 0,.slice none 0 0,.slice none 0 0,.slice none 0 0] 49) = w0 at HZ0 HB0 ⊢
 obtain ⟨Y,hY⟩:∃ Y,w.heap.size = Y:=⟨_,rfl⟩
 rw [hY] at HZ0
 have HY:Hid (w.heap.size = Y):=J hY
 simp only [hY]
 clear hY
 have HYL:Hid (Y < w0.heap.size):=J (gL HZ0.out)
 obtain ⟨t0,t1,t2,t3,t4,t5,t6⟩:=sixV w0 (.cells #[.int .u8 126] 5) (.cells #[.int .u8 127] 5) (.cells #[.slice none 0 0,.slice none 0 0,.slice (some ⟨w0.heap.size,0,none⟩) 1 1,.slice none 0 0,.slice (some ⟨w0.heap.size + 1,0,none⟩) 1 1,.slice none 0 0] 29) (.cells #[.int .u32 0] 44) (.cells #[.slice none 0 0,.slice none 0 0] 64) (.cells #[.string ⟨#[109,97,105,110]⟩,.int .u8 0,.int .u32 0] 52)
 have G0:=J t0
 have G1:=J t1
 have G2:=J t2
 have G3:=J t3
 have G4:=J t4
 have G5:=J t5
 have HB1:=J t6
 have HZ1:=J ((HB1.out.block Y HYL.out).trans HZ0.out)
 clear t0 t1 t2 t3 t4 t5 t6
 go_wp2_with (refine ah rfl 49 (.tmp 0) (.tmp 12) rfl rfl Y #[.slice (some ⟨w0.heap.size + 2,0,none⟩) 3 3,.slice none 0 0,.slice (some ⟨w0.heap.size + 3,0,none⟩) 1 1,.slice none 0 0,.slice none 0 0,.slice none 0 0,.slice (some ⟨w0.heap.size + 5,0,none⟩) 1 1,.bool false,.int .u32 0,.slice none 0 0,.slice (some ⟨w0.heap.size + 4,0,none⟩) 1 1,.slice none 0 0] rfl rfl 49 #[.slice none 0 0,.slice none 0 0,.slice none 0 0,.slice none 0 0,.slice none 0 0,.slice none 0 0,.slice none 0 0,.bool false,.int .u32 0,.slice none 0 0,.slice none 0 0,.slice none 0 0] HZ1.out cr rfl (by simp [Value.oneCell']) ?_)
 generalize ((((((w0.alloc (.cells #[.int .u8 126] 5)).alloc (.cells #[.int .u8 127] 5)).alloc (.cells #[.slice none 0 0,.slice none 0 0,.slice (some ⟨w0.heap.size,0,none⟩) 1 1,.slice none 0 0,.slice (some ⟨w0.heap.size + 1,0,none⟩) 1 1,.slice none 0 0] 29)).alloc (.cells #[.int .u32 0] 44)).alloc (.cells #[.slice none 0 0,.slice none 0 0] 64)).alloc (.cells #[.string ⟨#[109,97,105,110]⟩,.int .u8 0,.int .u32 0] 52)) = w1 at G0 G1 G2 G3 G4 G5 HB1 HZ1 ⊢
 refine bodyPost_ret (v:=.agg #[.slice (some ⟨w0.heap.size + 2,0,none⟩) 3 3,.slice none 0 0,.slice (some ⟨w0.heap.size + 3,0,none⟩) 1 1,.slice none 0 0,.slice none 0 0,.slice none 0 0,.slice (some ⟨w0.heap.size + 5,0,none⟩) 1 1,.bool false,.int .u32 0,.slice none 0 0,.slice (some ⟨w0.heap.size + 4,0,none⟩) 1 1,.slice none 0 0]) (bv (p:=0) (ty:=49) (by kernel_rfl) _ _ Y 49 #[.slice (some ⟨w0.heap.size + 2,0,none⟩) 3 3,.slice none 0 0,.slice (some ⟨w0.heap.size + 3,0,none⟩) 1 1,.slice none 0 0,.slice none 0 0,.slice none 0 0,.slice (some ⟨w0.heap.size + 5,0,none⟩) 1 1,.bool false,.int .u32 0,.slice none 0 0,.slice (some ⟨w0.heap.size + 4,0,none⟩) 1 1,.slice none 0 0] (0,0) D rfl (setRow_heap _ _ #[.slice none 0 0,.slice none 0 0,.slice none 0 0,.slice none 0 0,.slice none 0 0,.slice none 0 0,.slice none 0 0,.bool false,.int .u32 0,.slice none 0 0,.slice none 0 0,.slice none 0 0] _ _ _ HZ1.out) HU.out HD.out cr) rfl ?_
 have hb1:=HB0.out.trans (HB1.out.mono HB0.out.size)
 have hne:∀ k,w0.heap.size + k ≠ Y:=fun k=>by have:=HYL.out;omega
 exact ⟨w0.heap.size,rfl,HB0.out.size,⟨(setRow_other _ Y (w0.heap.size) _ (hne 0)).trans G0.out,(setRow_other _ Y (w0.heap.size + 1) _ (hne 1)).trans G1.out,(setRow_other _ Y (w0.heap.size + 2) _ (hne 2)).trans G2.out,(setRow_other _ Y (w0.heap.size + 3) _ (hne 3)).trans G3.out,(setRow_other _ Y (w0.heap.size + 4) _ (hne 4)).trans G4.out,(setRow_other _ Y (w0.heap.size + 5) _ (hne 5)).trans G5.out⟩,ab hb1 (Nat.le_of_eq HY.out) _⟩
theorem dB.on {W W':World} {g:Nat} (h:dB W g) (hb:∀ k,k < 6 → W'.heap[g + k]? = W.heap[g + k]?):dB W' g :=
 ⟨(hb 0 (by decide)).trans h.h0,(hb 1 (by decide)).trans h.h1,(hb 2 (by decide)).trans h.h2,(hb 3 (by decide)).trans h.h3,(hb 4 (by decide)).trans h.h4,(hb 5 (by decide)).trans h.h5⟩
theorem dB.lt {W:World} {g:Nat} (h:dB W g):g + 5 < W.heap.size:=(gL h.h5)
theorem lg_types {W:World} {g:Nat} (h0:W.heap[g]? = some (.cells #[.int .u8 126] 5 (0,0))) (h1:W.heap[g + 1]? = some (.cells #[.int .u8 127] 5 (0,0))) (h2:W.heap[g + 2]? = some (.cells #[.slice none 0 0,.slice none 0 0,.slice (some ⟨g,0,none⟩) 1 1,.slice none 0 0,.slice (some ⟨g + 1,0,none⟩) 1 1,.slice none 0 0] 29 (0,0))):aa W (· < W.heap.size) Ru.lt (.slice (some ⟨g + 2,0,none⟩) 3 3):=by
 have s0:aa W (· < W.heap.size) ([126]:List UInt8) (.slice (some ⟨g,0,none⟩) 1 1):=litV (α:=UInt8) [(126,[.int .u8 126])] h0 (Array.getElem?_eq_some_iff.1 h0).1 (by intro y hy;simp at hy;subst hy;rfl) rfl rfl 1 rfl (by decide)
 have s1:aa W (· < W.heap.size) ([127]:List UInt8) (.slice (some ⟨g + 1,0,none⟩) 1 1):=litV (α:=UInt8) [(127,[.int .u8 127])] h1 (Array.getElem?_eq_some_iff.1 h1).1 (by intro y hy;simp at hy;subst hy;rfl) rfl rfl 1 rfl (by decide)
 exact litV (α:=FT) [(⟨[],[]⟩,[.slice none 0 0,.slice none 0 0]),(⟨[126],[]⟩,[.slice (some ⟨g,0,none⟩) 1 1,.slice none 0 0]),(⟨[127],[]⟩,[.slice (some ⟨g + 1,0,none⟩) 1 1,.slice none 0 0])] h2 (Array.getElem?_eq_some_iff.1 h2).1 (by intro y hy;simp at hy;rcases hy with rfl | rfl | rfl;exact ⟨_,_,rfl,aa.nil _ _,aa.nil _ _⟩;exact ⟨_,_,rfl,s0,aa.nil _ _⟩;exact ⟨_,_,rfl,s1,aa.nil _ _⟩) rfl rfl 3 rfl (by decide)
theorem lg_funcs {W:World} {g:Nat} (h:W.heap[g]? = some (.cells #[.int .u32 0] 44 (0,0))):aa W (· < W.heap.size) ([0]:List Nat) (.slice (some ⟨g,0,none⟩) 1 1) :=
 litV (α:=Nat) [(0,[.int .u32 0])] h (Array.getElem?_eq_some_iff.1 h).1 (by intro y hy;simp at hy;subst hy;exact ⟨rfl,by decide⟩) rfl rfl 1 rfl (by decide)
theorem lg_codes {W:World} {g:Nat} {u v:Value} {c:Cd} (h:W.heap[g]? = some (.cells #[u,v] 64 (0,0))) (hu:aa W (· < W.heap.size) c.locals u) (hv:aa W (· < W.heap.size) c.body v):aa W (· < W.heap.size) [c] (.slice (some ⟨g,0,none⟩) 1 1) :=
 litV (α:=Cd) [(c,[u,v])] h (Array.getElem?_eq_some_iff.1 h).1 (by intro y hy;simp at hy;subst hy;exact ⟨_,_,rfl,hu,hv⟩) rfl rfl 1 rfl (by decide)
theorem lg_exps {W:World} {g:Nat} (h:W.heap[g]? = some (.cells #[.string ⟨#[109,97,105,110]⟩,.int .u8 0,.int .u32 0] 52 (0,0))):aa W (· < W.heap.size) ([⟨Ru.main,0,0⟩]:List Exp) (.slice (some ⟨g,0,none⟩) 1 1) :=
 litV (α:=Exp) [(⟨Ru.main,0,0⟩,[.string ⟨#[109,97,105,110]⟩,.int .u8 0,.int .u32 0])] h (Array.getElem?_eq_some_iff.1 h).1 (by intro y hy;simp at hy;subst hy;exact ⟨rfl,by decide⟩) rfl rfl 1 rfl (by decide)
theorem vleast_any (w:World) :
  Calls Tryz.prog 12 #[] w fun e w'=>∃ v1 v3 v7 v9,e = .returned (.agg #[v1,.slice none 0 0,v3,.slice none 0 0,.slice none 0 0,.slice none 0 0,v7,.bool false,.int .u32 0,.slice none 0 0,v9,.slice none 0 0]) ∧ aa w' (· < w'.heap.size) Ru.lt v1 ∧ aa w' (· < w'.heap.size) ([0]:List Nat) v3 ∧ aa w' (· < w'.heap.size) ([⟨Ru.main,0,0⟩]:List Exp) v7 ∧ aa w' (· < w'.heap.size) ([⟨[],[]⟩]:List Cd) v9 ∧ Below w.heap.size w w' :=
 (vleast_raw w).mono (fun e w' h=>by
  obtain ⟨g,rfl,_,hl,hb⟩:=h
  exact ⟨_,_,_,_,rfl,lg_types hl.h0 hl.h1 hl.h2,lg_funcs hl.h3,lg_exps hl.h5,lg_codes (c:=⟨[],[]⟩) hl.h4 (aa.nil _ _) (aa.nil _ _),hb⟩)
def bN (W:World) (a b c d:Value):Prop:=aa W (· < W.heap.size) Ru.lt a ∧ aa W (· < W.heap.size) ([0]:List Nat) b ∧ aa W (· < W.heap.size) ([⟨Ru.main,0,0⟩]:List Exp) c ∧ aa W (· < W.heap.size) ([⟨[],[]⟩]:List Cd) d
theorem bN.grow {W W':World} {a b c d:Value} (h:bN W a b c d) (hb:Below W.heap.size W W'):bN W' a b c d:=by
 have f:∀ {α:Type} [Lay α] {xs:List α} {v:Value},aa W (· < W.heap.size) xs v → aa W' (· < W'.heap.size) xs v:=fun h=>(h.mod (T:=fun _=>False) (Mod.of_below hb) (fun _ _ _ h=>h)).more (fun _ _ hk=>Nat.lt_of_lt_of_le hk hb.size)
 exact ⟨f h.1,f h.2.1,f h.2.2.1,f h.2.2.2⟩
theorem vleast4 (w:World):Calls Tryz.prog 12 #[] w fun e w'=>∃ P1 c1 P3 c3 P7 c7 P9 c9,e = .returned (.agg #[.slice P1 3 c1,.slice none 0 0,.slice P3 1 c3,.slice none 0 0,.slice none 0 0,.slice none 0 0,.slice P7 1 c7,.bool false,.int .u32 0,.slice none 0 0,.slice P9 1 c9,.slice none 0 0]) ∧ bN w' (.slice P1 3 c1) (.slice P3 1 c3) (.slice P7 1 c7) (.slice P9 1 c9) ∧ Below w.heap.size w w':=by
 refine (vleast_any w).mono ?_
 rintro e w' ⟨v1,v3,v7,v9,rfl,h1,h3,h7,h9,hb⟩
 obtain ⟨P1,c1,rfl,_⟩:=id h1
 obtain ⟨P3,c3,rfl,_⟩:=id h3
 obtain ⟨P7,c7,rfl,_⟩:=id h7
 obtain ⟨P9,c9,rfl,_⟩:=id h9
 exact ⟨P1,c1,P3,c3,P7,c7,P9,c9,rfl,⟨h1,h3,h7,h9⟩,hb⟩
theorem twoV (w:World) (o0 o1:Obj):((w.alloc o0).alloc o1).heap[w.heap.size]? = some o0 ∧ ((w.alloc o0).alloc o1).heap[w.heap.size + 1]? = some o1 ∧ Below w.heap.size w ((w.alloc o0).alloc o1) :=
 ⟨(Below.heap_alloc _ _ _ (by simp)).trans (aQ _ _ _ (by simp)),aQ _ _ _ (by simp),bA.alloc (by simp) _⟩
theorem oneV (w:World) (o0:Obj):(w.alloc o0).heap[w.heap.size]? = some o0 ∧ Below w.heap.size w (w.alloc o0):=⟨aQ _ _ _ (by simp),bA⟩
theorem cellV {w:World} {P:Nat} {cs:Array Value} {t:TypeId} (h:w.heap[P]? = some (.cells cs t (0,0))) (k:Nat) (u:Value) (hk:cs[k]? = some u):w.cell? ⟨P,k,none⟩ = some u:=by
 rw [cell_of_row w P k _ _ (0,0) h];exact hk
def LstV (W:World) (X:Array Value):Prop:=∃ P1 c1 P3 c3 P7 c7 P9 c9,X = #[.slice P1 3 c1,.slice none 0 0,.slice P3 1 c3,.slice none 0 0,.slice none 0 0,.slice none 0 0,.slice P7 1 c7,.bool false,.int .u32 0,.slice none 0 0,.slice P9 1 c9,.slice none 0 0] ∧ bN W (.slice P1 3 c1) (.slice P3 1 c3) (.slice P7 1 c7) (.slice P9 1 c9)
theorem LstV.grow {W W':World} {X:Array Value} (h:LstV W X) (hb:Below W.heap.size W W'):LstV W' X:=by
 obtain ⟨P1,c1,P3,c3,P7,c7,P9,c9,h1,h2⟩:=h
 exact ⟨P1,c1,P3,c3,P7,c7,P9,c9,h1,h2.grow hb⟩
theorem vleast5 (w:World):Calls Tryz.prog 12 #[] w fun e w'=>∃ X,e = .returned (.agg X) ∧ X.size = 12 ∧ X.all (·.oneCell') = true ∧ LstV w' X ∧ Below w.heap.size w w':=by
 refine (vleast4 w).mono ?_
 rintro e w' ⟨P1,c1,P3,c3,P7,c7,P9,c9,rfl,hl,hb⟩
 exact ⟨_,rfl,rfl,by simp [Value.oneCell'],⟨P1,c1,P3,c3,P7,c7,P9,c9,rfl,hl⟩,hb⟩
theorem siz12 {X:Array Value} (h:X.size = 12):(Tryz.prog.info? 49).map (·.size) = some X.size:=by rw [h];exact cr
theorem old12 {X:Array Value} (h:X.size = 12):(#[.slice none 0 0,.slice none 0 0,.slice none 0 0,.slice none 0 0,.slice none 0 0,.slice none 0 0,.slice none 0 0,.bool false,.int .u32 0,.slice none 0 0,.slice none 0 0,.slice none 0 0]:Array Value).size = X.size:=by rw [h];rfl
theorem rep_kA {W:World} {P1 P3 P7 P9:Option Addr} {c1 c3 c7 c9 r r2:Nat} (hl:bN W (.slice P1 3 c1) (.slice P3 1 c3) (.slice P7 1 c7) (.slice P9 1 c9)) (h0:W.heap[r]? = some (.cells #[.string ⟨#[101,110,118]⟩,.string ⟨#[99,97,108,108,101,114]⟩,.int .u8 0,.int .u32 1,.int .u32 0,.int .i64 0,.int .u8 0,.bool false] 75 (0,0))) (h1:W.heap[r2]? = some (.cells #[.string ⟨#[109,97,105,110]⟩,.int .u8 0,.int .u32 1] 52 (0,0))):RepM W (· < W.heap.size) Ru.kA (.slice P1 3 c1) ((.slice (some ⟨r,0,none⟩) 1 1)) (.slice P3 1 c3) (.slice none 0 0) (.slice none 0 0) (.slice none 0 0) ((.slice (some ⟨r2,0,none⟩) 1 1)) (.slice none 0 0) (.slice P9 1 c9) (.slice none 0 0) :=
 ⟨hl.1,litV (α:=Imp) [(⟨Ru.env,Ru.caller,0,1,⟨0,0⟩,⟨0,false⟩⟩,[.string ⟨#[101,110,118]⟩,.string ⟨#[99,97,108,108,101,114]⟩,.int .u8 0,.int .u32 1,.int .u32 0,.int .i64 0,.int .u8 0,.bool false])] h0 (Array.getElem?_eq_some_iff.1 h0).1 (by intro y hy;simp at hy;subst hy;exact ⟨rfl,by decide,by decide,by decide,by decide⟩) rfl rfl 1 rfl (by decide),hl.2.1,aa.nil _ _,aa.nil _ _,aa.nil _ _,litV (α:=Exp) [(⟨Ru.main,0,1⟩,[.string ⟨#[109,97,105,110]⟩,.int .u8 0,.int .u32 1])] h1 (Array.getElem?_eq_some_iff.1 h1).1 (by intro y hy;simp at hy;subst hy;exact ⟨rfl,by decide⟩) rfl rfl 1 rfl (by decide),(by decide),aa.nil _ _,hl.2.2.2,aa.nil _ _⟩
theorem rep_kB {W:World} {P1 P3 P7 P9:Option Addr} {c1 c3 c7 c9 r r2:Nat} (hl:bN W (.slice P1 3 c1) (.slice P3 1 c3) (.slice P7 1 c7) (.slice P9 1 c9)) (h0:W.heap[r]? = some (.cells #[.string ⟨#[101,110,118]⟩,.string ⟨#[115,101,110,100,101,114]⟩,.int .u8 0,.int .u32 2,.int .u32 0,.int .i64 0,.int .u8 0,.bool false] 75 (0,0))) (h1:W.heap[r2]? = some (.cells #[.string ⟨#[109,97,105,110]⟩,.int .u8 0,.int .u32 1] 52 (0,0))):RepM W (· < W.heap.size) Ru.kB (.slice P1 3 c1) ((.slice (some ⟨r,0,none⟩) 1 1)) (.slice P3 1 c3) (.slice none 0 0) (.slice none 0 0) (.slice none 0 0) ((.slice (some ⟨r2,0,none⟩) 1 1)) (.slice none 0 0) (.slice P9 1 c9) (.slice none 0 0) :=
 ⟨hl.1,litV (α:=Imp) [(⟨Ru.env,Ru.sender,0,2,⟨0,0⟩,⟨0,false⟩⟩,[.string ⟨#[101,110,118]⟩,.string ⟨#[115,101,110,100,101,114]⟩,.int .u8 0,.int .u32 2,.int .u32 0,.int .i64 0,.int .u8 0,.bool false])] h0 (Array.getElem?_eq_some_iff.1 h0).1 (by intro y hy;simp at hy;subst hy;exact ⟨rfl,by decide,by decide,by decide,by decide⟩) rfl rfl 1 rfl (by decide),hl.2.1,aa.nil _ _,aa.nil _ _,aa.nil _ _,litV (α:=Exp) [(⟨Ru.main,0,1⟩,[.string ⟨#[109,97,105,110]⟩,.int .u8 0,.int .u32 1])] h1 (Array.getElem?_eq_some_iff.1 h1).1 (by intro y hy;simp at hy;subst hy;exact ⟨rfl,by decide⟩) rfl rfl 1 rfl (by decide),(by decide),aa.nil _ _,hl.2.2.2,aa.nil _ _⟩
theorem rep_kC {W:World} {P1 P3 P7 P9:Option Addr} {c1 c3 c7 c9 r:Nat} (hl:bN W (.slice P1 3 c1) (.slice P3 1 c3) (.slice P7 1 c7) (.slice P9 1 c9)) (h0:W.heap[r]? = some (.cells #[.string ⟨#[101,110,118]⟩,.string ⟨#[99,97,108,108,101,114]⟩,.int .u8 2,.int .u32 0,.int .u32 0,.int .i64 (-1),.int .u8 0,.bool false] 75 (0,0))):RepM W (· < W.heap.size) Ru.kC (.slice P1 3 c1) ((.slice (some ⟨r,0,none⟩) 1 1)) (.slice P3 1 c3) (.slice none 0 0) (.slice none 0 0) (.slice none 0 0) (.slice P7 1 c7) (.slice none 0 0) (.slice P9 1 c9) (.slice none 0 0) :=
 ⟨hl.1,litV (α:=Imp) [(⟨Ru.env,Ru.caller,2,0,⟨0,-1⟩,⟨0,false⟩⟩,[.string ⟨#[101,110,118]⟩,.string ⟨#[99,97,108,108,101,114]⟩,.int .u8 2,.int .u32 0,.int .u32 0,.int .i64 (-1),.int .u8 0,.bool false])] h0 (Array.getElem?_eq_some_iff.1 h0).1 (by intro y hy;simp at hy;subst hy;exact ⟨rfl,by decide,by decide,by decide,by decide⟩) rfl rfl 1 rfl (by decide),hl.2.1,aa.nil _ _,aa.nil _ _,aa.nil _ _,hl.2.2.1,(by decide),aa.nil _ _,hl.2.2.2,aa.nil _ _⟩
theorem rep_kD {W:World} {P1 P3 P7 P9:Option Addr} {c1 c3 c7 c9 r:Nat} (hl:bN W (.slice P1 3 c1) (.slice P3 1 c3) (.slice P7 1 c7) (.slice P9 1 c9)) (h0:W.heap[r]? = some (.cells #[.int .u32 17,.int .i64 (-1)] 66 (0,0))):RepM W (· < W.heap.size) Ru.kD (.slice P1 3 c1) (.slice none 0 0) (.slice P3 1 c3) (.slice none 0 0) ((.slice (some ⟨r,0,none⟩) 1 1)) (.slice none 0 0) (.slice P7 1 c7) (.slice none 0 0) (.slice P9 1 c9) (.slice none 0 0) :=
 ⟨hl.1,aa.nil _ _,hl.2.1,aa.nil _ _,litV (α:=Lim) [(⟨17,-1⟩,[.int .u32 17,.int .i64 (-1)])] h0 (Array.getElem?_eq_some_iff.1 h0).1 (by intro y hy;simp at hy;subst hy;exact ⟨rfl,by decide,by decide,by decide⟩) rfl rfl 1 rfl (by decide),aa.nil _ _,hl.2.2.1,(by decide),aa.nil _ _,hl.2.2.2,aa.nil _ _⟩
theorem fit_rkA:FitR Ru.kA:=dj (of_decide_eq_true (by kernel_rfl))
theorem fit_rkB:FitR Ru.kB:=dj (of_decide_eq_true (by kernel_rfl))
theorem fit_rkC:FitR Ru.kC:=dj (of_decide_eq_true (by kernel_rfl))
theorem fit_rkD:FitR Ru.kD:=dj (of_decide_eq_true (by kernel_rfl))
theorem fit_rkL:FitR Ru.least:=dj (of_decide_eq_true (by kernel_rfl))
theorem find_rk (hf:FindOk) {nm:List UInt8} (W:World) {o:Option Nat} (hn:Ru.find nm = o):Calls Tryz.prog 10 #[.string ⟨nm.toArray⟩] W fun e w'=>e = .returned (.tuple #[.int .i64 ((o.getD 0:Nat):Int),.bool o.isSome]) ∧ Below W.heap.size W w':=by
 have h:=hf nm W
 rw [hn] at h
 exact h
theorem rep_kL {W:World} {P1 P3 P7 P9:Option Addr} {c1 c3 c7 c9:Nat} (hl:bN W (.slice P1 3 c1) (.slice P3 1 c3) (.slice P7 1 c7) (.slice P9 1 c9)):RepM W (· < W.heap.size) Ru.least (.slice P1 3 c1) (.slice none 0 0) (.slice P3 1 c3) (.slice none 0 0) (.slice none 0 0) (.slice none 0 0) (.slice P7 1 c7) (.slice none 0 0) (.slice P9 1 c9) (.slice none 0 0) :=
 ⟨hl.1,aa.nil _ _,hl.2.1,aa.nil _ _,aa.nil _ _,aa.nil _ _,hl.2.2.1,(by decide),aa.nil _ _,hl.2.2.2,aa.nil _ _⟩
theorem dF (hr:RuleOk) {m:M} {n:Nat} (hn:Ru.check m = n) (hf:FitR m) {v1 v2 v3 v4 v5 v6 v7 v8 v9 v10:Value} {W:World} (hM:RepM W (· < W.heap.size) m v1 v2 v3 v4 v5 v6 v7 v8 v9 v10) :
  Calls Tryz.prog 13 #[.agg #[v1,v2,v3,v4,v5,v6,v7,.bool m.hasStart,.int .u32 ↑m.start,v8,v9,v10]] W fun e w'=>e = .returned (.int .i64 ↑n) ∧ Below W.heap.size W w':=by
 have h:=hr m v1 v2 v3 v4 v5 v6 v7 v8 v9 v10 W hM hf
 rw [hn] at h
 exact h
theorem known12 (hr:RuleOk) (hf:FindOk) (w:World):Calls Tryz.prog 6 #[] w fun e w'=>e = .returned (.bool true) ∧ Below w.heap.size w w':=by
 have HR:=J hr
 have HFD:=J hf
 clear hr hf
 go_enter Tryz.func6,Tryz.ntmps6
 go_wp2_with fail
 refine (vleast5 w).mono ?_
 rintro e ya ⟨Xa,rfl,hsa,hoa,hl,hb⟩
 have HLa:=J hl
 have HWa:=J hb
 have HSa:=J hsa
 have HOa:=J hoa
 clear hl hb hsa hoa
 go_wp2_with fail
 refine (vleast5 ya).mono ?_
 rintro e yb ⟨Xb,rfl,hsb,hob,hl,hb⟩
 have HLb:=J hl
 have HWb:=J hb
 have HSb:=J hsb
 have HOb:=J hob
 clear hl hb hsb hob
 go_wp2_with fail
 refine (vleast5 yb).mono ?_
 rintro e yc ⟨Xc,rfl,hsc,hoc,hl,hb⟩
 have HLc:=J hl
 have HWc:=J hb
 have HSc:=J hsc
 have HOc:=J hoc
 clear hl hb hsc hoc
 go_wp2_with fail
 refine (vleast5 yc).mono ?_
 rintro e yd ⟨Xd,rfl,hsd,hod,hl,hb⟩
 have HLd:=J hl
 have HWd:=J hb
 have HSd:=J hsd
 have HOd:=J hod
 clear hl hb hsd hod
 obtain ⟨t0,t1,t2,t3,t4⟩:=fourV yd (.cells #[.slice none 0 0,.slice none 0 0,.slice none 0 0,.slice none 0 0,.slice none 0 0,.slice none 0 0,.slice none 0 0,.bool false,.int .u32 0,.slice none 0 0,.slice none 0 0,.slice none 0 0] 49) (.cells #[.slice none 0 0,.slice none 0 0,.slice none 0 0,.slice none 0 0,.slice none 0 0,.slice none 0 0,.slice none 0 0,.bool false,.int .u32 0,.slice none 0 0,.slice none 0 0,.slice none 0 0] 49) (.cells #[.slice none 0 0,.slice none 0 0,.slice none 0 0,.slice none 0 0,.slice none 0 0,.slice none 0 0,.slice none 0 0,.bool false,.int .u32 0,.slice none 0 0,.slice none 0 0,.slice none 0 0] 49) (.cells #[.slice none 0 0,.slice none 0 0,.slice none 0 0,.slice none 0 0,.slice none 0 0,.slice none 0 0,.slice none 0 0,.bool false,.int .u32 0,.slice none 0 0,.slice none 0 0,.slice none 0 0] 49)
 have G0:=J t0
 have G1:=J t1
 have G2:=J t2
 have G3:=J t3
 have HD:=J t4
 clear t0 t1 t2 t3 t4
 go_upto_region 2 with (first | (refine ah rfl 49 (.tmp 1) (.tmp 9) rfl rfl (yd.heap.size) Xa rfl rfl 49 #[.slice none 0 0,.slice none 0 0,.slice none 0 0,.slice none 0 0,.slice none 0 0,.slice none 0 0,.slice none 0 0,.bool false,.int .u32 0,.slice none 0 0,.slice none 0 0,.slice none 0 0] G0.out (siz12 HSa.out) (old12 HSa.out) HOa.out ?_;have K0:=J (setRow_heap _ _ #[.slice none 0 0,.slice none 0 0,.slice none 0 0,.slice none 0 0,.slice none 0 0,.slice none 0 0,.slice none 0 0,.bool false,.int .u32 0,.slice none 0 0,.slice none 0 0,.slice none 0 0] Xa _ _ G0.out);have K1:=J ((setRow_other _ (yd.heap.size) (yd.heap.size + 1) Xa (by omega)).trans G1.out);have K2:=J ((setRow_other _ (yd.heap.size) (yd.heap.size + 2) Xa (by omega)).trans G2.out);have K3:=J ((setRow_other _ (yd.heap.size) (yd.heap.size + 3) Xa (by omega)).trans G3.out);have KD:=J (ab HD.out (show yd.heap.size ≤ yd.heap.size by omega) Xa);clear G0 G1 G2 G3 HD;have G0:=K0;have G1:=K1;have G2:=K2;have G3:=K3;have HD:=KD;clear K0 K1 K2 K3 KD;generalize World.setRow ((((yd.alloc (.cells #[.slice none 0 0,.slice none 0 0,.slice none 0 0,.slice none 0 0,.slice none 0 0,.slice none 0 0,.slice none 0 0,.bool false,.int .u32 0,.slice none 0 0,.slice none 0 0,.slice none 0 0] 49)).alloc (.cells #[.slice none 0 0,.slice none 0 0,.slice none 0 0,.slice none 0 0,.slice none 0 0,.slice none 0 0,.slice none 0 0,.bool false,.int .u32 0,.slice none 0 0,.slice none 0 0,.slice none 0 0] 49)).alloc (.cells #[.slice none 0 0,.slice none 0 0,.slice none 0 0,.slice none 0 0,.slice none 0 0,.slice none 0 0,.slice none 0 0,.bool false,.int .u32 0,.slice none 0 0,.slice none 0 0,.slice none 0 0] 49)).alloc (.cells #[.slice none 0 0,.slice none 0 0,.slice none 0 0,.slice none 0 0,.slice none 0 0,.slice none 0 0,.slice none 0 0,.bool false,.int .u32 0,.slice none 0 0,.slice none 0 0,.slice none 0 0] 49)) (yd.heap.size) Xa = x0 at G0 G1 G2 G3 HD ⊢) | (refine ah rfl 49 (.tmp 2) (.tmp 10) rfl rfl (yd.heap.size + 1) Xb rfl rfl 49 #[.slice none 0 0,.slice none 0 0,.slice none 0 0,.slice none 0 0,.slice none 0 0,.slice none 0 0,.slice none 0 0,.bool false,.int .u32 0,.slice none 0 0,.slice none 0 0,.slice none 0 0] G1.out (siz12 HSb.out) (old12 HSb.out) HOb.out ?_;have K0:=J ((setRow_other _ (yd.heap.size + 1) (yd.heap.size) Xb (by omega)).trans G0.out);have K1:=J (setRow_heap _ _ #[.slice none 0 0,.slice none 0 0,.slice none 0 0,.slice none 0 0,.slice none 0 0,.slice none 0 0,.slice none 0 0,.bool false,.int .u32 0,.slice none 0 0,.slice none 0 0,.slice none 0 0] Xb _ _ G1.out);have K2:=J ((setRow_other _ (yd.heap.size + 1) (yd.heap.size + 2) Xb (by omega)).trans G2.out);have K3:=J ((setRow_other _ (yd.heap.size + 1) (yd.heap.size + 3) Xb (by omega)).trans G3.out);have KD:=J (ab HD.out (show yd.heap.size ≤ yd.heap.size + 1 by omega) Xb);clear G0 G1 G2 G3 HD;have G0:=K0;have G1:=K1;have G2:=K2;have G3:=K3;have HD:=KD;clear K0 K1 K2 K3 KD;generalize World.setRow x0 (yd.heap.size + 1) Xb = x1 at G0 G1 G2 G3 HD ⊢) | (refine ah rfl 49 (.tmp 3) (.tmp 11) rfl rfl (yd.heap.size + 2) Xc rfl rfl 49 #[.slice none 0 0,.slice none 0 0,.slice none 0 0,.slice none 0 0,.slice none 0 0,.slice none 0 0,.slice none 0 0,.bool false,.int .u32 0,.slice none 0 0,.slice none 0 0,.slice none 0 0] G2.out (siz12 HSc.out) (old12 HSc.out) HOc.out ?_;have K0:=J ((setRow_other _ (yd.heap.size + 2) (yd.heap.size) Xc (by omega)).trans G0.out);have K1:=J ((setRow_other _ (yd.heap.size + 2) (yd.heap.size + 1) Xc (by omega)).trans G1.out);have K2:=J (setRow_heap _ _ #[.slice none 0 0,.slice none 0 0,.slice none 0 0,.slice none 0 0,.slice none 0 0,.slice none 0 0,.slice none 0 0,.bool false,.int .u32 0,.slice none 0 0,.slice none 0 0,.slice none 0 0] Xc _ _ G2.out);have K3:=J ((setRow_other _ (yd.heap.size + 2) (yd.heap.size + 3) Xc (by omega)).trans G3.out);have KD:=J (ab HD.out (show yd.heap.size ≤ yd.heap.size + 2 by omega) Xc);clear G0 G1 G2 G3 HD;have G0:=K0;have G1:=K1;have G2:=K2;have G3:=K3;have HD:=KD;clear K0 K1 K2 K3 KD;generalize World.setRow x1 (yd.heap.size + 2) Xc = x2 at G0 G1 G2 G3 HD ⊢) | (refine ah rfl 49 (.tmp 4) (.tmp 12) rfl rfl (yd.heap.size + 3) Xd rfl rfl 49 #[.slice none 0 0,.slice none 0 0,.slice none 0 0,.slice none 0 0,.slice none 0 0,.slice none 0 0,.slice none 0 0,.bool false,.int .u32 0,.slice none 0 0,.slice none 0 0,.slice none 0 0] G3.out (siz12 HSd.out) (old12 HSd.out) HOd.out ?_;have K0:=J ((setRow_other _ (yd.heap.size + 3) (yd.heap.size) Xd (by omega)).trans G0.out);have K1:=J ((setRow_other _ (yd.heap.size + 3) (yd.heap.size + 1) Xd (by omega)).trans G1.out);have K2:=J ((setRow_other _ (yd.heap.size + 3) (yd.heap.size + 2) Xd (by omega)).trans G2.out);have K3:=J (setRow_heap _ _ #[.slice none 0 0,.slice none 0 0,.slice none 0 0,.slice none 0 0,.slice none 0 0,.slice none 0 0,.slice none 0 0,.bool false,.int .u32 0,.slice none 0 0,.slice none 0 0,.slice none 0 0] Xd _ _ G3.out);have KD:=J (ab HD.out (show yd.heap.size ≤ yd.heap.size + 3 by omega) Xd);clear G0 G1 G2 G3 HD;have G0:=K0;have G1:=K1;have G2:=K2;have G3:=K3;have HD:=KD;clear K0 K1 K2 K3 KD;generalize World.setRow x2 (yd.heap.size + 3) Xd = x3 at G0 G1 G2 G3 HD ⊢))
 have HLA:=J (HLa.out.grow (HWb.out.trans ((HWc.out.trans (HWd.out.mono HWc.out.size)).mono HWb.out.size)))
 have HLB:=J (HLb.out.grow (HWc.out.trans (HWd.out.mono HWc.out.size)))
 have HLC:=J (HLc.out.grow HWd.out)
 have HLE:=J HLd.out
 have HWW:=J (HWa.out.trans ((HWb.out.trans ((HWc.out.trans (HWd.out.mono HWc.out.size)).mono HWb.out.size)).mono HWa.out.size))
 clear HLa HLb HLc HLd HWa HWb HWc HWd HSa HSb HSc HSd HOa HOb HOc HOd
 obtain ⟨q,hq⟩:∃ q,yd.heap.size = q:=⟨_,rfl⟩
 rw [hq] at G0 G1 G2 G3 HD
 have HQ:=J hq
 simp only [hq]
 clear hq
 obtain ⟨P1a,c1a,P3a,c3a,P7a,c7a,P9a,c9a,rfl,hla⟩:=HLA.out
 obtain ⟨P1b,c1b,P3b,c3b,P7b,c7b,P9b,c9b,rfl,hlb⟩:=HLB.out
 obtain ⟨P1c,c1c,P3c,c3c,P7c,c7c,P9c,c9c,rfl,hlc⟩:=HLC.out
 obtain ⟨P1d,c1d,P3d,c3d,P7d,c7d,P9d,c9d,rfl,hld⟩:=HLE.out
 have HLA:=J hla
 have HLB:=J hlb
 have HLC:=J hlc
 have HLE:=J hld
 clear hla hlb hlc hld
 have HQL:Hid (q + 3 < x3.heap.size):=J (gL G3.out)
 obtain ⟨t0,t1,t2⟩:=twoV x3 (.cells #[.string ⟨#[101,110,118]⟩,.string ⟨#[99,97,108,108,101,114]⟩,.int .u8 0,.int .u32 1,.int .u32 0,.int .i64 0,.int .u8 0,.bool false] 75) (.cells #[.string ⟨#[109,97,105,110]⟩,.int .u8 0,.int .u32 1] 52)
 have N0:=J t0
 have N1:=J t1
 have NB:=J t2
 have K0:=J ((t2.block q (by have:=HQL.out;omega)).trans G0.out)
 have K1:=J ((t2.block (q + 1) (by have:=HQL.out;omega)).trans G1.out)
 have K2:=J ((t2.block (q + 2) (by have:=HQL.out;omega)).trans G2.out)
 have K3:=J ((t2.block (q + 3) (by have:=HQL.out;omega)).trans G3.out)
 clear t0 t1 t2
 have z1:=cellV K0.out 1 _ rfl
 have f1:=frozen_of_row _ (q) 1 _ _ K0.out
 have z6:=cellV K0.out 6 _ rfl
 have f6:=frozen_of_row _ (q) 6 _ _ K0.out
 go_upto_region 3 with fail
 clear z1 z6 f1 f6
 have G0':Hid (((((x3.alloc (.cells #[.string ⟨#[101,110,118]⟩,.string ⟨#[99,97,108,108,101,114]⟩,.int .u8 0,.int .u32 1,.int .u32 0,.int .i64 0,.int .u8 0,.bool false] 75)).alloc (.cells #[.string ⟨#[109,97,105,110]⟩,.int .u8 0,.int .u32 1] 52)).setCell ⟨q,1,none⟩ (.slice (some ⟨x3.heap.size,0,none⟩) 1 1)).setCell ⟨q,6,none⟩ (.slice (some ⟨x3.heap.size + 1,0,none⟩) 1 1)).heap[q]? = some (.cells #[.slice P1a 3 c1a,(.slice (some ⟨x3.heap.size,0,none⟩) 1 1),.slice P3a 1 c3a,.slice none 0 0,.slice none 0 0,.slice none 0 0,(.slice (some ⟨x3.heap.size + 1,0,none⟩) 1 1),.bool false,.int .u32 0,.slice none 0 0,.slice P9a 1 c9a,.slice none 0 0] 49 (0,0))):=J (heap_setCell_same _ (q) 6 _ _ (.slice (some ⟨x3.heap.size + 1,0,none⟩) 1 1) (heap_setCell_same _ (q) 1 _ _ (.slice (some ⟨x3.heap.size,0,none⟩) 1 1) K0.out))
 have G1':Hid (((((x3.alloc (.cells #[.string ⟨#[101,110,118]⟩,.string ⟨#[99,97,108,108,101,114]⟩,.int .u8 0,.int .u32 1,.int .u32 0,.int .i64 0,.int .u8 0,.bool false] 75)).alloc (.cells #[.string ⟨#[109,97,105,110]⟩,.int .u8 0,.int .u32 1] 52)).setCell ⟨q,1,none⟩ (.slice (some ⟨x3.heap.size,0,none⟩) 1 1)).setCell ⟨q,6,none⟩ (.slice (some ⟨x3.heap.size + 1,0,none⟩) 1 1)).heap[(q + 1)]? = _):=J ((Below.heap_setCell _ _ _ _ (by show (q + 1) ≠ q;omega)).trans ((Below.heap_setCell _ _ _ _ (by show (q + 1) ≠ q;omega)).trans (K1.out)))
 have G2':Hid (((((x3.alloc (.cells #[.string ⟨#[101,110,118]⟩,.string ⟨#[99,97,108,108,101,114]⟩,.int .u8 0,.int .u32 1,.int .u32 0,.int .i64 0,.int .u8 0,.bool false] 75)).alloc (.cells #[.string ⟨#[109,97,105,110]⟩,.int .u8 0,.int .u32 1] 52)).setCell ⟨q,1,none⟩ (.slice (some ⟨x3.heap.size,0,none⟩) 1 1)).setCell ⟨q,6,none⟩ (.slice (some ⟨x3.heap.size + 1,0,none⟩) 1 1)).heap[(q + 2)]? = _):=J ((Below.heap_setCell _ _ _ _ (by show (q + 2) ≠ q;omega)).trans ((Below.heap_setCell _ _ _ _ (by show (q + 2) ≠ q;omega)).trans (K2.out)))
 have G3':Hid (((((x3.alloc (.cells #[.string ⟨#[101,110,118]⟩,.string ⟨#[99,97,108,108,101,114]⟩,.int .u8 0,.int .u32 1,.int .u32 0,.int .i64 0,.int .u8 0,.bool false] 75)).alloc (.cells #[.string ⟨#[109,97,105,110]⟩,.int .u8 0,.int .u32 1] 52)).setCell ⟨q,1,none⟩ (.slice (some ⟨x3.heap.size,0,none⟩) 1 1)).setCell ⟨q,6,none⟩ (.slice (some ⟨x3.heap.size + 1,0,none⟩) 1 1)).heap[(q + 3)]? = _):=J ((Below.heap_setCell _ _ _ _ (by show (q + 3) ≠ q;omega)).trans ((Below.heap_setCell _ _ _ _ (by show (q + 3) ≠ q;omega)).trans (K3.out)))
 have N0':Hid (((((x3.alloc (.cells #[.string ⟨#[101,110,118]⟩,.string ⟨#[99,97,108,108,101,114]⟩,.int .u8 0,.int .u32 1,.int .u32 0,.int .i64 0,.int .u8 0,.bool false] 75)).alloc (.cells #[.string ⟨#[109,97,105,110]⟩,.int .u8 0,.int .u32 1] 52)).setCell ⟨q,1,none⟩ (.slice (some ⟨x3.heap.size,0,none⟩) 1 1)).setCell ⟨q,6,none⟩ (.slice (some ⟨x3.heap.size + 1,0,none⟩) 1 1)).heap[x3.heap.size]? = _):=J ((Below.heap_setCell _ _ _ _ (by show x3.heap.size ≠ q;have:=HQL.out;omega)).trans ((Below.heap_setCell _ _ _ _ (by show x3.heap.size ≠ q;have:=HQL.out;omega)).trans (N0.out)))
 have N1':Hid (((((x3.alloc (.cells #[.string ⟨#[101,110,118]⟩,.string ⟨#[99,97,108,108,101,114]⟩,.int .u8 0,.int .u32 1,.int .u32 0,.int .i64 0,.int .u8 0,.bool false] 75)).alloc (.cells #[.string ⟨#[109,97,105,110]⟩,.int .u8 0,.int .u32 1] 52)).setCell ⟨q,1,none⟩ (.slice (some ⟨x3.heap.size,0,none⟩) 1 1)).setCell ⟨q,6,none⟩ (.slice (some ⟨x3.heap.size + 1,0,none⟩) 1 1)).heap[x3.heap.size + 1]? = _):=J ((Below.heap_setCell _ _ _ _ (by show x3.heap.size + 1 ≠ q;have:=HQL.out;omega)).trans ((Below.heap_setCell _ _ _ _ (by show x3.heap.size + 1 ≠ q;have:=HQL.out;omega)).trans (N1.out)))
 have HD':Hid (Below q yd ((((x3.alloc (.cells #[.string ⟨#[101,110,118]⟩,.string ⟨#[99,97,108,108,101,114]⟩,.int .u8 0,.int .u32 1,.int .u32 0,.int .i64 0,.int .u8 0,.bool false] 75)).alloc (.cells #[.string ⟨#[109,97,105,110]⟩,.int .u8 0,.int .u32 1] 52)).setCell ⟨q,1,none⟩ (.slice (some ⟨x3.heap.size,0,none⟩) 1 1)).setCell ⟨q,6,none⟩ (.slice (some ⟨x3.heap.size + 1,0,none⟩) 1 1))):=J (((HD.out.trans (NB.out.mono (by show q ≤ x3.heap.size;have:=HQL.out;omega))).setCell (by show q ≤ q;omega) _).setCell (by show q ≤ q;omega) _)
 clear G0 G1 G2 G3 K0 K1 K2 K3 NB HD N0 N1
 obtain ⟨r,hr⟩:∃ r,x3.heap.size = r:=⟨_,rfl⟩
 have HRLr:Hid (q + 3 < r):=J (by rw [← hr];exact HQL.out)
 generalize ((((x3.alloc (.cells #[.string ⟨#[101,110,118]⟩,.string ⟨#[99,97,108,108,101,114]⟩,.int .u8 0,.int .u32 1,.int .u32 0,.int .i64 0,.int .u8 0,.bool false] 75)).alloc (.cells #[.string ⟨#[109,97,105,110]⟩,.int .u8 0,.int .u32 1] 52)).setCell ⟨q,1,none⟩ (.slice (some ⟨x3.heap.size,0,none⟩) 1 1)).setCell ⟨q,6,none⟩ (.slice (some ⟨x3.heap.size + 1,0,none⟩) 1 1)) = z2 at G0' G1' G2' G3' HD' N0' N1' ⊢
 simp only [hr] at G0' N0' N1' ⊢
 clear hr HQL
 have G0:=G0'
 have G1:=G1'
 have G2:=G2'
 have G3:=G3'
 have HD:=HD'
 have R0:=N0'
 have R1:=N1'
 clear G0' G1' G2' G3' HD' N0' N1'
 have HQL:Hid (q + 3 < z2.heap.size):=J (gL G3.out)
 obtain ⟨t0,t1⟩:=oneV z2 (.cells #[.string ⟨#[101,110,118]⟩,.string ⟨#[115,101,110,100,101,114]⟩,.int .u8 0,.int .u32 2,.int .u32 0,.int .i64 0,.int .u8 0,.bool false] 75)
 have N0:=J t0
 have NB:=J t1
 have K0:=J ((t1.block q (by have:=HQL.out;omega)).trans G0.out)
 have K1:=J ((t1.block (q + 1) (by have:=HQL.out;omega)).trans G1.out)
 have K2:=J ((t1.block (q + 2) (by have:=HQL.out;omega)).trans G2.out)
 have K3:=J ((t1.block (q + 3) (by have:=HQL.out;omega)).trans G3.out)
 have M0:=J ((t1.block r (gL R0.out)).trans R0.out)
 have M1:=J ((t1.block (r + 1) (gL R1.out)).trans R1.out)
 clear t0 t1
 have z1:(z2.alloc (.cells #[.string ⟨#[101,110,118]⟩,.string ⟨#[115,101,110,100,101,114]⟩,.int .u8 0,.int .u32 2,.int .u32 0,.int .i64 0,.int .u8 0,.bool false] 75)).drew.cell? ⟨q + 1,1,none⟩ = some (.slice none 0 0):=cellV K1.out 1 _ rfl
 have f1:(z2.alloc (.cells #[.string ⟨#[101,110,118]⟩,.string ⟨#[115,101,110,100,101,114]⟩,.int .u8 0,.int .u32 2,.int .u32 0,.int .i64 0,.int .u8 0,.bool false] 75)).drew.frozen? ⟨q + 1,1,none⟩ = false:=frozen_of_row _ (q + 1) 1 _ _ K1.out
 have z6:(z2.alloc (.cells #[.string ⟨#[101,110,118]⟩,.string ⟨#[115,101,110,100,101,114]⟩,.int .u8 0,.int .u32 2,.int .u32 0,.int .i64 0,.int .u8 0,.bool false] 75)).drew.cell? ⟨q + 1,6,none⟩ = some (.slice P7b 1 c7b):=cellV K1.out 6 _ rfl
 have f6:(z2.alloc (.cells #[.string ⟨#[101,110,118]⟩,.string ⟨#[115,101,110,100,101,114]⟩,.int .u8 0,.int .u32 2,.int .u32 0,.int .i64 0,.int .u8 0,.bool false] 75)).drew.frozen? ⟨q + 1,6,none⟩ = false:=frozen_of_row _ (q + 1) 6 _ _ K1.out
 have y6:=cellV K0.out 6 _ rfl
 have x6:z2.drew.cell? ⟨q,6,none⟩ = _:=cellV G0.out 6 _ rfl
 refine wp_region_held_drew (S:=fun W'=>W'.cell? ⟨q,6,none⟩ = some (.slice (some ⟨r + 1,0,none⟩) 1 1)) (by kernel_rfl) (x6) (fun hHeld=>?_)
 refine dW 0 rfl ?_
 refine dW 2 rfl ?_
 refine dW 3 rfl ?_
 refine dA 1 rfl fun K hK=>?_
 go_simp
 refine hK.out _ _ y6 fun hHeld=>?_
 clear hK K
 refine dW 4 rfl ?_
 refine dA 5 rfl fun K hK=>?_
 go_simp
 refine hK.out _ _ ?_ (fun hHeld2=>?_)
 ·exact cellV ((Below.heap_setCell _ _ _ _ (by show q ≠ q + 1;omega)).trans K0.out) 6 _ rfl
 clear hK K hHeld
 have hHeld:=hHeld2
 clear hHeld2
 refine dW 6 rfl ?_
 have z7:((z2.alloc (.cells #[.string ⟨#[101,110,118]⟩,.string ⟨#[115,101,110,100,101,114]⟩,.int .u8 0,.int .u32 2,.int .u32 0,.int .i64 0,.int .u8 0,.bool false] 75)).setCell ⟨q + 1,1,none⟩ (.slice (some ⟨z2.heap.size,0,none⟩) 1 1)).drew.cell? ⟨q + 1,6,none⟩ = some (.slice P7b 1 c7b):=cellV (heap_setCell_same _ (q + 1) 1 _ _ _ K1.out) 6 _ rfl
 have f7:((z2.alloc (.cells #[.string ⟨#[101,110,118]⟩,.string ⟨#[115,101,110,100,101,114]⟩,.int .u8 0,.int .u32 2,.int .u32 0,.int .i64 0,.int .u8 0,.bool false] 75)).setCell ⟨q + 1,1,none⟩ (.slice (some ⟨z2.heap.size,0,none⟩) 1 1)).drew.frozen? ⟨q + 1,6,none⟩ = false:=frozen_of_row _ (q + 1) 6 _ _ (heap_setCell_same _ (q + 1) 1 _ _ _ K1.out)
 refine dA 7 rfl fun K hK=>?_
 go_simp
 refine hK.out _ _ ?_ (fun hHeld2=>?_)
 ·exact cellV ((Below.heap_setCell _ _ _ _ (by show q ≠ q + 1;omega)).trans ((Below.heap_setCell _ _ _ _ (by show q ≠ q + 1;omega)).trans K0.out)) 6 _ rfl
 clear hK K hHeld
 have hHeld:=hHeld2
 clear hHeld2
 refine dN ?_
 clear hHeld x6 y6
 go_upto_region 4 with fail
 clear z1 z6 f1 f6 z7 f7
 have G1':Hid ((((z2.alloc (.cells #[.string ⟨#[101,110,118]⟩,.string ⟨#[115,101,110,100,101,114]⟩,.int .u8 0,.int .u32 2,.int .u32 0,.int .i64 0,.int .u8 0,.bool false] 75)).setCell ⟨q + 1,1,none⟩ (.slice (some ⟨z2.heap.size,0,none⟩) 1 1)).setCell ⟨q + 1,6,none⟩ (.slice (some ⟨r + 1,0,none⟩) 1 1)).drew.heap[(q + 1)]? = some (.cells #[.slice P1b 3 c1b,(.slice (some ⟨z2.heap.size,0,none⟩) 1 1),.slice P3b 1 c3b,.slice none 0 0,.slice none 0 0,.slice none 0 0,(.slice (some ⟨r + 1,0,none⟩) 1 1),.bool false,.int .u32 0,.slice none 0 0,.slice P9b 1 c9b,.slice none 0 0] 49 (0,0))):=J (heap_setCell_same _ ((q + 1)) 6 _ _ (.slice (some ⟨r + 1,0,none⟩) 1 1) (heap_setCell_same _ ((q + 1)) 1 _ _ (.slice (some ⟨z2.heap.size,0,none⟩) 1 1) K1.out))
 have G0':Hid ((((z2.alloc (.cells #[.string ⟨#[101,110,118]⟩,.string ⟨#[115,101,110,100,101,114]⟩,.int .u8 0,.int .u32 2,.int .u32 0,.int .i64 0,.int .u8 0,.bool false] 75)).setCell ⟨q + 1,1,none⟩ (.slice (some ⟨z2.heap.size,0,none⟩) 1 1)).setCell ⟨q + 1,6,none⟩ (.slice (some ⟨r + 1,0,none⟩) 1 1)).drew.heap[q]? = _):=J ((Below.heap_setCell _ _ _ _ (by show q ≠ (q + 1);omega)).trans ((Below.heap_setCell _ _ _ _ (by show q ≠ (q + 1);omega)).trans (K0.out)))
 have G2':Hid ((((z2.alloc (.cells #[.string ⟨#[101,110,118]⟩,.string ⟨#[115,101,110,100,101,114]⟩,.int .u8 0,.int .u32 2,.int .u32 0,.int .i64 0,.int .u8 0,.bool false] 75)).setCell ⟨q + 1,1,none⟩ (.slice (some ⟨z2.heap.size,0,none⟩) 1 1)).setCell ⟨q + 1,6,none⟩ (.slice (some ⟨r + 1,0,none⟩) 1 1)).drew.heap[(q + 2)]? = _):=J ((Below.heap_setCell _ _ _ _ (by show (q + 2) ≠ (q + 1);omega)).trans ((Below.heap_setCell _ _ _ _ (by show (q + 2) ≠ (q + 1);omega)).trans (K2.out)))
 have G3':Hid ((((z2.alloc (.cells #[.string ⟨#[101,110,118]⟩,.string ⟨#[115,101,110,100,101,114]⟩,.int .u8 0,.int .u32 2,.int .u32 0,.int .i64 0,.int .u8 0,.bool false] 75)).setCell ⟨q + 1,1,none⟩ (.slice (some ⟨z2.heap.size,0,none⟩) 1 1)).setCell ⟨q + 1,6,none⟩ (.slice (some ⟨r + 1,0,none⟩) 1 1)).drew.heap[(q + 3)]? = _):=J ((Below.heap_setCell _ _ _ _ (by show (q + 3) ≠ (q + 1);omega)).trans ((Below.heap_setCell _ _ _ _ (by show (q + 3) ≠ (q + 1);omega)).trans (K3.out)))
 have N0':Hid ((((z2.alloc (.cells #[.string ⟨#[101,110,118]⟩,.string ⟨#[115,101,110,100,101,114]⟩,.int .u8 0,.int .u32 2,.int .u32 0,.int .i64 0,.int .u8 0,.bool false] 75)).setCell ⟨q + 1,1,none⟩ (.slice (some ⟨z2.heap.size,0,none⟩) 1 1)).setCell ⟨q + 1,6,none⟩ (.slice (some ⟨r + 1,0,none⟩) 1 1)).drew.heap[z2.heap.size]? = _):=J ((Below.heap_setCell _ _ _ _ (by show z2.heap.size ≠ (q + 1);have:=HQL.out;omega)).trans ((Below.heap_setCell _ _ _ _ (by show z2.heap.size ≠ (q + 1);have:=HQL.out;omega)).trans (N0.out)))
 have M0':Hid ((((z2.alloc (.cells #[.string ⟨#[101,110,118]⟩,.string ⟨#[115,101,110,100,101,114]⟩,.int .u8 0,.int .u32 2,.int .u32 0,.int .i64 0,.int .u8 0,.bool false] 75)).setCell ⟨q + 1,1,none⟩ (.slice (some ⟨z2.heap.size,0,none⟩) 1 1)).setCell ⟨q + 1,6,none⟩ (.slice (some ⟨r + 1,0,none⟩) 1 1)).drew.heap[r]? = _):=J ((Below.heap_setCell _ _ _ _ (by show r ≠ (q + 1);have:=HRLr.out;omega)).trans ((Below.heap_setCell _ _ _ _ (by show r ≠ (q + 1);have:=HRLr.out;omega)).trans (M0.out)))
 have M1':Hid ((((z2.alloc (.cells #[.string ⟨#[101,110,118]⟩,.string ⟨#[115,101,110,100,101,114]⟩,.int .u8 0,.int .u32 2,.int .u32 0,.int .i64 0,.int .u8 0,.bool false] 75)).setCell ⟨q + 1,1,none⟩ (.slice (some ⟨z2.heap.size,0,none⟩) 1 1)).setCell ⟨q + 1,6,none⟩ (.slice (some ⟨r + 1,0,none⟩) 1 1)).drew.heap[(r + 1)]? = _):=J ((Below.heap_setCell _ _ _ _ (by show (r + 1) ≠ (q + 1);have:=HRLr.out;omega)).trans ((Below.heap_setCell _ _ _ _ (by show (r + 1) ≠ (q + 1);have:=HRLr.out;omega)).trans (M1.out)))
 have HD':Hid (Below q yd (((z2.alloc (.cells #[.string ⟨#[101,110,118]⟩,.string ⟨#[115,101,110,100,101,114]⟩,.int .u8 0,.int .u32 2,.int .u32 0,.int .i64 0,.int .u8 0,.bool false] 75)).setCell ⟨q + 1,1,none⟩ (.slice (some ⟨z2.heap.size,0,none⟩) 1 1)).setCell ⟨q + 1,6,none⟩ (.slice (some ⟨r + 1,0,none⟩) 1 1)).drew):=J (Below.drew <| ((HD.out.trans (NB.out.mono (by show q ≤ z2.heap.size;have:=HQL.out;omega))).setCell (by show q ≤ (q + 1);omega) _).setCell (by show q ≤ (q + 1);omega) _)
 clear G0 G1 G2 G3 K0 K1 K2 K3 NB HD N0 M0 M1 R0 R1
 obtain ⟨s,hs⟩:∃ r,z2.heap.size = r:=⟨_,rfl⟩
 have HRLs:Hid (q + 3 < s):=J (by rw [← hs];exact HQL.out)
 generalize (((z2.alloc (.cells #[.string ⟨#[101,110,118]⟩,.string ⟨#[115,101,110,100,101,114]⟩,.int .u8 0,.int .u32 2,.int .u32 0,.int .i64 0,.int .u8 0,.bool false] 75)).setCell ⟨q + 1,1,none⟩ (.slice (some ⟨z2.heap.size,0,none⟩) 1 1)).setCell ⟨q + 1,6,none⟩ (.slice (some ⟨r + 1,0,none⟩) 1 1)).drew = z3 at G0' G1' G2' G3' HD' N0' M0' M1' ⊢
 simp only [hs] at G1' N0' ⊢
 clear hs HQL
 have G0:=G0'
 have G1:=G1'
 have G2:=G2'
 have G3:=G3'
 have HD:=HD'
 have R0:=M0'
 have R1:=M1'
 have S0:=N0'
 clear G0' G1' G2' G3' HD' N0' M0' M1'
 have HQL:Hid (q + 3 < z3.heap.size):=J (gL G3.out)
 obtain ⟨t0,t1⟩:=oneV z3 (.cells #[.string ⟨#[101,110,118]⟩,.string ⟨#[99,97,108,108,101,114]⟩,.int .u8 2,.int .u32 0,.int .u32 0,.int .i64 (-1),.int .u8 0,.bool false] 75)
 have N0:=J t0
 have NB:=J t1
 have K0:=J ((t1.block q (by have:=HQL.out;omega)).trans G0.out)
 have K1:=J ((t1.block (q + 1) (by have:=HQL.out;omega)).trans G1.out)
 have K2:=J ((t1.block (q + 2) (by have:=HQL.out;omega)).trans G2.out)
 have K3:=J ((t1.block (q + 3) (by have:=HQL.out;omega)).trans G3.out)
 have M0:=J ((t1.block r (gL R0.out)).trans R0.out)
 have M1:=J ((t1.block (r + 1) (gL R1.out)).trans R1.out)
 have M2:=J ((t1.block s (gL S0.out)).trans S0.out)
 clear t0 t1
 have z1:=cellV K2.out 1 _ rfl
 have f1:=frozen_of_row _ ((q + 2)) 1 _ _ K2.out
 go_upto_region 5 with fail
 clear z1 f1
 have G2':Hid (((z3.alloc (.cells #[.string ⟨#[101,110,118]⟩,.string ⟨#[99,97,108,108,101,114]⟩,.int .u8 2,.int .u32 0,.int .u32 0,.int .i64 (-1),.int .u8 0,.bool false] 75)).setCell ⟨q + 2,1,none⟩ (.slice (some ⟨z3.heap.size,0,none⟩) 1 1)).heap[(q + 2)]? = some (.cells #[.slice P1c 3 c1c,(.slice (some ⟨z3.heap.size,0,none⟩) 1 1),.slice P3c 1 c3c,.slice none 0 0,.slice none 0 0,.slice none 0 0,.slice P7c 1 c7c,.bool false,.int .u32 0,.slice none 0 0,.slice P9c 1 c9c,.slice none 0 0] 49 (0,0))):=J (heap_setCell_same _ ((q + 2)) 1 _ _ (.slice (some ⟨z3.heap.size,0,none⟩) 1 1) K2.out)
 have G0':Hid (((z3.alloc (.cells #[.string ⟨#[101,110,118]⟩,.string ⟨#[99,97,108,108,101,114]⟩,.int .u8 2,.int .u32 0,.int .u32 0,.int .i64 (-1),.int .u8 0,.bool false] 75)).setCell ⟨q + 2,1,none⟩ (.slice (some ⟨z3.heap.size,0,none⟩) 1 1)).heap[q]? = _):=J ((Below.heap_setCell _ _ _ _ (by show q ≠ (q + 2);omega)).trans (K0.out))
 have G1':Hid (((z3.alloc (.cells #[.string ⟨#[101,110,118]⟩,.string ⟨#[99,97,108,108,101,114]⟩,.int .u8 2,.int .u32 0,.int .u32 0,.int .i64 (-1),.int .u8 0,.bool false] 75)).setCell ⟨q + 2,1,none⟩ (.slice (some ⟨z3.heap.size,0,none⟩) 1 1)).heap[(q + 1)]? = _):=J ((Below.heap_setCell _ _ _ _ (by show (q + 1) ≠ (q + 2);omega)).trans (K1.out))
 have G3':Hid (((z3.alloc (.cells #[.string ⟨#[101,110,118]⟩,.string ⟨#[99,97,108,108,101,114]⟩,.int .u8 2,.int .u32 0,.int .u32 0,.int .i64 (-1),.int .u8 0,.bool false] 75)).setCell ⟨q + 2,1,none⟩ (.slice (some ⟨z3.heap.size,0,none⟩) 1 1)).heap[(q + 3)]? = _):=J ((Below.heap_setCell _ _ _ _ (by show (q + 3) ≠ (q + 2);omega)).trans (K3.out))
 have N0':Hid (((z3.alloc (.cells #[.string ⟨#[101,110,118]⟩,.string ⟨#[99,97,108,108,101,114]⟩,.int .u8 2,.int .u32 0,.int .u32 0,.int .i64 (-1),.int .u8 0,.bool false] 75)).setCell ⟨q + 2,1,none⟩ (.slice (some ⟨z3.heap.size,0,none⟩) 1 1)).heap[z3.heap.size]? = _):=J ((Below.heap_setCell _ _ _ _ (by show z3.heap.size ≠ (q + 2);have:=HQL.out;omega)).trans (N0.out))
 have M0':Hid (((z3.alloc (.cells #[.string ⟨#[101,110,118]⟩,.string ⟨#[99,97,108,108,101,114]⟩,.int .u8 2,.int .u32 0,.int .u32 0,.int .i64 (-1),.int .u8 0,.bool false] 75)).setCell ⟨q + 2,1,none⟩ (.slice (some ⟨z3.heap.size,0,none⟩) 1 1)).heap[r]? = _):=J ((Below.heap_setCell _ _ _ _ (by show r ≠ (q + 2);have:=HRLr.out;omega)).trans (M0.out))
 have M1':Hid (((z3.alloc (.cells #[.string ⟨#[101,110,118]⟩,.string ⟨#[99,97,108,108,101,114]⟩,.int .u8 2,.int .u32 0,.int .u32 0,.int .i64 (-1),.int .u8 0,.bool false] 75)).setCell ⟨q + 2,1,none⟩ (.slice (some ⟨z3.heap.size,0,none⟩) 1 1)).heap[(r + 1)]? = _):=J ((Below.heap_setCell _ _ _ _ (by show (r + 1) ≠ (q + 2);have:=HRLr.out;omega)).trans (M1.out))
 have M2':Hid (((z3.alloc (.cells #[.string ⟨#[101,110,118]⟩,.string ⟨#[99,97,108,108,101,114]⟩,.int .u8 2,.int .u32 0,.int .u32 0,.int .i64 (-1),.int .u8 0,.bool false] 75)).setCell ⟨q + 2,1,none⟩ (.slice (some ⟨z3.heap.size,0,none⟩) 1 1)).heap[s]? = _):=J ((Below.heap_setCell _ _ _ _ (by show s ≠ (q + 2);have:=HRLs.out;omega)).trans (M2.out))
 have HD':Hid (Below q yd ((z3.alloc (.cells #[.string ⟨#[101,110,118]⟩,.string ⟨#[99,97,108,108,101,114]⟩,.int .u8 2,.int .u32 0,.int .u32 0,.int .i64 (-1),.int .u8 0,.bool false] 75)).setCell ⟨q + 2,1,none⟩ (.slice (some ⟨z3.heap.size,0,none⟩) 1 1))):=J ((HD.out.trans (NB.out.mono (by show q ≤ z3.heap.size;have:=HQL.out;omega))).setCell (by show q ≤ (q + 2);omega) _)
 clear G0 G1 G2 G3 K0 K1 K2 K3 NB HD N0 M0 M1 M2 R0 R1 S0
 obtain ⟨t,ht⟩:∃ r,z3.heap.size = r:=⟨_,rfl⟩
 have HRLt:Hid (q + 3 < t):=J (by rw [← ht];exact HQL.out)
 generalize ((z3.alloc (.cells #[.string ⟨#[101,110,118]⟩,.string ⟨#[99,97,108,108,101,114]⟩,.int .u8 2,.int .u32 0,.int .u32 0,.int .i64 (-1),.int .u8 0,.bool false] 75)).setCell ⟨q + 2,1,none⟩ (.slice (some ⟨z3.heap.size,0,none⟩) 1 1)) = z4 at G0' G1' G2' G3' HD' N0' M0' M1' M2' ⊢
 simp only [ht] at G2' N0' ⊢
 clear ht HQL
 have G0:=G0'
 have G1:=G1'
 have G2:=G2'
 have G3:=G3'
 have HD:=HD'
 have R0:=M0'
 have R1:=M1'
 have S0:=M2'
 have T0:=N0'
 clear G0' G1' G2' G3' HD' N0' M0' M1' M2'
 have HQL:Hid (q + 3 < z4.heap.size):=J (gL G3.out)
 obtain ⟨t0,t1⟩:=oneV z4 (.cells #[.int .u32 17,.int .i64 (-1)] 66)
 have N0:=J t0
 have NB:=J t1
 have K0:=J ((t1.block q (by have:=HQL.out;omega)).trans G0.out)
 have K1:=J ((t1.block (q + 1) (by have:=HQL.out;omega)).trans G1.out)
 have K2:=J ((t1.block (q + 2) (by have:=HQL.out;omega)).trans G2.out)
 have K3:=J ((t1.block (q + 3) (by have:=HQL.out;omega)).trans G3.out)
 have M0:=J ((t1.block r (gL R0.out)).trans R0.out)
 have M1:=J ((t1.block (r + 1) (gL R1.out)).trans R1.out)
 have M2:=J ((t1.block s (gL S0.out)).trans S0.out)
 have M3:=J ((t1.block t (gL T0.out)).trans T0.out)
 clear t0 t1
 have y4:=cellV K3.out 4 _ rfl
 have f4:=frozen_of_row _ (q + 3) 4 _ _ K3.out
 go_upto_region 6 with fail
 clear y4 f4
 have G3':Hid (((z4.alloc (.cells #[.int .u32 17,.int .i64 (-1)] 66)).setCell ⟨q + 3,4,none⟩ (.slice (some ⟨z4.heap.size,0,none⟩) 1 1)).heap[(q + 3)]? = some (.cells #[.slice P1d 3 c1d,.slice none 0 0,.slice P3d 1 c3d,.slice none 0 0,(.slice (some ⟨z4.heap.size,0,none⟩) 1 1),.slice none 0 0,.slice P7d 1 c7d,.bool false,.int .u32 0,.slice none 0 0,.slice P9d 1 c9d,.slice none 0 0] 49 (0,0))):=J (heap_setCell_same _ ((q + 3)) 4 _ _ (.slice (some ⟨z4.heap.size,0,none⟩) 1 1) K3.out)
 have G0':Hid (((z4.alloc (.cells #[.int .u32 17,.int .i64 (-1)] 66)).setCell ⟨q + 3,4,none⟩ (.slice (some ⟨z4.heap.size,0,none⟩) 1 1)).heap[q]? = _):=J ((Below.heap_setCell _ _ _ _ (by show q ≠ (q + 3);omega)).trans (K0.out))
 have G1':Hid (((z4.alloc (.cells #[.int .u32 17,.int .i64 (-1)] 66)).setCell ⟨q + 3,4,none⟩ (.slice (some ⟨z4.heap.size,0,none⟩) 1 1)).heap[(q + 1)]? = _):=J ((Below.heap_setCell _ _ _ _ (by show (q + 1) ≠ (q + 3);omega)).trans (K1.out))
 have G2':Hid (((z4.alloc (.cells #[.int .u32 17,.int .i64 (-1)] 66)).setCell ⟨q + 3,4,none⟩ (.slice (some ⟨z4.heap.size,0,none⟩) 1 1)).heap[(q + 2)]? = _):=J ((Below.heap_setCell _ _ _ _ (by show (q + 2) ≠ (q + 3);omega)).trans (K2.out))
 have N0':Hid (((z4.alloc (.cells #[.int .u32 17,.int .i64 (-1)] 66)).setCell ⟨q + 3,4,none⟩ (.slice (some ⟨z4.heap.size,0,none⟩) 1 1)).heap[z4.heap.size]? = _):=J ((Below.heap_setCell _ _ _ _ (by show z4.heap.size ≠ (q + 3);have:=HQL.out;omega)).trans (N0.out))
 have M0':Hid (((z4.alloc (.cells #[.int .u32 17,.int .i64 (-1)] 66)).setCell ⟨q + 3,4,none⟩ (.slice (some ⟨z4.heap.size,0,none⟩) 1 1)).heap[r]? = _):=J ((Below.heap_setCell _ _ _ _ (by show r ≠ (q + 3);have:=HRLr.out;omega)).trans (M0.out))
 have M1':Hid (((z4.alloc (.cells #[.int .u32 17,.int .i64 (-1)] 66)).setCell ⟨q + 3,4,none⟩ (.slice (some ⟨z4.heap.size,0,none⟩) 1 1)).heap[(r + 1)]? = _):=J ((Below.heap_setCell _ _ _ _ (by show (r + 1) ≠ (q + 3);have:=HRLr.out;omega)).trans (M1.out))
 have M2':Hid (((z4.alloc (.cells #[.int .u32 17,.int .i64 (-1)] 66)).setCell ⟨q + 3,4,none⟩ (.slice (some ⟨z4.heap.size,0,none⟩) 1 1)).heap[s]? = _):=J ((Below.heap_setCell _ _ _ _ (by show s ≠ (q + 3);have:=HRLs.out;omega)).trans (M2.out))
 have M3':Hid (((z4.alloc (.cells #[.int .u32 17,.int .i64 (-1)] 66)).setCell ⟨q + 3,4,none⟩ (.slice (some ⟨z4.heap.size,0,none⟩) 1 1)).heap[t]? = _):=J ((Below.heap_setCell _ _ _ _ (by show t ≠ (q + 3);have:=HRLt.out;omega)).trans (M3.out))
 have HD':Hid (Below q yd ((z4.alloc (.cells #[.int .u32 17,.int .i64 (-1)] 66)).setCell ⟨q + 3,4,none⟩ (.slice (some ⟨z4.heap.size,0,none⟩) 1 1))):=J ((HD.out.trans (NB.out.mono (by show q ≤ z4.heap.size;have:=HQL.out;omega))).setCell (by show q ≤ (q + 3);omega) _)
 clear G0 G1 G2 G3 K0 K1 K2 K3 NB HD N0 M0 M1 M2 M3 R0 R1 S0 T0
 obtain ⟨u,hu⟩:∃ r,z4.heap.size = r:=⟨_,rfl⟩
 have HRLu:Hid (q + 3 < u):=J (by rw [← hu];exact HQL.out)
 generalize ((z4.alloc (.cells #[.int .u32 17,.int .i64 (-1)] 66)).setCell ⟨q + 3,4,none⟩ (.slice (some ⟨z4.heap.size,0,none⟩) 1 1)) = z5 at G0' G1' G2' G3' HD' N0' M0' M1' M2' M3' ⊢
 simp only [hu] at G3' N0' ⊢
 clear hu HQL
 have G0:=G0'
 have G1:=G1'
 have G2:=G2'
 have G3:=G3'
 have HD:=HD'
 have R0:=M0'
 have R1:=M1'
 have S0:=M2'
 have T0:=M3'
 have U0:=N0'
 clear G0' G1' G2' G3' HD' N0' M0' M1' M2' M3'
 have HDY:Hid (Below yd.heap.size yd z5):=J (by rw [HQ.out];exact HD.out)
 have HREPA:=J (rep_kA (HLA.out.grow HDY.out) R0.out R1.out)
 have HREPB:=J (rep_kB (HLB.out.grow HDY.out) S0.out R1.out)
 have HREPC:=J (rep_kC (HLC.out.grow HDY.out) T0.out)
 have HREPD:=J (rep_kD (HLE.out.grow HDY.out) U0.out)
 have HCA:=J (fun W (hb:Below z5.heap.size z5 W)=>dF HR.out Ru.rA fit_rkA (HREPA.out.grow hb))
 have HXA:=J (fun W (hb:Below z5.heap.size z5 W)=>cells12 G0.out hb)
 have HCB:=J (fun W (hb:Below z5.heap.size z5 W)=>dF HR.out Ru.rB fit_rkB (HREPB.out.grow hb))
 have HXB:=J (fun W (hb:Below z5.heap.size z5 W)=>cells12 G1.out hb)
 have HCC:=J (fun W (hb:Below z5.heap.size z5 W)=>dF HR.out Ru.rC fit_rkC (HREPC.out.grow hb))
 have HXC:=J (fun W (hb:Below z5.heap.size z5 W)=>cells12 G2.out hb)
 have HCD:=J (fun W (hb:Below z5.heap.size z5 W)=>dF HR.out Ru.rD fit_rkD (HREPD.out.grow hb))
 have HXD:=J (fun W (hb:Below z5.heap.size z5 W)=>cells12 G3.out hb)
 have HC0:=J (fun W=>dF HR.out (m:=Va.nilM) (W:=W) Ru.r0 ⟨fit_nilM,nofun⟩ (v1:=.slice none 0 0) (v2:=.slice none 0 0) (v3:=.slice none 0 0) (v4:=.slice none 0 0) (v5:=.slice none 0 0) (v6:=.slice none 0 0) (v7:=.slice none 0 0) (v8:=.slice none 0 0) (v9:=.slice none 0 0) (v10:=.slice none 0 0) ⟨aa.nil _ _,aa.nil _ _,aa.nil _ _,aa.nil _ _,aa.nil _ _,aa.nil _ _,aa.nil _ _,(by decide),aa.nil _ _,aa.nil _ _,aa.nil _ _⟩)
 have HFG:=J (fun W=>find_rk HFD.out (nm:=[103,97,115,95,108,101,102,116]) W Ru.fG)
 have HFM:=J (fun W=>find_rk HFD.out (nm:=[109,101,116,101,114]) W Ru.fM)
 have HBE:=J (HWW.out.trans (HDY.out.mono HWW.out.size))
 clear G0 G1 G2 G3 HD R0 R1 S0 T0 U0 HLA HLB HLC HLE HDY HREPA HREPB HREPC HREPD HRLr HRLs HRLt HRLu HQ HWW
 go_upto_region 7 with (go_at_call 10;refine (HFG.out _).mono ?_;rintro e a1 ⟨rfl,hb⟩;have B1:=J hb;clear hb)
 go_upto_region 8 with (go_at_call 10;refine (HFM.out _).mono ?_;rintro e a2 ⟨rfl,hb⟩;have B2:=J (B1.out.trans (hb.mono B1.out.size));clear hb)
 go_wp2_with fail
 refine (HC0.out _).mono ?_
 rintro e a3 ⟨rfl,hb⟩
 have B3:=J (B2.out.trans (hb.mono B2.out.size))
 clear hb
 go_wp2_with fail
 refine (vleast4 _).mono ?_
 rintro e a4 ⟨P1e,c1e,P3e,c3e,P7e,c7e,P9e,c9e,rfl,hl,hb⟩
 have B4:=J (B3.out.trans (hb.mono B3.out.size))
 have HCL:=J (dF HR.out Ru.rL fit_rkL (rep_kL hl))
 clear hb hl
 go_wp2_with fail
 refine HCL.out.mono ?_
 rintro e a5 ⟨rfl,hb⟩
 have B5:=J (B4.out.trans (hb.mono B4.out.size))
 clear hb
 obtain ⟨k0,k1,k2,k3,k4,k5,k6,k7,k8,k9,k10,k11⟩:=HXA.out _ B5.out
 go_wp2_with fail
 refine (HCA.out _ B5.out).mono ?_
 rintro e a6 ⟨rfl,hb⟩
 have B6:=J (B5.out.trans (hb.mono B5.out.size))
 clear hb k0 k1 k2 k3 k4 k5 k6 k7 k8 k9 k10 k11
 obtain ⟨k0,k1,k2,k3,k4,k5,k6,k7,k8,k9,k10,k11⟩:=HXB.out _ B6.out
 go_wp2_with fail
 refine (HCB.out _ B6.out).mono ?_
 rintro e a7 ⟨rfl,hb⟩
 have B7:=J (B6.out.trans (hb.mono B6.out.size))
 clear hb k0 k1 k2 k3 k4 k5 k6 k7 k8 k9 k10 k11
 obtain ⟨k0,k1,k2,k3,k4,k5,k6,k7,k8,k9,k10,k11⟩:=HXC.out _ B7.out
 go_wp2_with fail
 refine (HCC.out _ B7.out).mono ?_
 rintro e a8 ⟨rfl,hb⟩
 have B8:=J (B7.out.trans (hb.mono B7.out.size))
 clear hb k0 k1 k2 k3 k4 k5 k6 k7 k8 k9 k10 k11
 obtain ⟨k0,k1,k2,k3,k4,k5,k6,k7,k8,k9,k10,k11⟩:=HXD.out _ B8.out
 go_wp2_with fail
 refine (HCD.out _ B8.out).mono ?_
 rintro e a9 ⟨rfl,hb⟩
 have B9:=J (B8.out.trans (hb.mono B8.out.size))
 clear hb k0 k1 k2 k3 k4 k5 k6 k7 k8 k9 k10 k11
 go_wp2_with fail
 go_ret
 exact ⟨rfl,HBE.out.trans (B9.out.mono HBE.out.size)⟩
end Go.Proofs.YtmpelmihdpomjaaGreat
