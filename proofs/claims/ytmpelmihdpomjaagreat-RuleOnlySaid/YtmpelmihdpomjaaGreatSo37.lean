/-
  Layer 11's program: what is kept while a module is checked; what is told first.
-/
import Derived.Test.YtmpelmihdpomjaaGreatSo01
import Derived.Test.YtmpelmihdpomjaaGreatSo33
import Derived.Maps.OwnSet
import Derived.Test.YtmpelmihdpomjaaGreatSo32
import Derived.Lib.BitFns
import Derived.Lib.Tables
set_option maxRecDepth 100000
set_option maxHeartbeats 4000000
namespace Va
def upTo (A:Nat → Nat):Nat → Nat → Nat
 | _,0=>0
 | j,n + 1=>orE (A j) (upTo A (j + 1) n)
theorem upTo_step {A:Nat → Nat} {j n:Nat} (h:j < n):upTo A j (n - j) = orE (A j) (upTo A (j + 1) (n - (j + 1))):=by
 obtain ⟨k,hk⟩:∃ k,n - j = k + 1:=⟨n - j - 1,by omega⟩
 rw [hk,upTo,show n - (j + 1) = k from by omega]
theorem ew {α:Type} (f:α → Nat) (A:Nat → Nat):∀ (xs:List α) (j:Nat),(∀ i x,xs[i]? = some x → A (j + i) = f x) → upTo A j xs.length = first f xs
 | [],_,_=>rfl
 | x :: xs,j,h=>by
  rw [List.length_cons,upTo,first,show A j = f x from h 0 x rfl,ew f A xs (j + 1) (fun i y hy=>by have:=h (i + 1) y hy;rw [← this];congr 1;omega)]
theorem orE_assoc (a b c:Nat):orE (orE a b) c = orE a (orE b c):=by
 unfold orE
 by_cases h:a = 0 <;> simp [h]
end Va
namespace Go.Proofs.YtmpelmihdpomjaaGreat
open Go.RowKit Ins Bin Sp
def cT (w:World) (S:Nat → Prop) (P:Nat) (m:M):Prop :=
 S P ∧ ∃ A1 d1 A2 d2 A3 d3 A4 d4 A5 d5 A6 d6,w.heap[P]? = some (.cells #[.slice A1 m.types.length d1,.slice A2 (funs m).length d2,.int .i64 ((imps m 0).length:Int),.slice A3 (tabs m).length d3,.int .i64 ((imps m 1).length:Int),.slice A4 (mems m).length d4,.int .i64 ((imps m 2).length:Int),.slice A5 (globs m).length d5,.int .i64 ((imps m 3).length:Int),.slice A6 m.exports.length d6] 116 (0,0)) ∧
  aa w S m.types (.slice A1 m.types.length d1) ∧ aa w S (funs m) (.slice A2 (funs m).length d2) ∧ aa w S (tabs m) (.slice A3 (tabs m).length d3) ∧ aa w S (mems m) (.slice A4 (mems m).length d4) ∧ aa w S (globs m) (.slice A5 (globs m).length d5) ∧ aa w S m.exports (.slice A6 m.exports.length d6)
theorem cT.mod {T S:Nat → Prop} {w w':World} {P:Nat} {m:M} (h:cT w S P m) (hm:Mod T w w') (hd:∀ k,k < w.heap.size → S k → ¬ T k):cT w' S P m:=by
 obtain ⟨hP,A1,d1,A2,d2,A3,d3,A4,d4,A5,d5,A6,d6,h0,h1,h2,h3,h4,h5,h6⟩:=h
 exact ⟨hP,A1,d1,A2,d2,A3,d3,A4,d4,A5,d5,A6,d6,hm.heap h0 (hd P (gL h0) hP),h1.mod hm hd,h2.mod hm hd,h3.mod hm hd,h4.mod hm hd,h5.mod hm hd,h6.mod hm hd⟩
theorem cT.v {S:Nat → Prop} {w:World} {P:Nat} {m:M} (h:cT w S P m):aC w P m:=by
 obtain ⟨hP,A1,d1,A2,d2,A3,d3,A4,d4,A5,d5,A6,d6,h0,h1,h2,h3,h4,h5,h6⟩:=h
 exact ⟨A1,d1,A2,d2,A3,d3,A4,d4,A5,d5,A6,d6,h0,h1.more (fun k hk _=>hk),h2.more (fun k hk _=>hk),h3.more (fun k hk _=>hk),h4.more (fun k hk _=>hk),h5.more (fun k hk _=>hk),h6.more (fun k hk _=>hk)⟩
class Off (α:Type) [Lay α]:Prop where
 pos:0 < Lay.size α
 off:∀ {w:World} {S:Nat → Prop} {x:α} {cs:List Value} {q:Nat} {es:Array MapEntry} {c:Nat},Lay.rep w S x cs → w.heap[q]? = some (.map es c) → Lay.rep w (fun k=>S k ∧ k ≠ q) x cs
theorem cell_map {w:World} {q o:Nat} {es:Array MapEntry} {c:Nat} (h:w.heap[q]? = some (.map es c)):w.cell? ⟨q,o,none⟩ = none:=by
 unfold World.cell?
 simp [h]
theorem aa.off {α:Type} [Lay α] [Off α] {w:World} {S:Nat → Prop} {xs:List α} {v:Value} {q:Nat} {es:Array MapEntry} {c:Nat} (h:aa w S xs v) (hq:w.heap[q]? = some (.map es c)):aa w (fun k=>S k ∧ k ≠ q) xs v:=by
 obtain ⟨A,d,h1,h2,h3,h4,h5⟩:=h
 refine ⟨A,d,h1,h2,h3,h4,fun k x hk=>?_⟩
 obtain ⟨g,o,cs,e1,e2,e3,e4,e5⟩:=h5 k x hk
 refine ⟨g,o,cs,e1,⟨e2,fun e=>?_⟩,e3,Off.off e4 hq,e5⟩
 subst e
 have hl:cs.length = Lay.size α:=Lay.len e4
 have hp:=Off.pos (α:=α)
 have:=e5 0 cs[0] (List.getElem?_eq_getElem (by omega))
 rw [cell_map hq] at this
 cases this
instance : Off UInt8:=⟨by decide,fun h _=>h⟩
instance : Off Nat:=⟨by decide,fun h _=>h⟩
instance : Off Lim:=⟨by decide,fun h _=>h⟩
instance : Off Glob:=⟨by decide,fun h _=>h⟩
instance : Off Exp:=⟨by decide,fun h _=>h⟩
instance : Off FT:=⟨by decide,fun h hq=>by
 obtain ⟨u,v,h1,h2,h3⟩:=h
 exact ⟨u,v,h1,h2.off hq,h3.off hq⟩⟩
theorem aC.off {w:World} {P q:Nat} {m:M} {es:Array MapEntry} {c:Nat} (h:aC w P m) (hq:w.heap[q]? = some (.map es c)):cT w (fun k=>k < w.heap.size ∧ k ≠ q) P m:=by
 obtain ⟨A1,d1,A2,d2,A3,d3,A4,d4,A5,d5,A6,d6,h0,h1,h2,h3,h4,h5,h6⟩:=h
 exact ⟨⟨(gL h0),fun e=>by subst e;rw [h0] at hq;cases hq⟩,A1,d1,A2,d2,A3,d3,A4,d4,A5,d5,A6,d6,h0,h1.off hq,h2.off hq,h3.off hq,h4.off hq,h5.off hq,h6.off hq⟩
theorem repM_low {S:Nat → Prop} {w:World} {m:M} {v1 v2 v3 v4 v5 v6 v7 v8 v9 v10:Value} (h:RepM w S m v1 v2 v3 v4 v5 v6 v7 v8 v9 v10):RepM w (· < w.heap.size) m v1 v2 v3 v4 v5 v6 v7 v8 v9 v10 :=
 ⟨h.types.more (fun _ hk _=>hk),h.imports.more (fun _ hk _=>hk),h.funcs.more (fun _ hk _=>hk),h.tables.more (fun _ hk _=>hk),h.mems.more (fun _ hk _=>hk),h.globals.more (fun _ hk _=>hk),h.exports.more (fun _ hk _=>hk),h.start,h.elems.more (fun _ hk _=>hk),h.codes.more (fun _ hk _=>hk),h.datas.more (fun _ hk _=>hk)⟩
theorem repM_more {S S':Nat → Prop} {w:World} {m:M} {v1 v2 v3 v4 v5 v6 v7 v8 v9 v10:Value} (h:RepM w S m v1 v2 v3 v4 v5 v6 v7 v8 v9 v10) (hs:∀ k,k < w.heap.size → S k → S' k):RepM w S' m v1 v2 v3 v4 v5 v6 v7 v8 v9 v10 :=
 ⟨h.types.more hs,h.imports.more hs,h.funcs.more hs,h.tables.more hs,h.mems.more hs,h.globals.more hs,h.exports.more hs,h.start,h.elems.more hs,h.codes.more hs,h.datas.more hs⟩
structure VC where
 w1:World
 m:M
 sp:Nat
 mp:Nat
 P:Nat
 E:Nat
 v1:Value
 v2:Value
 v3:Value
 v4:Value
 v5:Value
 v6:Value
 v7:Value
 v8:Value
 v9:Value
 v10:Value
def VC.S (C:VC):Nat → Prop:=fun k=>k < C.w1.heap.size ∧ k ≠ C.mp
structure VC.Good (C:VC):Prop where
 rep:RepM C.w1 C.S C.m C.v1 C.v2 C.v3 C.v4 C.v5 C.v6 C.v7 C.v8 C.v9 C.v10
 space:cT C.w1 C.S C.sp C.m
 fit:FitV C.m
 lt:C.mp < C.w1.heap.size
 hP:C.w1.heap.size ≤ C.P
 hE:C.P < C.E
def cj (w:World) (mp:Nat) (ns:List (List UInt8)):Prop :=
 ∃ D:DataW Unit,w.ownsMap Tryz.prog 9 (plainElem Tryz.prog 3) mp ns.length D ∧ ∀ s:List UInt8,Maps.has D (.string s) = decide (s ∈ ns)
theorem cj.on {w w':World} {mp:Nat} {ns:List (List UInt8)} (h:cj w mp ns) (hb:w'.heap[mp]? = w.heap[mp]?):cj w' mp ns:=by
 obtain ⟨D,⟨es,c,h1,h2,h3,h4⟩,h5⟩:=h
 exact ⟨D,⟨es,c,hb.trans h1,h2,h3,h4⟩,h5⟩
structure VSt (C:VC) (w:World) (ns:List (List UInt8)) (hs:List Nat):Prop where
 mod:Mod (· = C.mp) C.w1 w
 top:C.E < w.heap.size
 names:cj w C.mp ns
 all:∃ hv,w.heap[C.P]? = some (.cells #[C.v1,C.v2,C.v3,C.v4,C.v5,C.v6,C.v7,.bool C.m.hasStart,.int .u32 ↑C.m.start,C.v8,C.v9,C.v10,.pointer (some ⟨C.sp,0,none⟩),.map (some C.mp),hv] 91 (0,0)) ∧ OwnL 3 w (C.E + 1) (fun _=>False) hv (hs.map Va.Ht.mk)
section
variable {C:VC} {w w':World} {ns:List (List UInt8)} {hs:List Nat}
theorem VSt.vin (h:VSt C w ns hs) (hC:C.Good):∃ hv,VIn w C.P C.sp C.mp C.m C.v1 C.v2 C.v3 C.v4 C.v5 C.v6 C.v7 C.v8 C.v9 C.v10 hv ∧ OwnL 3 w (C.E + 1) (fun _=>False) hv (hs.map Va.Ht.mk):=by
 obtain ⟨hv,h1,h2⟩:=h.all
 exact ⟨hv,⟨h1,repM_low (hC.rep.mod h.mod (fun k _ hk=>hk.2)),(hC.space.mod h.mod (fun k _ hk=>hk.2)).v,hC.fit⟩,h2⟩
theorem VSt.on (h:VSt C w ns hs) (hC:C.Good) (hb:Below w.heap.size w w'):VSt C w' ns hs:=by
 obtain ⟨hv,h1,h2⟩:=h.all
 have hmp:C.mp < w.heap.size:=Nat.lt_of_lt_of_le hC.lt h.mod.size
 refine ⟨h.mod.trans (T':=fun _=>False) (Mod.of_below hb) (fun _ _ h=>h.elim),Nat.lt_of_lt_of_le h.top hb.size,h.names.on (hb.block _ hmp),hv,(hb.block _ (gL h1)).trans h1,h2.mod (T:=fun _=>False) (Mod.of_below hb) (fun _ _ h=>h) (fun _ _ _ h=>h)⟩
theorem VSt.setE (h:VSt C w ns hs) (hC:C.Good) (u:Value):VSt C (w.setCell ⟨C.E,0,none⟩ u) ns hs:=by
 obtain ⟨hv,h1,h2⟩:=h.all
 have hmp:=hC.lt
 have hP:=hC.hP
 have hE:=hC.hE
 refine ⟨h.mod.setCell (fun hk=>by have:C.E < C.w1.heap.size:=hk;omega) u,by simpa [World.setCell] using h.top,h.names.on (Below.heap_setCell _ _ _ _ (by show C.mp ≠ C.E;omega)),hv,(Below.heap_setCell _ _ _ _ (by show C.P ≠ C.E;omega)).trans h1,h2.mod (T:=(· = C.E)) (Mod.setCell (T:=(· = C.E)) (Mod.refl _ w) (p:=⟨C.E,0,none⟩) (fun _=>rfl) u) (fun g hg e=>by have:=(h2.lt g hg).1;omega) (fun _ _ h=>h.elim)⟩
def Told (C:VC) (w:World) (e:Nat):Prop:=w.heap[C.E]? = some (.cells #[.int .i64 ↑e] 67 (0,0))
def VF (C:VC) (w:World):Prop:=∃ ns hs,VSt C w ns hs
theorem VF.setE (h:VF C w) (hC:C.Good) (u:Value):VF C (w.setCell ⟨C.E,0,none⟩ u):=by
 obtain ⟨ns,hs,h⟩:=h
 exact ⟨ns,hs,h.setE hC u⟩
theorem eu (C:VC) (hC:C.Good) (n:Nat) (hn:n ≤ 4000000000) (K:Nat) (hcf:∀ (a:Array Value) (w:World),(callFunc K a).run Tryz.prog w = .ok (.enter K a) w) (A:Nat → Nat) (I:Nat → World → Prop) (e0:Nat) (w:World)
  (hst:∀ j w u,I j w → I j (w.setCell ⟨C.E,0,none⟩ u))
  (hask:e0 = 0 → ∀ j w,j < n → I j w → Calls Tryz.prog K #[.pointer (some ⟨C.P,0,none⟩),.int .i64 ↑j] w fun e w'=>e = .returned (.int .i64 (A j:Int)) ∧ (A j = 0 → I (j + 1) w') ∧ VF C w' ∧ w'.heap[C.E]? = w.heap[C.E]?)
  (h0:e0 = 0 → I 0 w) (hF:VF C w) (hT:Told C w e0) :
  Calls Tryz.prog 55 #[.int .i64 ↑n,.func (.func K) #[.pointer (some ⟨C.P,0,none⟩)] #[],.pointer (some ⟨C.E,0,none⟩)] w fun e w' =>
   e = .returned (.int .i64 ((Va.orE e0 (Va.upTo A 0 n):Nat):Int)) ∧ (Va.orE e0 (Va.upTo A 0 n) = 0 → I n w') ∧ VF C w' ∧ Told C w' (Va.orE e0 (Va.upTo A 0 n)):=by
 obtain ⟨R,hR⟩:∃ R,Va.orE e0 (Va.upTo A 0 n) = R:=⟨_,rfl⟩
 have HR:Hid (R = Va.orE e0 (Va.upTo A 0 (n - 0))):=J hR.symm
 rw [hR]
 have HGD:=J hC
 have HASK:=J hask
 have HST:=J hst
 have HI:=J h0
 have HFF:=J hF
 have HTT:=J hT
 have HCF:=J hcf
 clear hask hst h0 hT hR hcf hF hC
 go_enter Tryz.func55,Tryz.ntmps55
 go_wp2_with fail
 go_loopw [6] (fun iv wr=>∃ j r:Nat,j ≤ n ∧ iv = .int .i64 ↑j ∧ Hid (R = Va.orE r (Va.upTo A j (n - j))) ∧ Hid (r = 0 → I j wr) ∧ Hid (VF C wr) ∧ Hid (Told C wr r) ∧ Hid (r = 0 → e0 = 0)) (fun iv _=>n - (intOf iv).toNat)
 case atStart=>exact ⟨0,e0,Nat.zero_le _,rfl,HR,HI,HFF,HTT,J id⟩
 case round =>
  obtain ⟨j,r,hj,rfl,HQ,HJ,HFJ,HTR,HZ⟩:=hrel
  have x0:wr.cell? ⟨C.E,0,none⟩ = some (.int .i64 ↑r):=by rw [cell_of_row wr C.E 0 _ _ (0,0) HTR.out];rfl
  have hf:=frozen_of_row wr C.E 0 _ _ HTR.out
  by_cases hr:r = 0
  ·subst hr
   by_cases hjn:j < n
   ·have hji:(j:Int) < (n:Int):=by omega
    have HC:=J (HASK.out (HZ.out rfl) j wr hjn (HJ.out rfl))
    have HQ2:Hid (R = Va.orE (A j) (Va.upTo A (j + 1) (n - (j + 1)))):=J (by rw [HQ.out,Va.orE_at rfl,Va.upTo_step hjn])
    have HZ2:Hid (A j = 0 → e0 = 0):=J (fun _=>HZ.out rfl)
    have hcf:=HCF.out
    clear HQ
    obtain ⟨a,ha⟩:∃ a,A j = a:=⟨_,rfl⟩
    rw [ha] at HC HQ2 HZ2
    clear ha
    go_wp2_with fail
    clear hcf
    refine HC.out.mono ?_
    rintro e w5 ⟨rfl,hI5,hF5,hE5⟩
    have HI5:=J (fun h0:a = 0=>HST.out (j + 1) w5 (.int .i64 ↑a) (hI5 h0))
    have HF5:=J (hF5.setE HGD.out (.int .i64 ↑a))
    have ht5:w5.heap[C.E]? = some (.cells #[.int .i64 (0:Int)] 67 (0,0)):=hE5.trans HTR.out
    have HT5:Hid (Told C (w5.setCell ⟨C.E,0,none⟩ (.int .i64 ↑a)) a):=J (heap_setCell_same w5 C.E 0 _ _ _ ht5)
    have x5:w5.cell? ⟨C.E,0,none⟩ = some (.int .i64 0):=by rw [cell_of_row w5 C.E 0 _ _ (0,0) ht5];rfl
    have hf5:=frozen_of_row w5 C.E 0 _ _ ht5
    clear hI5 hF5 hE5 ht5
    go_wp2_with fail
    go_roundw
    case rel=>exact ⟨j + 1,a,by omega,by go_num,HQ2,HI5,HF5,HT5,HZ2⟩
    case measure=>simp [intOf];omega
   ·have hji:decide ((j:Int) < (n:Int)) = false:=decide_eq_false (by omega)
    have hjn2:decide (j < n) = false:=decide_eq_false hjn
    obtain rfl:j = n:=by omega
    have HQ2:Hid (R = 0):=J (by rw [HQ.out,Nat.sub_self];rfl)
    clear hjn
    go_wp2_with fail
    go_ret
    rw [HQ2.out]
    exact ⟨rfl,fun _=>HJ.out (by trivial),HFJ.out,HTR.out⟩
  ·have hq:((r:Int) == 0) = false:=nB (by omega)
   have HQ2:Hid (R = r):=J (by rw [HQ.out,Va.orE_ne hr])
   have HRN:=J hr
   clear hr
   by_cases hjn:j < n
   ·have hji:(j:Int) < (n:Int):=by omega
    go_wp2_with fail
    go_ret
    rw [HQ2.out]
    exact ⟨rfl,fun h=>absurd h HRN.out,HFJ.out,HTR.out⟩
   ·have hji:decide ((j:Int) < (n:Int)) = false:=decide_eq_false (by omega)
    have hjn2:decide (j < n) = false:=decide_eq_false hjn
    go_wp2_with fail
    go_ret
    rw [HQ2.out]
    exact ⟨rfl,fun h=>absurd h HRN.out,HFJ.out,HTR.out⟩
theorem first_any (w:World) :
  Calls Tryz.prog 23 #[] w fun e w'=>e = .returned (.func (.func 55) #[] #[.pointer (some ⟨w.heap.size,0,none⟩)]) ∧ w' = w.alloc (.cells #[.int .i64 0] 67):=by
 go_enter Tryz.func23,Tryz.ntmps23
 go_wp2_with fail
 go_ret
 exact ⟨rfl,rfl⟩
end
theorem asks2_any (R:Nat) (w:World):Calls Tryz.prog 90 #[.pointer (some ⟨R,0,none⟩),.int .u8 2] w fun e w'=>e = .returned (.func (.func 99) #[.pointer (some ⟨R,0,none⟩)] #[]) ∧ w = w':=by
 go_enter Tryz.func90,Tryz.ntmps90
 go_wp2_with fail
 go_ret
 exact ⟨rfl,rfl⟩
theorem asks3_any (R:Nat) (w:World):Calls Tryz.prog 90 #[.pointer (some ⟨R,0,none⟩),.int .u8 3] w fun e w'=>e = .returned (.func (.func 99) #[.pointer (some ⟨R,0,none⟩)] #[]) ∧ w = w':=by
 go_enter Tryz.func90,Tryz.ntmps90
 go_wp2_with fail
 go_ret
 exact ⟨rfl,rfl⟩
theorem asks4_any (R:Nat) (w:World):Calls Tryz.prog 90 #[.pointer (some ⟨R,0,none⟩),.int .u8 4] w fun e w'=>e = .returned (.func (.func 99) #[.pointer (some ⟨R,0,none⟩)] #[]) ∧ w = w':=by
 go_enter Tryz.func90,Tryz.ntmps90
 go_wp2_with fail
 go_ret
 exact ⟨rfl,rfl⟩
theorem asks5_any (R:Nat) (w:World):Calls Tryz.prog 90 #[.pointer (some ⟨R,0,none⟩),.int .u8 5] w fun e w'=>e = .returned (.func (.func 100) #[.pointer (some ⟨R,0,none⟩)] #[]) ∧ w = w':=by
 go_enter Tryz.func90,Tryz.ntmps90
 go_wp2_with fail
 go_ret
 exact ⟨rfl,rfl⟩
theorem asks11_any (R:Nat) (w:World):Calls Tryz.prog 90 #[.pointer (some ⟨R,0,none⟩),.int .u8 11] w fun e w'=>e = .returned (.func (.func 101) #[.pointer (some ⟨R,0,none⟩)] #[]) ∧ w = w':=by
 go_enter Tryz.func90,Tryz.ntmps90
 go_wp2_with fail
 go_ret
 exact ⟨rfl,rfl⟩
theorem asks12_any (R:Nat) (w:World):Calls Tryz.prog 90 #[.pointer (some ⟨R,0,none⟩),.int .u8 12] w fun e w'=>e = .returned (.func (.func 102) #[.pointer (some ⟨R,0,none⟩)] #[]) ∧ w = w':=by
 go_enter Tryz.func90,Tryz.ntmps90
 go_wp2_with fail
 go_ret
 exact ⟨rfl,rfl⟩
theorem asks13_any (R:Nat) (w:World):Calls Tryz.prog 90 #[.pointer (some ⟨R,0,none⟩),.int .u8 13] w fun e w'=>e = .returned (.func (.func 103) #[.pointer (some ⟨R,0,none⟩)] #[]) ∧ w = w':=by
 go_enter Tryz.func90,Tryz.ntmps90
 go_wp2_with fail
 go_ret
 exact ⟨rfl,rfl⟩
theorem asks14_any (R:Nat) (w:World):Calls Tryz.prog 90 #[.pointer (some ⟨R,0,none⟩),.int .u8 14] w fun e w'=>e = .returned (.func (.func 104) #[.pointer (some ⟨R,0,none⟩)] #[]) ∧ w = w':=by
 go_enter Tryz.func90,Tryz.ntmps90
 go_wp2_with fail
 go_ret
 exact ⟨rfl,rfl⟩
theorem asks15_any (R:Nat) (w:World):Calls Tryz.prog 90 #[.pointer (some ⟨R,0,none⟩),.int .u8 15] w fun e w'=>e = .returned (.func (.func 105) #[.pointer (some ⟨R,0,none⟩)] #[]) ∧ w = w':=by
 go_enter Tryz.func90,Tryz.ntmps90
 go_wp2_with fail
 go_ret
 exact ⟨rfl,rfl⟩
theorem asks0_any (R:Nat) (w:World):Calls Tryz.prog 90 #[.pointer (some ⟨R,0,none⟩),.int .u8 0] w fun e w'=>e = .returned (.func (.func 106) #[.pointer (some ⟨R,0,none⟩)] #[]) ∧ w = w':=by
 go_enter Tryz.func90,Tryz.ntmps90
 go_wp2_with fail
 go_ret
 exact ⟨rfl,rfl⟩
theorem asks16_any (R:Nat) (w:World):Calls Tryz.prog 90 #[.pointer (some ⟨R,0,none⟩),.int .u8 16] w fun e w'=>e = .returned (.func (.func 107) #[.pointer (some ⟨R,0,none⟩)] #[]) ∧ w = w':=by
 go_enter Tryz.func90,Tryz.ntmps90
 go_wp2_with fail
 go_ret
 exact ⟨rfl,rfl⟩
theorem asks17_any (R:Nat) (w:World):Calls Tryz.prog 90 #[.pointer (some ⟨R,0,none⟩),.int .u8 17] w fun e w'=>e = .returned (.func (.func 108) #[.pointer (some ⟨R,0,none⟩)] #[]) ∧ w = w':=by
 go_enter Tryz.func90,Tryz.ntmps90
 go_wp2_with fail
 go_ret
 exact ⟨rfl,rfl⟩
theorem asks26_any (R:Nat) (w:World):Calls Tryz.prog 90 #[.pointer (some ⟨R,0,none⟩),.int .u8 26] w fun e w'=>e = .returned (.func (.func 109) #[.pointer (some ⟨R,0,none⟩)] #[]) ∧ w = w':=by
 go_enter Tryz.func90,Tryz.ntmps90
 go_wp2_with fail
 go_ret
 exact ⟨rfl,rfl⟩
theorem asks27_any (R:Nat) (w:World):Calls Tryz.prog 90 #[.pointer (some ⟨R,0,none⟩),.int .u8 27] w fun e w'=>e = .returned (.func (.func 110) #[.pointer (some ⟨R,0,none⟩)] #[]) ∧ w = w':=by
 go_enter Tryz.func90,Tryz.ntmps90
 go_wp2_with fail
 go_ret
 exact ⟨rfl,rfl⟩
theorem asks32_any (R:Nat) (w:World):Calls Tryz.prog 90 #[.pointer (some ⟨R,0,none⟩),.int .u8 32] w fun e w'=>e = .returned (.func (.func 111) #[.pointer (some ⟨R,0,none⟩)] #[]) ∧ w = w':=by
 go_enter Tryz.func90,Tryz.ntmps90
 go_wp2_with fail
 go_ret
 exact ⟨rfl,rfl⟩
theorem asks33_any (R:Nat) (w:World):Calls Tryz.prog 90 #[.pointer (some ⟨R,0,none⟩),.int .u8 33] w fun e w'=>e = .returned (.func (.func 111) #[.pointer (some ⟨R,0,none⟩)] #[]) ∧ w = w':=by
 go_enter Tryz.func90,Tryz.ntmps90
 go_wp2_with fail
 go_ret
 exact ⟨rfl,rfl⟩
theorem asks34_any (R:Nat) (w:World):Calls Tryz.prog 90 #[.pointer (some ⟨R,0,none⟩),.int .u8 34] w fun e w'=>e = .returned (.func (.func 111) #[.pointer (some ⟨R,0,none⟩)] #[]) ∧ w = w':=by
 go_enter Tryz.func90,Tryz.ntmps90
 go_wp2_with fail
 go_ret
 exact ⟨rfl,rfl⟩
theorem asks35_any (R:Nat) (w:World):Calls Tryz.prog 90 #[.pointer (some ⟨R,0,none⟩),.int .u8 35] w fun e w'=>e = .returned (.func (.func 112) #[.pointer (some ⟨R,0,none⟩)] #[]) ∧ w = w':=by
 go_enter Tryz.func90,Tryz.ntmps90
 go_wp2_with fail
 go_ret
 exact ⟨rfl,rfl⟩
theorem asks36_any (R:Nat) (w:World):Calls Tryz.prog 90 #[.pointer (some ⟨R,0,none⟩),.int .u8 36] w fun e w'=>e = .returned (.func (.func 113) #[.pointer (some ⟨R,0,none⟩)] #[]) ∧ w = w':=by
 go_enter Tryz.func90,Tryz.ntmps90
 go_wp2_with fail
 go_ret
 exact ⟨rfl,rfl⟩
theorem asks63_any (R:Nat) (w:World):Calls Tryz.prog 90 #[.pointer (some ⟨R,0,none⟩),.int .u8 63] w fun e w'=>e = .returned (.func (.func 114) #[.pointer (some ⟨R,0,none⟩)] #[]) ∧ w = w':=by
 go_enter Tryz.func90,Tryz.ntmps90
 go_wp2_with fail
 go_ret
 exact ⟨rfl,rfl⟩
theorem asks64_any (R:Nat) (w:World):Calls Tryz.prog 90 #[.pointer (some ⟨R,0,none⟩),.int .u8 64] w fun e w'=>e = .returned (.func (.func 114) #[.pointer (some ⟨R,0,none⟩)] #[]) ∧ w = w':=by
 go_enter Tryz.func90,Tryz.ntmps90
 go_wp2_with fail
 go_ret
 exact ⟨rfl,rfl⟩
theorem asksAcc_any (R op:Nat) (h0:¬ op = 0) (h2:¬ op = 2) (h3:¬ op = 3) (h4:¬ op = 4) (h5:¬ op = 5) (h11:¬ op = 11) (h12:¬ op = 12) (h13:¬ op = 13) (h14:¬ op = 14) (h15:¬ op = 15) (h16:¬ op = 16) (h17:¬ op = 17) (h26:¬ op = 26) (h27:¬ op = 27) (h32:¬ op = 32) (h33:¬ op = 33) (h34:¬ op = 34) (h35:¬ op = 35) (h36:¬ op = 36) (h63:¬ op = 63) (h64:¬ op = 64) (hw:0 < Opc.width op) (w:World):Calls Tryz.prog 90 #[.pointer (some ⟨R,0,none⟩),.int .u8 ↑op] w fun e w'=>e = .returned (.func (.func 116) #[.pointer (some ⟨R,0,none⟩)] #[]) ∧ w = w':=by
 have i0:((op:Int) == 0) = false:=nB (by omega)
 have j0:¬ ((op:Int) = 0):=by omega
 have i2:((op:Int) == 2) = false:=nB (by omega)
 have j2:¬ ((op:Int) = 2):=by omega
 have i3:((op:Int) == 3) = false:=nB (by omega)
 have j3:¬ ((op:Int) = 3):=by omega
 have i4:((op:Int) == 4) = false:=nB (by omega)
 have j4:¬ ((op:Int) = 4):=by omega
 have i5:((op:Int) == 5) = false:=nB (by omega)
 have j5:¬ ((op:Int) = 5):=by omega
 have i11:((op:Int) == 11) = false:=nB (by omega)
 have j11:¬ ((op:Int) = 11):=by omega
 have i12:((op:Int) == 12) = false:=nB (by omega)
 have j12:¬ ((op:Int) = 12):=by omega
 have i13:((op:Int) == 13) = false:=nB (by omega)
 have j13:¬ ((op:Int) = 13):=by omega
 have i14:((op:Int) == 14) = false:=nB (by omega)
 have j14:¬ ((op:Int) = 14):=by omega
 have i15:((op:Int) == 15) = false:=nB (by omega)
 have j15:¬ ((op:Int) = 15):=by omega
 have i16:((op:Int) == 16) = false:=nB (by omega)
 have j16:¬ ((op:Int) = 16):=by omega
 have i17:((op:Int) == 17) = false:=nB (by omega)
 have j17:¬ ((op:Int) = 17):=by omega
 have i26:((op:Int) == 26) = false:=nB (by omega)
 have j26:¬ ((op:Int) = 26):=by omega
 have i27:((op:Int) == 27) = false:=nB (by omega)
 have j27:¬ ((op:Int) = 27):=by omega
 have i32:((op:Int) == 32) = false:=nB (by omega)
 have j32:¬ ((op:Int) = 32):=by omega
 have i33:((op:Int) == 33) = false:=nB (by omega)
 have j33:¬ ((op:Int) = 33):=by omega
 have i34:((op:Int) == 34) = false:=nB (by omega)
 have j34:¬ ((op:Int) = 34):=by omega
 have i35:((op:Int) == 35) = false:=nB (by omega)
 have j35:¬ ((op:Int) = 35):=by omega
 have i36:((op:Int) == 36) = false:=nB (by omega)
 have j36:¬ ((op:Int) = 36):=by omega
 have i63:((op:Int) == 63) = false:=nB (by omega)
 have j63:¬ ((op:Int) = 63):=by omega
 have i64:((op:Int) == 64) = false:=nB (by omega)
 have j64:¬ ((op:Int) = 64):=by omega
 have HWD:Hid (∀ W,Calls Tryz.prog 115 #[.int .u8 ↑op] W fun e w'=>e = .returned (.int .i64 (Opc.width op)) ∧ W = w'):=J (fun W=>cN (op:Int) W)
 generalize Opc.width op = wd at HWD hw
 have hwd:decide (0 < wd) = true:=decide_eq_true hw
 go_enter Tryz.func90,Tryz.ntmps90
 go_wp2_with (go_at_call 115;refine (HWD.out _).mono ?_;rintro e w9 ⟨rfl,rfl⟩)
 go_ret
 exact ⟨rfl,rfl⟩
theorem asksPln_any (R op:Nat) (h0:¬ op = 0) (h2:¬ op = 2) (h3:¬ op = 3) (h4:¬ op = 4) (h5:¬ op = 5) (h11:¬ op = 11) (h12:¬ op = 12) (h13:¬ op = 13) (h14:¬ op = 14) (h15:¬ op = 15) (h16:¬ op = 16) (h17:¬ op = 17) (h26:¬ op = 26) (h27:¬ op = 27) (h32:¬ op = 32) (h33:¬ op = 33) (h34:¬ op = 34) (h35:¬ op = 35) (h36:¬ op = 36) (h63:¬ op = 63) (h64:¬ op = 64) (hw:¬ 0 < Opc.width op) (w:World):Calls Tryz.prog 90 #[.pointer (some ⟨R,0,none⟩),.int .u8 ↑op] w fun e w'=>e = .returned (.func (.func 117) #[.pointer (some ⟨R,0,none⟩)] #[]) ∧ w = w':=by
 have i0:((op:Int) == 0) = false:=nB (by omega)
 have j0:¬ ((op:Int) = 0):=by omega
 have i2:((op:Int) == 2) = false:=nB (by omega)
 have j2:¬ ((op:Int) = 2):=by omega
 have i3:((op:Int) == 3) = false:=nB (by omega)
 have j3:¬ ((op:Int) = 3):=by omega
 have i4:((op:Int) == 4) = false:=nB (by omega)
 have j4:¬ ((op:Int) = 4):=by omega
 have i5:((op:Int) == 5) = false:=nB (by omega)
 have j5:¬ ((op:Int) = 5):=by omega
 have i11:((op:Int) == 11) = false:=nB (by omega)
 have j11:¬ ((op:Int) = 11):=by omega
 have i12:((op:Int) == 12) = false:=nB (by omega)
 have j12:¬ ((op:Int) = 12):=by omega
 have i13:((op:Int) == 13) = false:=nB (by omega)
 have j13:¬ ((op:Int) = 13):=by omega
 have i14:((op:Int) == 14) = false:=nB (by omega)
 have j14:¬ ((op:Int) = 14):=by omega
 have i15:((op:Int) == 15) = false:=nB (by omega)
 have j15:¬ ((op:Int) = 15):=by omega
 have i16:((op:Int) == 16) = false:=nB (by omega)
 have j16:¬ ((op:Int) = 16):=by omega
 have i17:((op:Int) == 17) = false:=nB (by omega)
 have j17:¬ ((op:Int) = 17):=by omega
 have i26:((op:Int) == 26) = false:=nB (by omega)
 have j26:¬ ((op:Int) = 26):=by omega
 have i27:((op:Int) == 27) = false:=nB (by omega)
 have j27:¬ ((op:Int) = 27):=by omega
 have i32:((op:Int) == 32) = false:=nB (by omega)
 have j32:¬ ((op:Int) = 32):=by omega
 have i33:((op:Int) == 33) = false:=nB (by omega)
 have j33:¬ ((op:Int) = 33):=by omega
 have i34:((op:Int) == 34) = false:=nB (by omega)
 have j34:¬ ((op:Int) = 34):=by omega
 have i35:((op:Int) == 35) = false:=nB (by omega)
 have j35:¬ ((op:Int) = 35):=by omega
 have i36:((op:Int) == 36) = false:=nB (by omega)
 have j36:¬ ((op:Int) = 36):=by omega
 have i63:((op:Int) == 63) = false:=nB (by omega)
 have j63:¬ ((op:Int) = 63):=by omega
 have i64:((op:Int) == 64) = false:=nB (by omega)
 have j64:¬ ((op:Int) = 64):=by omega
 have HWD:Hid (∀ W,Calls Tryz.prog 115 #[.int .u8 ↑op] W fun e w'=>e = .returned (.int .i64 (Opc.width op)) ∧ W = w'):=J (fun W=>cN (op:Int) W)
 generalize Opc.width op = wd at HWD hw
 have hwd:decide (0 < wd) = false:=decide_eq_false hw
 go_enter Tryz.func90,Tryz.ntmps90
 go_wp2_with (go_at_call 115;refine (HWD.out _).mono ?_;rintro e w9 ⟨rfl,rfl⟩)
 go_ret
 exact ⟨rfl,rfl⟩
theorem len8_at (i:Nat) (h:i < Lib.len8tab.size):((Lib.len8tab[i].toNat:Nat):Int) = (Lib.bitLen i:Int):=by
 have hs:=Lib.len8tab_size
 have e:=Lib.len8_of (i:Int) (by omega) (by omega)
 rw [Int.toNat_natCast] at e
 rw [← e]
 unfold Lib.len8
 rw [Int.toNat_natCast]
 simp [h]
theorem wrap_len (c:Int) (i:Nat) (h:i < Lib.len8tab.size) (hc0:0 ≤ c) (hc1:c ≤ 100):wrap64 (c + wrap64 ((Lib.len8tab[i].toNat:Nat):Int)) = c + (Lib.bitLen i:Int):=by
 have hs:=Lib.len8tab_size
 have hl:=Lib.bitLen_le8 ⟨i,by omega⟩
 simp only at hl
 rw [len8_at i h]
 unfold wrap64
 omega
theorem bC (c i m:Nat) (hc:c ≤ 100) (hm:Lib.bitLen m = c + Lib.bitLen i) (h:i < Lib.len8tab.size):wrap64 ((c:Int) + wrap64 ((Lib.len8tab[i].toNat:Nat):Int)) = (Lib.bitLen m:Int):=by
 rw [wrap_len c i h (by omega) (by omega),hm];omega
theorem len_done0 (i:Nat) (h:i < Lib.len8tab.size):wrap64 (wrap64 ((Lib.len8tab[i].toNat:Nat):Int)) = (Lib.bitLen i:Int):=by
 have:=wrap_len 0 i h (by omega) (by omega)
 simpa using this
theorem c14 (x:Int) (w:World) (h0:0 ≤ x) (h1:x ≤ 18446744073709551615) :
  Calls Tryz.prog 147 #[.int .u64 x] w fun e w'=>e = .returned (.int .i64 (Lib.bitLen x.toNat:Int)) ∧ w = w':=by
 have hts:=Lib.len8tab_size
 go_enter Tryz.func147,Tryz.ntmps147
 go_wp2
 all_goals (go_ret;refine ⟨congrArg Ending.returned (congrArg (Value.int IntKind.i64) ?_),rfl⟩)
 ·have e:(x / 4294967296 / 65536 / 256).toNat = x.toNat / 72057594037927936:=by omega
  refine (bC 56 (x / 4294967296 / 65536 / 256).toNat x.toNat (by omega) ?_ _)
  rw [e];exact Lib.bitLen_shift56 x.toNat (by omega) (by omega)
 ·have e:(x / 4294967296 / 65536).toNat = x.toNat / 281474976710656:=by omega
  refine (bC 48 (x / 4294967296 / 65536).toNat x.toNat (by omega) ?_ _)
  rw [e];exact Lib.bitLen_shift48 x.toNat (by omega) (by omega)
 ·have e:(x / 4294967296 / 256).toNat = x.toNat / 1099511627776:=by omega
  refine (bC 40 (x / 4294967296 / 256).toNat x.toNat (by omega) ?_ _)
  rw [e];exact Lib.bitLen_shift40 x.toNat (by omega) (by omega)
 ·have e:(x / 4294967296).toNat = x.toNat / 4294967296:=by omega
  refine (bC 32 (x / 4294967296).toNat x.toNat (by omega) ?_ _)
  rw [e];exact Lib.bitLen_shift32 x.toNat (by omega) (by omega)
 ·have e:(x / 65536 / 256).toNat = x.toNat / 16777216:=by omega
  refine (bC 24 (x / 65536 / 256).toNat x.toNat (by omega) ?_ _)
  rw [e];exact Lib.bitLen_shift24 x.toNat (by omega) (by omega)
 ·have e:(x / 65536).toNat = x.toNat / 65536:=by omega
  refine (bC 16 (x / 65536).toNat x.toNat (by omega) ?_ _)
  rw [e];exact Lib.bitLen_shift16 x.toNat (by omega) (by omega)
 ·have e:(x / 256).toNat = x.toNat / 256:=by omega
  refine (bC 8 (x / 256).toNat x.toNat (by omega) ?_ _)
  rw [e];exact Lib.bitLen_shift8 x.toNat (by omega) (by omega)
 ·exact len_done0 x.toNat _
theorem blen_any (x:Int) (w:World) (h0:0 ≤ x) (h1:x ≤ 18446744073709551615) :
  Calls Tryz.prog 137 #[.int .u64 x] w fun e w'=>e = .returned (.int .i64 (Lib.bitLen x.toNat:Int)) ∧ w = w':=by
 have HC:=J (fun W=>c14 x W h0 h1)
 clear h0 h1
 go_enter Tryz.func137,Tryz.ntmps137
 go_wp2_with (go_at_call 147;refine (HC.out _).mono ?_;rintro e w1 ⟨rfl,rfl⟩)
 go_ret
 exact ⟨rfl,rfl⟩
theorem width_bits (op:Nat) (h:0 < Opc.width op):(Lib.bitLen (Opc.width op).toNat = Bo.blen (Opc.width op)) ∧ 0 ≤ Opc.width op ∧ Opc.width op ≤ 8:=by
 unfold Opc.width at h ⊢
 (repeat' split) <;> first
  | exact ⟨by decide,by decide,by decide⟩
  | (exfalso;revert h;simp_all)
theorem dE {C:Ctx} {R P n:Nat} {w:World} {G:Nat → Prop} {s:Ty.T} {o:List Bool} (hC:C.Good) (h:Wk C R P w G s o) (hs:s.sm n) (hn:n ≤ 400000000) (op a b:Nat) (c:Int) (A4:Option Addr) (l4 c4:Nat) (ha:a < 4294967296) :
  Calls Tryz.prog 111 #[.pointer (some ⟨R,0,none⟩),.agg #[.int .u8 ↑op,.int .u32 ↑a,.int .u32 ↑b,.int .i64 c,.slice A4 l4 c4]] w (aj C R P G o w (Bo.locl C.env op a s)):=by
 have HX0:=J (heap_alloc_new w (.cells #[.int .u8 ↑op,.int .u32 ↑a,.int .u32 ↑b,.int .i64 c,.slice A4 l4 c4] 56))
 have HB0:Hid (Below w.heap.size w (w.alloc (.cells #[.int .u8 ↑op,.int .u32 ↑a,.int .u32 ↑b,.int .i64 c,.slice A4 l4 c4] 56))):=J bA
 have H0:=J (h.on HB0.out)
 have HN0:Hid (Nxt G w G (w.alloc (.cells #[.int .u8 ↑op,.int .u32 ↑a,.int .u32 ↑b,.int .i64 c,.slice A4 l4 c4] 56))):=J (Nxt.of_below HB0.out)
 have HGX:Hid (¬ G w.heap.size ∧ w.heap.size < (w.alloc (.cells #[.int .u8 ↑op,.int .u32 ↑a,.int .u32 ↑b,.int .i64 c,.slice A4 l4 c4] 56)).heap.size):=J ⟨fun hg=>Nat.lt_irrefl _ (h.out _ hg).2,by simp⟩
 have HLO:=J (fun (W:World) (hW:Wk C R P W G s o)=>blocal_any C.ps C.ls C.v1 C.v2 C.v3 C.v4 a ha W (hC.ps.grow hW.base) (hC.ls.grow hW.base) hC.lp hC.ll)
 clear h
 go_enter Tryz.func111,Tryz.ntmps111
 go_upto_region 1 with fail
 generalize (w.alloc (.cells #[.int .u8 ↑op,.int .u32 ↑a,.int .u32 ↑b,.int .i64 c,.slice A4 l4 c4] 56)) = w0 at HX0 HB0 H0 HN0 HGX ⊢
 obtain ⟨X,hX⟩:∃ X,w.heap.size = X:=⟨_,rfl⟩
 rw [hX] at HX0 HGX
 simp only [hX]
 clear hX HB0
 obtain ⟨z0,z1,z2,z3,z4⟩:=cells5 HX0.out
 obtain ⟨q0,q1,q2,q3,q4,q5⟩:=H0.out.cells
 have HCC:=J (fun W (hb:Below w0.heap.size w0 W)=>And.intro (cells5 ((hb.block X HGX.out.2).trans HX0.out)) (H0.out.on hb).cells)
 clear z0 z1 z2 z3 z4 q0 q1 q2 q3 q4 q5
 have HLO:=J (fun W (hb:Below w0.heap.size w0 W)=>HLO.out W (H0.out.on hb))
 obtain ⟨A11,c11,e11,_⟩:=hC.ps
 obtain ⟨A12,c12,e12,_⟩:=hC.rs
 obtain ⟨A13,c13,e13,_⟩:=hC.ls
 clear hC
 rw [e11,e12,e13] at HCC
 rw [e11,e12,e13] at HLO
 cases hx:Bo.local' C.ps C.ls a with
 | none =>
  have HLO:Hid (∀ W,Below w0.heap.size w0 W → Calls Tryz.prog 136 #[.agg #[.slice A11 C.ps.length c11,.slice A12 C.rs.length c12],.agg #[.slice A13 C.ls.length c13,C.v4],.int .u32 ↑a] W fun e w'=>e = .returned (.tuple #[.int .u8 0,.bool false]) ∧ Below W.heap.size W w'):=J (fun W hb=>by
   have h:=HLO.out W hb
   rw [hx] at h
   exact h)
  have HT:Hid (Bo.locl C.env op a s = .error 80):=J (by unfold Bo.locl Ctx.env;dsimp only;rw [hx])
  clear hx hs hn ha e11 e12 e13
  generalize C.ps.length = n1 at HLO HCC
  generalize C.rs.length = n2 at HLO HCC
  generalize C.ls.length = n3 at HLO HCC
  generalize C.v4 = v4 at HLO HCC
  go_upto_region 1 with fail
  refine wp_region_held_drew (S:=fun W'=>Below w0.heap.size w0 W') (by kernel_rfl) (Below.drew (Below.refl _ _)) (fun hHeld=>?_)
  refine da1 0 rfl ?_
  refine da1 1 rfl ?_
  refine da1 2 rfl ?_
  refine da1 3 rfl ?_
  refine da1 4 rfl ?_
  refine da1 5 rfl ?_
  refine da1 6 rfl ?_
  refine da1 7 rfl ?_
  refine da1 8 rfl ?_
  refine da1 9 rfl ?_
  refine dA 10 rfl fun K hK=>?_
  go_simp
  refine (HLO.out _ hHeld).mono ?_
  rintro e w1 ⟨rfl,hb⟩
  have hH:Below w0.heap.size w0 w1:=hHeld.trans (hb.mono hHeld.size)
  have HW1:=J hH
  clear hb
  go_wp2_with fail
  refine hK.out _ _ (hH) fun hHeld=>?_
  clear hK K
  refine dW 11 rfl ?_
  refine dW 12 rfl ?_
  refine dW 13 rfl ?_
  refine dW 14 rfl ?_
  refine dW 15 rfl ?_
  refine dN ?_
  go_wp2_with fail
  go_ret
  exact aj.err HT.out (H0.out.on HW1.out).base
 | some t =>
  have HLO:Hid (∀ W,Below w0.heap.size w0 W → Calls Tryz.prog 136 #[.agg #[.slice A11 C.ps.length c11,.slice A12 C.rs.length c12],.agg #[.slice A13 C.ls.length c13,C.v4],.int .u32 ↑a] W fun e w'=>e = .returned (.tuple #[.int .u8 ↑t.toNat,.bool true]) ∧ Below W.heap.size W w'):=J (fun W hb=>by
   have h:=HLO.out W hb
   rw [hx] at h
   exact h)
  have HT:Hid (Bo.locl C.env op a s = if op = 32 then Bo.turned s [] [t] else if op = 33 then Bo.turned s [t] [] else Bo.turned s [t] [t]):=J (by unfold Bo.locl Ctx.env;dsimp only;rw [hx])
  have HT1:=J (fun W v1 (hW:Wk C R P W G s o) (h1:aa W (Apt W G) [t] v1)=>aP hW hs hn [] [t] (.slice none 0 0) v1 (aa.nil _ _) h1 (by simp) (by simp))
  have HT2:=J (fun W v1 (hW:Wk C R P W G s o) (h1:aa W (Apt W G) [t] v1)=>aP hW hs hn [t] [] v1 (.slice none 0 0) h1 (aa.nil _ _) (by simp) (by simp))
  have HT3:=J (fun W v1 (hW:Wk C R P W G s o) (h1:aa W (Apt W G) [t] v1)=>aP hW hs hn [t] [t] v1 v1 h1 h1 (by simp) (by simp))
  clear hx hs hn ha e11 e12 e13
  generalize C.ps.length = n1 at HLO HCC
  generalize C.rs.length = n2 at HLO HCC
  generalize C.ls.length = n3 at HLO HCC
  generalize C.v4 = v4 at HLO HCC
  go_upto_region 1 with fail
  refine wp_region_held_drew (S:=fun W'=>Below w0.heap.size w0 W') (by kernel_rfl) (Below.drew (Below.refl _ _)) (fun hHeld=>?_)
  refine da1 0 rfl ?_
  refine da1 1 rfl ?_
  refine da1 2 rfl ?_
  refine da1 3 rfl ?_
  refine da1 4 rfl ?_
  refine da1 5 rfl ?_
  refine da1 6 rfl ?_
  refine da1 7 rfl ?_
  refine da1 8 rfl ?_
  refine da1 9 rfl ?_
  refine dA 10 rfl fun K hK=>?_
  go_simp
  refine (HLO.out _ hHeld).mono ?_
  rintro e w1 ⟨rfl,hb⟩
  have hH:Below w0.heap.size w0 w1:=hHeld.trans (hb.mono hHeld.size)
  have HW1:=J hH
  clear hb
  go_wp2_with fail
  refine hK.out _ _ (hH) fun hHeld=>?_
  clear hK K
  refine dW 11 rfl ?_
  refine dW 12 rfl ?_
  refine dW 13 rfl ?_
  refine dW 14 rfl ?_
  refine dW 15 rfl ?_
  refine dN ?_
  obtain ⟨hl1,hl2,hl3⟩:=(H0.out.on HW1.out).lit t
  have HL1:=J hl1
  have HL2:=J hl2
  have HL3:=J hl3
  clear hl1 hl2 hl3
  obtain ⟨⟨x0,x1,x2,x3,x4⟩,_⟩:=HCC.out (w1.alloc (.cells #[.int .u8 ↑t.toNat] 5)) (HW1.out.alloc HW1.out.size _)
  by_cases h32:op = 32
  ·subst h32
   have HTE:Hid (Bo.locl C.env 32 a s = Bo.turned s [] [t]):=J (HT.out.trans (if_pos rfl))
   have HTU:=HT1
   clear HT2 HT3 HT1
   go_wp2_with (go_at_call 134;refine (HTU.out _ _ HL1.out HL3.out).mono ?_;rintro e w9 he;obtain ⟨k,rfl,hk⟩:=he.num;have HK:=J hk;clear he hk)
   go_ret
   rw [HTE.out]
   exact ((HK.out.ahead HL2.out).ahead (Nxt.of_below HW1.out)).ahead HN0.out
  ·have h32i:((op:Int) == 32) = false:=nB (by omega)
   have h32j:¬ ((op:Int) = 32):=by omega
   by_cases h33:op = 33
   ·subst h33
    have HTE:Hid (Bo.locl C.env 33 a s = Bo.turned s [t] []):=J ((HT.out.trans (if_neg (by decide))).trans (if_pos rfl))
    have HTU:=HT2
    clear HT1 HT3 HT2
    go_wp2_with (go_at_call 134;refine (HTU.out _ _ HL1.out HL3.out).mono ?_;rintro e w9 he;obtain ⟨k,rfl,hk⟩:=he.num;have HK:=J hk;clear he hk)
    go_ret
    rw [HTE.out]
    exact ((HK.out.ahead HL2.out).ahead (Nxt.of_below HW1.out)).ahead HN0.out
   ·have h33i:((op:Int) == 33) = false:=nB (by omega)
    have h33j:¬ ((op:Int) = 33):=by omega
    have HTU:=HT3
    clear HT1 HT2 HT3
    go_wp2_with (go_at_call 134;refine (HTU.out _ _ HL1.out HL3.out).mono ?_;rintro e w9 he;obtain ⟨k,rfl,hk⟩:=he.num;have HK:=J hk;clear he hk)
    go_ret
    rw [HT.out,if_neg h32,if_neg h33]
    exact ((HK.out.ahead HL2.out).ahead (Nxt.of_below HW1.out)).ahead HN0.out
theorem baccess_any {C:Ctx} {R P n:Nat} {w:World} {G:Nat → Prop} {s:Ty.T} {o:List Bool} (hC:C.Good) (h:Wk C R P w G s o) (hs:s.sm n) (hn:n ≤ 400000000) (op a b:Nat) (c:Int) (A4:Option Addr) (l4 c4:Nat) (hwd:0 < Opc.width op) :
  Calls Tryz.prog 116 #[.pointer (some ⟨R,0,none⟩),.agg #[.int .u8 ↑op,.int .u32 ↑a,.int .u32 ↑b,.int .i64 c,.slice A4 l4 c4]] w (aj C R P G o w (Bo.access C.env op a s)):=by
 have HX0:=J (heap_alloc_new w (.cells #[.int .u8 ↑op,.int .u32 ↑a,.int .u32 ↑b,.int .i64 c,.slice A4 l4 c4] 56))
 have HB0:Hid (Below w.heap.size w (w.alloc (.cells #[.int .u8 ↑op,.int .u32 ↑a,.int .u32 ↑b,.int .i64 c,.slice A4 l4 c4] 56))):=J bA
 have H0:=J (h.on HB0.out)
 have HN0:Hid (Nxt G w G (w.alloc (.cells #[.int .u8 ↑op,.int .u32 ↑a,.int .u32 ↑b,.int .i64 c,.slice A4 l4 c4] 56))):=J (Nxt.of_below HB0.out)
 have HGX:Hid (¬ G w.heap.size ∧ w.heap.size < (w.alloc (.cells #[.int .u8 ↑op,.int .u32 ↑a,.int .u32 ↑b,.int .i64 c,.slice A4 l4 c4] 56)).heap.size):=J ⟨fun hg=>Nat.lt_irrefl _ (h.out _ hg).2,by simp⟩
 have HM:=J (fun (W:World) (hW:Wk C R P W G s o)=>dw (some ⟨C.sp,0,none⟩) C.m 0 W (.inl ⟨C.sp,rfl,hC.space.grow hW.base⟩) (Lots.some hC.few) (by omega))
 have HPL:Hid (∀ W G1,Wk C R P W G1 s o → Calls Tryz.prog 117 #[.pointer (some ⟨R,0,none⟩),.agg #[.int .u8 ↑op,.int .u32 ↑a,.int .u32 ↑b,.int .i64 c,.slice A4 l4 c4]] W (aj C R P G1 o W (Bo.plain op s))):=J (fun W G1 hW=>cV hW hs hn op a b c A4 l4 c4)
 clear h hs hn hC
 go_enter Tryz.func116,Tryz.ntmps116
 go_upto_region 1 with fail
 generalize (w.alloc (.cells #[.int .u8 ↑op,.int .u32 ↑a,.int .u32 ↑b,.int .i64 c,.slice A4 l4 c4] 56)) = w0 at HX0 HB0 H0 HN0 HGX ⊢
 obtain ⟨X,hX⟩:∃ X,w.heap.size = X:=⟨_,rfl⟩
 rw [hX] at HX0 HGX
 simp only [hX]
 clear hX HB0
 obtain ⟨z0,z1,z2,z3,z4⟩:=cells5 HX0.out
 obtain ⟨q0,q1,q2,q3,q4,q5⟩:=H0.out.cells
 have hm:=HM.out _ H0.out
 clear HM
 unfold bR at hm
 have HE:Hid (C.env.mem = ((mems C.m)[0]?).isSome):=J rfl
 obtain ⟨y1,y2,hy⟩:∃ y1 y2:Int,limArr (((mems C.m)[0]?).getD ⟨0,0⟩) = #[.int .u32 y1,.int .i64 y2]:=⟨_,_,rfl⟩
 rw [hy] at hm
 clear hy
 obtain ⟨hbl,hw0,hw8⟩:=width_bits op hwd
 have HWD:Hid (∀ W,Calls Tryz.prog 115 #[.int .u8 ↑op] W fun e w'=>e = .returned (.int .i64 (Opc.width op)) ∧ W = w'):=J (fun W=>cN (op:Int) W)
 have HLN:Hid (∀ W,Calls Tryz.prog 137 #[.int .u64 (Opc.width op)] W fun e w'=>e = .returned (.int .i64 (Bo.blen (Opc.width op):Int)) ∧ W = w'):=J (fun W=>by
  have h:=blen_any (Opc.width op) W hw0 (by omega)
  rw [hbl] at h
  exact h)
 have hb4:Bo.blen (Opc.width op) ≤ 4:=by unfold Bo.blen;(repeat' split) <;> omega
 cases hp:((mems C.m)[0]?).isSome with
 | false =>
  rw [hp] at hm HE
  have HT:Hid (Bo.access C.env op a s = .error 80):=J (by unfold Bo.access;rw [HE.out];rfl)
  have HM:=J hm
  clear hm hp hbl hw0 hw8 hwd hb4 HWD HLN
  go_wp2_with (go_at_call 63;refine HM.out.mono ?_;rintro e w1 ⟨rfl,hb⟩;have hb2:Below w0.heap.size w0 (w1.alloc (.cells #[.int .u32 y1,.int .i64 y2] 66)):=hb.alloc hb.size _;obtain ⟨x0,x1,x2,x3,x4⟩:=cells5 ((hb2.block X HGX.out.2).trans HX0.out);have HB1:=J hb2;clear hb hb2)
  go_ret
  exact aj.err HT.out (H0.out.on HB1.out).base
 | true =>
  rw [hp] at hm HE
  have HT:Hid (Bo.access C.env op a s = if Bo.blen (Opc.width op) ≤ a then .error 100 else Bo.plain op s):=J (by unfold Bo.access;rw [HE.out];rfl)
  have HM:=J hm
  clear hm hp hbl hwd
  generalize Opc.width op = wd at HWD HLN HT hw0 hw8 hb4
  generalize Bo.blen wd = bl at HLN HT hb4
  have hwu:IntKind.u64.wrap wd = wd:=by simp [IntKind.wrap,IntKind.bits,IntKind.signed];omega
  have hwv:IntKind.u32.wrap (bl:Int) = (bl:Int):=by simp [IntKind.wrap,IntKind.bits,IntKind.signed];omega
  by_cases hle:bl ≤ a
  ·have hlei:(bl:Int) ≤ (a:Int):=by omega
   go_upto_region 4 with (go_at_call 63;refine HM.out.mono ?_;rintro e w1 ⟨rfl,hb⟩;have hb2:Below w0.heap.size w0 (w1.alloc (.cells #[.int .u32 y1,.int .i64 y2] 66)):=hb.alloc hb.size _;obtain ⟨x0,x1,x2,x3,x4⟩:=cells5 ((hb2.block X HGX.out.2).trans HX0.out);have HB1:=J hb2;clear hb hb2)
   generalize w1.alloc (.cells #[.int .u32 y1,.int .i64 y2] 66) = wm at HB1 x0 x1 x2 x3 x4 ⊢
   refine wp_region_held_drew (S:=fun W'=>W'.cell? ⟨X,0,none⟩ = some (.int .u8 ↑op) ∧ W'.cell? ⟨X,1,none⟩ = some (.int .u32 ↑a)) (by kernel_rfl) (⟨x0,x1⟩) (fun hHeld=>?_)
   refine dV 0 rfl (by intro wy hSw;obtain ⟨h0,h1⟩:=hSw;go_simp;try with_reducible rfl) ?_
   refine dV 1 rfl (by intro wy hSw;obtain ⟨h0,h1⟩:=hSw;go_simp;try with_reducible rfl) ?_
   refine dV 2 rfl (by intro wy hSw;obtain ⟨h0,h1⟩:=hSw;go_simp;try with_reducible rfl) ?_
   refine dV 3 rfl (by intro wy hSw;obtain ⟨h0,h1⟩:=hSw;go_simp;try with_reducible rfl) ?_
   refine dA 4 rfl fun K hK=>?_
   go_simp
   refine (HWD.out _).mono ?_
   rintro e w9 ⟨rfl,rfl⟩
   go_wp2_with fail
   refine hK.out _ _ (hHeld) fun hHeld=>?_
   clear hK K
   refine dW 5 rfl ?_
   refine dA 6 rfl fun K hK=>?_
   go_simp
   refine (HLN.out _).mono ?_
   rintro e w9 ⟨rfl,rfl⟩
   go_wp2_with fail
   refine hK.out _ _ (hHeld) fun hHeld=>?_
   clear hK K
   refine dW 7 rfl ?_
   refine dW 8 rfl ?_
   refine dN ?_
   have HBD:Hid (Below w0.heap.size w0 wm.drew):=J (Below.drew HB1.out)
   obtain ⟨d0,d1,d2,d3,d4⟩:=cells5 ((HBD.out.block X HGX.out.2).trans HX0.out)
   generalize wm.drew = wn at HBD d0 d1 d2 d3 d4 ⊢
   go_wp2_with fail
   go_ret
   exact aj.err (by rw [HT.out,if_pos hle]) (H0.out.on HBD.out).base
  ·have hlei:decide ((bl:Int) ≤ (a:Int)) = false:=decide_eq_false (by omega)
   have hlej:decide (bl ≤ a) = false:=decide_eq_false hle
   go_upto_region 4 with (go_at_call 63;refine HM.out.mono ?_;rintro e w1 ⟨rfl,hb⟩;have hb2:Below w0.heap.size w0 (w1.alloc (.cells #[.int .u32 y1,.int .i64 y2] 66)):=hb.alloc hb.size _;obtain ⟨x0,x1,x2,x3,x4⟩:=cells5 ((hb2.block X HGX.out.2).trans HX0.out);have HB1:=J hb2;clear hb hb2)
   generalize w1.alloc (.cells #[.int .u32 y1,.int .i64 y2] 66) = wm at HB1 x0 x1 x2 x3 x4 ⊢
   refine wp_region_held_drew (S:=fun W'=>W'.cell? ⟨X,0,none⟩ = some (.int .u8 ↑op) ∧ W'.cell? ⟨X,1,none⟩ = some (.int .u32 ↑a)) (by kernel_rfl) (⟨x0,x1⟩) (fun hHeld=>?_)
   refine dV 0 rfl (by intro wy hSw;obtain ⟨h0,h1⟩:=hSw;go_simp;try with_reducible rfl) ?_
   refine dV 1 rfl (by intro wy hSw;obtain ⟨h0,h1⟩:=hSw;go_simp;try with_reducible rfl) ?_
   refine dV 2 rfl (by intro wy hSw;obtain ⟨h0,h1⟩:=hSw;go_simp;try with_reducible rfl) ?_
   refine dV 3 rfl (by intro wy hSw;obtain ⟨h0,h1⟩:=hSw;go_simp;try with_reducible rfl) ?_
   refine dA 4 rfl fun K hK=>?_
   go_simp
   refine (HWD.out _).mono ?_
   rintro e w9 ⟨rfl,rfl⟩
   go_wp2_with fail
   refine hK.out _ _ (hHeld) fun hHeld=>?_
   clear hK K
   refine dW 5 rfl ?_
   refine dA 6 rfl fun K hK=>?_
   go_simp
   refine (HLN.out _).mono ?_
   rintro e w9 ⟨rfl,rfl⟩
   go_wp2_with fail
   refine hK.out _ _ (hHeld) fun hHeld=>?_
   clear hK K
   refine dW 7 rfl ?_
   refine dW 8 rfl ?_
   refine dN ?_
   have HBD:Hid (Below w0.heap.size w0 wm.drew):=J (Below.drew HB1.out)
   obtain ⟨d0,d1,d2,d3,d4⟩:=cells5 ((HBD.out.block X HGX.out.2).trans HX0.out)
   generalize wm.drew = wn at HBD d0 d1 d2 d3 d4 ⊢
   go_wp2_with (go_at_call 117;refine (HPL.out _ _ (H0.out.on HBD.out)).mono ?_;rintro e w9 he;obtain ⟨k,rfl,hk⟩:=he.num;have HK:=J hk;clear he hk)
   go_ret
   rw [HT.out,if_neg hle]
   exact (HK.out.ahead (Nxt.of_below HBD.out)).ahead HN0.out
theorem undBl:Tryz.prog.underlying 164 = some (.slice 4):=by kernel_rfl
theorem infBl:(Tryz.prog.info? 4).map (fun i=>(i.zero,i.size,i.bytes)) = some (some (.bool false),Lay.size Bool,1):=by kernel_rfl
section
variable {C:Ctx} {R P n:Nat} {w:World} {G:Nat → Prop} {s:Ty.T} {o:List Bool}
theorem Wk.pushO (h:Wk C R P w G s o) (b:Bool) (ho:o.length ≤ 2000000):∃ A c,∀ W,Below w.heap.size w W → W.cell? ⟨R,6,none⟩ = some (.slice A o.length c) ∧ ∃ A5 c5 w5,(Builtin.append_ #[164,164] 164 #[.slice A o.length c,.slice (some ⟨W.heap.size,0,none⟩) 1 1]).run Tryz.prog (W.alloc (.cells #[.bool b] 4)) = .ok (.slice A5 (o.length + 1) c5) w5 ∧
  w5.cell? ⟨R,6,none⟩ = some (.slice A o.length c) ∧ w5.frozen? ⟨R,6,none⟩ = false ∧ (∀ k,k < w.heap.size → ¬ G k → w5.heap[k]? = w.heap[k]?) ∧ ∃ G',Wk C R P (w5.setCell ⟨R,6,none⟩ (.slice A5 (o.length + 1) c5)) G' s (o ++ [b]) ∧ Nxt G w G' (w5.setCell ⟨R,6,none⟩ (.slice A5 (o.length + 1) c5)):=by
 obtain ⟨F,vo,h1,h2,h3,h4,h5⟩:=h.all
 obtain ⟨A,c,e,_,_⟩:=h3.form
 refine ⟨A,c,fun W hb=>?_⟩
 have h1W:=(hb.block R (gL h1)).trans h1
 have h3W:=h3.mod (T:=fun _=>False) (Mod.of_below hb) (fun _ _ h=>h) (fun _ _ _ h=>h)
 obtain ⟨v',w5,hrun,hO5,hM5,hT5⟩:=append1L (α:=Bool) undBl infBl (by decide) rfl (by decide) W C.B (fun _=>False) vo o b [.bool b] h3W (by omega) (Nat.le_trans h.base.size hb.size) rfl (by simp [Value.oneCell']) (fun _ _ h=>h.elim)
 obtain ⟨A5,c5,e5,_,_⟩:=hO5.form
 rw [show (o ++ [b]).length = o.length + 1 by simp] at e5
 subst e5
 have hne:∀ k,vo.ownBlock = some k → k ≠ R:=fun k hk=>(h5 k hk).2
 have hne5:∀ k,(Value.slice A5 (o.length + 1) c5).ownBlock = some k → k ≠ R:=fun k hk=>by
  rcases hT5 k hk with hk | hk
  ·exact hne k hk
  ·have:=h.lt;have:=hb.size;omega
 have h15:=hM5.heap h1W (fun e'=>hne R e' rfl)
 have hS:Mod (· = R) w5 (w5.setCell ⟨R,6,none⟩ (.slice A5 (o.length + 1) c5)):=Mod.setCell (T:=(· = R)) (Mod.refl _ w5) (fun _=>rfl) _
 have h2':=((h2.on hb).mod hM5 (fun k hk e'=>(h4 k hk).2.2 e')).mod hS (fun k hk=>(h4 k hk).2.1)
 have hO6:OwnL 4 (w5.setCell ⟨R,6,none⟩ (.slice A5 (o.length + 1) c5)) C.B (fun _=>False) (.slice A5 (o.length + 1) c5) (o ++ [b]):=(hO5.mod hS (fun g hg e'=>hne5 g hg e') (fun g _ hs=>hs.1.elim)).more (fun _ _ hs=>hs.1)
 have hN:Nxt G w (fun k=>G k ∨ (Value.slice A5 (o.length + 1) c5).ownBlock = some k) (w5.setCell ⟨R,6,none⟩ (.slice A5 (o.length + 1) c5)):=⟨fun k hk=>by
  rcases hk with hk | hk
  ·exact .inl hk
  ·rcases hT5 k hk with hk | hk
   ·exact .inl (h5 k hk).1
   ·exact .inr (Nat.le_trans hb.size hk),((Mod.of_below (T:=G) hb).trans hM5 (fun k _ hk=>(h5 k hk).1)).trans hS (fun k _ hk=>by rw [hk];exact h.inR)⟩
 have hsz:(w5.setCell ⟨R,6,none⟩ (.slice A5 (o.length + 1) c5)).heap.size = w5.heap.size:=by simp [World.setCell]
 refine ⟨by rw [cell_of_row W R 6 _ _ (0,0) h1W,← e];rfl,A5,c5,w5,?_,by rw [cell_of_row w5 R 6 _ _ (0,0) h15,← e];rfl,frozen_of_row w5 R 6 _ _ h15,fun k hk hg=>(hM5.block k (Nat.lt_of_lt_of_le hk hb.size) (fun e'=>hg (h5 k e').1)).trans (hb.block k hk),_,⟨h.below hN,⟨F,_,?_,h2',hO6,fun k hk=>⟨.inl (h4 k hk).1,(h4 k hk).2.1,fun e'=>?_⟩,fun k hk=>⟨.inr hk,hne5 k hk⟩⟩,.inl h.inR,fun k hk=>?_⟩,hN⟩
 ·rw [← e];exact hrun
 ·rw [heap_setCell_same w5 R 6 _ _ _ h15];rfl
 ·rcases hT5 k e' with hk2 | hk2
  ·exact (h4 k hk).2.2 hk2
  ·have:=h2.2.2 k hk;have:=hb.size;omega
 ·rcases hk with hk | hk
  ·exact ⟨(h.out k hk).1,Nat.lt_of_lt_of_le (h.out k hk).2 hN.2.size⟩
  ·have:=hO6.lt k hk
   exact this
theorem Wk.setO {i:List Bool} {f:Bool} (h:Wk C R P w G s (i ++ [f])) (z:Bool):∃ g c,w.cell? ⟨R,6,none⟩ = some (.slice (some ⟨g,0,none⟩) (i.length + 1) c) ∧ g ≠ R ∧ w.frozen? ⟨g,i.length,none⟩ = false ∧ w.cell? ⟨g,i.length,none⟩ = some (.bool f) ∧ i.length + 1 ≤ c ∧ c ≤ maxLen ∧
  (w.setCell ⟨g,i.length,none⟩ (.bool z)).cell? ⟨R,6,none⟩ = some (.slice (some ⟨g,0,none⟩) (i.length + 1) c) ∧ Wk C R P (w.setCell ⟨g,i.length,none⟩ (.bool z)) G s (i ++ [z]) ∧ Nxt G w G (w.setCell ⟨g,i.length,none⟩ (.bool z)):=by
 obtain ⟨F,vo,h1,h2,h3,h4,h5⟩:=h.all
 obtain ⟨g,c,cur,cs,rfl,q1,q2,q3,q4,q5,q6,q7,q8⟩:=h3.last
 have hcs:cs = [.bool f]:=q6
 subst hcs
 have hg:=h5 g rfl
 have hM:Mod (· = g) w (w.setCell ⟨g,i.length,none⟩ (.bool z)):=Mod.setCell (T:=(· = g)) (Mod.refl _ w) (fun _=>rfl) _
 have hO:OwnL 4 (w.setCell ⟨g,i.length,none⟩ (.bool z)) C.B (fun _=>False) (.slice (some ⟨g,0,none⟩) (i.length + 1) c) (i ++ [z]):=by
  have h':=OwnL.setLast h3 (fun k _ hs=>hs.elim) 0 (.bool z) z (fun cs hr=>by
   have e:cs = [.bool f]:=hr
   subst e
   rfl)
  have e:i.length * Lay.size Bool + 0 = i.length:=by show i.length * 1 + 0 = i.length;omega
  rw [e] at h'
  exact h'
 have hN:Nxt G w G (w.setCell ⟨g,i.length,none⟩ (.bool z)):=⟨fun _ h=>.inl h,hM.more (fun k _ hk=>by rw [hk];exact hg.1)⟩
 have hl:cur[i.length]? = some (.bool f):=by
  have:=q7 0 (.bool f) rfl
  have e:i.length * Lay.size Bool + 0 = i.length:=by show i.length * 1 + 0 = i.length;omega
  rw [e] at this
  exact this
 refine ⟨g,c,by rw [cell_of_row w R 6 _ _ (0,0) h1];rfl,hg.2,frozen_of_row w g i.length _ _ q4,by rw [cell_of_row w g i.length _ _ (0,0) q4];exact hl,q1,q2,by rw [cell_of_row _ R 6 _ _ (0,0) ((heap_setCell_other w _ R _ (fun e=>hg.2 e.symm)).trans h1)];rfl,⟨h.below hN,⟨F,_,(heap_setCell_other w _ R _ (fun e=>hg.2 e.symm)).trans h1,h2.mod hM (fun k hk e=>(h4 k hk).2.2 (by rw [e];rfl)),hO,h4,h5⟩,h.inR,fun k hk=>⟨(h.out k hk).1,Nat.lt_of_lt_of_le (h.out k hk).2 hN.2.size⟩⟩,hN⟩
theorem Wk.cutO {i:List Bool} {f:Bool} (h:Wk C R P w G s (i ++ [f])):∃ g c,w.cell? ⟨R,6,none⟩ = some (.slice (some ⟨g,0,none⟩) (i.length + 1) c) ∧ w.frozen? ⟨R,6,none⟩ = false ∧ w.cell? ⟨g,i.length,none⟩ = some (.bool f) ∧ i.length + 1 ≤ c ∧ c ≤ maxLen ∧
  Wk C R P (w.setCell ⟨R,6,none⟩ (.slice (some ⟨g,0,none⟩) i.length c)) G s i ∧ Nxt G w G (w.setCell ⟨R,6,none⟩ (.slice (some ⟨g,0,none⟩) i.length c)):=by
 obtain ⟨g,c,q1,_,_,q3,q4,q5,_⟩:=h.setO f
 obtain ⟨F,vo,h1,h2,h3,h4,h5⟩:=h.all
 obtain ⟨g',c',cur,cs,rfl,_⟩:=h3.last
 rw [cell_of_row w R 6 _ _ (0,0) h1] at q1
 have q1':some (Value.slice (some ⟨g',0,none⟩) (i.length + 1) c') = some (.slice (some ⟨g,0,none⟩) (i.length + 1) c):=q1
 injection q1' with q1'
 injection q1' with e1 _ e3
 injection e1 with e1
 injection e1 with e1 _ _
 subst e1 e3
 have hd:=OwnL.dropLast h3 (fun k _ hs=>hs.elim)
 have hS:Mod (· = R) w (w.setCell ⟨R,6,none⟩ (.slice (some ⟨g',0,none⟩) i.length c')):=Mod.setCell (T:=(· = R)) (Mod.refl _ w) (fun _=>rfl) _
 have hN:Nxt G w G (w.setCell ⟨R,6,none⟩ (.slice (some ⟨g',0,none⟩) i.length c')):=⟨fun _ h=>.inl h,hS.more (fun k _ hk=>by rw [hk];exact h.inR)⟩
 refine ⟨g',c',by rw [cell_of_row w R 6 _ _ (0,0) h1];rfl,frozen_of_row w R 6 _ _ h1,q3,q4,q5,⟨h.below hN,⟨F,_,by rw [heap_setCell_same w R 6 _ _ _ h1];rfl,h2.mod hS (fun k hk=>(h4 k hk).2.1),hd.mod hS (fun k hk e=>(h5 k hk).2 e) (fun _ _ hs=>hs.elim),h4,h5⟩,h.inR,fun k hk=>⟨(h.out k hk).1,Nat.lt_of_lt_of_le (h.out k hk).2 hN.2.size⟩⟩,hN⟩
theorem wk_pushL (h:Wk C R P w G s o) (hs:s.sm n) (hn:n ≤ 500000000) (l:List UInt8) (v:Value) (hv:aa w (· < w.heap.size) l v) (hl:l.length ≤ 400000000) :
  Calls Tryz.prog 131 #[.pointer (some ⟨P,0,none⟩),v] w fun e w'=>e = .returned (.tuple #[]) ∧ ∃ G',Wk C R P w' G' (s.push l) o ∧ Nxt G w G' w':=by
 obtain ⟨F,vo,h1,h2,h3,h4,h5⟩:=h.all
 obtain ⟨A,c,rfl,hA⟩:=hv.form
 refine (at_push h2 hs hn l A c hA hl).mono ?_
 rintro e w' ⟨rfl,F',q1,q2⟩
 exact ⟨rfl,h.stk h1 h3 h4 h5 q1 q2⟩
theorem wk_openL (h:Wk C R P w G s o) (hs:s.sm n) (hn:n ≤ 500000000) (a b:List UInt8) (va vb:Value) (ha:aa w (· < w.heap.size) a va) (hb:aa w (· < w.heap.size) b vb) (hl1:a.length ≤ 400000000) (hl2:b.length ≤ 400000000) :
  Calls Tryz.prog 98 #[.pointer (some ⟨P,0,none⟩),va,vb] w fun e w'=>e = .returned (.tuple #[]) ∧ ∃ G',Wk C R P w' G' (s.op a b) o ∧ Nxt G w G' w':=by
 obtain ⟨F,vo,h1,h2,h3,h4,h5⟩:=h.all
 refine (at_open h2 hs hn a b va vb ha hb hl1 hl2).mono ?_
 rintro e w' ⟨rfl,F',q1,q2⟩
 exact ⟨rfl,h.stk h1 h3 h4 h5 q1 q2⟩
theorem ey (h:Wk C R P w G s o) (hs:s.sm n) (hn:n ≤ 500000000) :
  Calls Tryz.prog 91 #[.pointer (some ⟨P,0,none⟩)] w fun e w'=>ansS (· < w'.heap.size) s.closeA e w' ∧ ∃ G',Wk C R P w' G' s.close o ∧ Nxt G w G' w':=by
 obtain ⟨F,vo,h1,h2,h3,h4,h5⟩:=h.all
 refine (at_close h2 hs hn).mono ?_
 rintro e w' ⟨ha,F',q1,q2⟩
 refine ⟨?_,h.stk h1 h3 h4 h5 q1 q2⟩
 cases hc:s.closeA with
 | none=>rw [hc] at ha;exact ha
 | some l =>
  rw [hc] at ha
  obtain ⟨A,c,e1,hv⟩:=ha
  exact ⟨A,c,e1,hv.more (fun k hk _=>hk)⟩
end
end Go.Proofs.YtmpelmihdpomjaaGreat
