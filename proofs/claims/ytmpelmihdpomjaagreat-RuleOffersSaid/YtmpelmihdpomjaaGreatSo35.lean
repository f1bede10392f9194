/-
  Layer 11's program: types, imports, own functions, counts, tables, memories: asked one by one. (gen/valid/step1.py)
-/
import Derived.Test.YtmpelmihdpomjaaGreatSo01
import Derived.Test.YtmpelmihdpomjaaGreatSo34
import Derived.Test.YtmpelmihdpomjaaGreatSo23
set_option maxRecDepth 100000
set_option maxHeartbeats 4000000
namespace Va
open Bin Sp Ins
theorem limE_table {l:Lim} (h:l.min < 4294967296):limE 4294967295 l = okE (Go.Proofs.YtmpelmihdpomjaaGreat.mayB l) 112:=by
 unfold limE Go.Proofs.YtmpelmihdpomjaaGreat.mayB
 rw [show decide (l.min ≤ 4294967295) = true from decide_eq_true (by omega)]
 simp
theorem limE_mem {l:Lim}:limE 65536 l = okE ((Go.Proofs.YtmpelmihdpomjaaGreat.mayB l && decide (l.min ≤ 65536)) && decide (l.max ≤ 65536)) 112:=by
 unfold limE Go.Proofs.YtmpelmihdpomjaaGreat.mayB
 congr 1
 by_cases h1:l.min ≤ 65536 <;> by_cases h2:l.max = -1 <;> by_cases h3:(l.min:Int) ≤ l.max <;> by_cases h4:l.max ≤ 65536 <;> simp [h1,h2,h3,h4] <;> omega
end Va
namespace Go.Proofs.YtmpelmihdpomjaaGreat
open Go.RowKit Ins Bin Sp
section
variable {w:World} {P sp mp:Nat} {m:M} {v1 v2 v3 v4 v5 v6 v7 v8 v9 v10 hv:Value}
theorem ex (x:UInt8) (t:Nat) (ht:x.toNat = t) (w:World) :
  Calls Tryz.prog 57 #[.slice (some ⟨w.heap.size,0,none⟩) 1 1] (w.alloc (.cells #[.int .u8 ↑t] 5)) fun e w'=>e = .returned (.bool (x == 127 || x == 126)) ∧ (w.alloc (.cells #[.int .u8 ↑t] 5)) = w':=by
 have h:=de [x] (.slice (some ⟨w.heap.size,0,none⟩) 1 1) (w.alloc (.cells #[.int .u8 ↑t] 5)) (by
  subst ht
  refine ⟨_,1,rfl,Nat.le_refl _,by unfold maxLen;omega,fun e=>(by cases e),fun k y hk=>⟨w.heap.size,0,[.int .u8 ↑y.toNat],rfl,by simp,by simp,rfl,fun j u hj=>?_⟩⟩
  cases k with
  | succ k=>simp at hk
  | zero =>
   simp at hk
   subst hk
   cases j with
   | succ j=>simp at hj
   | zero =>
    simp at hj
    subst hj
    rw [cell_of_row _ _ _ _ _ (0,0) (heap_alloc_new w _)]
    rfl) (by simp)
 rw [show Va.wholeB [x] = (x == 127 || x == 126) from by simp [Va.wholeB]] at h
 exact h
theorem rep_tabs {S:Nat → Prop} (hM:RepM w S m v1 v2 v3 v4 v5 v6 v7 v8 v9 v10):∀ l ∈ tabs m,Lim.wf l:=fun l hl=>by
 unfold tabs at hl
 rcases List.mem_append.1 hl with h | h
 ·obtain ⟨x,hx,rfl⟩:=List.mem_map.1 h
  obtain ⟨A,c,_,_,_,_,hL⟩:=hM.imports
  obtain ⟨k,hk⟩:=List.mem_iff_getElem?.1 (show x ∈ m.imports by unfold imps at hx;exact (List.mem_filter.1 hx).1)
  obtain ⟨_,_,_,_,_,_,⟨_,_,h4⟩,_⟩:=hL k x hk
  exact h4
 ·obtain ⟨A,c,_,_,_,_,hL⟩:=hM.tables
  obtain ⟨k,hk⟩:=List.mem_iff_getElem?.1 h
  obtain ⟨_,_,_,_,_,_,⟨_,h4⟩,_⟩:=hL k l hk
  exact h4
theorem rep_mems {S:Nat → Prop} (hM:RepM w S m v1 v2 v3 v4 v5 v6 v7 v8 v9 v10):∀ l ∈ mems m,Lim.wf l:=fun l hl=>by
 unfold mems at hl
 rcases List.mem_append.1 hl with h | h
 ·obtain ⟨x,hx,rfl⟩:=List.mem_map.1 h
  obtain ⟨A,c,_,_,_,_,hL⟩:=hM.imports
  obtain ⟨k,hk⟩:=List.mem_iff_getElem?.1 (show x ∈ m.imports by unfold imps at hx;exact (List.mem_filter.1 hx).1)
  obtain ⟨_,_,_,_,_,_,⟨_,_,h4⟩,_⟩:=hL k x hk
  exact h4
 ·obtain ⟨A,c,_,_,_,_,hL⟩:=hM.mems
  obtain ⟨k,hk⟩:=List.mem_iff_getElem?.1 h
  obtain ⟨_,_,_,_,_,_,⟨_,h4⟩,_⟩:=hL k l hk
  exact h4
theorem eE (h:VIn w P sp mp m v1 v2 v3 v4 v5 v6 v7 v8 v9 v10 hv) (i:Nat) (t:FT) (ht:m.types[i]? = some t) :
  Calls Tryz.prog 25 #[.pointer (some ⟨P,0,none⟩),.int .i64 ↑i] w fun e w'=>e = .returned (.int .i64 ((Va.typE t:Nat):Int)) ∧ Below w.heap.size w w':=by
 have hl:=h.fit.lots.types
 obtain ⟨hl1,hl2⟩:=h.fit.lots.each t (List.mem_of_getElem? ht)
 have hi:=(List.getElem?_eq_some_iff.1 ht).1
 obtain ⟨A,c,rfl,hc,_,_,hL⟩:=h.rep.types
 have x0:=cell15 h.cells 0 _ rfl
 obtain ⟨g,o,cs,rfl,_,hg,⟨u,v,rfl,hu,hv⟩,hcs⟩:=hL i t ht
 have k0:w.cell? ⟨g,o + i * 2,none⟩ = some u:=hcs 0 _ rfl
 have k1:w.cell? ⟨g,o + i * 2 + 1,none⟩ = some v:=hcs 1 _ rfl
 have hB0:Below w.heap.size w (w.alloc (.cells #[u,v] 29)):=bA
 have HB:=J hB0
 have HW1:=J (de t.params u _ (hu.grow hB0) hl1)
 have HW2:=J (de t.results v _ (hv.grow hB0) hl2)
 have HZ:=J (heap_alloc_new w (.cells #[u,v] 29))
 obtain ⟨Au,cu,rfl,_⟩:=id hu
 obtain ⟨Av,cv,rfl,_⟩:=id hv
 have HT0:Hid (Va.typE t = Va.okE (decide (t.results.length ≤ 1) && (Va.wholeB t.params && Va.wholeB t.results)) 100):=J rfl
 clear h hL hcs hu hv hB0
 obtain ⟨n,e⟩:∃ n,m.types.length = n:=⟨_,rfl⟩
 rw [e] at x0 hi hl hc
 clear e
 have hii:(i:Int) < (n:Int):=by omega
 generalize Va.wholeB t.params = b1 at HW1 HT0
 generalize Va.wholeB t.results = b2 at HW2 HT0
 generalize t.params.length = n1 at *
 obtain ⟨n2,e2⟩:∃ n,t.results.length = n:=⟨_,rfl⟩
 rw [e2] at HT0 k1 HB HW1 HW2 HZ hl2
 clear e2 ht
 go_enter Tryz.func25,Tryz.ntmps25
 go_upto_region 2 with fail
 generalize w.alloc (.cells #[.slice Au n1 cu,.slice Av n2 cv] 29) = w0 at HB HZ HW1 HW2 ⊢
 obtain ⟨z0,z1⟩:=ae HZ.out
 by_cases h1:n2 ≤ 1
 ·have h1i:(n2:Int) ≤ 1:=by omega
  have h1b:decide ((n2:Int) ≤ 1) = true:=decide_eq_true h1i
  rw [show decide (n2 ≤ 1) = true from decide_eq_true h1,Bool.true_and] at HT0
  cases b1 with
  | false =>
   have HT:Hid (Va.typE t = 100):=J HT0.out
   clear HT0
   have tok1:True:=trivial
   go_wp2_with (first | (go_at_call 57;clear tok1;refine HW1.out.mono ?_;rintro e w1 ⟨rfl,rfl⟩) | (go_at_call 57;refine HW2.out.mono ?_;rintro e w1 ⟨rfl,rfl⟩) | (go_at_call 56;refine (al false 100 100 _ rfl).mono ?_;rintro e w2 ⟨rfl,rfl⟩))
   go_ret
   rw [HT.out]
   exact ⟨rfl,HB.out⟩
  | true =>
   cases b2 with
   | false =>
    have HT:Hid (Va.typE t = 100):=J HT0.out
    clear HT0
    have tok1:True:=trivial
    go_wp2_with (first | (go_at_call 57;clear tok1;refine HW1.out.mono ?_;rintro e w1 ⟨rfl,rfl⟩) | (go_at_call 57;refine HW2.out.mono ?_;rintro e w1 ⟨rfl,rfl⟩) | (go_at_call 56;refine (al false 100 100 _ rfl).mono ?_;rintro e w2 ⟨rfl,rfl⟩))
    go_ret
    rw [HT.out]
    exact ⟨rfl,HB.out⟩
   | true =>
    have HT:Hid (Va.typE t = 0):=J HT0.out
    clear HT0
    have tok1:True:=trivial
    go_wp2_with (first | (go_at_call 57;clear tok1;refine HW1.out.mono ?_;rintro e w1 ⟨rfl,rfl⟩) | (go_at_call 57;refine HW2.out.mono ?_;rintro e w1 ⟨rfl,rfl⟩) | (go_at_call 56;refine (al true 100 100 _ rfl).mono ?_;rintro e w2 ⟨rfl,rfl⟩))
    go_ret
    rw [HT.out]
    exact ⟨rfl,HB.out⟩
 ·have h1b:decide ((n2:Int) ≤ 1) = false:=decide_eq_false (by omega)
  rw [show decide (n2 ≤ 1) = false from decide_eq_false h1,Bool.false_and] at HT0
  have HT:Hid (Va.typE t = 100):=J HT0.out
  clear HT0
  have tok1:True:=trivial
  go_wp2_with (first | (go_at_call 57;clear tok1;refine HW1.out.mono ?_;rintro e w1 ⟨rfl,rfl⟩) | (go_at_call 57;refine HW2.out.mono ?_;rintro e w1 ⟨rfl,rfl⟩) | (go_at_call 56;refine (al false 100 100 _ rfl).mono ?_;rintro e w2 ⟨rfl,rfl⟩))
  go_ret
  rw [HT.out]
  exact ⟨rfl,HB.out⟩
theorem eF (h:VIn w P sp mp m v1 v2 v3 v4 v5 v6 v7 v8 v9 v10 hv) (i:Nat) (t:Nat) (ht:m.funcs[i]? = some t) :
  Calls Tryz.prog 27 #[.pointer (some ⟨P,0,none⟩),.int .i64 ↑i] w fun e w'=>e = .returned (.int .i64 ((Va.funE m t:Nat):Int)) ∧ Below w.heap.size w w':=by
 have hl:=h.fit.lots.funcs
 have hi:=(List.getElem?_eq_some_iff.1 ht).1
 obtain ⟨A,c,rfl,hc,_,_,hL⟩:=h.rep.funcs
 have x2:=cell15 h.cells 2 _ rfl
 obtain ⟨g,o,rfl,hg,k0,htl⟩:=fk hL ht
 have HT:=J (cR h t htl)
 clear h hL ht
 obtain ⟨n,e⟩:∃ n,m.funcs.length = n:=⟨_,rfl⟩
 rw [e] at x2 hi hl hc
 clear e
 have hii:(i:Int) < (n:Int):=by omega
 unfold Va.funE
 go_enter Tryz.func27,Tryz.ntmps27
 go_wp2_with (go_at_call 58;refine HT.out.mono ?_;rintro e w1 ⟨rfl,rfl⟩)
 go_ret
 exact ⟨rfl,Below.refl _ _⟩
theorem eG (h:VIn w P sp mp m v1 v2 v3 v4 v5 v6 v7 v8 v9 v10 hv) (i:Nat) (x:Imp) (hx:m.imports[i]? = some x) :
  Calls Tryz.prog 26 #[.pointer (some ⟨P,0,none⟩),.int .i64 ↑i] w fun e w'=>e = .returned (.int .i64 ((Va.impE m x:Nat):Int)) ∧ Below w.heap.size w w':=by
 have hl:=h.fit.lots.imports
 have hi:=(List.getElem?_eq_some_iff.1 hx).1
 obtain ⟨A,c,rfl,hc,_,_,hL⟩:=h.rep.imports
 have x1:=cell15 h.cells 1 _ rfl
 obtain ⟨g,o,rfl,hg,_,hxt,_,hcs⟩:=dH hL hx
 have HB0:Hid (Below w.heap.size w (w.alloc (.cells #[strV x.mod,strV x.name,.int .u8 ↑x.kind.toNat,.int .u32 ↑x.type,.int .u32 ↑x.lim.min,.int .i64 x.lim.max,.int .u8 ↑x.glob.t.toNat,.bool x.glob.mu] 75))):=J bA
 have HZ:=J (heap_alloc_new w (.cells #[strV x.mod,strV x.name,.int .u8 ↑x.kind.toNat,.int .u32 ↑x.type,.int .u32 ↑x.lim.min,.int .i64 x.lim.max,.int .u8 ↑x.glob.t.toNat,.bool x.glob.mu] 75))
 have HTT:=J (cR (h.grow HB0.out) x.type hxt)
 have HW:=J (fun (W:World)=>ex x.glob.t x.glob.t.toNat rfl W)
 have k0:w.cell? ⟨g,o + i * 8,none⟩ = some (strV x.mod):=hcs 0 _ rfl
 have k1:w.cell? ⟨g,o + i * 8 + 1,none⟩ = some (strV x.name):=hcs 1 _ rfl
 have k2:w.cell? ⟨g,o + i * 8 + 2,none⟩ = some (.int .u8 ↑x.kind.toNat):=hcs 2 _ rfl
 have k3:w.cell? ⟨g,o + i * 8 + 3,none⟩ = some (.int .u32 ↑x.type):=hcs 3 _ rfl
 have k4:w.cell? ⟨g,o + i * 8 + 4,none⟩ = some (.int .u32 ↑x.lim.min):=hcs 4 _ rfl
 have k5:w.cell? ⟨g,o + i * 8 + 5,none⟩ = some (.int .i64 x.lim.max):=hcs 5 _ rfl
 have k6:w.cell? ⟨g,o + i * 8 + 6,none⟩ = some (.int .u8 ↑x.glob.t.toNat):=hcs 6 _ rfl
 have k7:w.cell? ⟨g,o + i * 8 + 7,none⟩ = some (.bool x.glob.mu):=hcs 7 _ rfl
 have HT:Hid (Va.impE m x = if x.kind.toNat = 0 then Va.okE (decide (x.type < m.types.length)) 80 else if x.kind.toNat = 3 then Va.okE (x.glob.t == 127 || x.glob.t == 126) 100 else 0):=J rfl
 clear h hL hx hcs hxt
 obtain ⟨n,e⟩:∃ n,m.imports.length = n:=⟨_,rfl⟩
 rw [e] at x1 hi hl hc
 clear e
 have hii:(i:Int) < (n:Int):=by omega
 unfold strV at k0 k1 HB0 HZ HTT
 generalize Va.okE (decide (x.type < m.types.length)) 80 = r0 at HTT HT
 generalize (x.glob.t == 127 || x.glob.t == 126) = b3 at HW HT
 generalize x.glob.t.toNat = gt at *
 generalize x.kind.toNat = kd at *
 generalize (x.type:Int) = xt at *
 generalize (x.lim.min:Int) = xm at *
 generalize x.lim.max = xM at *
 generalize x.glob.mu = gm at *
 go_enter Tryz.func26,Tryz.ntmps26
 go_upto_region 2 with fail
 generalize w.alloc (.cells #[.string ⟨x.mod.toArray⟩,.string ⟨x.name.toArray⟩,.int .u8 ↑kd,.int .u32 xt,.int .u32 xm,.int .i64 xM,.int .u8 ↑gt,.bool gm] 75) = w0 at HB0 HZ HTT ⊢
 have z2:=cell15 HZ.out 2 _ rfl
 have z3:=cell15 HZ.out 3 _ rfl
 have z6:=cell15 HZ.out 6 _ rfl
 by_cases hk:kd = 0
 ·subst hk
  rw [if_pos rfl] at HT
  go_wp2_with (go_at_call 58;refine HTT.out.mono ?_;rintro e w1 ⟨rfl,rfl⟩)
  go_ret
  rw [HT.out]
  exact ⟨rfl,HB0.out⟩
 ·rw [if_neg hk] at HT
  have hk0:((kd:Int) == 0) = false:=nB (by omega)
  by_cases hk3:kd = 3
  ·subst hk3
   rw [if_pos rfl] at HT
   clear hk
   have HB1:Hid (Below w.heap.size w (w0.alloc (.cells #[.int .u8 ↑gt] 5))):=J (HB0.out.alloc HB0.out.size _)
   go_wp2_with (first | (go_at_call 57;refine (HW.out _).mono ?_;rintro e w1 ⟨rfl,rfl⟩) | (go_at_call 56;refine (al _ 100 100 _ rfl).mono ?_;rintro e w2 ⟨rfl,rfl⟩))
   go_ret
   rw [HT.out]
   exact ⟨rfl,HB1.out⟩
  ·rw [if_neg hk3] at HT
   have hk4:((kd:Int) == 3) = false:=nB (by omega)
   clear hk hk3
   go_wp2_with fail
   go_ret
   rw [HT.out]
   exact ⟨rfl,HB0.out⟩
theorem vcounts_any (h:VIn w P sp mp m v1 v2 v3 v4 v5 v6 v7 v8 v9 v10 hv) (i:Nat)  :
  Calls Tryz.prog 28 #[.pointer (some ⟨P,0,none⟩),.int .i64 ↑i] w fun e w'=>e = .returned (.int .i64 ((Va.countE m:Nat):Int)) ∧ Below w.heap.size w w':=by
 have x12:=cell15 h.cells 12 _ rfl
 have H12:Hid (∀ W,Below w.heap.size w W → W.cell? ⟨P,12,none⟩ = some (.pointer (some ⟨sp,0,none⟩))):=J (fun W hb=>cell15 (h.grow hb).cells 12 _ rfl)
 have HC1:=J (fun W (hb:Below w.heap.size w W)=>bc (some ⟨sp,0,none⟩) m 1 (by decide) W (h.grow hb).recv (Lots.some h.fit.lots))
 have HC2:=J (fun W (hb:Below w.heap.size w W)=>bc (some ⟨sp,0,none⟩) m 2 (by decide) W (h.grow hb).recv (Lots.some h.fit.lots))
 have HT:Hid (Va.countE m = Va.okE (decide (count m 1 ≤ 1) && decide (count m 2 ≤ 1)) 112):=J rfl
 clear h
 generalize count m 1 = n1 at *
 generalize count m 2 = n2 at *
 by_cases h1:n1 ≤ 1
 ·have h1i:(n1:Int) ≤ 1:=by omega
  have h1b:decide ((n1:Int) ≤ 1) = true:=decide_eq_true h1i
  rw [show decide (n1 ≤ 1) = true from decide_eq_true h1,Bool.true_and] at HT
  by_cases h2:n2 ≤ 1
  ·have h2i:(n2:Int) ≤ 1:=by omega
   have h2b:decide ((n2:Int) ≤ 1) = true:=decide_eq_true h2i
   rw [show decide (n2 ≤ 1) = true from decide_eq_true h2] at HT
   go_enter Tryz.func28,Tryz.ntmps28
   have tok1:True:=trivial
   go_wp2_with (first | (go_at_call 29;clear tok1;refine (HC1.out _ (Below.refl _ _)).mono ?_;rintro e w1 ⟨rfl,hb⟩;have HB1:=J hb;have y12:=H12.out _ hb;clear hb) | (go_at_call 29;refine (HC2.out _ HB1.out).mono ?_;rintro e w3 ⟨rfl,hb⟩;have HB2:=J (HB1.out.trans (hb.mono HB1.out.size));clear hb) | (go_at_call 56;refine (al true 112 112 _ rfl).mono ?_;rintro e w2 ⟨rfl,rfl⟩))
   go_ret
   rw [HT.out]
   exact ⟨rfl,HB2.out⟩
  ·have h2b:decide ((n2:Int) ≤ 1) = false:=decide_eq_false (by omega)
   rw [show decide (n2 ≤ 1) = false from decide_eq_false h2] at HT
   go_enter Tryz.func28,Tryz.ntmps28
   have tok1:True:=trivial
   go_wp2_with (first | (go_at_call 29;clear tok1;refine (HC1.out _ (Below.refl _ _)).mono ?_;rintro e w1 ⟨rfl,hb⟩;have HB1:=J hb;have y12:=H12.out _ hb;clear hb) | (go_at_call 29;refine (HC2.out _ HB1.out).mono ?_;rintro e w3 ⟨rfl,hb⟩;have HB2:=J (HB1.out.trans (hb.mono HB1.out.size));clear hb) | (go_at_call 56;refine (al false 112 112 _ rfl).mono ?_;rintro e w2 ⟨rfl,rfl⟩))
   go_ret
   rw [HT.out]
   exact ⟨rfl,HB2.out⟩
 ·have h1b:decide ((n1:Int) ≤ 1) = false:=decide_eq_false (by omega)
  rw [show decide (n1 ≤ 1) = false from decide_eq_false h1,Bool.false_and] at HT
  go_enter Tryz.func28,Tryz.ntmps28
  have tok1:True:=trivial
  go_wp2_with (first | (go_at_call 29;clear tok1;refine (HC1.out _ (Below.refl _ _)).mono ?_;rintro e w1 ⟨rfl,hb⟩;have HB1:=J hb;have y12:=H12.out _ hb;clear hb) | (go_at_call 29;refine (HC2.out _ HB1.out).mono ?_;rintro e w3 ⟨rfl,hb⟩;have HB2:=J (HB1.out.trans (hb.mono HB1.out.size));clear hb) | (go_at_call 56;refine (al false 112 112 _ rfl).mono ?_;rintro e w2 ⟨rfl,rfl⟩))
  go_ret
  rw [HT.out]
  exact ⟨rfl,HB1.out⟩
theorem vtable_any (h:VIn w P sp mp m v1 v2 v3 v4 v5 v6 v7 v8 v9 v10 hv) (i:Nat) (l:Lim) (hx:(tabs m)[i]? = some l) :
  Calls Tryz.prog 30 #[.pointer (some ⟨P,0,none⟩),.int .i64 ↑i] w fun e w'=>e = .returned (.int .i64 ((Va.limE 4294967295 l:Nat):Int)) ∧ Below w.heap.size w w':=by
 have hi:=(List.getElem?_eq_some_iff.1 hx).1
 have hb:=(Lots.some h.fit.lots).tabs
 have hwf:=rep_tabs h.rep l (List.mem_of_getElem? hx)
 have x12:=cell15 h.cells 12 _ rfl
 have hi2:i < 4294967296:=by omega
 have HF:=J (cY (some ⟨sp,0,none⟩) m i w h.recv (Lots.some h.fit.lots) hi2)
 unfold bR at HF
 rw [hx] at HF
 have HT:=J (Va.limE_table hwf.1)
 have HM:=J (fun W=>eO l hwf W)
 have hw:IntKind.u32.wrap (i:Int) = (i:Int):=IntWalk.u32_in _ (by omega)
 clear h hx hwf hb hi
 generalize mayB l = b at HM HT
 obtain ⟨a,z⟩:=l
 unfold limArr at HF
 dsimp only [Option.getD,Option.isSome] at HF HM HT
 go_enter Tryz.func30,Tryz.ntmps30
 go_wp2_with (first | (go_at_call 61;refine HF.out.mono ?_;rintro e w1 ⟨rfl,hb⟩;have HB:=J hb;have HB1:Hid (Below w.heap.size w (w1.alloc (.cells #[.int .u32 ↑a,.int .i64 z] 66))):=J (hb.alloc hb.size _);have HZ:=J (heap_alloc_new w1 (.cells #[.int .u32 ↑a,.int .i64 z] 66));clear hb;obtain ⟨z0,z1⟩:=ae HZ.out) | (go_at_call 62;refine (HM.out _).mono ?_;rintro e w3 ⟨rfl,hb⟩;have HB2:=J (HB1.out.trans (hb.mono HB1.out.size));clear hb) | (go_at_call 56;refine (al _ 112 112 _ rfl).mono ?_;rintro e w2 ⟨rfl,rfl⟩))
 go_ret
 rw [HT.out]
 exact ⟨rfl,HB2.out⟩
theorem vmemory_any (h:VIn w P sp mp m v1 v2 v3 v4 v5 v6 v7 v8 v9 v10 hv) (i:Nat) (l:Lim) (hx:(mems m)[i]? = some l) :
  Calls Tryz.prog 31 #[.pointer (some ⟨P,0,none⟩),.int .i64 ↑i] w fun e w'=>e = .returned (.int .i64 ((Va.limE 65536 l:Nat):Int)) ∧ Below w.heap.size w w':=by
 have hi:=(List.getElem?_eq_some_iff.1 hx).1
 have hb:=(Lots.some h.fit.lots).mems
 have hwf:=rep_mems h.rep l (List.mem_of_getElem? hx)
 have x12:=cell15 h.cells 12 _ rfl
 have hi2:i < 4294967296:=by omega
 have HF:=J (dw (some ⟨sp,0,none⟩) m i w h.recv (Lots.some h.fit.lots) hi2)
 unfold bR at HF
 rw [hx] at HF
 have HT:=J (Va.limE_mem (l:=l))
 have HM:=J (fun W=>eO l hwf W)
 have hw:IntKind.u32.wrap (i:Int) = (i:Int):=IntWalk.u32_in _ (by omega)
 clear h hx hwf hb hi
 generalize mayB l = b at HM HT
 obtain ⟨a,z⟩:=l
 unfold limArr at HF
 dsimp only [Option.getD,Option.isSome] at HF HM HT
 cases b with
 | false =>
  rw [Bool.false_and,Bool.false_and] at HT
  go_enter Tryz.func31,Tryz.ntmps31
  go_wp2_with (first | (go_at_call 63;refine HF.out.mono ?_;rintro e w1 ⟨rfl,hb⟩;have HB:=J hb;have HB1:Hid (Below w.heap.size w (w1.alloc (.cells #[.int .u32 ↑a,.int .i64 z] 66))):=J (hb.alloc hb.size _);have HZ:=J (heap_alloc_new w1 (.cells #[.int .u32 ↑a,.int .i64 z] 66));clear hb;obtain ⟨z0,z1⟩:=ae HZ.out) | (go_at_call 62;refine (HM.out _).mono ?_;rintro e w3 ⟨rfl,hb⟩;have HB2:=J (HB1.out.trans (hb.mono HB1.out.size));obtain ⟨y0,y1⟩:=ae ((hb.block _ (by simp)).trans HZ.out);clear hb) | (go_at_call 56;refine (al false 112 112 _ rfl).mono ?_;rintro e w2 ⟨rfl,rfl⟩))
  go_ret
  rw [HT.out]
  exact ⟨rfl,HB2.out⟩
 | true =>
  by_cases h1:a ≤ 65536
  ·have h1i:(a:Int) ≤ 65536:=by omega
   have h1b:decide ((a:Int) ≤ 65536) = true:=decide_eq_true h1i
   rw [show decide (a ≤ 65536) = true from decide_eq_true h1,Bool.true_and] at HT
   by_cases h2:z ≤ 65536
   ·have h2b:decide (z ≤ 65536) = true:=decide_eq_true h2
    rw [h2b] at HT
    go_enter Tryz.func31,Tryz.ntmps31
    go_wp2_with (first | (go_at_call 63;refine HF.out.mono ?_;rintro e w1 ⟨rfl,hb⟩;have HB:=J hb;have HB1:Hid (Below w.heap.size w (w1.alloc (.cells #[.int .u32 ↑a,.int .i64 z] 66))):=J (hb.alloc hb.size _);have HZ:=J (heap_alloc_new w1 (.cells #[.int .u32 ↑a,.int .i64 z] 66));clear hb;obtain ⟨z0,z1⟩:=ae HZ.out) | (go_at_call 62;refine (HM.out _).mono ?_;rintro e w3 ⟨rfl,hb⟩;have HB2:=J (HB1.out.trans (hb.mono HB1.out.size));obtain ⟨y0,y1⟩:=ae ((hb.block _ (by simp)).trans HZ.out);clear hb) | (go_at_call 56;refine (al true 112 112 _ rfl).mono ?_;rintro e w2 ⟨rfl,rfl⟩))
    go_ret
    rw [HT.out]
    exact ⟨rfl,HB2.out⟩
   ·have h2b:decide (z ≤ 65536) = false:=decide_eq_false h2
    rw [h2b] at HT
    go_enter Tryz.func31,Tryz.ntmps31
    go_wp2_with (first | (go_at_call 63;refine HF.out.mono ?_;rintro e w1 ⟨rfl,hb⟩;have HB:=J hb;have HB1:Hid (Below w.heap.size w (w1.alloc (.cells #[.int .u32 ↑a,.int .i64 z] 66))):=J (hb.alloc hb.size _);have HZ:=J (heap_alloc_new w1 (.cells #[.int .u32 ↑a,.int .i64 z] 66));clear hb;obtain ⟨z0,z1⟩:=ae HZ.out) | (go_at_call 62;refine (HM.out _).mono ?_;rintro e w3 ⟨rfl,hb⟩;have HB2:=J (HB1.out.trans (hb.mono HB1.out.size));obtain ⟨y0,y1⟩:=ae ((hb.block _ (by simp)).trans HZ.out);clear hb) | (go_at_call 56;refine (al false 112 112 _ rfl).mono ?_;rintro e w2 ⟨rfl,rfl⟩))
    go_ret
    rw [HT.out]
    exact ⟨rfl,HB2.out⟩
  ·have h1b:decide ((a:Int) ≤ 65536) = false:=decide_eq_false (by omega)
   rw [show decide (a ≤ 65536) = false from decide_eq_false h1,Bool.true_and,Bool.false_and] at HT
   go_enter Tryz.func31,Tryz.ntmps31
   go_wp2_with (first | (go_at_call 63;refine HF.out.mono ?_;rintro e w1 ⟨rfl,hb⟩;have HB:=J hb;have HB1:Hid (Below w.heap.size w (w1.alloc (.cells #[.int .u32 ↑a,.int .i64 z] 66))):=J (hb.alloc hb.size _);have HZ:=J (heap_alloc_new w1 (.cells #[.int .u32 ↑a,.int .i64 z] 66));clear hb;obtain ⟨z0,z1⟩:=ae HZ.out) | (go_at_call 62;refine (HM.out _).mono ?_;rintro e w3 ⟨rfl,hb⟩;have HB2:=J (HB1.out.trans (hb.mono HB1.out.size));obtain ⟨y0,y1⟩:=ae ((hb.block _ (by simp)).trans HZ.out);clear hb) | (go_at_call 56;refine (al false 112 112 _ rfl).mono ?_;rintro e w2 ⟨rfl,rfl⟩))
   go_ret
   rw [HT.out]
   exact ⟨rfl,HB2.out⟩
end
theorem bB {α:Type} {p:α → Bool} {xs:List α} {j:Nat} {x:α} (hx:xs[j]? = some x):(xs.take (j + 1)).any p = ((xs.take j).any p || p x):=by
 obtain ⟨hj,rfl⟩:=List.getElem?_eq_some_iff.1 hx
 rw [List.take_succ_eq_append_getElem hj,List.any_append]
 simp
def typN (t:FT):Bool:=decide (16 < t.params.length)
def impN (x:Imp):Bool:=decide (64 < x.mod.length) || decide (64 < x.name.length)
def expN (x:Exp):Bool:=decide (64 < x.name.length)
def eleN (x:El):Bool:=decide (1024 < x.funcs.length)
section
variable {C:RC} {W0 W W':World} {b:Bool}
theorem fz (hC:C.Good) (h:Nt C W0 W b) :
  Calls Tryz.prog 49 #[.pointer (some ⟨C.X,0,none⟩)] W fun e W'=>e = .returned (.tuple #[]) ∧ Nt C W0 W' ((((b || C.m.types.any typN) || C.m.imports.any impN) || C.m.exports.any expN) || C.m.elems.any eleN):=by
 have HN:=J h
 have HC:=J hC
 obtain ⟨A_types,c_types,e_types,_,_,_,h_types⟩:=hC.rep.types
 have hl_types:C.m.types.length ≤ 4000000:=Nat.le_trans hC.fit.1.lots.types (by decide)
 obtain ⟨n_types,f_types⟩:∃ n,C.m.types.length = n:=⟨_,rfl⟩
 rw [f_types] at e_types hl_types
 have HL_types:=J hl_types
 have HE_types:=J e_types
 have HF_types:=J f_types
 have HH_types:=J h_types
 clear hl_types f_types e_types h_types
 obtain ⟨A_imports,c_imports,e_imports,_,_,_,h_imports⟩:=hC.rep.imports
 have hl_imports:C.m.imports.length ≤ 4000000:=Nat.le_trans hC.fit.1.lots.imports (by decide)
 obtain ⟨n_imports,f_imports⟩:∃ n,C.m.imports.length = n:=⟨_,rfl⟩
 rw [f_imports] at e_imports hl_imports
 have HL_imports:=J hl_imports
 have HE_imports:=J e_imports
 have HF_imports:=J f_imports
 have HH_imports:=J h_imports
 clear hl_imports f_imports e_imports h_imports
 obtain ⟨A_exports,c_exports,e_exports,_,_,_,h_exports⟩:=hC.rep.exports
 have hl_exports:C.m.exports.length ≤ 4000000:=Nat.le_trans hC.fit.1.lots.exports (by decide)
 obtain ⟨n_exports,f_exports⟩:∃ n,C.m.exports.length = n:=⟨_,rfl⟩
 rw [f_exports] at e_exports hl_exports
 have HL_exports:=J hl_exports
 have HE_exports:=J e_exports
 have HF_exports:=J f_exports
 have HH_exports:=J h_exports
 clear hl_exports f_exports e_exports h_exports
 obtain ⟨A_elems,c_elems,e_elems,_,_,_,h_elems⟩:=hC.rep.elems
 have hl_elems:C.m.elems.length ≤ 4000000:=Nat.le_trans hC.fit.1.elems.1 (by decide)
 obtain ⟨n_elems,f_elems⟩:∃ n,C.m.elems.length = n:=⟨_,rfl⟩
 rw [f_elems] at e_elems hl_elems
 have HL_elems:=J hl_elems
 have HE_elems:=J e_elems
 have HF_elems:=J f_elems
 have HH_elems:=J h_elems
 clear hl_elems f_elems e_elems h_elems
 clear h hC
 go_enter Tryz.func49,Tryz.ntmps49
 have qx:W.cell? ⟨C.X,0,none⟩ = some (.slice A_types n_types c_types):=cellV HN.out.cx 0 _ (by show some C.v1 = some _;rw [HE_types.out])
 go_upto_region 1 with fail
 clear qx
 go_loopw [16] (fun i wr=>∃ j:Nat,j ≤ n_types ∧ i = .int .i64 ↑j ∧ Hid (Nt C W0 wr (b || (C.m.types.take j).any typN))) (fun i _=>n_types - (intOf i).toNat)
 case atStart=>exact ⟨0,Nat.zero_le _,rfl,J (by rw [List.take_zero,List.any_nil,Bool.or_false];exact HN.out)⟩
 case round =>
  clear HN
  obtain ⟨j,hj,rfl,HN⟩:=hrel
  have hlb:=HL_types.out
  by_cases hlt:j < n_types
  ·have hlti:(j:Int) < (n_types:Int):=by omega
   obtain ⟨x,hx⟩:∃ x,C.m.types[j]? = some x:=⟨_,List.getElem?_eq_getElem (by rw [HF_types.out];exact hlt)⟩
   have HX:=J hx
   have HNX:Hid ((C.m.types.take (j + 1)).any typN = ((C.m.types.take j).any typN || typN x)):=J (bB hx)
   obtain ⟨g,o,cs,rfl,_,hg,⟨u,v,rfl,hu,hv⟩,hcs⟩:=HH_types.out j x hx
   have hxl:=(HC.out.fit.1.lots.each x (List.mem_of_getElem? hx)).1
   obtain ⟨A1,c1,rfl,_⟩:=id hu
   obtain ⟨A2,c2,rfl,_⟩:=id hv
   have z0:wr.cell? ⟨g,o + j * 2,none⟩ = some (.slice A1 x.params.length c1):=(HN.out.bel.cell (p:=⟨g,o + j * 2,none⟩) hg).trans (hcs 0 _ rfl)
   have z1:wr.cell? ⟨g,o + j * 2 + 1,none⟩ = some (.slice A2 x.results.length c2):=(HN.out.bel.cell (p:=⟨g,o + j * 2 + 1,none⟩) hg).trans (hcs 1 _ rfl)
   have HP:Hid (typN x = decide (16 < x.params.length)):=J rfl
   obtain ⟨n1,e1⟩:∃ n,x.params.length = n:=⟨_,rfl⟩
   obtain ⟨n2,e2⟩:∃ n,x.results.length = n:=⟨_,rfl⟩
   rw [e1] at z0 HP hxl
   rw [e2] at z1
   have HXL:Hid (n1 ≤ 4000000):=J (by omega)
   clear hu hv hcs hxl hg e1 e2
   clear hx
   obtain ⟨ba,hba⟩:∃ ba,(b || (C.m.types.take j).any typN) = ba:=⟨_,rfl⟩
   rw [hba] at HN
   have HBA:=J hba
   clear hba
   have hZY:¬ wr.heap.size = C.Y:=fun e=>by have:=(gL HN.out.cy);omega
   have HZ0:=J (heap_alloc_new wr (.cells #[.slice A1 n1 c1,.slice A2 n2 c2] 29))
   have hn0:=HN.out.on ((Below.refl _ _).alloc (Nat.le_refl _) (.cells #[.slice A1 n1 c1,.slice A2 n2 c2] 29))
   have HNA:=J hn0
   clear hn0
   go_upto_region 3 with fail
   generalize wr.alloc (.cells #[.slice A1 n1 c1,.slice A2 n2 c2] 29) = wa at HZ0 HNA ⊢
   clear HN z0 z1
   have HN:=HNA
   clear HNA
   obtain ⟨Z,hZ⟩:∃ Z,wr.heap.size = Z:=⟨_,rfl⟩
   rw [hZ] at HZ0 hZY
   simp only [hZ]
   clear hZ
   have HZ:=HZ0
   have HZY:=J hZY
   clear HZ0 hZY
   have HN2:=J (HN.out.on (Below.drew (Below.refl _ _)))
   clear HN
   have HN:=HN2
   clear HN2
   refine wp_region_held_drew (S:=fun W'=>W'.heap[C.X]? = some (.cells #[C.v1,C.v2,C.v3,C.v4,C.v5,C.v6,C.v7,.bool C.m.hasStart,.int .u32 ↑C.m.start,C.v8,C.v9,C.v10,.pointer (some ⟨C.sp,0,none⟩),C.hv,.func (.func 47) #[] #[.pointer (some ⟨C.Y,0,none⟩)]] 122 (0,0)) ∧ W'.heap[Z]? = some (.cells #[.slice A1 n1 c1,.slice A2 n2 c2] 29 (0,0))) (by kernel_rfl) (⟨HN.out.cx,HZ.out⟩) (fun hHeld=>?_)
   refine dd1 0 rfl ?_
   refine dd1 1 rfl ?_
   refine dd1 2 rfl ?_
   refine dd1 3 rfl ?_
   refine dd1 4 rfl ?_
   refine dd1 5 rfl ?_
   refine dA 6 rfl fun K hK=>?_
   go_simp
   go_at_call 76
   refine (cP _ _ _ HXL.out _).mono ?_
   rintro e w1 ⟨rfl,rfl⟩
   refine hK.out _ _ (hHeld) fun hHeld=>?_
   clear hK K
   refine dA 7 rfl fun K hK=>?_
   go_simp
   go_at_call 47
   refine (aq HC.out n1 16 HN.out).mono ?_
   rintro e w2 ⟨rfl,hn2,hm2⟩
   have HN2:=J hn2
   have HZ2:=J (hm2.heap HZ.out HZY.out)
   clear HN hn2 hm2
   have HN:=HN2
   clear HN2
   clear HZ
   have HZ:=HZ2
   clear HZ2
   refine hK.out _ _ (⟨HN.out.cx,HZ.out⟩) fun hHeld=>?_
   clear hK K
   refine dN ?_
   go_wp2_with fail
   go_roundw
   case rel=>exact ⟨j + 1,by omega,by go_num,J (by rw [HNX.out,← Bool.or_assoc,HBA.out];rw [HP.out];exact HN.out)⟩
   case measure=>simp [intOf];omega
  ·obtain rfl:j = n_types:=by omega
   have hlti:decide ((j:Int) < (j:Int)) = false:=decide_eq_false (by omega)
   have HN1:Hid (Nt C W0 wr (b || C.m.types.any typN)):=J (by have h1:=HN.out;rw [List.take_of_length_le (by rw [HF_types.out];exact Nat.le_refl _)] at h1;exact h1)
   clear HN hlt hj
   have HN:=HN1
   clear HN1
   obtain ⟨b1,hb1⟩:∃ q,(b || C.m.types.any typN) = q:=⟨_,rfl⟩
   rw [hb1] at HN
   have HB1:=J hb1
   clear hb1
   have qx:wr.cell? ⟨C.X,1,none⟩ = some (.slice A_imports n_imports c_imports):=cellV HN.out.cx 1 _ (by show some C.v2 = some _;rw [HE_imports.out])
   go_upto_region 6 with fail
   clear qx
   go_loopw [35] (fun i wr=>∃ j:Nat,j ≤ n_imports ∧ i = .int .i64 ↑j ∧ Hid (Nt C W0 wr (b1 || (C.m.imports.take j).any impN))) (fun i _=>n_imports - (intOf i).toNat)
   case atStart=>exact ⟨0,Nat.zero_le _,rfl,J (by rw [List.take_zero,List.any_nil,Bool.or_false];exact HN.out)⟩
   case round =>
    clear HN
    obtain ⟨j,hj,rfl,HN⟩:=hrel
    have hlb:=HL_imports.out
    by_cases hlt:j < n_imports
    ·have hlti:(j:Int) < (n_imports:Int):=by omega
     obtain ⟨x,hx⟩:∃ x,C.m.imports[j]? = some x:=⟨_,List.getElem?_eq_getElem (by rw [HF_imports.out];exact hlt)⟩
     have HX:=J hx
     have HNX:Hid ((C.m.imports.take (j + 1)).any impN = ((C.m.imports.take j).any impN || impN x)):=J (bB hx)
     obtain ⟨g,o,cs,rfl,_,hg,⟨rfl,_,_⟩,hcs⟩:=HH_imports.out j x hx
     obtain ⟨hm1,hm2⟩:=HC.out.fit.2 x (List.mem_of_getElem? hx)
     have z0:wr.cell? ⟨g,o + j * 8,none⟩ = some (.string ⟨x.mod.toArray⟩):=(HN.out.bel.cell (p:=⟨g,o + j * 8,none⟩) hg).trans (hcs 0 _ rfl)
     have z1:wr.cell? ⟨g,o + j * 8 + 1,none⟩ = some (.string ⟨x.name.toArray⟩):=(HN.out.bel.cell (p:=⟨g,o + j * 8 + 1,none⟩) hg).trans (hcs 1 _ rfl)
     have z2:wr.cell? ⟨g,o + j * 8 + 2,none⟩ = some (.int .u8 ↑x.kind.toNat):=(HN.out.bel.cell (p:=⟨g,o + j * 8 + 2,none⟩) hg).trans (hcs 2 _ rfl)
     have z3:wr.cell? ⟨g,o + j * 8 + 3,none⟩ = some (.int .u32 ↑x.type):=(HN.out.bel.cell (p:=⟨g,o + j * 8 + 3,none⟩) hg).trans (hcs 3 _ rfl)
     have z4:wr.cell? ⟨g,o + j * 8 + 4,none⟩ = some (.int .u32 ↑x.lim.min):=(HN.out.bel.cell (p:=⟨g,o + j * 8 + 4,none⟩) hg).trans (hcs 4 _ rfl)
     have z5:wr.cell? ⟨g,o + j * 8 + 5,none⟩ = some (.int .i64 x.lim.max):=(HN.out.bel.cell (p:=⟨g,o + j * 8 + 5,none⟩) hg).trans (hcs 5 _ rfl)
     have z6:wr.cell? ⟨g,o + j * 8 + 6,none⟩ = some (.int .u8 ↑x.glob.t.toNat):=(HN.out.bel.cell (p:=⟨g,o + j * 8 + 6,none⟩) hg).trans (hcs 6 _ rfl)
     have z7:wr.cell? ⟨g,o + j * 8 + 7,none⟩ = some (.bool x.glob.mu):=(HN.out.bel.cell (p:=⟨g,o + j * 8 + 7,none⟩) hg).trans (hcs 7 _ rfl)
     obtain ⟨S1,e1⟩:∃ s:ByteArray,(⟨x.mod.toArray⟩:ByteArray) = s:=⟨_,rfl⟩
     obtain ⟨S2,e2⟩:∃ s:ByteArray,(⟨x.name.toArray⟩:ByteArray) = s:=⟨_,rfl⟩
     have g1:S1.size = x.mod.length:=by rw [← e1];show x.mod.toArray.size = _;simp
     have g2:S2.size = x.name.length:=by rw [← e2];show x.name.toArray.size = _;simp
     rw [e1] at z0
     rw [e2] at z1
     have hw1:IntKind.u64.wrap (S1.size:Int) = (S1.size:Int):=IntWalk.u64_in _ (by omega)
     have hw2:IntKind.u64.wrap (S2.size:Int) = (S2.size:Int):=IntWalk.u64_in _ (by omega)
     have HP:Hid (impN x = (decide (64 < S1.size) || decide (64 < S2.size))):=J (by unfold impN;rw [g1,g2])
     clear hcs hg hm1 hm2 e1 e2 g1 g2
     generalize (x.kind.toNat:Int) = kd at *
     generalize (x.type:Int) = ty at *
     generalize (x.lim.min:Int) = mn at *
     generalize x.lim.max = mx at *
     generalize (x.glob.t.toNat:Int) = gt at *
     generalize x.glob.mu = mu at *
     clear hx
     obtain ⟨ba,hba⟩:∃ ba,(b1 || (C.m.imports.take j).any impN) = ba:=⟨_,rfl⟩
     rw [hba] at HN
     have HBA:=J hba
     clear hba
     have hZY:¬ wr.heap.size = C.Y:=fun e=>by have:=(gL HN.out.cy);omega
     have HZ0:=J (heap_alloc_new wr (.cells #[.string S1,.string S2,.int .u8 kd,.int .u32 ty,.int .u32 mn,.int .i64 mx,.int .u8 gt,.bool mu] 75))
     have hn0:=HN.out.on ((Below.refl _ _).alloc (Nat.le_refl _) (.cells #[.string S1,.string S2,.int .u8 kd,.int .u32 ty,.int .u32 mn,.int .i64 mx,.int .u8 gt,.bool mu] 75))
     have HNA:=J hn0
     clear hn0
     go_upto_region 8 with fail
     generalize wr.alloc (.cells #[.string S1,.string S2,.int .u8 kd,.int .u32 ty,.int .u32 mn,.int .i64 mx,.int .u8 gt,.bool mu] 75) = wa at HZ0 HNA ⊢
     clear HN z0 z1 z2 z3 z4 z5 z6 z7
     have HN:=HNA
     clear HNA
     obtain ⟨Z,hZ⟩:∃ Z,wr.heap.size = Z:=⟨_,rfl⟩
     rw [hZ] at HZ0 hZY
     simp only [hZ]
     clear hZ
     have HZ:=HZ0
     have HZY:=J hZY
     clear HZ0 hZY
     have HN2:=J (HN.out.on (Below.drew (Below.refl _ _)))
     clear HN
     have HN:=HN2
     clear HN2
     refine wp_region_held_drew (S:=fun W'=>W'.heap[C.X]? = some (.cells #[C.v1,C.v2,C.v3,C.v4,C.v5,C.v6,C.v7,.bool C.m.hasStart,.int .u32 ↑C.m.start,C.v8,C.v9,C.v10,.pointer (some ⟨C.sp,0,none⟩),C.hv,.func (.func 47) #[] #[.pointer (some ⟨C.Y,0,none⟩)]] 122 (0,0)) ∧ W'.heap[Z]? = some (.cells #[.string S1,.string S2,.int .u8 kd,.int .u32 ty,.int .u32 mn,.int .i64 mx,.int .u8 gt,.bool mu] 75 (0,0))) (by kernel_rfl) (⟨HN.out.cx,HZ.out⟩) (fun hHeld=>?_)
     refine dd1 0 rfl ?_
     refine dd1 1 rfl ?_
     refine dd1 2 rfl ?_
     refine dd1 3 rfl ?_
     refine dd1 4 rfl ?_
     refine dd1 5 rfl ?_
     refine dd1 6 rfl ?_
     refine dd1 7 rfl ?_
     refine dA 8 rfl fun K hK=>?_
     go_simp
     go_at_call 47
     refine (aq HC.out S1.size 64 HN.out).mono ?_
     rintro e w2 ⟨rfl,hn2,hm2⟩
     have HN2:=J hn2
     have HZ2:=J (hm2.heap HZ.out HZY.out)
     clear HN hn2 hm2
     have HN:=HN2
     clear HN2
     clear HZ
     have HZ:=HZ2
     clear HZ2
     refine hK.out _ _ (⟨HN.out.cx,HZ.out⟩) fun hHeld=>?_
     clear hK K
     refine dN ?_
     go_wp2_with fail
     have HN2:=J (HN.out.on (Below.drew (Below.refl _ _)))
     clear HN
     have HN:=HN2
     clear HN2
     refine wp_region_held_drew (S:=fun W'=>W'.heap[C.X]? = some (.cells #[C.v1,C.v2,C.v3,C.v4,C.v5,C.v6,C.v7,.bool C.m.hasStart,.int .u32 ↑C.m.start,C.v8,C.v9,C.v10,.pointer (some ⟨C.sp,0,none⟩),C.hv,.func (.func 47) #[] #[.pointer (some ⟨C.Y,0,none⟩)]] 122 (0,0)) ∧ W'.heap[Z]? = some (.cells #[.string S1,.string S2,.int .u8 kd,.int .u32 ty,.int .u32 mn,.int .i64 mx,.int .u8 gt,.bool mu] 75 (0,0))) (by kernel_rfl) (⟨HN.out.cx,HZ.out⟩) (fun hHeld=>?_)
     refine dn1 0 rfl ?_
     refine dn1 1 rfl ?_
     refine dn1 2 rfl ?_
     refine dn1 3 rfl ?_
     refine dn1 4 rfl ?_
     refine dn1 5 rfl ?_
     refine dn1 6 rfl ?_
     refine dn1 7 rfl ?_
     refine dA 8 rfl fun K hK=>?_
     go_simp
     go_at_call 47
     refine (aq HC.out S2.size 64 HN.out).mono ?_
     rintro e w2 ⟨rfl,hn2,hm2⟩
     have HN2:=J hn2
     have HZ2:=J (hm2.heap HZ.out HZY.out)
     clear HN hn2 hm2
     have HN:=HN2
     clear HN2
     clear HZ
     have HZ:=HZ2
     clear HZ2
     refine hK.out _ _ (⟨HN.out.cx,HZ.out⟩) fun hHeld=>?_
     clear hK K
     refine dN ?_
     go_wp2_with fail
     go_roundw
     case rel=>exact ⟨j + 1,by omega,by go_num,J (by rw [HNX.out,← Bool.or_assoc,HBA.out];rw [HP.out,← Bool.or_assoc];exact HN.out)⟩
     case measure=>simp [intOf];omega
    ·obtain rfl:j = n_imports:=by omega
     have hlti:decide ((j:Int) < (j:Int)) = false:=decide_eq_false (by omega)
     have HN1:Hid (Nt C W0 wr (b1 || C.m.imports.any impN)):=J (by have h1:=HN.out;rw [List.take_of_length_le (by rw [HF_imports.out];exact Nat.le_refl _)] at h1;exact h1)
     clear HN hlt hj
     have HN:=HN1
     clear HN1
     obtain ⟨b2,hb2⟩:∃ q,(b1 || C.m.imports.any impN) = q:=⟨_,rfl⟩
     rw [hb2] at HN
     have HB2:=J hb2
     clear hb2
     have qx:wr.cell? ⟨C.X,6,none⟩ = some (.slice A_exports n_exports c_exports):=cellV HN.out.cx 6 _ (by show some C.v7 = some _;rw [HE_exports.out])
     go_upto_region 12 with fail
     clear qx
     go_loopw [64] (fun i wr=>∃ j:Nat,j ≤ n_exports ∧ i = .int .i64 ↑j ∧ Hid (Nt C W0 wr (b2 || (C.m.exports.take j).any expN))) (fun i _=>n_exports - (intOf i).toNat)
     case atStart=>exact ⟨0,Nat.zero_le _,rfl,J (by rw [List.take_zero,List.any_nil,Bool.or_false];exact HN.out)⟩
     case round =>
      clear HN
      obtain ⟨j,hj,rfl,HN⟩:=hrel
      have hlb:=HL_exports.out
      by_cases hlt:j < n_exports
      ·have hlti:(j:Int) < (n_exports:Int):=by omega
       obtain ⟨x,hx⟩:∃ x,C.m.exports[j]? = some x:=⟨_,List.getElem?_eq_getElem (by rw [HF_exports.out];exact hlt)⟩
       have HX:=J hx
       have HNX:Hid ((C.m.exports.take (j + 1)).any expN = ((C.m.exports.take j).any expN || expN x)):=J (bB hx)
       obtain ⟨g,o,cs,rfl,_,hg,⟨rfl,_⟩,hcs⟩:=HH_exports.out j x hx
       have hm1:=HC.out.fit.1.names x (List.mem_of_getElem? hx)
       have z0:wr.cell? ⟨g,o + j * 3,none⟩ = some (.string ⟨x.name.toArray⟩):=(HN.out.bel.cell (p:=⟨g,o + j * 3,none⟩) hg).trans (hcs 0 _ rfl)
       have z1:wr.cell? ⟨g,o + j * 3 + 1,none⟩ = some (.int .u8 ↑x.kind.toNat):=(HN.out.bel.cell (p:=⟨g,o + j * 3 + 1,none⟩) hg).trans (hcs 1 _ rfl)
       have z2:wr.cell? ⟨g,o + j * 3 + 2,none⟩ = some (.int .u32 ↑x.index):=(HN.out.bel.cell (p:=⟨g,o + j * 3 + 2,none⟩) hg).trans (hcs 2 _ rfl)
       obtain ⟨S1,e1⟩:∃ s:ByteArray,(⟨x.name.toArray⟩:ByteArray) = s:=⟨_,rfl⟩
       have g1:S1.size = x.name.length:=by rw [← e1];show x.name.toArray.size = _;simp
       rw [e1] at z0
       have hw1:IntKind.u64.wrap (S1.size:Int) = (S1.size:Int):=IntWalk.u64_in _ (by omega)
       have HP:Hid (expN x = decide (64 < S1.size)):=J (by unfold expN;rw [g1])
       clear hcs hg hm1 e1 g1
       generalize (x.kind.toNat:Int) = kd at *
       generalize (x.index:Int) = ix at *
       clear hx
       obtain ⟨ba,hba⟩:∃ ba,(b2 || (C.m.exports.take j).any expN) = ba:=⟨_,rfl⟩
       rw [hba] at HN
       have HBA:=J hba
       clear hba
       have hZY:¬ wr.heap.size = C.Y:=fun e=>by have:=(gL HN.out.cy);omega
       have HZ0:=J (heap_alloc_new wr (.cells #[.string S1,.int .u8 kd,.int .u32 ix] 52))
       have hn0:=HN.out.on ((Below.refl _ _).alloc (Nat.le_refl _) (.cells #[.string S1,.int .u8 kd,.int .u32 ix] 52))
       have HNA:=J hn0
       clear hn0
       go_upto_region 14 with fail
       generalize wr.alloc (.cells #[.string S1,.int .u8 kd,.int .u32 ix] 52) = wa at HZ0 HNA ⊢
       clear HN z0 z1 z2
       have HN:=HNA
       clear HNA
       obtain ⟨Z,hZ⟩:∃ Z,wr.heap.size = Z:=⟨_,rfl⟩
       rw [hZ] at HZ0 hZY
       simp only [hZ]
       clear hZ
       have HZ:=HZ0
       have HZY:=J hZY
       clear HZ0 hZY
       have HN2:=J (HN.out.on (Below.drew (Below.refl _ _)))
       clear HN
       have HN:=HN2
       clear HN2
       refine wp_region_held_drew (S:=fun W'=>W'.heap[C.X]? = some (.cells #[C.v1,C.v2,C.v3,C.v4,C.v5,C.v6,C.v7,.bool C.m.hasStart,.int .u32 ↑C.m.start,C.v8,C.v9,C.v10,.pointer (some ⟨C.sp,0,none⟩),C.hv,.func (.func 47) #[] #[.pointer (some ⟨C.Y,0,none⟩)]] 122 (0,0)) ∧ W'.heap[Z]? = some (.cells #[.string S1,.int .u8 kd,.int .u32 ix] 52 (0,0))) (by kernel_rfl) (⟨HN.out.cx,HZ.out⟩) (fun hHeld=>?_)
       refine dd1 0 rfl ?_
       refine dd1 1 rfl ?_
       refine dd1 2 rfl ?_
       refine dd1 3 rfl ?_
       refine dd1 4 rfl ?_
       refine dd1 5 rfl ?_
       refine dd1 6 rfl ?_
       refine dd1 7 rfl ?_
       refine dA 8 rfl fun K hK=>?_
       go_simp
       go_at_call 47
       refine (aq HC.out S1.size 64 HN.out).mono ?_
       rintro e w2 ⟨rfl,hn2,hm2⟩
       have HN2:=J hn2
       have HZ2:=J (hm2.heap HZ.out HZY.out)
       clear HN hn2 hm2
       have HN:=HN2
       clear HN2
       clear HZ
       have HZ:=HZ2
       clear HZ2
       refine hK.out _ _ (⟨HN.out.cx,HZ.out⟩) fun hHeld=>?_
       clear hK K
       refine dN ?_
       go_wp2_with fail
       go_roundw
       case rel=>exact ⟨j + 1,by omega,by go_num,J (by rw [HNX.out,← Bool.or_assoc,HBA.out];rw [HP.out];exact HN.out)⟩
       case measure=>simp [intOf];omega
      ·obtain rfl:j = n_exports:=by omega
       have hlti:decide ((j:Int) < (j:Int)) = false:=decide_eq_false (by omega)
       have HN1:Hid (Nt C W0 wr (b2 || C.m.exports.any expN)):=J (by have h1:=HN.out;rw [List.take_of_length_le (by rw [HF_exports.out];exact Nat.le_refl _)] at h1;exact h1)
       clear HN hlt hj
       have HN:=HN1
       clear HN1
       obtain ⟨b3,hb3⟩:∃ q,(b2 || C.m.exports.any expN) = q:=⟨_,rfl⟩
       rw [hb3] at HN
       have HB3:=J hb3
       clear hb3
       have qx:wr.cell? ⟨C.X,9,none⟩ = some (.slice A_elems n_elems c_elems):=cellV HN.out.cx 9 _ (by show some C.v8 = some _;rw [HE_elems.out])
       go_upto_region 17 with fail
       clear qx
       go_loopw [84] (fun i wr=>∃ j:Nat,j ≤ n_elems ∧ i = .int .i64 ↑j ∧ Hid (Nt C W0 wr (b3 || (C.m.elems.take j).any eleN))) (fun i _=>n_elems - (intOf i).toNat)
       case atStart=>exact ⟨0,Nat.zero_le _,rfl,J (by rw [List.take_zero,List.any_nil,Bool.or_false];exact HN.out)⟩
       case round =>
        clear HN
        obtain ⟨j,hj,rfl,HN⟩:=hrel
        have hlb:=HL_elems.out
        by_cases hlt:j < n_elems
        ·have hlti:(j:Int) < (n_elems:Int):=by omega
         obtain ⟨x,hx⟩:∃ x,C.m.elems[j]? = some x:=⟨_,List.getElem?_eq_getElem (by rw [HF_elems.out];exact hlt)⟩
         have HX:=J hx
         have HNX:Hid ((C.m.elems.take (j + 1)).any eleN = ((C.m.elems.take j).any eleN || eleN x)):=J (bB hx)
         obtain ⟨g,o,cs,rfl,_,hg,⟨u,v,rfl,_,hu,hv⟩,hcs⟩:=HH_elems.out j x hx
         have hxl:=((HC.out.fit.1.elems.2) x (List.mem_of_getElem? hx)).2
         obtain ⟨A1,c1,rfl,_⟩:=id hu
         obtain ⟨A2,c2,rfl,_⟩:=id hv
         have z0:wr.cell? ⟨g,o + j * 3,none⟩ = some (.int .u32 ↑x.table):=(HN.out.bel.cell (p:=⟨g,o + j * 3,none⟩) hg).trans (hcs 0 _ rfl)
         have z1:wr.cell? ⟨g,o + j * 3 + 1,none⟩ = some (.slice A1 x.off.length c1):=(HN.out.bel.cell (p:=⟨g,o + j * 3 + 1,none⟩) hg).trans (hcs 1 _ rfl)
         have z2:wr.cell? ⟨g,o + j * 3 + 2,none⟩ = some (.slice A2 x.funcs.length c2):=(HN.out.bel.cell (p:=⟨g,o + j * 3 + 2,none⟩) hg).trans (hcs 2 _ rfl)
         have HP:Hid (eleN x = decide (1024 < x.funcs.length)):=J rfl
         obtain ⟨n1,e1⟩:∃ n,x.off.length = n:=⟨_,rfl⟩
         obtain ⟨n2,e2⟩:∃ n,x.funcs.length = n:=⟨_,rfl⟩
         rw [e1] at z1
         rw [e2] at z2 HP hxl
         have HXL:Hid (n2 ≤ 4000000):=J (by omega)
         clear hu hv hcs hxl hg e1 e2
         generalize (x.table:Int) = tb at *
         clear hx
         obtain ⟨ba,hba⟩:∃ ba,(b3 || (C.m.elems.take j).any eleN) = ba:=⟨_,rfl⟩
         rw [hba] at HN
         have HBA:=J hba
         clear hba
         have hZY:¬ wr.heap.size = C.Y:=fun e=>by have:=(gL HN.out.cy);omega
         have HZ0:=J (heap_alloc_new wr (.cells #[.int .u32 tb,.slice A1 n1 c1,.slice A2 n2 c2] 85))
         have hn0:=HN.out.on ((Below.refl _ _).alloc (Nat.le_refl _) (.cells #[.int .u32 tb,.slice A1 n1 c1,.slice A2 n2 c2] 85))
         have HNA:=J hn0
         clear hn0
         go_upto_region 19 with fail
         generalize wr.alloc (.cells #[.int .u32 tb,.slice A1 n1 c1,.slice A2 n2 c2] 85) = wa at HZ0 HNA ⊢
         clear HN z0 z1 z2
         have HN:=HNA
         clear HNA
         obtain ⟨Z,hZ⟩:∃ Z,wr.heap.size = Z:=⟨_,rfl⟩
         rw [hZ] at HZ0 hZY
         simp only [hZ]
         clear hZ
         have HZ:=HZ0
         have HZY:=J hZY
         clear HZ0 hZY
         have HN2:=J (HN.out.on (Below.drew (Below.refl _ _)))
         clear HN
         have HN:=HN2
         clear HN2
         refine wp_region_held_drew (S:=fun W'=>W'.heap[C.X]? = some (.cells #[C.v1,C.v2,C.v3,C.v4,C.v5,C.v6,C.v7,.bool C.m.hasStart,.int .u32 ↑C.m.start,C.v8,C.v9,C.v10,.pointer (some ⟨C.sp,0,none⟩),C.hv,.func (.func 47) #[] #[.pointer (some ⟨C.Y,0,none⟩)]] 122 (0,0)) ∧ W'.heap[Z]? = some (.cells #[.int .u32 tb,.slice A1 n1 c1,.slice A2 n2 c2] 85 (0,0))) (by kernel_rfl) (⟨HN.out.cx,HZ.out⟩) (fun hHeld=>?_)
         refine dV 0 rfl (by intro wy hSw;obtain ⟨hs1,hs2⟩:=hSw;have qf:=cellV hs1 14 _ rfl;have qz:=cellV hs2 2 _ rfl;go_simp;try with_reducible rfl) ?_
         refine dV 1 rfl (by intro wy hSw;obtain ⟨hs1,hs2⟩:=hSw;have qf:=cellV hs1 14 _ rfl;have qz:=cellV hs2 2 _ rfl;go_simp;try with_reducible rfl) ?_
         refine dV 2 rfl (by intro wy hSw;obtain ⟨hs1,hs2⟩:=hSw;have qf:=cellV hs1 14 _ rfl;have qz:=cellV hs2 2 _ rfl;go_simp;try with_reducible rfl) ?_
         refine dV 3 rfl (by intro wy hSw;obtain ⟨hs1,hs2⟩:=hSw;have qf:=cellV hs1 14 _ rfl;have qz:=cellV hs2 2 _ rfl;go_simp;try with_reducible rfl) ?_
         refine dV 4 rfl (by intro wy hSw;obtain ⟨hs1,hs2⟩:=hSw;have qf:=cellV hs1 14 _ rfl;have qz:=cellV hs2 2 _ rfl;go_simp;try with_reducible rfl) ?_
         refine dV 5 rfl (by intro wy hSw;obtain ⟨hs1,hs2⟩:=hSw;have qf:=cellV hs1 14 _ rfl;have qz:=cellV hs2 2 _ rfl;go_simp;try with_reducible rfl) ?_
         refine dA 6 rfl fun K hK=>?_
         go_simp
         go_at_call 72
         refine (cp _ _ _ HXL.out _).mono ?_
         rintro e w1 ⟨rfl,rfl⟩
         refine hK.out _ _ (hHeld) fun hHeld=>?_
         clear hK K
         refine dA 7 rfl fun K hK=>?_
         go_simp
         go_at_call 47
         refine (aq HC.out n2 1024 HN.out).mono ?_
         rintro e w2 ⟨rfl,hn2,hm2⟩
         have HN2:=J hn2
         have HZ2:=J (hm2.heap HZ.out HZY.out)
         clear HN hn2 hm2
         have HN:=HN2
         clear HN2
         clear HZ
         have HZ:=HZ2
         clear HZ2
         refine hK.out _ _ (⟨HN.out.cx,HZ.out⟩) fun hHeld=>?_
         clear hK K
         refine dN ?_
         go_wp2_with fail
         go_roundw
         case rel=>exact ⟨j + 1,by omega,by go_num,J (by rw [HNX.out,← Bool.or_assoc,HBA.out];rw [HP.out];exact HN.out)⟩
         case measure=>simp [intOf];omega
        ·obtain rfl:j = n_elems:=by omega
         have hlti:decide ((j:Int) < (j:Int)) = false:=decide_eq_false (by omega)
         have HN1:Hid (Nt C W0 wr (b3 || C.m.elems.any eleN)):=J (by have h1:=HN.out;rw [List.take_of_length_le (by rw [HF_elems.out];exact Nat.le_refl _)] at h1;exact h1)
         clear HN hlt hj
         have HN:=HN1
         clear HN1
         obtain ⟨b4,hb4⟩:∃ q,(b3 || C.m.elems.any eleN) = q:=⟨_,rfl⟩
         rw [hb4] at HN
         have HB4:=J hb4
         clear hb4
         go_wp2_with fail
         go_end0
         exact ⟨rfl,by rw [HB1.out,HB2.out,HB3.out,HB4.out];exact HN.out⟩
end
end Go.Proofs.YtmpelmihdpomjaaGreat
