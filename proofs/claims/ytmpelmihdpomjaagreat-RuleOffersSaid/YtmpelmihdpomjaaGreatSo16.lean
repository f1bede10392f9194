/-
  How a slice of instructions that came in is opened: to instructions, each one's labels opened too; and how long they are at most.
-/
import Derived.Test.YtmpelmihdpomjaaGreatSo01
import Derived.Test.YtmpelmihdpomjaaGreatSo09
import Derived.Test.YtmpelmihdpomjaaGreatSo10
import Derived.Deep.Slices
import Derived.Deep.Fields
import Derived.ChangeSame
import Derived.SizedLaws
import Derived.Test.YtmpelmihdpomjaaGreatSo02
set_option maxRecDepth 100000
set_option maxHeartbeats 4000000
namespace Go.Proofs.YtmpelmihdpomjaaGreat
open Go.RowKit Ins
open Go.ChangeShapes Go.WideShapes Go.ChangeAt Go.Deep
noncomputable def fsI:Array Field:=match Tryz.prog.underlying 56 with
 | some (.struct fs)=>fs
 | _=>#[]
theorem o_undI:Tryz.prog.underlying 56 = some (.struct fsI):=by kernel_rfl
theorem o_und24s:Tryz.prog.underlying 40 = some (.slice 44):=by kernel_rfl
theorem co:Tryz.prog.underlying 44 = some (.int .u32):=by kernel_rfl
theorem o_und2i:Tryz.prog.underlying 2 = some (.int .i64):=by kernel_rfl
theorem o_cells23:Tryz.prog.cellsOf 44 = 1:=by kernel_rfl
theorem o_cellsI:Tryz.prog.cellsOf 56 = 5:=by kernel_rfl
theorem em:oneCellFields Tryz.prog fsI = true:=by kernel_rfl
theorem o_sizeFs:fsI.size = 5:=by kernel_rfl
theorem eQ:fsI.toList.map (·.type) = [5,44,44,2,40]:=by kernel_rfl
theorem o_bytes23:Tryz.prog.bytesOf 44 = 4:=by kernel_rfl
theorem fieldI (j:Nat) (t:TypeId) (h:[5,44,44,2,40][j]? = some t):∃ f,fsI[j]? = some f ∧ f.type = t:=by
 rw [← eQ,List.getElem?_map] at h
 cases hf:fsI.toList[j]? with
 | none=>rw [hf] at h;cases h
 | some f =>
  rw [hf] at h
  exact ⟨f,by rw [← Array.getElem?_toList];exact hf,Option.some.inj h⟩
theorem dO {α:Type} {E:Nat → α → Prop}:∀ (n:Nat),(∀ i,i < n → ∃ x,E i x) → ∃ xs:List α,xs.length = n ∧ ∀ i x,xs[i]? = some x → E i x
 | 0,_=>⟨[],rfl,fun i x h=>by simp at h⟩
 | n + 1,h=>by
  obtain ⟨xs,h1,h2⟩:=dO n (fun i hi=>h i (by omega))
  obtain ⟨x,hx⟩:=h n (by omega)
  refine ⟨xs ++ [x],by simp [h1],fun i y hy=>?_⟩
  by_cases hi:i < n
  ·rw [List.getElem?_append_left (by omega)] at hy
   exact h2 i y hy
  ·rw [List.getElem?_append_right (by omega)] at hy
   have e:i - xs.length = 0:=by
    rcases Nat.eq_zero_or_pos (i - xs.length) with h | h
    ·exact h
    ·rw [List.getElem?_eq_none (by simp;omega)] at hy;cases hy
   rw [e] at hy
   obtain rfl:x = y:=Option.some.inj hy
   obtain rfl:i = n:=by omega
   exact hx
theorem cz {H:Type} {P:Program} {e:TypeId}:∀ {ds:List (DataW H)} {d:DataW H} {n:Nat},d ∈ ds → n ∈ d.weights P e → n ∈ DataW.weightsAll P e ds
 | d0 :: ds,d,n,hd,hn=>by
  simp only [DataW.weightsAll,List.mem_append]
  rcases List.mem_cons.1 hd with rfl | hd
  ·exact .inl hn
  ·exact .inr (cz hd hn)
theorem dL {w:World} {a:Addr} {v:Value} (h:w.cell? a = some v):a.spot = none:=by
 unfold World.cell? at h
 split at h
 ·split at h
  ·cases h
  ·rename_i hs
   cases ha:a.spot with
   | none=>rfl
   | some x=>rw [ha] at hs;simp at hs
 ·cases h
theorem dC (g o k:Nat):(⟨g,o,none⟩:Addr).add k = ⟨g,o + k,none⟩:=by
 unfold Addr.add
 split
 ·rename_i h0;subst h0;rfl
 ·rfl
theorem aX {H:Type} (d:DataW H):1 ≤ Rows.uptoBulk d:=by
 cases d with
 | lit l=>cases l <;> simp [Rows.uptoBulk]
 | nil=>simp [Rows.uptoBulk]
 | ptr d=>simp [Rows.uptoBulk]
 | slice elems spare=>simp [Rows.uptoBulk]
 | agg parts=>simp [Rows.uptoBulk]
 | iface t d=>simp [Rows.uptoBulk]
 | map entries=>simp [Rows.uptoBulk]
 | held h=>simp [Rows.uptoBulk]
theorem bulk_len {H:Type} (l:List (DataW H)):l.length ≤ Rows.uptoBulkAll l:=by
 induction l with
 | nil=>simp [Rows.uptoBulkAll]
 | cons x r ih=>have:=aX x;simp only [Rows.uptoBulkAll,List.length_cons];omega
theorem fH:∀ {xs:List I} {x:I},x ∈ xs → x.l.length + 5 ≤ tot xs
 | y :: xs,x,h=>by
  simp only [tot]
  rcases List.mem_cons.1 h with rfl | h
  ·omega
  ·have:=fH h;omega
section
variable {H:Type} {enc:TypeId × Value → H} {W:World}
theorem open_labels {n:Nat} {v:Value} {y:DataW H × List MemPlace} (h:DataW.trod enc Tryz.prog W 0 (fun _=>true) true n 40 [v] = some y) (hs:∀ k ∈ y.1.weights Tryz.prog 40,k ≤ reachBytes) :
  ∃ (A:Option Addr) (c:Nat) (l:List Nat),v = .slice A l.length c ∧ l.length ≤ c ∧ c ≤ maxLen ∧ l.length ≤ 140737488355328 ∧ (∀ x ∈ l,x < 4294967296) ∧ HasU W (· < W.heap.size) A l ∧ l.length ≤ Rows.uptoBulk y.1:=by
 rcases open_ints o_und24s co o_cells23 h with ⟨hcs,rfl⟩ | ⟨a,len,cap,zs,hcs,_,hl,hm,hz,rfl,hcell,hwz⟩
 ·obtain rfl:v = .slice none 0 0:=by simpa using hcs
  exact ⟨none,0,[],rfl,Nat.le_refl _,by unfold maxLen;omega,by simp,by simp,HasU.nil _ _ _,by simp⟩
 ·obtain rfl:v = .slice (some a) len cap:=by simpa using hcs
  simp only [if_true] at hz
  have hlen:((zs.take len).map Int.toNat).length = len:=by simp;omega
  have hw:=hs ((len + (cap - len)) * 4) (by
   simp only [DataW.weights,o_und24s,o_bytes23,List.mem_cons]
   left
   simp [lits]
   omega)
  have hrb:=reachBytes_lt
  refine ⟨some a,cap,(zs.take len).map Int.toNat,by rw [hlen],by omega,hm,by omega,?_,?_,?_⟩
  rotate_left 2
  ·have h1:=bulk_len (H:=H) (lits .u32 (zs.take len))
   have h2:(lits (H:=H) .u32 (zs.take len)).length = (zs.take len).length:=by simp [lits]
   simp only [Rows.uptoBulk,List.length_map]
   omega
  ·intro x hx
   obtain ⟨z,hz1,rfl⟩:=List.mem_map.1 hx
   have hr:=bounds_u32 (hwz z (List.mem_of_mem_take hz1))
   omega
  ·intro k x hk
   rw [List.getElem?_map,List.getElem?_take] at hk
   split at hk
   case isFalse=>simp at hk
   case isTrue hkl =>
    have hkz:k < zs.length:=by omega
    rw [List.getElem?_eq_getElem hkz] at hk
    simp only [Option.map_some,Option.some.injEq] at hk
    have hc0:=hcell 0 (by omega)
    have hc:=hcell k hkz
    rw [List.getD_eq_getElem?_getD,List.getElem?_eq_getElem hkz,Option.getD_some] at hc
    have hr:=bounds_u32 (hwz zs[k] (List.getElem_mem hkz))
    have hsp:=dL hc0
    obtain ⟨g,o,sp⟩:=a
    obtain rfl:sp = none:=by simpa [Addr.add] using hsp
    refine ⟨g,o,rfl,fi hc0,?_⟩
    rw [dC] at hc
    rw [hc,← hk]
    congr 2
    omega
theorem open_cells {n:Nat} {cs:List Value} {y:DataW H × List MemPlace} (h:DataW.trod enc Tryz.prog W 0 (fun _=>true) true n 56 cs = some y) (hs:∀ k ∈ y.1.weights Tryz.prog 56,k ≤ reachBytes) :
  ∃ (A:Option Addr) (c:Nat) (x:I),cs = insCells x A c ∧ x.wf ∧ x.l.length ≤ c ∧ c ≤ maxLen ∧ x.l.length ≤ 140737488355328 ∧ HasU W (· < W.heap.size) A x.l ∧ x.l.length + 5 ≤ Rows.uptoBulk y.1:=by
 obtain ⟨ys,n',_,rfl,hcl,hyl,hf⟩:=DataW.trod_struct o_undI h
 rw [o_cellsI] at hcl
 rw [o_sizeFs] at hyl
 obtain ⟨f0,hf0,ht0⟩:=fieldI 0 _ rfl
 obtain ⟨f1,hf1,ht1⟩:=fieldI 1 _ rfl
 obtain ⟨f2,hf2,ht2⟩:=fieldI 2 _ rfl
 obtain ⟨f3,hf3,ht3⟩:=fieldI 3 _ rfl
 obtain ⟨f4,hf4,ht4⟩:=fieldI 4 _ rfl
 obtain ⟨o0,k0⟩:=hone_of em 0 f0 hf0
 obtain ⟨o1,k1⟩:=hone_of em 1 f1 hf1
 obtain ⟨o2,k2⟩:=hone_of em 2 f2 hf2
 obtain ⟨o3,k3⟩:=hone_of em 3 f3 hf3
 obtain ⟨o4,k4⟩:=hone_of em 4 f4 hf4
 match cs,hcl with
 | [c0,c1,c2,c3,c4],_ =>
  match ys,hyl with
  | [y0,y1,y2,y3,y4],_ =>
   have g0:=hf 0 f0 hf0
   have g1:=hf 1 f1 hf1
   have g2:=hf 2 f2 hf2
   have g3:=hf 3 f3 hf3
   have g4:=hf 4 f4 hf4
   rw [o0,k0,ht0] at g0
   rw [o1,k1,ht1] at g1
   rw [o2,k2,ht2] at g2
   rw [o3,k3,ht3] at g3
   rw [o4,k4,ht4] at g4
   obtain ⟨m0,e0,_,w0⟩:=DataW.trod_int und5 g0
   obtain ⟨m1,e1,_,w1⟩:=DataW.trod_int co g1
   obtain ⟨m2,e2,_,w2⟩:=DataW.trod_int co g2
   obtain ⟨m3,e3,_,w3⟩:=DataW.trod_int o_und2i g3
   obtain rfl:c0 = .int .u8 m0:=by simpa using e0
   obtain rfl:c1 = .int .u32 m1:=by simpa using e1
   obtain rfl:c2 = .int .u32 m2:=by simpa using e2
   obtain rfl:c3 = .int .i64 m3:=by simpa using e3
   have b0:=bounds_u8 w0
   have b1:=bounds_u32 w1
   have b2:=bounds_u32 w2
   have b3:=bounds_i64 w3
   have g4':DataW.trod enc Tryz.prog W 0 (fun _=>true) true n' 40 [c4] = some y4:=g4
   obtain ⟨A,c,l,rfl,hl1,hl2,hl3,hl4,hU,hbk⟩:=open_labels g4' (fun k hk=>hs k (by
    simp only [DataW.weights,o_undI,eQ,List.map_cons,List.map_nil,DataW.weightsEach,List.mem_append]
    simp [hk]))
   refine ⟨A,c,⟨m0.toNat,m1.toNat,m2.toNat,m3,l⟩,?_,⟨by simp only;omega,by simp only;omega,by simp only;omega,b3.1,b3.2,hl4⟩,hl1,hl2,hl3,hU,?_⟩
   rotate_left 1
   ·have q0:=aX y0.1
    have q1:=aX y1.1
    have q2:=aX y2.1
    have q3:=aX y3.1
    simp only [List.map_cons,List.map_nil,Rows.uptoBulk,Rows.uptoBulkAll]
    omega
   simp only [insCells]
   rw [Int.toNat_of_nonneg b0.1,Int.toNat_of_nonneg b1.1,Int.toNat_of_nonneg b2.1]
end
end Go.Proofs.YtmpelmihdpomjaaGreat
