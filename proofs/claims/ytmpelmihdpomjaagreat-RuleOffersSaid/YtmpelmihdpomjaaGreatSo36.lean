/-
  Layer 12's program: what is noted of a body's blocks and labels. (gen/rule/limbody.py)
-/
import Derived.Test.YtmpelmihdpomjaaGreatSo01
import Derived.Test.YtmpelmihdpomjaaGreatSo35
set_option maxRecDepth 100000
set_option maxHeartbeats 4000000
namespace Ru
open Bin Sp Ins
def nestS (o:Nat) (x:I):Nat:=if 2 ≤ x.op ∧ x.op ≤ 4 then o + 1 else if x.op = 11 then o - 1 else o
def noteI (o:Nat) (x:I):Bool:=(decide (2 ≤ x.op ∧ x.op ≤ 4) && decide (64 < o + 1)) || (decide (x.op = 14) && decide (256 < x.l.length))
def noteB:Nat → List I → Bool
 | _,[]=>false
 | o,x :: xs=>noteI o x || noteB (nestS o x) xs
theorem dm:∀ (xs ys:List I) (o:Nat),noteB o (xs ++ ys) = (noteB o xs || noteB (xs.foldl nestS o) ys)
 | [],_,_=>by simp [noteB]
 | x :: xs,ys,o=>by simp only [List.cons_append,noteB,List.foldl_cons,dm xs ys,Bool.or_assoc]
theorem noteB_step {xs:List I} {j:Nat} {x:I} (hx:xs[j]? = some x):noteB 0 (xs.take (j + 1)) = (noteB 0 (xs.take j) || noteI ((xs.take j).foldl nestS 0) x):=by
 obtain ⟨hj,rfl⟩:=List.getElem?_eq_some_iff.1 hx
 rw [List.take_succ_eq_append_getElem hj,dm]
 simp [noteB]
theorem open_step {xs:List I} {j:Nat} {x:I} (hx:xs[j]? = some x):(xs.take (j + 1)).foldl nestS 0 = nestS ((xs.take j).foldl nestS 0) x:=by
 obtain ⟨hj,rfl⟩:=List.getElem?_eq_some_iff.1 hx
 rw [List.take_succ_eq_append_getElem hj,List.foldl_append]
 rfl
theorem open_le:∀ (xs:List I) (o:Nat),xs.foldl nestS o ≤ o + xs.length
 | [],_=>by simp
 | x :: xs,o=>by
  have h1:=open_le xs (nestS o x)
  have h2:nestS o x ≤ o + 1:=by unfold nestS;split <;> (try split) <;> omega
  simp only [List.foldl_cons,List.length_cons]
  omega
theorem dx {o o1:List Bool} {x:I} (h:step o x.op = some o1):o1.length = nestS o.length x ∧ (x.op = 11 → 0 < o.length):=by
 unfold step at h
 unfold nestS
 split at h
 ·next q =>
  injection h with h;subst h
  rw [if_pos (by omega)]
  exact ⟨by simp,fun e=>by omega⟩
 ·split at h
  ·next q =>
   injection h with h;subst h
   rw [if_pos (by omega)]
   exact ⟨by simp,fun e=>by omega⟩
  ·split at h
   ·next q =>
    split at h
    ·next hl =>
     injection h with h;subst h
     rw [if_neg (by omega),if_neg (by omega)]
     have hne:o ≠ []:=fun e=>by subst e;simp at hl
     have:=List.length_pos_iff.2 hne
     exact ⟨by simp;omega,fun e=>by omega⟩
    ·cases h
   ·split at h
    ·next q =>
     split at h
     ·cases h
     ·next hne =>
      injection h with h;subst h
      rw [if_neg (by omega),if_pos q]
      exact ⟨by simp,fun _=>List.length_pos_iff.2 hne⟩
    ·next q2 q3 q4 q5 =>
     injection h with h;subst h
     rw [if_neg (by omega),if_neg (by omega)]
     exact ⟨rfl,fun e=>by omega⟩
theorem open_at:∀ (xs:List I) (o r:List Bool),steps o xs = some r → ∀ (j:Nat) (x:I),xs[j]? = some x → x.op = 11 → 0 < (xs.take j).foldl nestS o.length
 | [],_,_,_,j,x,hx,_=>by simp at hx
 | y :: ys,o,r,h,j,x,hx,he=>by
  rw [steps] at h
  split at h
  ·cases h
  ·next o1 ho =>
   obtain ⟨h1,h2⟩:=dx ho
   cases j with
   | zero =>
    simp at hx
    subst hx
    simpa using h2 he
   | succ j =>
    have:=open_at ys o1 r h j x (by simpa using hx) he
    simp only [List.take_succ_cons,List.foldl_cons]
    rw [← h1]
    exact this
theorem eP:∀ (xs:List I) (o:Nat),o ≤ 64 → nestB o xs = !noteB o xs
 | [],_,_=>rfl
 | x :: xs,o,ho=>by
  rw [nestB,noteB]
  have hs:(if 2 ≤ x.op ∧ x.op ≤ 4 then o + 1 else if x.op = 11 then o - 1 else o) = nestS o x:=rfl
  simp only [hs]
  by_cases h1:nestS o x ≤ 64
  ·rw [eP xs _ h1,decide_eq_true h1]
   have h2:(decide (2 ≤ x.op ∧ x.op ≤ 4) && decide (64 < o + 1)) = false:=by
    rw [Bool.and_eq_false_iff]
    by_cases hq:2 ≤ x.op ∧ x.op ≤ 4
    ·right
     unfold nestS at h1
     rw [if_pos hq] at h1
     exact decide_eq_false (by omega)
    ·left
     exact decide_eq_false hq
   unfold noteI
   rw [h2]
   by_cases h14:x.op = 14 <;> by_cases hl:x.l.length ≤ 256 <;> simp [h14,hl] <;> omega
  ·have hq:2 ≤ x.op ∧ x.op ≤ 4:=by
    by_cases hq:2 ≤ x.op ∧ x.op ≤ 4
    ·exact hq
    ·unfold nestS at h1
     rw [if_neg hq] at h1
     split at h1 <;> omega
   unfold nestS at h1
   rw [if_pos hq] at h1
   have:noteI o x = true:=by
    unfold noteI
    rw [decide_eq_true hq,decide_eq_true (show 64 < o + 1 by omega)]
    rfl
   rw [this,decide_eq_false (show ¬ nestS o x ≤ 64 by unfold nestS;rw [if_pos hq];omega)]
   simp
end Ru
namespace Go.Proofs.YtmpelmihdpomjaaGreat
open Go.RowKit Ins Bin Sp
theorem rcntL_any (A:Option Addr) (n c:Nat) (hn:n ≤ 4000000000) (w:World):Calls Tryz.prog 72 #[.slice A n c] w fun e w'=>e = .returned (.int .u64 ↑n) ∧ w = w':=by
 have hw:IntKind.u64.wrap (n:Int) = (n:Int):=IntWalk.u64_in _ (by omega)
 go_enter Tryz.func72,Tryz.ntmps72
 go_wp2_with fail
 go_ret
 exact ⟨rfl,rfl⟩
section
variable {C:RC} {W0 W W':World} {b:Bool}
theorem rbody_any (hC:C.Good) (h:Nt C W0 W b) (xs:List I) (A:Option Addr) (c:Nat) (hL:HasL C.w (· < C.w.heap.size) A xs) (hst:steps [] xs = some []) (hf:FewI xs) :
  Calls Tryz.prog 78 #[.pointer (some ⟨C.X,0,none⟩),.slice A xs.length c] W fun e W'=>e = .returned (.tuple #[]) ∧ Nt C W0 W' (b || Ru.noteB 0 xs):=by
 have HN:=J h
 have HC:=J hC
 have HL:=J hL
 have HST:=J hst
 have HF:=J hf
 obtain ⟨n,hn⟩:∃ n,xs.length = n:=⟨_,rfl⟩
 have hnb:n ≤ 1050000:=by rw [← hn];exact hf.1
 rw [hn]
 have HNL:=J hn
 clear h hC hL hst hf hn
 go_enter Tryz.func78,Tryz.ntmps78
 go_upto_region 2 with fail
 go_loopw [9,4] (fun i ov wr=>∃ j o:Nat,j ≤ n ∧ i = .int .i64 ↑j ∧ ov = .int .u64 ↑o ∧ Hid (o = (xs.take j).foldl Ru.nestS 0) ∧ Hid (Nt C W0 wr (b || Ru.noteB 0 (xs.take j)))) (fun i _ _=>n - (intOf i).toNat)
 case atStart=>exact ⟨0,0,Nat.zero_le _,rfl,rfl,J rfl,J (by rw [List.take_zero,Ru.noteB,Bool.or_false];exact HN.out)⟩
 case round =>
  clear HN
  obtain ⟨j,o,hj,rfl,rfl,HO,HN⟩:=hrel
  by_cases hlt:j < n
  ·have hlti:(j:Int) < (n:Int):=by omega
   obtain ⟨x,hx⟩:∃ x,xs[j]? = some x:=⟨_,List.getElem?_eq_getElem (by rw [HNL.out];exact hlt)⟩
   have HX:=J hx
   have hob:o ≤ j:=by rw [HO.out];have:=Ru.open_le (xs.take j) 0;rw [List.length_take] at this;omega
   have hend:x.op = 11 → 0 < o:=fun e=>by rw [HO.out];exact Ru.open_at xs [] [] HST.out j x hx e
   have hxl:x.l.length ≤ 100000000:=by have h1:=fH (List.mem_of_getElem? hx);have h2:=HF.out.2;omega
   obtain ⟨g,of,cs,rfl,_,hg,⟨Al,cl,rfl,hwf,_⟩,hcs⟩:=HL.out j x hx
   have z0:wr.cell? ⟨g,of + j * 5,none⟩ = some (.int .u8 ↑x.op):=(HN.out.bel.cell (p:=⟨g,of + j * 5,none⟩) hg).trans (hcs 0 _ rfl)
   have z1:wr.cell? ⟨g,of + j * 5 + 1,none⟩ = some (.int .u32 ↑x.a):=(HN.out.bel.cell (p:=⟨g,of + j * 5 + 1,none⟩) hg).trans (hcs 1 _ rfl)
   have z2:wr.cell? ⟨g,of + j * 5 + 2,none⟩ = some (.int .u32 ↑x.b):=(HN.out.bel.cell (p:=⟨g,of + j * 5 + 2,none⟩) hg).trans (hcs 2 _ rfl)
   have z3:wr.cell? ⟨g,of + j * 5 + 3,none⟩ = some (.int .i64 x.c):=(HN.out.bel.cell (p:=⟨g,of + j * 5 + 3,none⟩) hg).trans (hcs 3 _ rfl)
   have z4:wr.cell? ⟨g,of + j * 5 + 4,none⟩ = some (.slice Al x.l.length cl):=(HN.out.bel.cell (p:=⟨g,of + j * 5 + 4,none⟩) hg).trans (hcs 4 _ rfl)
   clear hcs hg hx hwf
   obtain ⟨op,hop⟩:∃ op,x.op = op:=⟨_,rfl⟩
   obtain ⟨nl,hnl⟩:∃ nl,x.l.length = nl:=⟨_,rfl⟩
   rw [hop] at z0 hend
   rw [hnl] at z4 hxl
   have HOP:=J hop
   have HNLL:=J hnl
   have HXL:Hid (nl ≤ 4000000000):=J (by omega)
   clear hop hnl hxl
   generalize (x.a:Int) = xa at *
   generalize (x.b:Int) = xb at *
   generalize x.c = xc at *
   obtain ⟨ba,hba⟩:∃ ba,(b || Ru.noteB 0 (xs.take j)) = ba:=⟨_,rfl⟩
   rw [hba] at HN
   have HBA:=J hba
   clear hba
   have hZY:¬ wr.heap.size = C.Y:=fun e=>by have:=(gL HN.out.cy);omega
   have HZ0:=J (heap_alloc_new wr (.cells #[.int .u8 ↑op,.int .u32 xa,.int .u32 xb,.int .i64 xc,.slice Al nl cl] 56))
   have hn0:=HN.out.on ((Below.refl _ _).alloc (Nat.le_refl _) (.cells #[.int .u8 ↑op,.int .u32 xa,.int .u32 xb,.int .i64 xc,.slice Al nl cl] 56))
   have HNA:=J hn0
   clear hn0
   by_cases h2:op = 2
   ·clear hend
    have e2:((op:Int) == 2) = true:=by rw [beq_iff_eq];omega
    have HS1:Hid (Ru.nestS o x = o + 1):=J (by unfold Ru.nestS;rw [HOP.out,if_pos (by omega)])
    have HI1:Hid (Ru.noteI o x = decide (64 < o + 1)):=J (by unfold Ru.noteI;rw [HOP.out,decide_eq_true (show 2 ≤ op ∧ op ≤ 4 by omega),decide_eq_false (show ¬ op = 14 by omega)];simp)
    clear h2
    have hwo:IntKind.u64.wrap ((o:Int) + 1) = ((o + 1:Nat):Int):=by rw [IntWalk.u64_in _ (by omega)];rfl
    go_upto_region 4 with fail
    generalize wr.alloc (.cells #[.int .u8 ↑op,.int .u32 xa,.int .u32 xb,.int .i64 xc,.slice Al nl cl] 56) = wa at HZ0 HNA ⊢
    clear HN z0 z1 z2 z3 z4
    have HN:=HNA
    clear HNA
    obtain ⟨Z,hZ⟩:∃ Z,wr.heap.size = Z:=⟨_,rfl⟩
    rw [hZ] at HZ0 hZY
    simp only [hZ]
    clear hZ
    have HZ:=HZ0
    have HZY:=J hZY
    clear HZ0 hZY
    have p0:=cellV HZ.out 0 _ rfl
    have p4:=cellV HZ.out 4 _ rfl
    have q14:=cellV HN.out.cx 14 _ rfl
    go_wp2_with (go_at_call 47;refine (aq HC.out (o + 1) 64 HN.out).mono ?_;rintro e w2 ⟨rfl,hn2,hm2⟩;have HN2:=J hn2;clear HN hn2 hm2;have HN:=HN2;clear HN2)
    go_roundw
    case rel=>exact ⟨j + 1,o + 1,by omega,by go_num,rfl,J (by rw [Ru.open_step HX.out,← HO.out,HS1.out]),J (by rw [Ru.noteB_step HX.out,← HO.out,HI1.out,← Bool.or_assoc,HBA.out];exact HN.out)⟩
    case measure=>simp [intOf];omega
   by_cases h3:op = 3
   ·clear hend
    have e2:((op:Int) == 2) = false:=nB (by omega)
    have e3:((op:Int) == 3) = true:=by rw [beq_iff_eq];omega
    have HS1:Hid (Ru.nestS o x = o + 1):=J (by unfold Ru.nestS;rw [HOP.out,if_pos (by omega)])
    have HI1:Hid (Ru.noteI o x = decide (64 < o + 1)):=J (by unfold Ru.noteI;rw [HOP.out,decide_eq_true (show 2 ≤ op ∧ op ≤ 4 by omega),decide_eq_false (show ¬ op = 14 by omega)];simp)
    clear h2 h3
    have hwo:IntKind.u64.wrap ((o:Int) + 1) = ((o + 1:Nat):Int):=by rw [IntWalk.u64_in _ (by omega)];rfl
    go_upto_region 4 with fail
    generalize wr.alloc (.cells #[.int .u8 ↑op,.int .u32 xa,.int .u32 xb,.int .i64 xc,.slice Al nl cl] 56) = wa at HZ0 HNA ⊢
    clear HN z0 z1 z2 z3 z4
    have HN:=HNA
    clear HNA
    obtain ⟨Z,hZ⟩:∃ Z,wr.heap.size = Z:=⟨_,rfl⟩
    rw [hZ] at HZ0 hZY
    simp only [hZ]
    clear hZ
    have HZ:=HZ0
    have HZY:=J hZY
    clear HZ0 hZY
    have p0:=cellV HZ.out 0 _ rfl
    have p4:=cellV HZ.out 4 _ rfl
    have q14:=cellV HN.out.cx 14 _ rfl
    go_wp2_with (go_at_call 47;refine (aq HC.out (o + 1) 64 HN.out).mono ?_;rintro e w2 ⟨rfl,hn2,hm2⟩;have HN2:=J hn2;clear HN hn2 hm2;have HN:=HN2;clear HN2)
    go_roundw
    case rel=>exact ⟨j + 1,o + 1,by omega,by go_num,rfl,J (by rw [Ru.open_step HX.out,← HO.out,HS1.out]),J (by rw [Ru.noteB_step HX.out,← HO.out,HI1.out,← Bool.or_assoc,HBA.out];exact HN.out)⟩
    case measure=>simp [intOf];omega
   by_cases h4:op = 4
   ·clear hend
    have e2:((op:Int) == 2) = false:=nB (by omega)
    have e3:((op:Int) == 3) = false:=nB (by omega)
    have e4:((op:Int) == 4) = true:=by rw [beq_iff_eq];omega
    have HS1:Hid (Ru.nestS o x = o + 1):=J (by unfold Ru.nestS;rw [HOP.out,if_pos (by omega)])
    have HI1:Hid (Ru.noteI o x = decide (64 < o + 1)):=J (by unfold Ru.noteI;rw [HOP.out,decide_eq_true (show 2 ≤ op ∧ op ≤ 4 by omega),decide_eq_false (show ¬ op = 14 by omega)];simp)
    clear h2 h3 h4
    have hwo:IntKind.u64.wrap ((o:Int) + 1) = ((o + 1:Nat):Int):=by rw [IntWalk.u64_in _ (by omega)];rfl
    go_upto_region 4 with fail
    generalize wr.alloc (.cells #[.int .u8 ↑op,.int .u32 xa,.int .u32 xb,.int .i64 xc,.slice Al nl cl] 56) = wa at HZ0 HNA ⊢
    clear HN z0 z1 z2 z3 z4
    have HN:=HNA
    clear HNA
    obtain ⟨Z,hZ⟩:∃ Z,wr.heap.size = Z:=⟨_,rfl⟩
    rw [hZ] at HZ0 hZY
    simp only [hZ]
    clear hZ
    have HZ:=HZ0
    have HZY:=J hZY
    clear HZ0 hZY
    have p0:=cellV HZ.out 0 _ rfl
    have p4:=cellV HZ.out 4 _ rfl
    have q14:=cellV HN.out.cx 14 _ rfl
    go_wp2_with (go_at_call 47;refine (aq HC.out (o + 1) 64 HN.out).mono ?_;rintro e w2 ⟨rfl,hn2,hm2⟩;have HN2:=J hn2;clear HN hn2 hm2;have HN:=HN2;clear HN2)
    go_roundw
    case rel=>exact ⟨j + 1,o + 1,by omega,by go_num,rfl,J (by rw [Ru.open_step HX.out,← HO.out,HS1.out]),J (by rw [Ru.noteB_step HX.out,← HO.out,HI1.out,← Bool.or_assoc,HBA.out];exact HN.out)⟩
    case measure=>simp [intOf];omega
   have e2:((op:Int) == 2) = false:=nB (by omega)
   have e3:((op:Int) == 3) = false:=nB (by omega)
   have e4:((op:Int) == 4) = false:=nB (by omega)
   by_cases h11:op = 11
   ·have ho1:0 < o:=hend h11
    have e11:((op:Int) == 11) = true:=by rw [beq_iff_eq];omega
    have HS1:Hid (Ru.nestS o x = o - 1):=J (by unfold Ru.nestS;rw [HOP.out,if_neg (by omega),if_pos h11])
    have HI1:Hid (Ru.noteI o x = false):=J (by unfold Ru.noteI;rw [HOP.out,h11];rfl)
    have hwo:IntKind.u64.wrap ((o:Int) - 1) = ((o - 1:Nat):Int):=by rw [IntWalk.u64_in _ (by omega)];omega
    clear h2 h3 h4 h11 hend
    go_upto_region 4 with fail
    generalize wr.alloc (.cells #[.int .u8 ↑op,.int .u32 xa,.int .u32 xb,.int .i64 xc,.slice Al nl cl] 56) = wa at HZ0 HNA ⊢
    clear HN z0 z1 z2 z3 z4
    have HN:=HNA
    clear HNA
    obtain ⟨Z,hZ⟩:∃ Z,wr.heap.size = Z:=⟨_,rfl⟩
    rw [hZ] at HZ0 hZY
    simp only [hZ]
    clear hZ
    have HZ:=HZ0
    have HZY:=J hZY
    clear HZ0 hZY
    have p0:=cellV HZ.out 0 _ rfl
    have p4:=cellV HZ.out 4 _ rfl
    go_wp2_with fail
    go_roundw
    case rel=>exact ⟨j + 1,o - 1,by omega,by go_num,by rfl,J (by rw [Ru.open_step HX.out,← HO.out,HS1.out]),J (by rw [Ru.noteB_step HX.out,← HO.out,HI1.out,← Bool.or_assoc,HBA.out,Bool.or_false];exact HN.out)⟩
    case measure=>simp [intOf];omega
   have e11:((op:Int) == 11) = false:=nB (by omega)
   have HS1:Hid (Ru.nestS o x = o):=J (by unfold Ru.nestS;rw [HOP.out,if_neg (by omega),if_neg h11])
   by_cases h14:op = 14
   ·have e14:((op:Int) == 14) = true:=by rw [beq_iff_eq];omega
    have HI1:Hid (Ru.noteI o x = decide (256 < nl)):=J (by unfold Ru.noteI;rw [HOP.out,HNLL.out,h14];simp)
    clear h2 h3 h4 h11 h14 hend
    go_upto_region 4 with fail
    generalize wr.alloc (.cells #[.int .u8 ↑op,.int .u32 xa,.int .u32 xb,.int .i64 xc,.slice Al nl cl] 56) = wa at HZ0 HNA ⊢
    clear HN z0 z1 z2 z3 z4
    have HN:=HNA
    clear HNA
    obtain ⟨Z,hZ⟩:∃ Z,wr.heap.size = Z:=⟨_,rfl⟩
    rw [hZ] at HZ0 hZY
    simp only [hZ]
    clear hZ
    have HZ:=HZ0
    have HZY:=J hZY
    clear HZ0 hZY
    have p0:=cellV HZ.out 0 _ rfl
    have p4:=cellV HZ.out 4 _ rfl
    go_wp2_with fail
    have HN2:=J (HN.out.on (Below.drew (Below.refl _ _)))
    clear HN
    have HN:=HN2
    clear HN2
    refine wp_region_held_drew (S:=fun W'=>W'.heap[C.X]? = some (.cells #[C.v1,C.v2,C.v3,C.v4,C.v5,C.v6,C.v7,.bool C.m.hasStart,.int .u32 ↑C.m.start,C.v8,C.v9,C.v10,.pointer (some ⟨C.sp,0,none⟩),C.hv,.func (.func 47) #[] #[.pointer (some ⟨C.Y,0,none⟩)]] 122 (0,0)) ∧ W'.heap[Z]? = some (.cells #[.int .u8 ↑op,.int .u32 xa,.int .u32 xb,.int .i64 xc,.slice Al nl cl] 56 (0,0))) (by kernel_rfl) (⟨HN.out.cx,HZ.out⟩) (fun hHeld=>?_)
    refine dV 0 rfl (by intro wy hSw;obtain ⟨hs1,hs2⟩:=hSw;have qf:=cellV hs1 14 _ rfl;have qz:=cellV hs2 4 _ rfl;go_simp;try with_reducible rfl) ?_
    refine dV 1 rfl (by intro wy hSw;obtain ⟨hs1,hs2⟩:=hSw;have qf:=cellV hs1 14 _ rfl;have qz:=cellV hs2 4 _ rfl;go_simp;try with_reducible rfl) ?_
    refine dV 2 rfl (by intro wy hSw;obtain ⟨hs1,hs2⟩:=hSw;have qf:=cellV hs1 14 _ rfl;have qz:=cellV hs2 4 _ rfl;go_simp;try with_reducible rfl) ?_
    refine dV 3 rfl (by intro wy hSw;obtain ⟨hs1,hs2⟩:=hSw;have qf:=cellV hs1 14 _ rfl;have qz:=cellV hs2 4 _ rfl;go_simp;try with_reducible rfl) ?_
    refine dV 4 rfl (by intro wy hSw;obtain ⟨hs1,hs2⟩:=hSw;have qf:=cellV hs1 14 _ rfl;have qz:=cellV hs2 4 _ rfl;go_simp;try with_reducible rfl) ?_
    refine dV 5 rfl (by intro wy hSw;obtain ⟨hs1,hs2⟩:=hSw;have qf:=cellV hs1 14 _ rfl;have qz:=cellV hs2 4 _ rfl;go_simp;try with_reducible rfl) ?_
    refine dA 6 rfl fun K hK=>?_
    go_simp
    go_at_call 72
    refine (rcntL_any _ _ _ HXL.out _).mono ?_
    rintro e w1 ⟨rfl,rfl⟩
    refine hK.out _ _ (hHeld) fun hHeld=>?_
    clear hK K
    refine dA 7 rfl fun K hK=>?_
    go_simp
    go_at_call 47
    refine (aq HC.out nl 256 HN.out).mono ?_
    rintro e w2 ⟨rfl,hn2,hm2⟩
    have HN2:=J hn2
    have HZ2:=J (hm2.heap HZ.out HZY.out)
    clear HN hn2 hm2
    have HN:=HN2
    clear HN2
    clear HZ
    have HZ:=HZ2
    clear HZ2
    refine hK.out _ _ (⟨HN.out.cx,HZ.out⟩) fun hHeld=>?_
    clear hK K
    refine dN ?_
    go_wp2_with fail
    go_roundw
    case rel=>exact ⟨j + 1,o,by omega,by go_num,by rfl,J (by rw [Ru.open_step HX.out,← HO.out,HS1.out]),J (by rw [Ru.noteB_step HX.out,← HO.out,HI1.out,← Bool.or_assoc,HBA.out] ;exact HN.out)⟩
    case measure=>simp [intOf];omega
   have e14:((op:Int) == 14) = false:=nB (by omega)
   have HI1:Hid (Ru.noteI o x = false):=J (by unfold Ru.noteI;rw [HOP.out,decide_eq_false h14,decide_eq_false (show ¬ (2 ≤ op ∧ op ≤ 4) by omega)];rfl)
   clear h2 h3 h4 h11 h14 hend
   go_upto_region 4 with fail
   generalize wr.alloc (.cells #[.int .u8 ↑op,.int .u32 xa,.int .u32 xb,.int .i64 xc,.slice Al nl cl] 56) = wa at HZ0 HNA ⊢
   clear HN z0 z1 z2 z3 z4
   have HN:=HNA
   clear HNA
   obtain ⟨Z,hZ⟩:∃ Z,wr.heap.size = Z:=⟨_,rfl⟩
   rw [hZ] at HZ0 hZY
   simp only [hZ]
   clear hZ
   have HZ:=HZ0
   have HZY:=J hZY
   clear HZ0 hZY
   have p0:=cellV HZ.out 0 _ rfl
   have p4:=cellV HZ.out 4 _ rfl
   go_wp2_with fail
   go_roundw
   case rel=>exact ⟨j + 1,o,by omega,by go_num,by rfl,J (by rw [Ru.open_step HX.out,← HO.out,HS1.out]),J (by rw [Ru.noteB_step HX.out,← HO.out,HI1.out,← Bool.or_assoc,HBA.out,Bool.or_false];exact HN.out)⟩
   case measure=>simp [intOf];omega
  ·have hlti:decide ((j:Int) < (n:Int)) = false:=decide_eq_false (by omega)
   have HN1:Hid (Nt C W0 wr (b || Ru.noteB 0 xs)):=J (by have h1:=HN.out;rw [List.take_of_length_le (by rw [HNL.out];omega)] at h1;exact h1)
   clear HN
   go_wp2_with fail
   go_end0
   exact ⟨rfl,HN1.out⟩
end
def tabN (l:Lim):Bool:=decide (1024 < l.min)
def memN (l:Lim):Bool:=decide (16 < l.min)
section
variable {C:RC} {W0 W W':World} {b:Bool}
theorem rlimits_any (hC:C.Good) (h:Nt C W0 W b) :
  Calls Tryz.prog 50 #[.pointer (some ⟨C.X,0,none⟩)] W fun e W'=>e = .returned (.tuple #[]) ∧ Nt C W0 W' ((b || (tabs C.m).any tabN) || (mems C.m).any memN):=by
 have HN:=J h
 have HC:=J hC
 have HS6:=J (Lots.some hC.fit.1.lots)
 clear h hC
 go_enter Tryz.func50,Tryz.ntmps50
 have q12:W.cell? ⟨C.X,12,none⟩ = _:=cellV HN.out.cx 12 _ rfl
 obtain ⟨n1,hn1⟩:∃ n,count C.m 1 = n:=⟨_,rfl⟩
 have HCN1:=J hn1
 have hlb1:n1 ≤ 4000000:=by rw [← hn1,← bk];exact HS6.out.tabs
 clear hn1
 go_upto_region 1 with (go_at_call 29;refine (bc _ C.m 1 (by decide) _ (HN.out.recv HC.out) HS6.out).mono ?_;rintro e w1 ⟨rfl,hb1⟩;have HN2:=J (HN.out.on hb1);clear HN hb1;have HN:=HN2;clear HN2;rw [HCN1.out])
 clear q12
 go_loopw [13] (fun i wr=>∃ j:Nat,j ≤ n1 ∧ i = .int .i64 ↑j ∧ Hid (Nt C W0 wr (b || ((tabs C.m).take j).any tabN))) (fun i _=>n1 - (intOf i).toNat)
 case atStart=>exact ⟨0,Nat.zero_le _,rfl,J (by rw [List.take_zero,List.any_nil,Bool.or_false];exact HN.out)⟩
 case round =>
  clear HN
  obtain ⟨j,hj,rfl,HN⟩:=hrel
  by_cases hlt:j < n1
  ·have hlti:(j:Int) < (n1:Int):=by omega
   have hwj:IntKind.u32.wrap (j:Int) = (j:Int):=IntWalk.u32_in _ (by omega)
   obtain ⟨x,hx⟩:∃ x,(tabs C.m)[j]? = some x:=⟨_,List.getElem?_eq_getElem (by rw [bk,HCN1.out];exact hlt)⟩
   have HNX:Hid (((tabs C.m).take (j + 1)).any tabN = (((tabs C.m).take j).any tabN || tabN x)):=J (bB hx)
   have hmn:x.min < 4294967296:=(rep_tabs HC.out.rep x (List.mem_of_getElem? hx)).1
   have HT:=J (fun (W':World) (b':Bool) (hq:Nt C W0 W' b')=>cY (some ⟨C.sp,0,none⟩) C.m j W' (hq.recv HC.out) HS6.out (by omega))
   rw [hx] at HT
   have HT2:Hid (∀ (W':World) (b':Bool),Nt C W0 W' b' → Calls Tryz.prog 61 #[.pointer (some ⟨C.sp,0,none⟩),.int .u32 ↑j] W' fun e w'=>e = .returned (.tuple #[.agg #[.int .u32 ↑x.min,.int .i64 x.max],.bool true]) ∧ Below W'.heap.size W' w'):=J HT.out
   have HP:Hid (tabN x = decide (1024 < x.min)):=J rfl
   have hwm:IntKind.u64.wrap (x.min:Int) = (x.min:Int):=IntWalk.u64_in _ (by omega)
   clear hx HT
   generalize x.max = mx at *
   obtain ⟨mn,hmm⟩:∃ mn,x.min = mn:=⟨_,rfl⟩
   rw [hmm] at HT2 HP hwm hmn
   clear hmm
   obtain ⟨ba,hba⟩:∃ ba,(b || ((tabs C.m).take j).any tabN) = ba:=⟨_,rfl⟩
   rw [hba] at HN
   have HBA:=J hba
   clear hba
   have q12:wr.cell? ⟨C.X,12,none⟩ = _:=cellV HN.out.cx 12 _ rfl
   go_upto_region 4 with (go_at_call 61;refine (HT2.out _ _ HN.out).mono ?_;rintro e w1 ⟨rfl,hb1⟩;have HN2:=J (HN.out.on hb1);clear HN hb1;have HN:=HN2;clear HN2)
   clear q12 HT2
   have hZY:¬ w1.heap.size = C.Y:=fun e=>by have:=(gL HN.out.cy);omega
   have HZ0:=J (heap_alloc_new w1 (.cells #[.int .u32 ↑mn,.int .i64 mx] 66))
   have hn0:=HN.out.on ((Below.refl _ _).alloc (Nat.le_refl _) (.cells #[.int .u32 ↑mn,.int .i64 mx] 66))
   have HNA:=J hn0
   clear hn0
   generalize w1.alloc (.cells #[.int .u32 ↑mn,.int .i64 mx] 66) = wa at HZ0 HNA ⊢
   clear HN
   have HN:=HNA
   clear HNA
   obtain ⟨Z,hZ⟩:∃ Z,w1.heap.size = Z:=⟨_,rfl⟩
   rw [hZ] at HZ0 hZY
   simp only [hZ]
   clear hZ
   have HZ:=HZ0
   have HZY:=J hZY
   clear HZ0 hZY
   have HN2:=J (HN.out.on (Below.drew (Below.refl _ _)))
   clear HN
   have HN:=HN2
   clear HN2
   refine wp_region_held_drew (S:=fun W'=>W'.heap[C.X]? = some (.cells #[C.v1,C.v2,C.v3,C.v4,C.v5,C.v6,C.v7,.bool C.m.hasStart,.int .u32 ↑C.m.start,C.v8,C.v9,C.v10,.pointer (some ⟨C.sp,0,none⟩),C.hv,.func (.func 47) #[] #[.pointer (some ⟨C.Y,0,none⟩)]] 122 (0,0)) ∧ W'.heap[Z]? = some (.cells #[.int .u32 ↑mn,.int .i64 mx] 66 (0,0))) (by kernel_rfl) (⟨HN.out.cx,HZ.out⟩) (fun hHeld=>?_)
   refine dd1 0 rfl ?_
   refine dd1 1 rfl ?_
   refine dd1 2 rfl ?_
   refine dd1 3 rfl ?_
   refine dd1 4 rfl ?_
   refine dd1 5 rfl ?_
   refine dd1 6 rfl ?_
   refine dA 7 rfl fun K hK=>?_
   go_simp
   go_at_call 47
   refine (aq HC.out mn 1024 HN.out).mono ?_
   rintro e w2 ⟨rfl,hn2,hm2⟩
   have HN2:=J hn2
   have HZ2:=J (hm2.heap HZ.out HZY.out)
   clear HN hn2 hm2
   have HN:=HN2
   clear HN2
   clear HZ
   have HZ:=HZ2
   clear HZ2
   refine hK.out _ _ (⟨HN.out.cx,HZ.out⟩) fun hHeld=>?_
   clear hK K
   refine dN ?_
   go_wp2_with fail
   go_roundw
   case rel=>exact ⟨j + 1,by omega,by go_num,J (by rw [HNX.out,← Bool.or_assoc,HBA.out,HP.out];exact HN.out)⟩
   case measure=>simp [intOf];omega
  ·have hlti:decide ((j:Int) < (n1:Int)) = false:=decide_eq_false (by omega)
   have HN1:Hid (Nt C W0 wr (b || (tabs C.m).any tabN)):=J (by have h1:=HN.out;rw [List.take_of_length_le (by rw [bk,HCN1.out];omega)] at h1;exact h1)
   clear HN
   have HN:=HN1
   clear HN1
   obtain ⟨b1,hb1⟩:∃ q,(b || (tabs C.m).any tabN) = q:=⟨_,rfl⟩
   rw [hb1] at HN
   have HB1:=J hb1
   clear hb1
   have q12:wr.cell? ⟨C.X,12,none⟩ = _:=cellV HN.out.cx 12 _ rfl
   obtain ⟨n2,hn2⟩:∃ n,count C.m 2 = n:=⟨_,rfl⟩
   have HCN2:=J hn2
   have hlb2:n2 ≤ 4000000:=by rw [← hn2,← bj];exact HS6.out.mems
   clear hn2
   go_upto_region 7 with (go_at_call 29;refine (bc _ C.m 2 (by decide) _ (HN.out.recv HC.out) HS6.out).mono ?_;rintro e w1 ⟨rfl,hb1⟩;have HN2:=J (HN.out.on hb1);clear HN hb1;have HN:=HN2;clear HN2;rw [HCN2.out])
   clear q12
   go_loopw [40] (fun i wr=>∃ j:Nat,j ≤ n2 ∧ i = .int .i64 ↑j ∧ Hid (Nt C W0 wr (b1 || ((mems C.m).take j).any memN))) (fun i _=>n2 - (intOf i).toNat)
   case atStart=>exact ⟨0,Nat.zero_le _,rfl,J (by rw [List.take_zero,List.any_nil,Bool.or_false];exact HN.out)⟩
   case round =>
    clear HN
    obtain ⟨j,hj,rfl,HN⟩:=hrel
    by_cases hlt:j < n2
    ·have hlti:(j:Int) < (n2:Int):=by omega
     have hwj:IntKind.u32.wrap (j:Int) = (j:Int):=IntWalk.u32_in _ (by omega)
     obtain ⟨x,hx⟩:∃ x,(mems C.m)[j]? = some x:=⟨_,List.getElem?_eq_getElem (by rw [bj,HCN2.out];exact hlt)⟩
     have HNX:Hid (((mems C.m).take (j + 1)).any memN = (((mems C.m).take j).any memN || memN x)):=J (bB hx)
     have hmn:x.min < 4294967296:=(rep_mems HC.out.rep x (List.mem_of_getElem? hx)).1
     have HT:=J (fun (W':World) (b':Bool) (hq:Nt C W0 W' b')=>dw (some ⟨C.sp,0,none⟩) C.m j W' (hq.recv HC.out) HS6.out (by omega))
     rw [hx] at HT
     have HT2:Hid (∀ (W':World) (b':Bool),Nt C W0 W' b' → Calls Tryz.prog 63 #[.pointer (some ⟨C.sp,0,none⟩),.int .u32 ↑j] W' fun e w'=>e = .returned (.tuple #[.agg #[.int .u32 ↑x.min,.int .i64 x.max],.bool true]) ∧ Below W'.heap.size W' w'):=J HT.out
     have HP:Hid (memN x = decide (16 < x.min)):=J rfl
     have hwm:IntKind.u64.wrap (x.min:Int) = (x.min:Int):=IntWalk.u64_in _ (by omega)
     clear hx HT
     generalize x.max = mx at *
     obtain ⟨mn,hmm⟩:∃ mn,x.min = mn:=⟨_,rfl⟩
     rw [hmm] at HT2 HP hwm hmn
     clear hmm
     obtain ⟨ba,hba⟩:∃ ba,(b1 || ((mems C.m).take j).any memN) = ba:=⟨_,rfl⟩
     rw [hba] at HN
     have HBA:=J hba
     clear hba
     have q12:wr.cell? ⟨C.X,12,none⟩ = _:=cellV HN.out.cx 12 _ rfl
     go_upto_region 10 with (go_at_call 63;refine (HT2.out _ _ HN.out).mono ?_;rintro e w1 ⟨rfl,hb1⟩;have HN2:=J (HN.out.on hb1);clear HN hb1;have HN:=HN2;clear HN2)
     clear q12 HT2
     have hZY:¬ w1.heap.size = C.Y:=fun e=>by have:=(gL HN.out.cy);omega
     have HZ0:=J (heap_alloc_new w1 (.cells #[.int .u32 ↑mn,.int .i64 mx] 66))
     have hn0:=HN.out.on ((Below.refl _ _).alloc (Nat.le_refl _) (.cells #[.int .u32 ↑mn,.int .i64 mx] 66))
     have HNA:=J hn0
     clear hn0
     generalize w1.alloc (.cells #[.int .u32 ↑mn,.int .i64 mx] 66) = wa at HZ0 HNA ⊢
     clear HN
     have HN:=HNA
     clear HNA
     obtain ⟨Z,hZ⟩:∃ Z,w1.heap.size = Z:=⟨_,rfl⟩
     rw [hZ] at HZ0 hZY
     simp only [hZ]
     clear hZ
     have HZ:=HZ0
     have HZY:=J hZY
     clear HZ0 hZY
     have HN2:=J (HN.out.on (Below.drew (Below.refl _ _)))
     clear HN
     have HN:=HN2
     clear HN2
     refine wp_region_held_drew (S:=fun W'=>W'.heap[C.X]? = some (.cells #[C.v1,C.v2,C.v3,C.v4,C.v5,C.v6,C.v7,.bool C.m.hasStart,.int .u32 ↑C.m.start,C.v8,C.v9,C.v10,.pointer (some ⟨C.sp,0,none⟩),C.hv,.func (.func 47) #[] #[.pointer (some ⟨C.Y,0,none⟩)]] 122 (0,0)) ∧ W'.heap[Z]? = some (.cells #[.int .u32 ↑mn,.int .i64 mx] 66 (0,0))) (by kernel_rfl) (⟨HN.out.cx,HZ.out⟩) (fun hHeld=>?_)
     refine dd1 0 rfl ?_
     refine dd1 1 rfl ?_
     refine dd1 2 rfl ?_
     refine dd1 3 rfl ?_
     refine dd1 4 rfl ?_
     refine dd1 5 rfl ?_
     refine dd1 6 rfl ?_
     refine dA 7 rfl fun K hK=>?_
     go_simp
     go_at_call 47
     refine (aq HC.out mn 16 HN.out).mono ?_
     rintro e w2 ⟨rfl,hn2,hm2⟩
     have HN2:=J hn2
     have HZ2:=J (hm2.heap HZ.out HZY.out)
     clear HN hn2 hm2
     have HN:=HN2
     clear HN2
     clear HZ
     have HZ:=HZ2
     clear HZ2
     refine hK.out _ _ (⟨HN.out.cx,HZ.out⟩) fun hHeld=>?_
     clear hK K
     refine dN ?_
     go_wp2_with fail
     go_roundw
     case rel=>exact ⟨j + 1,by omega,by go_num,J (by rw [HNX.out,← Bool.or_assoc,HBA.out,HP.out];exact HN.out)⟩
     case measure=>simp [intOf];omega
    ·have hlti:decide ((j:Int) < (n2:Int)) = false:=decide_eq_false (by omega)
     have HN1:Hid (Nt C W0 wr (b1 || (mems C.m).any memN)):=J (by have h1:=HN.out;rw [List.take_of_length_le (by rw [bj,HCN2.out];omega)] at h1;exact h1)
     clear HN
     have HN:=HN1
     clear HN1
     go_wp2_with fail
     go_end0
     exact ⟨rfl,by rw [HB1.out];exact HN.out⟩
end
end Go.Proofs.YtmpelmihdpomjaaGreat
namespace Va
open Bin Sp Ins
def kindB {α:Type} (f:α → UInt8) (xs:List α):Bool:=xs.all fun x=>decide ((f x).toNat < 4)
theorem kindB_take {α:Type} {f:α → UInt8} {xs:List α} {j:Nat} {x:α} (h:xs[j]? = some x):kindB f (xs.take (j + 1)) = (kindB f (xs.take j) && decide ((f x).toNat < 4)):=by
 unfold kindB
 rw [List.take_add_one,h,List.all_append]
 simp
end Va
namespace Go.Proofs.YtmpelmihdpomjaaGreat
open Go.RowKit Ins Bin Sp
section
variable {w:World} {P sp mp:Nat} {m:M} {v1 v2 v3 v4 v5 v6 v7 v8 v9 v10 hv:Value}
theorem sl_has {α:Type} [Lay α] {w:World} {S:Nat → Prop} {xs:List α} {A:Option Addr} {n c:Nat} (h:aa w S xs (.slice A n c)):HasL w S A xs:=by
 obtain ⟨A',c',e,_,_,_,h⟩:=h
 injection e with e1 _ _
 rw [e1]
 exact h
theorem aN {w:World} {X:Nat} {a b c:Value} {t:TypeId} (h:w.heap[X]? = some (.cells #[a,b,c] t (0,0))):w.cell? ⟨X,0,none⟩ = some a ∧ w.cell? ⟨X,1,none⟩ = some b ∧ w.cell? ⟨X,2,none⟩ = some c :=
 ⟨cell15 h 0 _ rfl,cell15 h 1 _ rfl,cell15 h 2 _ rfl⟩
theorem vshape_any (h:VIn w P sp mp m v1 v2 v3 v4 v5 v6 v7 v8 v9 v10 hv) (i:Nat)  :
  Calls Tryz.prog 24 #[.pointer (some ⟨P,0,none⟩),.int .i64 ↑i] w fun e w'=>e = .returned (.int .i64 ((Va.shapeE m:Nat):Int)) ∧ Below w.heap.size w w':=by
 have h1:=h.fit.lots.imports
 have h2:=h.fit.lots.exports
 have h3:=h.fit.lots.funcs
 have h4:=h.fit.codes.1
 have H6:Hid (∀ W,Below w.heap.size w W → W.cell? ⟨P,6,none⟩ = some v7):=J (fun W hb=>cell15 (h.grow hb).cells 6 _ rfl)
 obtain ⟨A1,c1,rfl,_,_,_,hL1⟩:=h.rep.imports
 obtain ⟨A2,c2,rfl,_,_,_,hL2⟩:=h.rep.exports
 obtain ⟨A3,c3,rfl,_⟩:=h.rep.funcs
 obtain ⟨A4,c4,rfl,_⟩:=h.rep.codes
 have HL1:=J hL1
 have HL2:=J hL2
 have x1:=cell15 h.cells 1 _ rfl
 have x2:=cell15 h.cells 2 _ rfl
 have x10:=cell15 h.cells 10 _ rfl
 have HT:Hid (Va.shapeE m = Va.okE ((m.codes.length == m.funcs.length && Va.kindB Imp.kind m.imports) && Va.kindB Exp.kind m.exports) 2):=J rfl
 clear h hL1 hL2
 obtain ⟨n1,e1⟩:∃ n,m.imports.length = n:=⟨_,rfl⟩
 obtain ⟨n2,e2⟩:∃ n,m.exports.length = n:=⟨_,rfl⟩
 obtain ⟨n3,e3⟩:∃ n,m.funcs.length = n:=⟨_,rfl⟩
 obtain ⟨n4,e4⟩:∃ n,m.codes.length = n:=⟨_,rfl⟩
 have HN1:=J e1
 have HN2:=J e2
 rw [e1] at x1 h1
 rw [e2] at H6 h2
 rw [e3] at x2 h3 HT
 rw [e4] at x10 h4 HT
 clear e1 e2 e3 e4
 have HB0:Hid (Below w.heap.size w w.drew):=J (Below.drew (Below.refl _ _))
 obtain ⟨b0,hb0⟩:∃ b,(n4 == n3) = b:=⟨_,rfl⟩
 have hbi:((n4:Int) == (n3:Int)) = b0:=by
  rw [← hb0,Bool.eq_iff_iff,beq_iff_eq,beq_iff_eq]
  omega
 rw [hb0] at HT
 clear hb0
 go_enter Tryz.func24,Tryz.ntmps24
 go_upto_region 1 with fail
 refine wp_region_held_drew (S:=fun W'=>w.drew = W') (by kernel_rfl) (rfl) (fun hHeld=>?_)
 refine df1 0 rfl ?_
 refine df1 1 rfl ?_
 refine df1 2 rfl ?_
 refine df1 3 rfl ?_
 refine df1 4 rfl ?_
 refine df1 5 rfl ?_
 refine df1 6 rfl ?_
 refine df1 7 rfl ?_
 refine df1 8 rfl ?_
 refine df1 9 rfl ?_
 refine df1 10 rfl ?_
 refine df1 11 rfl ?_
 refine df1 12 rfl ?_
 refine df1 13 rfl ?_
 refine dN ?_
 go_wp2_with fail
 go_loopw [5,29] (fun okv iv wr=>∃ j:Nat,j ≤ n1 ∧ iv = .int .i64 ↑j ∧ okv = .bool (b0 && Va.kindB Imp.kind (m.imports.take j)) ∧ Hid (Below w.heap.size w wr)) (fun _ iv _=>n1 - (intOf iv).toNat)
 case atStart=>exact ⟨0,Nat.zero_le _,rfl,by congr 1;simp [Va.kindB],HB0⟩
 case round =>
  obtain ⟨j,hj,rfl,rfl,HBW⟩:=hrel
  by_cases hjn:j < n1
  ·obtain ⟨x,hx⟩:∃ x,m.imports[j]? = some x:=⟨_,List.getElem?_eq_getElem (by have:=HN1.out;omega)⟩
   have hji:(j:Int) < (n1:Int):=by omega
   have HST:=J (Va.kindB_take (f:=Imp.kind) hx)
   obtain ⟨g,o,rfl,hg,_,_,_,hcs⟩:=dH HL1.out hx
   have HCC:=J (fun (z:Nat) (u:Value) (h:(impCells x)[z]? = some u)=>(HBW.out.cell (p:=⟨g,o + j * 8 + z,none⟩) hg).trans (hcs z u h))
   have k0:wr.cell? ⟨g,o + j * 8,none⟩ = some (strV x.mod):=HCC.out 0 _ rfl
   have k1:wr.cell? ⟨g,o + j * 8 + 1,none⟩ = some (strV x.name):=HCC.out 1 _ rfl
   have k2:wr.cell? ⟨g,o + j * 8 + 2,none⟩ = some (.int .u8 ↑x.kind.toNat):=HCC.out 2 _ rfl
   have k3:wr.cell? ⟨g,o + j * 8 + 3,none⟩ = some (.int .u32 ↑x.type):=HCC.out 3 _ rfl
   have k4:wr.cell? ⟨g,o + j * 8 + 4,none⟩ = some (.int .u32 ↑x.lim.min):=HCC.out 4 _ rfl
   have k5:wr.cell? ⟨g,o + j * 8 + 5,none⟩ = some (.int .i64 x.lim.max):=HCC.out 5 _ rfl
   have k6:wr.cell? ⟨g,o + j * 8 + 6,none⟩ = some (.int .u8 ↑x.glob.t.toNat):=HCC.out 6 _ rfl
   have k7:wr.cell? ⟨g,o + j * 8 + 7,none⟩ = some (.bool x.glob.mu):=HCC.out 7 _ rfl
   clear HCC hcs
   unfold strV at k0 k1
   clear hx
   obtain ⟨kb,hkb⟩:∃ b,(b0 && Va.kindB Imp.kind (m.imports.take j)) = b:=⟨_,rfl⟩
   have HKB:=J hkb
   simp only [hkb]
   clear hkb
   generalize hkd:x.kind.toNat = kd at k2
   have HKD:=J hkd
   clear hkd
   have HB2:=J (HBW.out.alloc HBW.out.size (.cells #[.string ⟨x.mod.toArray⟩,.string ⟨x.name.toArray⟩,.int .u8 ↑kd,.int .u32 ↑x.type,.int .u32 ↑x.lim.min,.int .i64 x.lim.max,.int .u8 ↑x.glob.t.toNat,.bool x.glob.mu] 75))
   by_cases hk:kd ≤ 3
   ·have hki:(kd:Int) ≤ 3:=by omega
    have hkb2:decide ((kd:Int) ≤ 3) = true:=decide_eq_true hki
    have HNX:Hid ((b0 && Va.kindB Imp.kind (m.imports.take (j + 1))) = kb):=J (by rw [HST.out,← Bool.and_assoc,HKB.out,HKD.out,decide_eq_true (by omega),Bool.and_true])
    cases kb with
    | true =>
     go_wp2_with fail
     go_roundw
     case rel=>exact ⟨j + 1,by omega,by go_num,by rw [HNX.out],HB2⟩
     case measure=>simp [intOf];omega
    | false =>
     go_wp2_with fail
     go_roundw
     case rel=>exact ⟨j + 1,by omega,by go_num,by rw [HNX.out],HB2⟩
     case measure=>simp [intOf];omega
   ·have hki:decide ((kd:Int) ≤ 3) = false:=decide_eq_false (by omega)
    have HNX:Hid ((b0 && Va.kindB Imp.kind (m.imports.take (j + 1))) = false):=J (by rw [HST.out,← Bool.and_assoc,HKB.out,HKD.out,decide_eq_false (by omega),Bool.and_false])
    cases kb with
    | true =>
     go_wp2_with fail
     go_roundw
     case rel=>exact ⟨j + 1,by omega,by go_num,by rw [HNX.out],HB2⟩
     case measure=>simp [intOf];omega
    | false =>
     go_wp2_with fail
     go_roundw
     case rel=>exact ⟨j + 1,by omega,by go_num,by rw [HNX.out],HB2⟩
     case measure=>simp [intOf];omega
  ·have hji:decide ((j:Int) < (n1:Int)) = false:=decide_eq_false (by omega)
   have hjn2:decide (j < n1) = false:=decide_eq_false hjn
   have HAL:Hid (m.imports.take j = m.imports):=J (List.take_of_length_le (by have:=HN1.out;omega))
   rw [HAL.out]
   have HT1:Hid (Va.shapeE m = Va.okE ((b0 && Va.kindB Imp.kind m.imports) && Va.kindB Exp.kind m.exports) 2):=HT
   have HBX:=HBW
   have x6:=H6.out _ HBW.out
   generalize (b0 && Va.kindB Imp.kind m.imports) = b1 at HT1
   clear HAL HT
   go_wp2_with fail
   have HB1:=HBX
   clear HBX HBW x6 hji hjn2 hjn hj
   go_loopw [5,46] (fun okv iv wr=>∃ j:Nat,j ≤ n2 ∧ iv = .int .i64 ↑j ∧ okv = .bool (b1 && Va.kindB Exp.kind (m.exports.take j)) ∧ Hid (Below w.heap.size w wr)) (fun _ iv _=>n2 - (intOf iv).toNat)
   case atStart=>exact ⟨0,Nat.zero_le _,rfl,by congr 1;simp [Va.kindB],HB1⟩
   case round =>
    obtain ⟨j,hj,rfl,rfl,HBW⟩:=hrel
    by_cases hjn:j < n2
    ·obtain ⟨x,hx⟩:∃ x,m.exports[j]? = some x:=⟨_,List.getElem?_eq_getElem (by have:=HN2.out;omega)⟩
     have hji:(j:Int) < (n2:Int):=by omega
     have HST:=J (Va.kindB_take (f:=Exp.kind) hx)
     obtain ⟨g,o,cs,rfl,_,hg,⟨rfl,_⟩,hcs⟩:=HL2.out j x hx
     have HCC:=J (fun (z:Nat) (u:Value) (h:([strV x.name,.int .u8 ↑x.kind.toNat,.int .u32 ↑x.index]:List Value)[z]? = some u)=>(HBW.out.cell (p:=⟨g,o + j * 3 + z,none⟩) hg).trans (hcs z u h))
     have k0:wr.cell? ⟨g,o + j * 3,none⟩ = some (strV x.name):=HCC.out 0 _ rfl
     have k1:wr.cell? ⟨g,o + j * 3 + 1,none⟩ = some (.int .u8 ↑x.kind.toNat):=HCC.out 1 _ rfl
     have k2:wr.cell? ⟨g,o + j * 3 + 2,none⟩ = some (.int .u32 ↑x.index):=HCC.out 2 _ rfl
     clear HCC hcs
     unfold strV at k0
     clear hx
     obtain ⟨kb,hkb⟩:∃ b,(b1 && Va.kindB Exp.kind (m.exports.take j)) = b:=⟨_,rfl⟩
     have HKB:=J hkb
     simp only [hkb]
     clear hkb
     generalize hkd:x.kind.toNat = kd at k1
     have HKD:=J hkd
     clear hkd
     have HB2:=J (HBW.out.alloc HBW.out.size (.cells #[.string ⟨x.name.toArray⟩,.int .u8 ↑kd,.int .u32 ↑x.index] 52))
     by_cases hk:kd ≤ 3
     ·have hki:(kd:Int) ≤ 3:=by omega
      have hkb2:decide ((kd:Int) ≤ 3) = true:=decide_eq_true hki
      have HNX:Hid ((b1 && Va.kindB Exp.kind (m.exports.take (j + 1))) = kb):=J (by rw [HST.out,← Bool.and_assoc,HKB.out,HKD.out,decide_eq_true (by omega),Bool.and_true])
      cases kb with
      | true =>
       go_wp2_with fail
       go_roundw
       case rel=>exact ⟨j + 1,by omega,by go_num,by rw [HNX.out],HB2⟩
       case measure=>simp [intOf];omega
      | false =>
       go_wp2_with fail
       go_roundw
       case rel=>exact ⟨j + 1,by omega,by go_num,by rw [HNX.out],HB2⟩
       case measure=>simp [intOf];omega
     ·have hki:decide ((kd:Int) ≤ 3) = false:=decide_eq_false (by omega)
      have HNX:Hid ((b1 && Va.kindB Exp.kind (m.exports.take (j + 1))) = false):=J (by rw [HST.out,← Bool.and_assoc,HKB.out,HKD.out,decide_eq_false (by omega),Bool.and_false])
      cases kb with
      | true =>
       go_wp2_with fail
       go_roundw
       case rel=>exact ⟨j + 1,by omega,by go_num,by rw [HNX.out],HB2⟩
       case measure=>simp [intOf];omega
      | false =>
       go_wp2_with fail
       go_roundw
       case rel=>exact ⟨j + 1,by omega,by go_num,by rw [HNX.out],HB2⟩
       case measure=>simp [intOf];omega
    ·have hji:decide ((j:Int) < (n2:Int)) = false:=decide_eq_false (by omega)
     have hjn2:decide (j < n2) = false:=decide_eq_false hjn
     have HAL:Hid (m.exports.take j = m.exports):=J (List.take_of_length_le (by have:=HN2.out;omega))
     rw [HAL.out]
     have HTT:Hid (Va.shapeE m = Va.okE (b1 && Va.kindB Exp.kind m.exports) 2):=HT1
     go_wp2_with (go_at_call 56;refine (al _ 2 2 _ rfl).mono ?_;rintro e w2 ⟨rfl,rfl⟩)
     go_ret
     rw [HTT.out]
     exact ⟨rfl,HBW.out⟩
theorem vglobal_any (h:VIn w P sp mp m v1 v2 v3 v4 v5 v6 v7 v8 v9 v10 hv) (i:Nat) (x:GV) (hx:m.globals[i]? = some x) :
  Calls Tryz.prog 32 #[.pointer (some ⟨P,0,none⟩),.int .i64 ↑i] w fun e w'=>e = .returned (.int .i64 ((Va.globE m x:Nat):Int)) ∧ Below w.heap.size w w':=by
 have hl:=h.fit.lots.globals
 have hi:=(List.getElem?_eq_some_iff.1 hx).1
 obtain ⟨A,c,rfl,hc,_,_,hL⟩:=h.rep.globals
 have x5:=cell15 h.cells 5 _ rfl
 obtain ⟨g,o,cs,rfl,_,hg,⟨u,rfl,hu⟩,hcs⟩:=hL i x hx
 obtain ⟨tn,htn⟩:∃ n,x.type.t.toNat = n:=⟨_,rfl⟩
 have HW:=J (fun (W:World)=>ex x.type.t tn htn W)
 have HC:=J (fun W (hb:Below w.heap.size w W)=>dc (h.grow hb) x.init u (hu.grow hb) x.type.t tn htn)
 have k0:w.cell? ⟨g,o + i * 3,none⟩ = some (.int .u8 ↑x.type.t.toNat):=hcs 0 _ rfl
 have k1:w.cell? ⟨g,o + i * 3 + 1,none⟩ = some (.bool x.type.mu):=hcs 1 _ rfl
 have k2:w.cell? ⟨g,o + i * 3 + 2,none⟩ = some u:=hcs 2 _ rfl
 rw [htn] at k0
 obtain ⟨Au,cu,rfl,_⟩:=id hu
 have HT:Hid (Va.globE m x = if (x.type.t == 127 || x.type.t == 126) = true then Va.constE m x.init x.type.t else 100):=J rfl
 clear h hL hx hcs hu htn
 generalize Va.constE m x.init x.type.t = r0 at HC HT
 generalize (x.type.t == 127 || x.type.t == 126) = b3 at HW HT
 generalize x.type.mu = gm at *
 generalize x.init.length = nu at *
 obtain ⟨n,e⟩:∃ n,m.globals.length = n:=⟨_,rfl⟩
 rw [e] at x5 hi hl hc
 clear e
 have hii:(i:Int) < (n:Int):=by omega
 have HB0:Hid (Below w.heap.size w (w.alloc (.cells #[.int .u8 ↑tn,.bool gm,.slice Au nu cu] 59))):=J bA
 have HZ:=J (heap_alloc_new w (.cells #[.int .u8 ↑tn,.bool gm,.slice Au nu cu] 59))
 go_enter Tryz.func32,Tryz.ntmps32
 go_upto_region 2 with fail
 generalize w.alloc (.cells #[.int .u8 ↑tn,.bool gm,.slice Au nu cu] 59) = w0 at HB0 HZ ⊢
 obtain ⟨z0,z1,z2⟩:=aN HZ.out
 have HZC:=J (fun W (hb:Below w0.heap.size w0 W)=>aN ((hb.block _ (gL HZ.out)).trans HZ.out))
 have HB1:Hid (Below w0.heap.size w0 (w0.alloc (.cells #[.int .u8 ↑tn] 5))):=J bA
 have HB2:=J (HB0.out.trans (HB1.out.mono HB0.out.size))
 cases b3 with
 | true =>
  rw [if_pos rfl] at HT
  go_wp2_with (first | (go_at_call 57;refine (HW.out _).mono ?_;rintro e w1 ⟨rfl,rfl⟩;obtain ⟨y0,y1,y2⟩:=HZC.out _ HB1.out) | (go_at_call 64;refine (HC.out _ HB2.out).mono ?_;rintro e w3 ⟨rfl,hb⟩;have HB3:=J (HB2.out.trans (hb.mono HB2.out.size));clear hb))
  go_ret
  rw [HT.out]
  exact ⟨rfl,HB3.out⟩
 | false =>
  rw [if_neg (by decide)] at HT
  go_wp2_with (go_at_call 57;refine (HW.out _).mono ?_;rintro e w1 ⟨rfl,rfl⟩;obtain ⟨y0,y1,y2⟩:=HZC.out _ HB1.out)
  go_ret
  rw [HT.out]
  exact ⟨rfl,HB2.out⟩
theorem vdata_any (h:VIn w P sp mp m v1 v2 v3 v4 v5 v6 v7 v8 v9 v10 hv) (i:Nat) (x:Da) (hx:m.datas[i]? = some x) :
  Calls Tryz.prog 37 #[.pointer (some ⟨P,0,none⟩),.int .i64 ↑i] w fun e w'=>e = .returned (.int .i64 ((Va.datE m x:Nat):Int)) ∧ Below w.heap.size w w':=by
 have hl:=h.fit.datas.1
 have hi:=(List.getElem?_eq_some_iff.1 hx).1
 have hfl:=(h.fit.datas.2 x (List.mem_of_getElem? hx)).2
 obtain ⟨A,c,rfl,hc,_,_,hL⟩:=h.rep.datas
 have xx:=cell15 h.cells 11 _ rfl
 obtain ⟨g,o,cs,rfl,_,hg,⟨u,v,rfl,hwf,hu,hv⟩,hcs⟩:=hL i x hx
 have HT1:=J (fun W (hb:Below w.heap.size w W)=>bL (h.grow hb) 2 x.mem (by decide) hwf)
 have HC:=J (fun W (hb:Below w.heap.size w W)=>dc (h.grow hb) x.off u (hu.grow hb) 127 127 rfl)
 have k0:w.cell? ⟨g,o + i * 3,none⟩ = some (.int .u32 ↑x.mem):=hcs 0 _ rfl
 have k1:w.cell? ⟨g,o + i * 3 + 1,none⟩ = some u:=hcs 1 _ rfl
 have k2:w.cell? ⟨g,o + i * 3 + 2,none⟩ = some v:=hcs 2 _ rfl
 obtain ⟨Au,cu,rfl,_⟩:=id hu
 obtain ⟨Av,cv,rfl,_⟩:=id hv
 have HT:Hid (Va.datE m x = Va.orE (Va.okE (decide (x.mem < count m 2)) 80) (Va.constE m x.off 127)):=J rfl
 clear h hL hx hcs hu hv
 generalize Va.constE m x.off 127 = r0 at HC HT
 generalize x.b.length = nv at *
 generalize x.off.length = nu at *
 obtain ⟨n,e⟩:∃ n,m.datas.length = n:=⟨_,rfl⟩
 rw [e] at xx hi hl hc
 clear e
 have hii:(i:Int) < (n:Int):=by omega
 generalize decide (x.mem < count m 2) = b at HT1 HT
 generalize x.mem = tn at *
 have HB0:Hid (Below w.heap.size w (w.alloc (.cells #[.int .u32 ↑tn,.slice Au nu cu,.slice Av nv cv] 87))):=J bA
 have HZ:=J (heap_alloc_new w (.cells #[.int .u32 ↑tn,.slice Au nu cu,.slice Av nv cv] 87))
 go_enter Tryz.func37,Tryz.ntmps37
 go_upto_region 2 with fail
 generalize w.alloc (.cells #[.int .u32 ↑tn,.slice Au nu cu,.slice Av nv cv] 87) = w0 at HB0 HZ ⊢
 obtain ⟨z0,z1,z2⟩:=aN HZ.out
 have HZC:=J (fun W (hb:Below w0.heap.size w0 W)=>aN ((hb.block _ (gL HZ.out)).trans HZ.out))
 have tok1:True:=trivial
 cases b with
 | true =>
  go_wp2_with (first | (go_at_call 65;clear tok1;refine (HT1.out _ HB0.out).mono ?_;rintro e w1 ⟨rfl,hb⟩;obtain ⟨y0,y1,y2⟩:=HZC.out _ hb;have HB1:=J (HB0.out.trans (hb.mono HB0.out.size));have HY:=J hb;clear hb) | (go_at_call 64;refine (HC.out _ HB1.out).mono ?_;rintro e w3 ⟨rfl,hb⟩;have HB3:=J (HB1.out.trans (hb.mono HB1.out.size));clear hb))
  go_ret
  rw [HT.out]
  exact ⟨rfl,HB3.out⟩
 | false =>
  go_wp2_with (go_at_call 65;clear tok1;refine (HT1.out _ HB0.out).mono ?_;rintro e w1 ⟨rfl,hb⟩;obtain ⟨y0,y1,y2⟩:=HZC.out _ hb;have HB1:=J (HB0.out.trans (hb.mono HB0.out.size));have HY:=J hb;clear hb)
  go_ret
  rw [HT.out]
  exact ⟨rfl,HB1.out⟩
theorem fI (h:VIn w P sp mp m v1 v2 v3 v4 v5 v6 v7 v8 v9 v10 hv) (i:Nat) (x:El) (hx:m.elems[i]? = some x) :
  Calls Tryz.prog 35 #[.pointer (some ⟨P,0,none⟩),.int .i64 ↑i] w fun e w'=>e = .returned (.int .i64 ((Va.elemE m x:Nat):Int)) ∧ Below w.heap.size w w':=by
 have hl:=h.fit.elems.1
 have hi:=(List.getElem?_eq_some_iff.1 hx).1
 have hfl:=(h.fit.elems.2 x (List.mem_of_getElem? hx)).2
 obtain ⟨A,c,rfl,hc,_,_,hL⟩:=h.rep.elems
 have xx:=cell15 h.cells 9 _ rfl
 obtain ⟨g,o,cs,rfl,_,hg,⟨u,v,rfl,hwf,hu,hv⟩,hcs⟩:=hL i x hx
 have HT1:=J (fun W (hb:Below w.heap.size w W)=>bL (h.grow hb) 1 x.table (by decide) hwf)
 have HC:=J (fun W (hb:Below w.heap.size w W)=>dc (h.grow hb) x.off u (hu.grow hb) 127 127 rfl)
 have k0:w.cell? ⟨g,o + i * 3,none⟩ = some (.int .u32 ↑x.table):=hcs 0 _ rfl
 have k1:w.cell? ⟨g,o + i * 3 + 1,none⟩ = some u:=hcs 1 _ rfl
 have k2:w.cell? ⟨g,o + i * 3 + 2,none⟩ = some v:=hcs 2 _ rfl
 have HTF:=J (fun (f:Nat) W (hf:f < 4294967296) (hb:Below w.heap.size w W)=>bL (h.grow hb) 0 f (by decide) hf)
 have HFV:=J hv
 obtain ⟨Au,cu,rfl,_⟩:=id hu
 obtain ⟨Av,cv,rfl,_⟩:=id hv
 have HT:Hid (Va.elemE m x = Va.orE (Va.okE (decide (x.table < count m 1)) 80) (Va.orE (Va.constE m x.off 127) (Va.first (Va.thereE m 0) x.funcs))):=J rfl
 have HLF:=J (sl_has hv)
 clear h hL hx hcs hu hv HFV
 generalize Va.constE m x.off 127 = r0 at HC HT
 obtain ⟨nv,hnv⟩:∃ n,x.funcs.length = n:=⟨_,rfl⟩
 have HNV:=J hnv
 rw [hnv] at k2 hfl
 clear hnv
 generalize x.off.length = nu at *
 obtain ⟨n,e⟩:∃ n,m.elems.length = n:=⟨_,rfl⟩
 rw [e] at xx hi hl hc
 clear e
 have hii:(i:Int) < (n:Int):=by omega
 generalize decide (x.table < count m 1) = b at HT1 HT
 generalize x.table = tn at *
 have HB0:Hid (Below w.heap.size w (w.alloc (.cells #[.int .u32 ↑tn,.slice Au nu cu,.slice Av nv cv] 85))):=J bA
 have HZ:=J (heap_alloc_new w (.cells #[.int .u32 ↑tn,.slice Au nu cu,.slice Av nv cv] 85))
 go_enter Tryz.func35,Tryz.ntmps35
 go_upto_region 2 with fail
 generalize w.alloc (.cells #[.int .u32 ↑tn,.slice Au nu cu,.slice Av nv cv] 85) = w0 at HB0 HZ ⊢
 obtain ⟨z0,z1,z2⟩:=aN HZ.out
 have HZC:=J (fun W (hb:Below w0.heap.size w0 W)=>aN ((hb.block _ (gL HZ.out)).trans HZ.out))
 have tok1:True:=trivial
 cases b with
 | false =>
  have HTT:Hid (Va.elemE m x = 80):=J HT.out
  clear HT
  go_wp2_with (go_at_call 65;clear tok1;refine (HT1.out _ HB0.out).mono ?_;rintro e w1 ⟨rfl,hb⟩;obtain ⟨y0,y1,y2⟩:=HZC.out _ hb;have HB1:=J (HB0.out.trans (hb.mono HB0.out.size));have HY:=J hb;clear hb)
  go_ret
  rw [HTT.out]
  exact ⟨rfl,HB1.out⟩
 | true =>
  by_cases hr:r0 = 0
  ·subst hr
   have HTT:Hid (Va.elemE m x = Va.first (Va.thereE m 0) (x.funcs.drop 0)):=J HT.out
   clear HT
   go_upto_region 4 with (first | (go_at_call 65;clear tok1;refine (HT1.out _ HB0.out).mono ?_;rintro e w1 ⟨rfl,hb⟩;obtain ⟨y0,y1,y2⟩:=HZC.out _ hb;have HB1:=J (HB0.out.trans (hb.mono HB0.out.size));have HY:=J hb;clear hb) | (go_at_call 64;refine (HC.out _ HB1.out).mono ?_;rintro e w3 ⟨rfl,hb⟩;have HB3:=J (HB1.out.trans (hb.mono HB1.out.size));have hb3:=hb;clear hb))
   clear z0 z1 z2
   go_upto_region 7 with (first | (go_at_call 65;clear tok1;refine (HT1.out _ HB0.out).mono ?_;rintro e w1 ⟨rfl,hb⟩;obtain ⟨y0,y1,y2⟩:=HZC.out _ hb;have HB1:=J (HB0.out.trans (hb.mono HB0.out.size));have HY:=J hb;clear hb) | (go_at_call 64;refine (HC.out _ HB1.out).mono ?_;rintro e w3 ⟨rfl,hb⟩;have HB3:=J (HB1.out.trans (hb.mono HB1.out.size));have hb3:=hb;clear hb))
   obtain ⟨q0,q1,q2⟩:=HZC.out _ ((HY.out.trans (hb3.mono HY.out.size)))
   go_wp2_with fail
   go_loopw [32] (fun iv wr=>∃ j:Nat,j ≤ nv ∧ iv = .int .i64 ↑j ∧ Hid (Va.elemE m x = Va.first (Va.thereE m 0) (x.funcs.drop j)) ∧ Hid (Below w.heap.size w wr)) (fun iv _=>nv - (intOf iv).toNat)
   case atStart=>exact ⟨0,Nat.zero_le _,rfl,HTT,HB3⟩
   case round =>
    obtain ⟨j,hj,rfl,HQ,HBW⟩:=hrel
    by_cases hjn:j < nv
    ·obtain ⟨f,hf⟩:∃ f,x.funcs[j]? = some f:=⟨_,List.getElem?_eq_getElem (by have:=HNV.out;omega)⟩
     obtain ⟨gf,of,rfl,hgf,kf,hfw0⟩:=fk HLF.out hf
     have hfw:=J hfw0
     have kf:=(HBW.out.cell (p:=⟨gf,of + j,none⟩) hgf).trans kf
     have hji:(j:Int) < (nv:Int):=by omega
     have HST:=J (Va.first_step (f:=Va.thereE m 0) hf)
     clear hf
     have HTF:=J (fun W=>HTF.out f W hfw.out)
     have HQQ:Hid (Va.elemE m x = Va.orE (Va.okE (decide (f < count m 0)) 80) (Va.first (Va.thereE m 0) (x.funcs.drop (j + 1)))):=J (by rw [HQ.out,HST.out];rfl)
     clear HST HQ
     generalize decide (f < count m 0) = bf at HTF HQQ
     cases bf with
     | true =>
      have HQN:Hid (Va.elemE m x = Va.first (Va.thereE m 0) (x.funcs.drop (j + 1))):=J HQQ.out
      clear HQQ
      go_wp2_with (go_at_call 65;refine (HTF.out _ HBW.out).mono ?_;rintro e w1 ⟨rfl,hb⟩;have HB5:=J (HBW.out.trans (hb.mono HBW.out.size));clear hb)
      go_roundw
      case rel=>exact ⟨j + 1,by omega,by go_num,HQN,HB5⟩
      case measure=>simp [intOf];omega
     | false =>
      have HQN:Hid (Va.elemE m x = 80):=J HQQ.out
      clear HQQ
      go_wp2_with (go_at_call 65;refine (HTF.out _ HBW.out).mono ?_;rintro e w1 ⟨rfl,hb⟩;have HB5:=J (HBW.out.trans (hb.mono HBW.out.size));clear hb)
      go_ret
      rw [HQN.out]
      exact ⟨rfl,HB5.out⟩
    ·have hji:decide ((j:Int) < (nv:Int)) = false:=decide_eq_false (by omega)
     have hjn2:decide (j < nv) = false:=decide_eq_false hjn
     have HQN:Hid (Va.elemE m x = 0):=J (by rw [HQ.out,Va.first_end (by have:=HNV.out;omega)])
     go_wp2_with fail
     go_ret
     rw [HQN.out]
     exact ⟨rfl,HBW.out⟩
  ·have HTT:Hid (Va.elemE m x = r0):=J (by rw [HT.out];show Va.orE 0 (Va.orE r0 _) = r0;rw [Va.orE_at rfl,Va.orE_ne hr])
   have hq:((r0:Int) == 0) = false:=nB (by omega)
   have hq2:((r0:Int) != 0) = true:=by rw [bne,hq];rfl
   have hq3:¬ ((r0:Int) = 0):=by omega
   clear HT hr
   go_wp2_with (first | (go_at_call 65;clear tok1;refine (HT1.out _ HB0.out).mono ?_;rintro e w1 ⟨rfl,hb⟩;obtain ⟨y0,y1,y2⟩:=HZC.out _ hb;have HB1:=J (HB0.out.trans (hb.mono HB0.out.size));have HY:=J hb;clear hb) | (go_at_call 64;refine (HC.out _ HB1.out).mono ?_;rintro e w3 ⟨rfl,hb⟩;have HB3:=J (HB1.out.trans (hb.mono HB1.out.size));have hb3:=hb;clear hb))
   go_ret
   rw [HTT.out]
   exact ⟨rfl,HB3.out⟩
end
end Go.Proofs.YtmpelmihdpomjaaGreat
