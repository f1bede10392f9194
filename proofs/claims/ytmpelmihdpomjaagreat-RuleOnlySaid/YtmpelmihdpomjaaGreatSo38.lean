/-
  Layer 10's program: block, loop and if; else; end. (gen/body/meth5.py)
-/
import Derived.Test.YtmpelmihdpomjaaGreatSo01
import Derived.Test.YtmpelmihdpomjaaGreatSo37
set_option maxRecDepth 100000
set_option maxHeartbeats 4000000
namespace Go.Proofs.YtmpelmihdpomjaaGreat
open Go.RowKit Ins Bin Sp
theorem Bo.closeA_len {s:Ty.T} {n:Nat} {e:List UInt8} (h:s.sm n) (hc:s.closeA = some e):e.length ≤ n:=by
 obtain ⟨i,f,k,hf,_,_,rfl,_⟩:=Bo.closeA_some hc
 exact (h.2.2.2 f (by rw [hf];simp)).2
theorem Wk.lit8 {C:Ctx} {R P:Nat} {w:World} {G:Nat → Prop} {s:Ty.T} {o:List Bool} (h:Wk C R P w G s o) (a:Nat):Wk C R P (w.alloc (.cells #[.int .u8 ((a:Int) % 256)] 5)) G s o ∧ Nxt G w G (w.alloc (.cells #[.int .u8 ((a:Int) % 256)] 5)) ∧ aa (w.alloc (.cells #[.int .u8 ((a:Int) % 256)] 5)) (Apt (w.alloc (.cells #[.int .u8 ((a:Int) % 256)] 5)) G) [UInt8.ofNat a] (.slice (some ⟨w.heap.size,0,none⟩) 1 1):=by
 have e:((UInt8.ofNat a).toNat:Int) = (a:Int) % 256:=by rw [UInt8.toNat_ofNat'];omega
 rw [← e]
 exact h.lit (UInt8.ofNat a)
theorem cU {C:Ctx} {R P n:Nat} {w:World} {G:Nat → Prop} {s:Ty.T} {o:List Bool} (h:Wk C R P w G s o) (hs:s.sm n) (hn:n ≤ 400000000) (op a b:Nat) (c:Int) (A4:Option Addr) (l4 c4:Nat) (ho:o.length ≤ 2000000) :
  Calls Tryz.prog 99 #[.pointer (some ⟨R,0,none⟩),.agg #[.int .u8 ↑op,.int .u32 ↑a,.int .u32 ↑b,.int .i64 c,.slice A4 l4 c4]] w (aj C R P G (o ++ [decide (op = 4)]) w (Bo.block op a s)):=by
 have HX0:=J (heap_alloc_new w (.cells #[.int .u8 ↑op,.int .u32 ↑a,.int .u32 ↑b,.int .i64 c,.slice A4 l4 c4] 56))
 have HB0:Hid (Below w.heap.size w (w.alloc (.cells #[.int .u8 ↑op,.int .u32 ↑a,.int .u32 ↑b,.int .i64 c,.slice A4 l4 c4] 56))):=J bA
 have H0:=J (h.on HB0.out)
 have HN0:Hid (Nxt G w G (w.alloc (.cells #[.int .u8 ↑op,.int .u32 ↑a,.int .u32 ↑b,.int .i64 c,.slice A4 l4 c4] 56))):=J (Nxt.of_below HB0.out)
 have HGX:Hid (¬ G w.heap.size ∧ w.heap.size < (w.alloc (.cells #[.int .u8 ↑op,.int .u32 ↑a,.int .u32 ↑b,.int .i64 c,.slice A4 l4 c4] 56)).heap.size):=J ⟨fun hg=>Nat.lt_irrefl _ (h.out _ hg).2,by simp⟩
 have hn2:∀ s1:Ty.T,s1.sm n → s1.sm n:=fun _ h=>h
 clear h
 go_enter Tryz.func99,Tryz.ntmps99
 go_upto_region 1 with fail
 generalize (w.alloc (.cells #[.int .u8 ↑op,.int .u32 ↑a,.int .u32 ↑b,.int .i64 c,.slice A4 l4 c4] 56)) = w0 at HX0 HB0 H0 HN0 HGX ⊢
 obtain ⟨X,hX⟩:∃ X,w.heap.size = X:=⟨_,rfl⟩
 rw [hX] at HX0 HGX
 simp only [hX]
 clear hX HB0
 obtain ⟨z0,z1,z2,z3,z4⟩:=cells5 HX0.out
 obtain ⟨q0,q1,q2,q3,q4,q5⟩:=H0.out.cells
 by_cases ha:a = 64
 ·subst ha
  by_cases h4:op = 4
  ·subst h4
   clear hn2
   have hwa:=H0.out.i32 hs (by omega)
   cases hw:s.wantA [127] with
   | false =>
    rw [hw] at hwa
    have HWA:=J hwa
    have HT:Hid (Bo.block 4 64 s = .error 100):=J (by unfold Bo.block;rw [if_pos rfl,hw];rfl)
    clear hw hwa hs hn ho
    go_wp2_with (go_at_call 130;refine HWA.out.mono ?_;rintro e w1 ⟨rfl,G1,h1,n1⟩;have HN1:=J n1;clear h1 n1)
    go_ret
    exact aj.err HT.out (H0.out.below HN1.out)
   | true =>
    rw [hw] at hwa
    have HWA:=J hwa
    have HT:Hid (Bo.block 4 64 s = .ok ((s.want [127]).op [] [])):=J (by unfold Bo.block Bo.ends;rw [if_pos rfl,hw];rw [if_pos rfl,if_pos rfl])
    clear hw hwa
    go_upto_region 10 with (first | (go_at_call 130;refine HWA.out.mono ?_;rintro e w1 ⟨rfl,G1,h1,n1⟩;have H1:=J h1;have HN1:=J n1;obtain ⟨_,_,_,_,_,r5⟩:=h1.cells;obtain ⟨hx1,hg1⟩:=Nxt.keep n1 HX0.out HGX.out;obtain ⟨x0,x1,x2,x3,x4⟩:=cells5 hx1;have HX1:=J hx1;have HGX1:=J hg1;have HXL:=HX1;have HGXL:=HGX1;have HOP:=J (cO H1.out (Ty.sm_want hs _) (by omega) [] [] (.slice none 0 0) (.slice none 0 0) (aa.nil _ _) (aa.nil _ _) (by simp) (by simp));have HNL:=J (Nxt.refl G1 w1);clear h1 n1 hx1 hg1) | (go_at_call 98;refine (HOP.out).mono ?_;rintro e w2 ⟨rfl,G2,h2,n2⟩;obtain ⟨hx2,hg2⟩:=Nxt.keep n2 HXL.out HGXL.out;have H2:=J h2;have HN2:=J n2;have HX2:=J hx2;have HGX2:=J hg2;clear h2 n2 hx2 hg2))
    have H2d:=J (H2.out.on (Below.drew (Below.refl _ _)))
    obtain ⟨A6,c6,hpush⟩:=H2d.out.pushO true ho
    obtain ⟨hl6,A5,c5,w5,hrun,hr6,hf6,hkeep,G6,hk6,hn6⟩:=hpush w2.drew (Below.refl _ _)
    have hl7:=(hpush (w2.drew.alloc (.cells #[.bool true] 4)) bA).1
    have HL7:Hid ((w2.alloc (.cells #[.bool true] 4)).drew.cell? ⟨R,6,none⟩ = some (.slice A6 o.length c6)):=J hl7
    have HRUN:=J hrun
    have HL6:=J hl6
    have HR6:=J hr6
    have HF6:=J hf6
    have HK6:=J hk6
    have HN6:=J hn6
    have HS0:Hid (w2.drew.cell? ⟨X,0,none⟩ = some (.int .u8 4)):=J (cells5 HX2.out).1
    have HS1:Hid ((w2.drew.alloc (.cells #[.bool true] 4)).cell? ⟨X,0,none⟩ = some (.int .u8 4)):=J (cells5 ((Below.heap_alloc _ _ _ HGX2.out.2).trans HX2.out)).1
    have HS5:Hid (w5.cell? ⟨X,0,none⟩ = some (.int .u8 4)):=J (cells5 ((hkeep X HGX2.out.2 HGX2.out.1).trans HX2.out)).1
    have HS6:Hid ((w5.setCell ⟨R,6,none⟩ (.slice A5 (o.length + 1) c5)).cell? ⟨X,0,none⟩ = some (.int .u8 4)):=J (cells5 (Nxt.keep hn6 (show w2.drew.heap[X]? = some _ from HX2.out) HGX2.out).1).1
    clear hl6 hl7 hrun hr6 hf6 hkeep hk6 hn6 hpush
    generalize o.length = ol at HRUN HL6 HL7 HR6 HK6 HN6 HS6
    refine wp_region_held_drew (S:=fun W'=>W'.cell? ⟨X,0,none⟩ = some (.int .u8 4)) (by kernel_rfl) (HS0.out) (fun hHeld=>?_)
    refine dW 0 rfl ?_
    refine dW 1 rfl ?_
    refine dW 2 rfl ?_
    refine dW 3 rfl ?_
    refine dW 5 rfl ?_
    refine dW 6 rfl ?_
    refine dW 7 rfl ?_
    refine ai 4 8 rfl rfl (by kernel_rfl) (fun K hK=>?_) (fun K hK=>?_)
    ·have hl:=HL6.out
     try (rw [if_pos];case hc=>rfl)
     go_simp
     clear hl
     refine hK.out _ _ hHeld fun hHeld=>?_
     clear hK K
     refine dA 8 rfl fun K hK=>?_
     go_simp
     refine hK.out _ _ HS1.out fun hHeld=>?_
     clear hK K
     refine dA 9 rfl fun K hK=>?_
     refine am (.tmp 41) (.tmp 45) 164 rfl _ _ _ w5 rfl rfl HRUN.out ?_
     refine hK.out _ _ HS5.out fun hHeld=>?_
     clear hK K
     try simp only [Act.put,O]
     refine dW 10 rfl ?_
     refine dW 11 rfl ?_
     refine ac 12 rfl (by kernel_rfl) (fun K hK=>?_)
     have hl:=HR6.out
     have gl:=HF6.out
     try (rw [if_pos];case hc=>rfl)
     go_simp
     clear hl gl
     refine hK.out _ _ HS6.out fun hHeld=>?_
     clear hK K
     refine dN ?_
     go_wp2_with fail
     go_ret
     exact aj.ok HT.out HK6.out (HN0.out.trans (HN1.out.trans (HNL.out.trans (HN2.out.trans ((Nxt.of_below (Below.drew (Below.refl _ _))).trans HN6.out)))))
    ·try (rw [if_pos];case hc=>rfl)
     go_simp
     refine hK.out _ _ HS1.out fun hHeld=>?_
     clear hK K
     refine ac 4 rfl (by kernel_rfl) (fun K hK=>?_)
     have hl:=HL7.out
     try (rw [if_pos];case hc=>rfl)
     go_simp
     clear hl
     refine hK.out _ _ hHeld fun hHeld=>?_
     clear hK K
     refine dA 9 rfl fun K hK=>?_
     refine am (.tmp 41) (.tmp 45) 164 rfl _ _ _ w5 rfl rfl HRUN.out ?_
     refine hK.out _ _ HS5.out fun hHeld=>?_
     clear hK K
     try simp only [Act.put,O]
     refine dW 10 rfl ?_
     refine dW 11 rfl ?_
     refine ac 12 rfl (by kernel_rfl) (fun K hK=>?_)
     have hl:=HR6.out
     have gl:=HF6.out
     try (rw [if_pos];case hc=>rfl)
     go_simp
     clear hl gl
     refine hK.out _ _ HS6.out fun hHeld=>?_
     clear hK K
     refine dN ?_
     go_wp2_with fail
     go_ret
     exact aj.ok HT.out HK6.out (HN0.out.trans (HN1.out.trans (HNL.out.trans (HN2.out.trans ((Nxt.of_below (Below.drew (Below.refl _ _))).trans HN6.out)))))
  ·by_cases h3:op = 3
   ·subst h3
    clear hn2
    have HT:Hid (Bo.block 3 64 s = .ok (s.op [] [])):=J (by unfold Bo.block Bo.ends;rw [if_neg (by decide),if_pos rfl,if_pos rfl])
    have HXL:=HX0
    have HGXL:=HGX
    have HOP:=J (cO H0.out hs (by omega) [] [] (.slice none 0 0) (.slice none 0 0) (aa.nil _ _) (aa.nil _ _) (by simp) (by simp))
    have HNL:=J (Nxt.refl G w0)
    go_upto_region 10 with (go_at_call 98;refine (HOP.out).mono ?_;rintro e w2 ⟨rfl,G2,h2,n2⟩;obtain ⟨hx2,hg2⟩:=Nxt.keep n2 HXL.out HGXL.out;have H2:=J h2;have HN2:=J n2;have HX2:=J hx2;have HGX2:=J hg2;clear h2 n2 hx2 hg2)
    have H2d:=J (H2.out.on (Below.drew (Below.refl _ _)))
    obtain ⟨A6,c6,hpush⟩:=H2d.out.pushO false ho
    obtain ⟨hl6,A5,c5,w5,hrun,hr6,hf6,hkeep,G6,hk6,hn6⟩:=hpush w2.drew (Below.refl _ _)
    have hl7:=(hpush (w2.drew.alloc (.cells #[.bool false] 4)) bA).1
    have HL7:Hid ((w2.alloc (.cells #[.bool false] 4)).drew.cell? ⟨R,6,none⟩ = some (.slice A6 o.length c6)):=J hl7
    have HRUN:=J hrun
    have HL6:=J hl6
    have HR6:=J hr6
    have HF6:=J hf6
    have HK6:=J hk6
    have HN6:=J hn6
    have HS0:Hid (w2.drew.cell? ⟨X,0,none⟩ = some (.int .u8 3)):=J (cells5 HX2.out).1
    have HS1:Hid ((w2.drew.alloc (.cells #[.bool false] 4)).cell? ⟨X,0,none⟩ = some (.int .u8 3)):=J (cells5 ((Below.heap_alloc _ _ _ HGX2.out.2).trans HX2.out)).1
    have HS5:Hid (w5.cell? ⟨X,0,none⟩ = some (.int .u8 3)):=J (cells5 ((hkeep X HGX2.out.2 HGX2.out.1).trans HX2.out)).1
    have HS6:Hid ((w5.setCell ⟨R,6,none⟩ (.slice A5 (o.length + 1) c5)).cell? ⟨X,0,none⟩ = some (.int .u8 3)):=J (cells5 (Nxt.keep hn6 (show w2.drew.heap[X]? = some _ from HX2.out) HGX2.out).1).1
    clear hl6 hl7 hrun hr6 hf6 hkeep hk6 hn6 hpush
    generalize o.length = ol at HRUN HL6 HL7 HR6 HK6 HN6 HS6
    refine wp_region_held_drew (S:=fun W'=>W'.cell? ⟨X,0,none⟩ = some (.int .u8 3)) (by kernel_rfl) (HS0.out) (fun hHeld=>?_)
    refine dW 0 rfl ?_
    refine dW 1 rfl ?_
    refine dW 2 rfl ?_
    refine dW 3 rfl ?_
    refine dW 5 rfl ?_
    refine dW 6 rfl ?_
    refine dW 7 rfl ?_
    refine ai 4 8 rfl rfl (by kernel_rfl) (fun K hK=>?_) (fun K hK=>?_)
    ·have hl:=HL6.out
     try (rw [if_pos];case hc=>rfl)
     go_simp
     clear hl
     refine hK.out _ _ hHeld fun hHeld=>?_
     clear hK K
     refine dA 8 rfl fun K hK=>?_
     go_simp
     refine hK.out _ _ HS1.out fun hHeld=>?_
     clear hK K
     refine dA 9 rfl fun K hK=>?_
     refine am (.tmp 41) (.tmp 45) 164 rfl _ _ _ w5 rfl rfl HRUN.out ?_
     refine hK.out _ _ HS5.out fun hHeld=>?_
     clear hK K
     try simp only [Act.put,O]
     refine dW 10 rfl ?_
     refine dW 11 rfl ?_
     refine ac 12 rfl (by kernel_rfl) (fun K hK=>?_)
     have hl:=HR6.out
     have gl:=HF6.out
     try (rw [if_pos];case hc=>rfl)
     go_simp
     clear hl gl
     refine hK.out _ _ HS6.out fun hHeld=>?_
     clear hK K
     refine dN ?_
     go_wp2_with fail
     go_ret
     exact aj.ok HT.out HK6.out (HN0.out.trans (HNL.out.trans (HN2.out.trans ((Nxt.of_below (Below.drew (Below.refl _ _))).trans HN6.out))))
    ·try (rw [if_pos];case hc=>rfl)
     go_simp
     refine hK.out _ _ HS1.out fun hHeld=>?_
     clear hK K
     refine ac 4 rfl (by kernel_rfl) (fun K hK=>?_)
     have hl:=HL7.out
     try (rw [if_pos];case hc=>rfl)
     go_simp
     clear hl
     refine hK.out _ _ hHeld fun hHeld=>?_
     clear hK K
     refine dA 9 rfl fun K hK=>?_
     refine am (.tmp 41) (.tmp 45) 164 rfl _ _ _ w5 rfl rfl HRUN.out ?_
     refine hK.out _ _ HS5.out fun hHeld=>?_
     clear hK K
     try simp only [Act.put,O]
     refine dW 10 rfl ?_
     refine dW 11 rfl ?_
     refine ac 12 rfl (by kernel_rfl) (fun K hK=>?_)
     have hl:=HR6.out
     have gl:=HF6.out
     try (rw [if_pos];case hc=>rfl)
     go_simp
     clear hl gl
     refine hK.out _ _ HS6.out fun hHeld=>?_
     clear hK K
     refine dN ?_
     go_wp2_with fail
     go_ret
     exact aj.ok HT.out HK6.out (HN0.out.trans (HNL.out.trans (HN2.out.trans ((Nxt.of_below (Below.drew (Below.refl _ _))).trans HN6.out))))
   ·have h4i:¬ ((op:Int) = 4):=by omega
    have h3i:¬ ((op:Int) = 3):=by omega
    have h4b:((op:Int) == 4) = false:=nB (by omega)
    have h4d:decide (op = 4) = false:=decide_eq_false h4
    clear hn2
    have HT:Hid (Bo.block op 64 s = .ok (s.op [] [])):=J (by unfold Bo.block Bo.ends;rw [if_neg h4,if_neg h3,if_pos rfl])
    have HXL:=HX0
    have HGXL:=HGX
    have HOP:=J (cO H0.out hs (by omega) [] [] (.slice none 0 0) (.slice none 0 0) (aa.nil _ _) (aa.nil _ _) (by simp) (by simp))
    have HNL:=J (Nxt.refl G w0)
    go_upto_region 10 with (go_at_call 98;refine (HOP.out).mono ?_;rintro e w2 ⟨rfl,G2,h2,n2⟩;obtain ⟨hx2,hg2⟩:=Nxt.keep n2 HXL.out HGXL.out;have H2:=J h2;have HN2:=J n2;have HX2:=J hx2;have HGX2:=J hg2;clear h2 n2 hx2 hg2)
    have H2d:=J (H2.out.on (Below.drew (Below.refl _ _)))
    obtain ⟨A6,c6,hpush⟩:=H2d.out.pushO false ho
    obtain ⟨hl6,A5,c5,w5,hrun,hr6,hf6,hkeep,G6,hk6,hn6⟩:=hpush w2.drew (Below.refl _ _)
    have hl7:=(hpush (w2.drew.alloc (.cells #[.bool false] 4)) bA).1
    have HL7:Hid ((w2.alloc (.cells #[.bool false] 4)).drew.cell? ⟨R,6,none⟩ = some (.slice A6 o.length c6)):=J hl7
    have HRUN:=J hrun
    have HL6:=J hl6
    have HR6:=J hr6
    have HF6:=J hf6
    have HK6:=J hk6
    have HN6:=J hn6
    have HS0:Hid (w2.drew.cell? ⟨X,0,none⟩ = some (.int .u8 ↑op)):=J (cells5 HX2.out).1
    have HS1:Hid ((w2.drew.alloc (.cells #[.bool false] 4)).cell? ⟨X,0,none⟩ = some (.int .u8 ↑op)):=J (cells5 ((Below.heap_alloc _ _ _ HGX2.out.2).trans HX2.out)).1
    have HS5:Hid (w5.cell? ⟨X,0,none⟩ = some (.int .u8 ↑op)):=J (cells5 ((hkeep X HGX2.out.2 HGX2.out.1).trans HX2.out)).1
    have HS6:Hid ((w5.setCell ⟨R,6,none⟩ (.slice A5 (o.length + 1) c5)).cell? ⟨X,0,none⟩ = some (.int .u8 ↑op)):=J (cells5 (Nxt.keep hn6 (show w2.drew.heap[X]? = some _ from HX2.out) HGX2.out).1).1
    clear hl6 hl7 hrun hr6 hf6 hkeep hk6 hn6 hpush
    generalize o.length = ol at HRUN HL6 HL7 HR6 HK6 HN6 HS6
    refine wp_region_held_drew (S:=fun W'=>W'.cell? ⟨X,0,none⟩ = some (.int .u8 ↑op)) (by kernel_rfl) (HS0.out) (fun hHeld=>?_)
    refine dW 0 rfl ?_
    refine dW 1 rfl ?_
    refine dW 2 rfl ?_
    refine dW 3 rfl ?_
    refine dW 5 rfl ?_
    refine dW 6 rfl ?_
    refine dW 7 rfl ?_
    refine ai 4 8 rfl rfl (by kernel_rfl) (fun K hK=>?_) (fun K hK=>?_)
    ·have hl:=HL6.out
     try (rw [if_pos];case hc=>rfl)
     go_simp
     clear hl
     refine hK.out _ _ hHeld fun hHeld=>?_
     clear hK K
     refine dA 8 rfl fun K hK=>?_
     go_simp
     refine hK.out _ _ HS1.out fun hHeld=>?_
     clear hK K
     refine dA 9 rfl fun K hK=>?_
     refine am (.tmp 41) (.tmp 45) 164 rfl _ _ _ w5 rfl rfl HRUN.out ?_
     refine hK.out _ _ HS5.out fun hHeld=>?_
     clear hK K
     try simp only [Act.put,O]
     refine dW 10 rfl ?_
     refine dW 11 rfl ?_
     refine ac 12 rfl (by kernel_rfl) (fun K hK=>?_)
     have hl:=HR6.out
     have gl:=HF6.out
     try (rw [if_pos];case hc=>rfl)
     go_simp
     clear hl gl
     refine hK.out _ _ HS6.out fun hHeld=>?_
     clear hK K
     refine dN ?_
     go_wp2_with fail
     go_ret
     exact aj.ok HT.out (by rw [h4d];exact HK6.out) (HN0.out.trans (HNL.out.trans (HN2.out.trans ((Nxt.of_below (Below.drew (Below.refl _ _))).trans HN6.out))))
    ·try (rw [if_pos];case hc=>rfl)
     go_simp
     refine hK.out _ _ HS1.out fun hHeld=>?_
     clear hK K
     refine ac 4 rfl (by kernel_rfl) (fun K hK=>?_)
     have hl:=HL7.out
     try (rw [if_pos];case hc=>rfl)
     go_simp
     clear hl
     refine hK.out _ _ hHeld fun hHeld=>?_
     clear hK K
     refine dA 9 rfl fun K hK=>?_
     refine am (.tmp 41) (.tmp 45) 164 rfl _ _ _ w5 rfl rfl HRUN.out ?_
     refine hK.out _ _ HS5.out fun hHeld=>?_
     clear hK K
     try simp only [Act.put,O]
     refine dW 10 rfl ?_
     refine dW 11 rfl ?_
     refine ac 12 rfl (by kernel_rfl) (fun K hK=>?_)
     have hl:=HR6.out
     have gl:=HF6.out
     try (rw [if_pos];case hc=>rfl)
     go_simp
     clear hl gl
     refine hK.out _ _ HS6.out fun hHeld=>?_
     clear hK K
     refine dN ?_
     go_wp2_with fail
     go_ret
     exact aj.ok HT.out (by rw [h4d];exact HK6.out) (HN0.out.trans (HNL.out.trans (HN2.out.trans ((Nxt.of_below (Below.drew (Below.refl _ _))).trans HN6.out))))
 ·have hai:¬ ((a:Int) = 64):=by omega
  by_cases h4:op = 4
  ·subst h4
   clear hn2
   have hwa:=H0.out.i32 hs (by omega)
   cases hw:s.wantA [127] with
   | false =>
    rw [hw] at hwa
    have HWA:=J hwa
    have HT:Hid (Bo.block 4 a s = .error 100):=J (by unfold Bo.block;rw [if_pos rfl,hw];rfl)
    clear hw hwa hs hn ho
    go_wp2_with (go_at_call 130;refine HWA.out.mono ?_;rintro e w1 ⟨rfl,G1,h1,n1⟩;have HN1:=J n1;clear h1 n1)
    go_ret
    exact aj.err HT.out (H0.out.below HN1.out)
   | true =>
    rw [hw] at hwa
    have HWA:=J hwa
    have HT:Hid (Bo.block 4 a s = .ok ((s.want [127]).op [UInt8.ofNat a] [UInt8.ofNat a])):=J (by unfold Bo.block Bo.ends;rw [if_pos rfl,hw];rw [if_pos rfl,if_neg ha])
    clear hw hwa
    go_upto_region 10 with (first | (go_at_call 130;refine HWA.out.mono ?_;rintro e w1 ⟨rfl,G1,h1,n1⟩;have H1:=J h1;have HN1:=J n1;obtain ⟨_,_,_,_,_,r5⟩:=h1.cells;obtain ⟨hx1,hg1⟩:=Nxt.keep n1 HX0.out HGX.out;obtain ⟨x0,x1,x2,x3,x4⟩:=cells5 hx1;have HX1:=J hx1;have HGX1:=J hg1;obtain ⟨ql1,ql2,ql3⟩:=H1.out.lit8 a;have HXL:Hid ((w1.alloc (.cells #[.int .u8 ((a:Int) % 256)] 5)).heap[X]? = _):=J ((Below.heap_alloc _ _ _ HGX1.out.2).trans HX1.out);have HGXL:Hid (¬ G1 X ∧ X < (w1.alloc (.cells #[.int .u8 ((a:Int) % 256)] 5)).heap.size):=J ⟨HGX1.out.1,by have:=HGX1.out.2;simp;omega⟩;have HNL:=J ql2;have HOP:=J (cO ql1 (Ty.sm_want hs _) (by omega) [UInt8.ofNat a] [UInt8.ofNat a] (.slice (some ⟨w1.heap.size,0,none⟩) 1 1) (.slice (some ⟨w1.heap.size,0,none⟩) 1 1) ql3 ql3 (by simp) (by simp));obtain ⟨v0,v1,v2,v3,v4⟩:=cells5 HXL.out;obtain ⟨_,_,_,_,_,v5⟩:=ql1.cells;clear ql1 ql2 ql3;clear h1 n1 hx1 hg1) | (go_at_call 98;refine (HOP.out).mono ?_;rintro e w2 ⟨rfl,G2,h2,n2⟩;obtain ⟨hx2,hg2⟩:=Nxt.keep n2 HXL.out HGXL.out;have H2:=J h2;have HN2:=J n2;have HX2:=J hx2;have HGX2:=J hg2;clear h2 n2 hx2 hg2))
    have H2d:=J (H2.out.on (Below.drew (Below.refl _ _)))
    obtain ⟨A6,c6,hpush⟩:=H2d.out.pushO true ho
    obtain ⟨hl6,A5,c5,w5,hrun,hr6,hf6,hkeep,G6,hk6,hn6⟩:=hpush w2.drew (Below.refl _ _)
    have hl7:=(hpush (w2.drew.alloc (.cells #[.bool true] 4)) bA).1
    have HL7:Hid ((w2.alloc (.cells #[.bool true] 4)).drew.cell? ⟨R,6,none⟩ = some (.slice A6 o.length c6)):=J hl7
    have HRUN:=J hrun
    have HL6:=J hl6
    have HR6:=J hr6
    have HF6:=J hf6
    have HK6:=J hk6
    have HN6:=J hn6
    have HS0:Hid (w2.drew.cell? ⟨X,0,none⟩ = some (.int .u8 4)):=J (cells5 HX2.out).1
    have HS1:Hid ((w2.drew.alloc (.cells #[.bool true] 4)).cell? ⟨X,0,none⟩ = some (.int .u8 4)):=J (cells5 ((Below.heap_alloc _ _ _ HGX2.out.2).trans HX2.out)).1
    have HS5:Hid (w5.cell? ⟨X,0,none⟩ = some (.int .u8 4)):=J (cells5 ((hkeep X HGX2.out.2 HGX2.out.1).trans HX2.out)).1
    have HS6:Hid ((w5.setCell ⟨R,6,none⟩ (.slice A5 (o.length + 1) c5)).cell? ⟨X,0,none⟩ = some (.int .u8 4)):=J (cells5 (Nxt.keep hn6 (show w2.drew.heap[X]? = some _ from HX2.out) HGX2.out).1).1
    clear hl6 hl7 hrun hr6 hf6 hkeep hk6 hn6 hpush
    generalize o.length = ol at HRUN HL6 HL7 HR6 HK6 HN6 HS6
    refine wp_region_held_drew (S:=fun W'=>W'.cell? ⟨X,0,none⟩ = some (.int .u8 4)) (by kernel_rfl) (HS0.out) (fun hHeld=>?_)
    refine dW 0 rfl ?_
    refine dW 1 rfl ?_
    refine dW 2 rfl ?_
    refine dW 3 rfl ?_
    refine dW 5 rfl ?_
    refine dW 6 rfl ?_
    refine dW 7 rfl ?_
    refine ai 4 8 rfl rfl (by kernel_rfl) (fun K hK=>?_) (fun K hK=>?_)
    ·have hl:=HL6.out
     try (rw [if_pos];case hc=>rfl)
     go_simp
     clear hl
     refine hK.out _ _ hHeld fun hHeld=>?_
     clear hK K
     refine dA 8 rfl fun K hK=>?_
     go_simp
     refine hK.out _ _ HS1.out fun hHeld=>?_
     clear hK K
     refine dA 9 rfl fun K hK=>?_
     refine am (.tmp 41) (.tmp 45) 164 rfl _ _ _ w5 rfl rfl HRUN.out ?_
     refine hK.out _ _ HS5.out fun hHeld=>?_
     clear hK K
     try simp only [Act.put,O]
     refine dW 10 rfl ?_
     refine dW 11 rfl ?_
     refine ac 12 rfl (by kernel_rfl) (fun K hK=>?_)
     have hl:=HR6.out
     have gl:=HF6.out
     try (rw [if_pos];case hc=>rfl)
     go_simp
     clear hl gl
     refine hK.out _ _ HS6.out fun hHeld=>?_
     clear hK K
     refine dN ?_
     go_wp2_with fail
     go_ret
     exact aj.ok HT.out HK6.out (HN0.out.trans (HN1.out.trans (HNL.out.trans (HN2.out.trans ((Nxt.of_below (Below.drew (Below.refl _ _))).trans HN6.out)))))
    ·try (rw [if_pos];case hc=>rfl)
     go_simp
     refine hK.out _ _ HS1.out fun hHeld=>?_
     clear hK K
     refine ac 4 rfl (by kernel_rfl) (fun K hK=>?_)
     have hl:=HL7.out
     try (rw [if_pos];case hc=>rfl)
     go_simp
     clear hl
     refine hK.out _ _ hHeld fun hHeld=>?_
     clear hK K
     refine dA 9 rfl fun K hK=>?_
     refine am (.tmp 41) (.tmp 45) 164 rfl _ _ _ w5 rfl rfl HRUN.out ?_
     refine hK.out _ _ HS5.out fun hHeld=>?_
     clear hK K
     try simp only [Act.put,O]
     refine dW 10 rfl ?_
     refine dW 11 rfl ?_
     refine ac 12 rfl (by kernel_rfl) (fun K hK=>?_)
     have hl:=HR6.out
     have gl:=HF6.out
     try (rw [if_pos];case hc=>rfl)
     go_simp
     clear hl gl
     refine hK.out _ _ HS6.out fun hHeld=>?_
     clear hK K
     refine dN ?_
     go_wp2_with fail
     go_ret
     exact aj.ok HT.out HK6.out (HN0.out.trans (HN1.out.trans (HNL.out.trans (HN2.out.trans ((Nxt.of_below (Below.drew (Below.refl _ _))).trans HN6.out)))))
  ·by_cases h3:op = 3
   ·subst h3
    clear hn2
    have HT:Hid (Bo.block 3 a s = .ok (s.op [] [UInt8.ofNat a])):=J (by unfold Bo.block Bo.ends;rw [if_neg (by decide),if_pos rfl,if_neg ha])
    obtain ⟨ql1,ql2,ql3⟩:=H0.out.lit8 a
    have HXL:Hid ((w0.alloc (.cells #[.int .u8 ((a:Int) % 256)] 5)).heap[X]? = _):=J ((Below.heap_alloc _ _ _ HGX.out.2).trans HX0.out)
    have HGXL:Hid (¬ G X ∧ X < (w0.alloc (.cells #[.int .u8 ((a:Int) % 256)] 5)).heap.size):=J ⟨HGX.out.1,by have:=HGX.out.2;simp;omega⟩
    have HNL:=J ql2
    have HOP:=J (cO ql1 hs (by omega) [] [UInt8.ofNat a] (.slice none 0 0) (.slice (some ⟨w0.heap.size,0,none⟩) 1 1) (aa.nil _ _) ql3 (by simp) (by simp))
    obtain ⟨v0,v1,v2,v3,v4⟩:=cells5 HXL.out
    obtain ⟨_,_,_,_,_,v5⟩:=ql1.cells
    clear ql1 ql2 ql3
    go_upto_region 10 with (go_at_call 98;refine (HOP.out).mono ?_;rintro e w2 ⟨rfl,G2,h2,n2⟩;obtain ⟨hx2,hg2⟩:=Nxt.keep n2 HXL.out HGXL.out;have H2:=J h2;have HN2:=J n2;have HX2:=J hx2;have HGX2:=J hg2;clear h2 n2 hx2 hg2)
    have H2d:=J (H2.out.on (Below.drew (Below.refl _ _)))
    obtain ⟨A6,c6,hpush⟩:=H2d.out.pushO false ho
    obtain ⟨hl6,A5,c5,w5,hrun,hr6,hf6,hkeep,G6,hk6,hn6⟩:=hpush w2.drew (Below.refl _ _)
    have hl7:=(hpush (w2.drew.alloc (.cells #[.bool false] 4)) bA).1
    have HL7:Hid ((w2.alloc (.cells #[.bool false] 4)).drew.cell? ⟨R,6,none⟩ = some (.slice A6 o.length c6)):=J hl7
    have HRUN:=J hrun
    have HL6:=J hl6
    have HR6:=J hr6
    have HF6:=J hf6
    have HK6:=J hk6
    have HN6:=J hn6
    have HS0:Hid (w2.drew.cell? ⟨X,0,none⟩ = some (.int .u8 3)):=J (cells5 HX2.out).1
    have HS1:Hid ((w2.drew.alloc (.cells #[.bool false] 4)).cell? ⟨X,0,none⟩ = some (.int .u8 3)):=J (cells5 ((Below.heap_alloc _ _ _ HGX2.out.2).trans HX2.out)).1
    have HS5:Hid (w5.cell? ⟨X,0,none⟩ = some (.int .u8 3)):=J (cells5 ((hkeep X HGX2.out.2 HGX2.out.1).trans HX2.out)).1
    have HS6:Hid ((w5.setCell ⟨R,6,none⟩ (.slice A5 (o.length + 1) c5)).cell? ⟨X,0,none⟩ = some (.int .u8 3)):=J (cells5 (Nxt.keep hn6 (show w2.drew.heap[X]? = some _ from HX2.out) HGX2.out).1).1
    clear hl6 hl7 hrun hr6 hf6 hkeep hk6 hn6 hpush
    generalize o.length = ol at HRUN HL6 HL7 HR6 HK6 HN6 HS6
    refine wp_region_held_drew (S:=fun W'=>W'.cell? ⟨X,0,none⟩ = some (.int .u8 3)) (by kernel_rfl) (HS0.out) (fun hHeld=>?_)
    refine dW 0 rfl ?_
    refine dW 1 rfl ?_
    refine dW 2 rfl ?_
    refine dW 3 rfl ?_
    refine dW 5 rfl ?_
    refine dW 6 rfl ?_
    refine dW 7 rfl ?_
    refine ai 4 8 rfl rfl (by kernel_rfl) (fun K hK=>?_) (fun K hK=>?_)
    ·have hl:=HL6.out
     try (rw [if_pos];case hc=>rfl)
     go_simp
     clear hl
     refine hK.out _ _ hHeld fun hHeld=>?_
     clear hK K
     refine dA 8 rfl fun K hK=>?_
     go_simp
     refine hK.out _ _ HS1.out fun hHeld=>?_
     clear hK K
     refine dA 9 rfl fun K hK=>?_
     refine am (.tmp 41) (.tmp 45) 164 rfl _ _ _ w5 rfl rfl HRUN.out ?_
     refine hK.out _ _ HS5.out fun hHeld=>?_
     clear hK K
     try simp only [Act.put,O]
     refine dW 10 rfl ?_
     refine dW 11 rfl ?_
     refine ac 12 rfl (by kernel_rfl) (fun K hK=>?_)
     have hl:=HR6.out
     have gl:=HF6.out
     try (rw [if_pos];case hc=>rfl)
     go_simp
     clear hl gl
     refine hK.out _ _ HS6.out fun hHeld=>?_
     clear hK K
     refine dN ?_
     go_wp2_with fail
     go_ret
     exact aj.ok HT.out HK6.out (HN0.out.trans (HNL.out.trans (HN2.out.trans ((Nxt.of_below (Below.drew (Below.refl _ _))).trans HN6.out))))
    ·try (rw [if_pos];case hc=>rfl)
     go_simp
     refine hK.out _ _ HS1.out fun hHeld=>?_
     clear hK K
     refine ac 4 rfl (by kernel_rfl) (fun K hK=>?_)
     have hl:=HL7.out
     try (rw [if_pos];case hc=>rfl)
     go_simp
     clear hl
     refine hK.out _ _ hHeld fun hHeld=>?_
     clear hK K
     refine dA 9 rfl fun K hK=>?_
     refine am (.tmp 41) (.tmp 45) 164 rfl _ _ _ w5 rfl rfl HRUN.out ?_
     refine hK.out _ _ HS5.out fun hHeld=>?_
     clear hK K
     try simp only [Act.put,O]
     refine dW 10 rfl ?_
     refine dW 11 rfl ?_
     refine ac 12 rfl (by kernel_rfl) (fun K hK=>?_)
     have hl:=HR6.out
     have gl:=HF6.out
     try (rw [if_pos];case hc=>rfl)
     go_simp
     clear hl gl
     refine hK.out _ _ HS6.out fun hHeld=>?_
     clear hK K
     refine dN ?_
     go_wp2_with fail
     go_ret
     exact aj.ok HT.out HK6.out (HN0.out.trans (HNL.out.trans (HN2.out.trans ((Nxt.of_below (Below.drew (Below.refl _ _))).trans HN6.out))))
   ·have h4i:¬ ((op:Int) = 4):=by omega
    have h3i:¬ ((op:Int) = 3):=by omega
    have h4b:((op:Int) == 4) = false:=nB (by omega)
    have h4d:decide (op = 4) = false:=decide_eq_false h4
    clear hn2
    have HT:Hid (Bo.block op a s = .ok (s.op [UInt8.ofNat a] [UInt8.ofNat a])):=J (by unfold Bo.block Bo.ends;rw [if_neg h4,if_neg h3,if_neg ha])
    obtain ⟨ql1,ql2,ql3⟩:=H0.out.lit8 a
    have HXL:Hid ((w0.alloc (.cells #[.int .u8 ((a:Int) % 256)] 5)).heap[X]? = _):=J ((Below.heap_alloc _ _ _ HGX.out.2).trans HX0.out)
    have HGXL:Hid (¬ G X ∧ X < (w0.alloc (.cells #[.int .u8 ((a:Int) % 256)] 5)).heap.size):=J ⟨HGX.out.1,by have:=HGX.out.2;simp;omega⟩
    have HNL:=J ql2
    have HOP:=J (cO ql1 hs (by omega) [UInt8.ofNat a] [UInt8.ofNat a] (.slice (some ⟨w0.heap.size,0,none⟩) 1 1) (.slice (some ⟨w0.heap.size,0,none⟩) 1 1) ql3 ql3 (by simp) (by simp))
    obtain ⟨v0,v1,v2,v3,v4⟩:=cells5 HXL.out
    obtain ⟨_,_,_,_,_,v5⟩:=ql1.cells
    clear ql1 ql2 ql3
    go_upto_region 10 with (go_at_call 98;refine (HOP.out).mono ?_;rintro e w2 ⟨rfl,G2,h2,n2⟩;obtain ⟨hx2,hg2⟩:=Nxt.keep n2 HXL.out HGXL.out;have H2:=J h2;have HN2:=J n2;have HX2:=J hx2;have HGX2:=J hg2;clear h2 n2 hx2 hg2)
    have H2d:=J (H2.out.on (Below.drew (Below.refl _ _)))
    obtain ⟨A6,c6,hpush⟩:=H2d.out.pushO false ho
    obtain ⟨hl6,A5,c5,w5,hrun,hr6,hf6,hkeep,G6,hk6,hn6⟩:=hpush w2.drew (Below.refl _ _)
    have hl7:=(hpush (w2.drew.alloc (.cells #[.bool false] 4)) bA).1
    have HL7:Hid ((w2.alloc (.cells #[.bool false] 4)).drew.cell? ⟨R,6,none⟩ = some (.slice A6 o.length c6)):=J hl7
    have HRUN:=J hrun
    have HL6:=J hl6
    have HR6:=J hr6
    have HF6:=J hf6
    have HK6:=J hk6
    have HN6:=J hn6
    have HS0:Hid (w2.drew.cell? ⟨X,0,none⟩ = some (.int .u8 ↑op)):=J (cells5 HX2.out).1
    have HS1:Hid ((w2.drew.alloc (.cells #[.bool false] 4)).cell? ⟨X,0,none⟩ = some (.int .u8 ↑op)):=J (cells5 ((Below.heap_alloc _ _ _ HGX2.out.2).trans HX2.out)).1
    have HS5:Hid (w5.cell? ⟨X,0,none⟩ = some (.int .u8 ↑op)):=J (cells5 ((hkeep X HGX2.out.2 HGX2.out.1).trans HX2.out)).1
    have HS6:Hid ((w5.setCell ⟨R,6,none⟩ (.slice A5 (o.length + 1) c5)).cell? ⟨X,0,none⟩ = some (.int .u8 ↑op)):=J (cells5 (Nxt.keep hn6 (show w2.drew.heap[X]? = some _ from HX2.out) HGX2.out).1).1
    clear hl6 hl7 hrun hr6 hf6 hkeep hk6 hn6 hpush
    generalize o.length = ol at HRUN HL6 HL7 HR6 HK6 HN6 HS6
    refine wp_region_held_drew (S:=fun W'=>W'.cell? ⟨X,0,none⟩ = some (.int .u8 ↑op)) (by kernel_rfl) (HS0.out) (fun hHeld=>?_)
    refine dW 0 rfl ?_
    refine dW 1 rfl ?_
    refine dW 2 rfl ?_
    refine dW 3 rfl ?_
    refine dW 5 rfl ?_
    refine dW 6 rfl ?_
    refine dW 7 rfl ?_
    refine ai 4 8 rfl rfl (by kernel_rfl) (fun K hK=>?_) (fun K hK=>?_)
    ·have hl:=HL6.out
     try (rw [if_pos];case hc=>rfl)
     go_simp
     clear hl
     refine hK.out _ _ hHeld fun hHeld=>?_
     clear hK K
     refine dA 8 rfl fun K hK=>?_
     go_simp
     refine hK.out _ _ HS1.out fun hHeld=>?_
     clear hK K
     refine dA 9 rfl fun K hK=>?_
     refine am (.tmp 41) (.tmp 45) 164 rfl _ _ _ w5 rfl rfl HRUN.out ?_
     refine hK.out _ _ HS5.out fun hHeld=>?_
     clear hK K
     try simp only [Act.put,O]
     refine dW 10 rfl ?_
     refine dW 11 rfl ?_
     refine ac 12 rfl (by kernel_rfl) (fun K hK=>?_)
     have hl:=HR6.out
     have gl:=HF6.out
     try (rw [if_pos];case hc=>rfl)
     go_simp
     clear hl gl
     refine hK.out _ _ HS6.out fun hHeld=>?_
     clear hK K
     refine dN ?_
     go_wp2_with fail
     go_ret
     exact aj.ok HT.out (by rw [h4d];exact HK6.out) (HN0.out.trans (HNL.out.trans (HN2.out.trans ((Nxt.of_below (Below.drew (Below.refl _ _))).trans HN6.out))))
    ·try (rw [if_pos];case hc=>rfl)
     go_simp
     refine hK.out _ _ HS1.out fun hHeld=>?_
     clear hK K
     refine ac 4 rfl (by kernel_rfl) (fun K hK=>?_)
     have hl:=HL7.out
     try (rw [if_pos];case hc=>rfl)
     go_simp
     clear hl
     refine hK.out _ _ hHeld fun hHeld=>?_
     clear hK K
     refine dA 9 rfl fun K hK=>?_
     refine am (.tmp 41) (.tmp 45) 164 rfl _ _ _ w5 rfl rfl HRUN.out ?_
     refine hK.out _ _ HS5.out fun hHeld=>?_
     clear hK K
     try simp only [Act.put,O]
     refine dW 10 rfl ?_
     refine dW 11 rfl ?_
     refine ac 12 rfl (by kernel_rfl) (fun K hK=>?_)
     have hl:=HR6.out
     have gl:=HF6.out
     try (rw [if_pos];case hc=>rfl)
     go_simp
     clear hl gl
     refine hK.out _ _ HS6.out fun hHeld=>?_
     clear hK K
     refine dN ?_
     go_wp2_with fail
     go_ret
     exact aj.ok HT.out (by rw [h4d];exact HK6.out) (HN0.out.trans (HNL.out.trans (HN2.out.trans ((Nxt.of_below (Below.drew (Below.refl _ _))).trans HN6.out))))
theorem bother_any {C:Ctx} {R P n:Nat} {w:World} {G:Nat → Prop} {s:Ty.T} {o:List Bool} (h:Wk C R P w G s o) (hs:s.sm n) (hn:n ≤ 400000000) (op a b:Nat) (c:Int) (A4:Option Addr) (l4 c4:Nat) (i:List Bool) (f:Bool) (hi:o = i ++ [f]) :
  Calls Tryz.prog 100 #[.pointer (some ⟨R,0,none⟩),.agg #[.int .u8 ↑op,.int .u32 ↑a,.int .u32 ↑b,.int .i64 c,.slice A4 l4 c4]] w (aj C R P G (i ++ [false]) w (Bo.other s)):=by
 subst hi
 have HX0:=J (heap_alloc_new w (.cells #[.int .u8 ↑op,.int .u32 ↑a,.int .u32 ↑b,.int .i64 c,.slice A4 l4 c4] 56))
 have HB0:Hid (Below w.heap.size w (w.alloc (.cells #[.int .u8 ↑op,.int .u32 ↑a,.int .u32 ↑b,.int .i64 c,.slice A4 l4 c4] 56))):=J bA
 have H0:=J (h.on HB0.out)
 have HN0:Hid (Nxt G w G (w.alloc (.cells #[.int .u8 ↑op,.int .u32 ↑a,.int .u32 ↑b,.int .i64 c,.slice A4 l4 c4] 56))):=J (Nxt.of_below HB0.out)
 have HGX:Hid (¬ G w.heap.size ∧ w.heap.size < (w.alloc (.cells #[.int .u8 ↑op,.int .u32 ↑a,.int .u32 ↑b,.int .i64 c,.slice A4 l4 c4] 56)).heap.size):=J ⟨fun hg=>Nat.lt_irrefl _ (h.out _ hg).2,by simp⟩
 clear h
 go_enter Tryz.func100,Tryz.ntmps100
 go_upto_region 1 with fail
 generalize (w.alloc (.cells #[.int .u8 ↑op,.int .u32 ↑a,.int .u32 ↑b,.int .i64 c,.slice A4 l4 c4] 56)) = w0 at HX0 HB0 H0 HN0 HGX ⊢
 obtain ⟨X,hX⟩:∃ X,w.heap.size = X:=⟨_,rfl⟩
 rw [hX] at HX0 HGX
 simp only [hX]
 clear hX HB0
 obtain ⟨z0,z1,z2,z3,z4⟩:=cells5 HX0.out
 obtain ⟨q0,q1,q2,q3,q4,q5⟩:=H0.out.cells
 have hcl:=ey H0.out hs (by omega)
 cases hc:s.closeA with
 | none =>
  rw [hc] at hcl
  have HCL:=J hcl
  have HT:Hid (Bo.other s = .error 100):=J (by unfold Bo.other;rw [hc])
  clear hc hcl hs hn
  go_wp2_with (go_at_call 91;refine HCL.out.mono ?_;rintro e w1 ⟨he,G1,h1,n1⟩;obtain rfl:e = .returned (.tuple #[.slice none 0 0,.bool false]):=he;have HN1:=J n1;clear h1 n1)
  go_ret
  exact aj.err HT.out (H0.out.below HN1.out)
 | some ee =>
  rw [hc] at hcl
  have HCL:=J hcl
  have hel:=Bo.closeA_len hs hc
  have HT:Hid (Bo.other s = .ok (s.close.op ee ee)):=J (by unfold Bo.other;rw [hc])
  have HOP:=J (fun W G1 v (hW:Wk C R P W G1 s.close (i ++ [f])) (hv:aa W (· < W.heap.size) ee v)=>wk_openL hW (Ty.sm_close hs) (by omega) ee ee v v hv hv (by omega) (by omega))
  generalize ee.length = el at HCL
  clear hc hcl hs hn hel
  go_upto_region 5 with (first | (go_at_call 91;refine HCL.out.mono ?_;rintro e w1 ⟨⟨A1,c1,rfl,hv⟩,G1,h1,n1⟩;have H1:=J h1;have HN1:=J n1;have HV:=J hv;obtain ⟨_,_,_,_,_,r5⟩:=h1.cells;clear h1 n1 hv) | (go_at_call 98;refine (HOP.out _ _ _ H1.out HV.out).mono ?_;rintro e w2 ⟨rfl,G2,h2,n2⟩;have H2:=J h2;have HN2:=J n2;clear h2 n2))
  obtain ⟨g,c6,hl6,hgR,hfr,hcell,hc1,hc2,hl7,hk6,hn6⟩:=(H2.out.on (Below.drew (Below.refl _ _))).setO false
  have HL6:=J hl6
  have HFR:=J hfr
  have HCE:=J hcell
  have HL7:=J hl7
  have HK6:=J hk6
  have HN6:=J hn6
  clear hl6 hfr hcell hl7 hk6 hn6
  generalize i.length = il at HL6 HFR HCE HL7 HK6 HN6 hc1
  unfold maxLen at hc2
  have hwr:IntKind.i64.wrap (il:Int) = (il:Int):=by simp [IntKind.wrap,IntKind.bits,IntKind.signed];omega
  have hil1:(il:Int) < (il:Int) + 1:=by omega
  have hil0:(0:Int) ≤ (il:Int):=by omega
  refine wp_region_held_drew (S:=fun W'=>W'.cell? ⟨R,6,none⟩ = some (.slice (some ⟨g,0,none⟩) (il + 1) c6)) (by kernel_rfl) (HL6.out) (fun hHeld=>?_)
  refine dW 0 rfl ?_
  refine dW 1 rfl ?_
  refine dW 2 rfl ?_
  refine dW 3 rfl ?_
  refine dW 4 rfl ?_
  refine dW 5 rfl ?_
  refine dW 6 rfl ?_
  refine dW 7 rfl ?_
  refine dW 8 rfl ?_
  refine dW 9 rfl ?_
  refine dW 10 rfl ?_
  refine ac 11 rfl (by kernel_rfl) (fun K hK=>?_)
  have hl:=HCE.out
  have gl:=HFR.out
  try (rw [if_pos];case hc=>rfl)
  go_simp
  clear hl gl
  refine hK.out _ _ HL7.out fun hHeld=>?_
  clear hK K
  refine dN ?_
  go_wp2_with fail
  go_ret
  exact aj.ok HT.out HK6.out (HN0.out.trans (HN1.out.trans (HN2.out.trans ((Nxt.of_below (Below.drew (Below.refl _ _))).trans HN6.out))))
theorem bend_any {C:Ctx} {R P n:Nat} {w:World} {G:Nat → Prop} {s:Ty.T} {o:List Bool} (h:Wk C R P w G s o) (hs:s.sm n) (hn:n ≤ 400000000) (op a b:Nat) (c:Int) (A4:Option Addr) (l4 c4:Nat) (i:List Bool) (f:Bool) (hi:o = i ++ [f]) :
  Calls Tryz.prog 101 #[.pointer (some ⟨R,0,none⟩),.agg #[.int .u8 ↑op,.int .u32 ↑a,.int .u32 ↑b,.int .i64 c,.slice A4 l4 c4]] w (aj C R P G i w (Bo.fin f s)):=by
 subst hi
 have HX0:=J (heap_alloc_new w (.cells #[.int .u8 ↑op,.int .u32 ↑a,.int .u32 ↑b,.int .i64 c,.slice A4 l4 c4] 56))
 have HB0:Hid (Below w.heap.size w (w.alloc (.cells #[.int .u8 ↑op,.int .u32 ↑a,.int .u32 ↑b,.int .i64 c,.slice A4 l4 c4] 56))):=J bA
 have H0:=J (h.on HB0.out)
 have HN0:Hid (Nxt G w G (w.alloc (.cells #[.int .u8 ↑op,.int .u32 ↑a,.int .u32 ↑b,.int .i64 c,.slice A4 l4 c4] 56))):=J (Nxt.of_below HB0.out)
 have HGX:Hid (¬ G w.heap.size ∧ w.heap.size < (w.alloc (.cells #[.int .u8 ↑op,.int .u32 ↑a,.int .u32 ↑b,.int .i64 c,.slice A4 l4 c4] 56)).heap.size):=J ⟨fun hg=>Nat.lt_irrefl _ (h.out _ hg).2,by simp⟩
 clear h
 go_enter Tryz.func101,Tryz.ntmps101
 go_upto_region 1 with fail
 generalize (w.alloc (.cells #[.int .u8 ↑op,.int .u32 ↑a,.int .u32 ↑b,.int .i64 c,.slice A4 l4 c4] 56)) = w0 at HX0 HB0 H0 HN0 HGX ⊢
 obtain ⟨X,hX⟩:∃ X,w.heap.size = X:=⟨_,rfl⟩
 rw [hX] at HX0 HGX
 simp only [hX]
 clear hX HB0
 obtain ⟨z0,z1,z2,z3,z4⟩:=cells5 HX0.out
 obtain ⟨q0,q1,q2,q3,q4,q5⟩:=H0.out.cells
 obtain ⟨g,c6,hl6,hfr,hcell,hc1,hc2,hk6,hn6⟩:=H0.out.cutO
 have HKC:=J hk6
 have HNC:=J hn6
 have hfix:Hid ((w0.setCell ⟨R,6,none⟩ (.slice (some ⟨g,0,none⟩) i.length c6)).cell? ⟨R,5,none⟩ = some (.pointer (some ⟨P,0,none⟩))):=J hk6.cells.2.2.2.2.2
 have hcl:=ey HKC.out hs (by omega)
 clear hk6 hn6
 unfold maxLen at hc2
 obtain ⟨il,hil⟩:∃ il,i.length = il:=⟨_,rfl⟩
 simp only [hil] at hl6 hcell hc1 hfix hcl HKC HNC
 clear hil
 have hc3:il ≤ c6:=by omega
 have hc4:(il:Int) ≤ (c6:Int):=by omega
 go_upto_region 4 with fail
 clear hl6 hcell hfr z0 z1 z2 z3 z4 q0 q1 q2 q3 q4 q5
 generalize w0.setCell ⟨R,6,none⟩ (.slice (some ⟨g,0,none⟩) il c6) = wc at HKC HNC hfix hcl ⊢
 have q5:=hfix.out
 clear hfix
 cases hc:s.closeA with
 | none =>
  rw [hc] at hcl
  have HCL:=J hcl
  have HT:Hid (Bo.fin f s = .error 100):=J (by unfold Bo.fin;rw [hc])
  clear hc hcl hs hn
  go_wp2_with (go_at_call 91;refine HCL.out.mono ?_;rintro e w1 ⟨he,G1,h1,n1⟩;obtain rfl:e = .returned (.tuple #[.slice none 0 0,.bool false]):=he;have HN1:=J n1;clear h1 n1)
  go_ret
  exact aj.err HT.out (HKC.out.below HN1.out)
 | some ee =>
  rw [hc] at hcl
  have HCL:=J hcl
  have hel:=Bo.closeA_len hs hc
  cases f with
  | false =>
   have HT:Hid (Bo.fin false s = .ok (s.close.push ee)):=J (by unfold Bo.fin;rw [hc];rfl)
   have HPU:=J (fun W G1 v (hW:Wk C R P W G1 s.close i) (hv:aa W (· < W.heap.size) ee v)=>wk_pushL hW (Ty.sm_close hs) (by omega) ee v hv (by omega))
   generalize ee.length = el at HCL
   clear hc hcl hs hn hel
   go_wp2_with (first | (go_at_call 91;refine HCL.out.mono ?_;rintro e w1 ⟨⟨A1,c1,rfl,hv⟩,G1,h1,n1⟩;have H1:=J h1;have HN1:=J n1;have HV:=J hv;obtain ⟨_,_,_,_,_,r5⟩:=h1.cells;clear h1 n1 hv) | (go_at_call 131;refine (HPU.out _ _ _ H1.out HV.out).mono ?_;rintro e w2 ⟨rfl,G2,h2,n2⟩;have H2:=J h2;have HN2:=J n2;clear h2 n2))
   go_ret
   exact aj.ok HT.out H2.out (HN0.out.trans (HNC.out.trans (HN1.out.trans HN2.out)))
  | true =>
   cases ee with
   | nil =>
    have HCL:Hid (Calls Tryz.prog 91 #[.pointer (some ⟨P,0,none⟩)] wc fun e w'=>(∃ A1 c1,e = .returned (.tuple #[.slice A1 0 c1,.bool true]) ∧ aa w' (· < w'.heap.size) ([]:List UInt8) (.slice A1 0 c1)) ∧ ∃ G',Wk C R P w' G' s.close i ∧ Nxt G wc G' w'):=HCL
    have HT:Hid (Bo.fin true s = .ok (s.close.push ([]))):=J (by unfold Bo.fin;rw [hc];rfl)
    have HPU:=J (fun W G1 v (hW:Wk C R P W G1 s.close i) (hv:aa W (· < W.heap.size) ([]) v)=>wk_pushL hW (Ty.sm_close hs) (by omega) ([]) v hv (by omega))
    clear hc hcl hs hn hel
    go_wp2_with (first | (go_at_call 91;refine HCL.out.mono ?_;rintro e w1 ⟨⟨A1,c1,rfl,hv⟩,G1,h1,n1⟩;have H1:=J h1;have HN1:=J n1;have HV:=J hv;obtain ⟨_,_,_,_,_,r5⟩:=h1.cells;clear h1 n1 hv) | (go_at_call 131;refine (HPU.out _ _ _ H1.out HV.out).mono ?_;rintro e w2 ⟨rfl,G2,h2,n2⟩;have H2:=J h2;have HN2:=J n2;clear h2 n2))
    go_ret
    exact aj.ok HT.out H2.out (HN0.out.trans (HNC.out.trans (HN1.out.trans HN2.out)))
   | cons x xs =>
    have HT:Hid (Bo.fin true s = .error 100):=J (by unfold Bo.fin;rw [hc];rfl)
    clear hc hcl hs hn hel
    have HCL:Hid (Calls Tryz.prog 91 #[.pointer (some ⟨P,0,none⟩)] wc fun e w'=>(∃ A1 c1,e = .returned (.tuple #[.slice A1 (xs.length + 1) c1,.bool true]) ∧ aa w' (· < w'.heap.size) (x :: xs) (.slice A1 (xs.length + 1) c1)) ∧ ∃ G',Wk C R P w' G' s.close i ∧ Nxt G wc G' w'):=HCL
    generalize xs.length = el at HCL
    have hpos:(0:Int) < ((el:Int) + 1):=by omega
    go_wp2_with (go_at_call 91;refine HCL.out.mono ?_;rintro e w1 ⟨⟨A1,c1,rfl,hv⟩,G1,h1,n1⟩;have H1:=J h1;have HN1:=J n1;have HV:=J hv;obtain ⟨_,_,_,_,_,r5⟩:=h1.cells;clear h1 n1 hv)
    go_ret
    exact aj.err HT.out (HKC.out.below HN1.out)
end Go.Proofs.YtmpelmihdpomjaaGreat
