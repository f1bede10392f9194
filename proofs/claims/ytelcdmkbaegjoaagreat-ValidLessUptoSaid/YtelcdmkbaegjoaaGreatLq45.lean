/-
  Layer 10's program: block, loop and if; else; end. (gen/body/meth5.py)
-/
import Derived.Test.YtelcdmkbaegjoaaGreatLq01
import Derived.Test.YtelcdmkbaegjoaaGreatLq44
set_option maxRecDepth 100000
set_option maxHeartbeats 4000000
namespace Go.Proofs.YtelcdmkbaegjoaaGreat
open Go.RowKit Ins Bin Sp
theorem Bo.closeA_len {s : Ty.T} {n : Nat} {e : List UInt8} (h : s.sm n) (hc : s.closeA = some e) : e.length ≤ n := by
 obtain ⟨i, f, k, hf, _, _, rfl, _⟩ := Bo.closeA_some hc
 exact (h.2.2.2 f (by rw [hf]; simp)).2
theorem Wk.lit8 {C : Ctx} {R P : Nat} {w : World} {G : Nat → Prop} {s : Ty.T} {o : List Bool} (h : Wk C R P w G s o) (a : Nat) : Wk C R P (w.alloc (.cells #[.int .u8 ((a : Int) % 256)] 5)) G s o ∧ Nxt G w G (w.alloc (.cells #[.int .u8 ((a : Int) % 256)] 5)) ∧ ab (w.alloc (.cells #[.int .u8 ((a : Int) % 256)] 5)) (Apt (w.alloc (.cells #[.int .u8 ((a : Int) % 256)] 5)) G) [UInt8.ofNat a] (.slice (some ⟨w.heap.size, 0, none⟩) 1 1) := by
 have e : ((UInt8.ofNat a).toNat : Int) = (a : Int) % 256 := by rw [UInt8.toNat_ofNat']; omega
 rw [← e]
 exact h.lit (UInt8.ofNat a)
theorem cw {C : Ctx} {R P n : Nat} {w : World} {G : Nat → Prop} {s : Ty.T} {o : List Bool} (h : Wk C R P w G s o) (hs : s.sm n) (hn : n ≤ 400000000) (op a b : Nat) (c : Int) (A4 : Option Addr) (l4 c4 : Nat) (ho : o.length ≤ 2000000) :
  Calls Tryz.prog 71 #[.pointer (some ⟨R, 0, none⟩), .agg #[.int .u8 (op : Int), .int .u32 (a : Int), .int .u32 (b : Int), .int .i64 c, .slice A4 l4 c4]] w (ak C R P G (o ++ [decide (op = 4)]) w (Bo.block op a s)) := by
 have HX0 := J (heap_alloc_new w (.cells #[.int .u8 (op : Int), .int .u32 (a : Int), .int .u32 (b : Int), .int .i64 c, .slice A4 l4 c4] 57))
 have HB0 : Hid (Below w.heap.size w (w.alloc (.cells #[.int .u8 (op : Int), .int .u32 (a : Int), .int .u32 (b : Int), .int .i64 c, .slice A4 l4 c4] 57))) := J ((Below.refl _ _).alloc (Nat.le_refl _) _)
 have H0 := J (h.on HB0.out)
 have HN0 : Hid (Nxt G w G (w.alloc (.cells #[.int .u8 (op : Int), .int .u32 (a : Int), .int .u32 (b : Int), .int .i64 c, .slice A4 l4 c4] 57))) := J (Nxt.of_below HB0.out)
 have HGX : Hid (¬ G w.heap.size ∧ w.heap.size < (w.alloc (.cells #[.int .u8 (op : Int), .int .u32 (a : Int), .int .u32 (b : Int), .int .i64 c, .slice A4 l4 c4] 57)).heap.size) := J ⟨fun hg => Nat.lt_irrefl _ (h.out _ hg).2, by simp⟩
 have hn2 : ∀ s1 : Ty.T, s1.sm n → s1.sm n := fun _ h => h
 clear h
 go_enter Tryz.func71, Tryz.ntmps71
 go_upto_region 1 with fail
 generalize (w.alloc (.cells #[.int .u8 (op : Int), .int .u32 (a : Int), .int .u32 (b : Int), .int .i64 c, .slice A4 l4 c4] 57)) = w0 at HX0 HB0 H0 HN0 HGX ⊢
 obtain ⟨X, hX⟩ : ∃ X, w.heap.size = X := ⟨_, rfl⟩
 rw [hX] at HX0 HGX
 simp only [hX]
 clear hX HB0
 obtain ⟨z0, z1, z2, z3, z4⟩ := cells5 HX0.out
 obtain ⟨q0, q1, q2, q3, q4, q5⟩ := H0.out.cells
 by_cases ha : a = 64
 ·subst ha
  by_cases h4 : op = 4
  ·subst h4
   clear hn2
   have hwa := H0.out.i32 hs (by omega)
   cases hw : s.wantA [127] with
   | false =>
    rw [hw] at hwa
    have HWA := J hwa
    have HT : Hid (Bo.block 4 64 s = .error 100) := J (by unfold Bo.block; rw [if_pos rfl, hw]; rfl)
    clear hw hwa hs hn ho
    go_wp2_with (go_at_call 104; refine HWA.out.mono ?_; rintro e w1 ⟨rfl, G1, h1, n1⟩; have HN1 := J n1; clear h1 n1)
    go_ret
    exact ak.err HT.out (H0.out.below HN1.out)
   | true =>
    rw [hw] at hwa
    have HWA := J hwa
    have HT : Hid (Bo.block 4 64 s = .ok ((s.want [127]).op [] [])) := J (by unfold Bo.block Bo.ends; rw [if_pos rfl, hw]; rw [if_pos rfl, if_pos rfl])
    clear hw hwa
    go_upto_region 10 with (first | (go_at_call 104; refine HWA.out.mono ?_; rintro e w1 ⟨rfl, G1, h1, n1⟩; have H1 := J h1; have HN1 := J n1; obtain ⟨_, _, _, _, _, r5⟩ := h1.cells; obtain ⟨hx1, hg1⟩ := Nxt.keep n1 HX0.out HGX.out; obtain ⟨x0, x1, x2, x3, x4⟩ := cells5 hx1; have HX1 := J hx1; have HGX1 := J hg1; have HXL := HX1; have HGXL := HGX1; have HOP := J (ck H1.out (Ty.sm_want hs _) (by omega) [] [] (.slice none 0 0) (.slice none 0 0) (ab.nil _ _) (ab.nil _ _) (by simp) (by simp)); have HNL := J (Nxt.refl G1 w1); clear h1 n1 hx1 hg1) | (go_at_call 70; refine (HOP.out).mono ?_; rintro e w2 ⟨rfl, G2, h2, n2⟩; obtain ⟨hx2, hg2⟩ := Nxt.keep n2 HXL.out HGXL.out; have H2 := J h2; have HN2 := J n2; have HX2 := J hx2; have HGX2 := J hg2; clear h2 n2 hx2 hg2))
    have H2d := J (H2.out.on (Below.drew (Below.refl _ _)))
    obtain ⟨A6, c6, hpush⟩ := H2d.out.pushO true ho
    obtain ⟨hl6, A5, c5, w5, hrun, hr6, hf6, hkeep, G6, hk6, hn6⟩ := hpush w2.drew (Below.refl _ _)
    have hl7 := (hpush (w2.drew.alloc (.cells #[.bool true] 4)) ((Below.refl _ _).alloc (Nat.le_refl _) _)).1
    have HL7 : Hid ((w2.alloc (.cells #[.bool true] 4)).drew.cell? ⟨R, 6, none⟩ = some (.slice A6 o.length c6)) := J hl7
    have HRUN := J hrun
    have HL6 := J hl6
    have HR6 := J hr6
    have HF6 := J hf6
    have HK6 := J hk6
    have HN6 := J hn6
    have HS0 : Hid (w2.drew.cell? ⟨X, 0, none⟩ = some (.int .u8 4)) := J (cells5 HX2.out).1
    have HS1 : Hid ((w2.drew.alloc (.cells #[.bool true] 4)).cell? ⟨X, 0, none⟩ = some (.int .u8 4)) := J (cells5 ((Below.heap_alloc _ _ _ HGX2.out.2).trans HX2.out)).1
    have HS5 : Hid (w5.cell? ⟨X, 0, none⟩ = some (.int .u8 4)) := J (cells5 ((hkeep X HGX2.out.2 HGX2.out.1).trans HX2.out)).1
    have HS6 : Hid ((w5.setCell ⟨R, 6, none⟩ (.slice A5 (o.length + 1) c5)).cell? ⟨X, 0, none⟩ = some (.int .u8 4)) := J (cells5 (Nxt.keep hn6 (show w2.drew.heap[X]? = some _ from HX2.out) HGX2.out).1).1
    clear hl6 hl7 hrun hr6 hf6 hkeep hk6 hn6 hpush
    generalize o.length = ol at HRUN HL6 HL7 HR6 HK6 HN6 HS6
    refine wp_region_held_drew (S := fun W' => W'.cell? ⟨X, 0, none⟩ = some (.int .u8 4)) (by kernel_rfl) (HS0.out) (fun hHeld => ?_)
    refine dv 0 rfl ?_
    refine dv 1 rfl ?_
    refine dv 2 rfl ?_
    refine dv 3 rfl ?_
    refine dv 5 rfl ?_
    refine dv 6 rfl ?_
    refine dv 7 rfl ?_
    refine ah 4 8 rfl rfl (by kernel_rfl) (fun K hK => ?_) (fun K hK => ?_)
    ·have hl := HL6.out
     try (rw [if_pos]; case hc => rfl)
     go_simp
     clear hl
     refine hK.out _ _ hHeld (fun hHeld2 => ?_)
     clear hK K hHeld
     have hHeld := hHeld2
     clear hHeld2
     refine aa 8 rfl (by kernel_rfl) (fun K hK => ?_)
     try (rw [if_pos]; case hc => rfl)
     go_simp
     refine hK.out _ _ HS1.out (fun hHeld2 => ?_)
     clear hK K hHeld
     have hHeld := hHeld2
     clear hHeld2
     refine aa 9 rfl (by kernel_rfl) (fun K hK => ?_)
     rw [if_pos]
     case hc => rfl
     refine ai (.tmp 41) (.tmp 45) 117 rfl _ _ _ w5 rfl rfl HRUN.out ?_
     refine hK.out _ _ HS5.out (fun hHeld2 => ?_)
     clear hK K hHeld
     have hHeld := hHeld2
     clear hHeld2
     try simp only [Act.put, O]
     refine dv 10 rfl ?_
     refine dv 11 rfl ?_
     refine aa 12 rfl (by kernel_rfl) (fun K hK => ?_)
     have hl := HR6.out
     have gl := HF6.out
     try (rw [if_pos]; case hc => rfl)
     go_simp
     clear hl gl
     refine hK.out _ _ HS6.out (fun hHeld2 => ?_)
     clear hK K hHeld
     have hHeld := hHeld2
     clear hHeld2
     refine wpAnyH_done (by kernel_rfl) ?_ _
     go_wp2_with fail
     go_ret
     exact ak.ok HT.out HK6.out (HN0.out.trans (HN1.out.trans (HNL.out.trans (HN2.out.trans ((Nxt.of_below (Below.drew (Below.refl _ _))).trans HN6.out)))))
    ·try (rw [if_pos]; case hc => rfl)
     go_simp
     refine hK.out _ _ HS1.out (fun hHeld2 => ?_)
     clear hK K hHeld
     have hHeld := hHeld2
     clear hHeld2
     refine aa 4 rfl (by kernel_rfl) (fun K hK => ?_)
     have hl := HL7.out
     try (rw [if_pos]; case hc => rfl)
     go_simp
     clear hl
     refine hK.out _ _ hHeld (fun hHeld2 => ?_)
     clear hK K hHeld
     have hHeld := hHeld2
     clear hHeld2
     refine aa 9 rfl (by kernel_rfl) (fun K hK => ?_)
     rw [if_pos]
     case hc => rfl
     refine ai (.tmp 41) (.tmp 45) 117 rfl _ _ _ w5 rfl rfl HRUN.out ?_
     refine hK.out _ _ HS5.out (fun hHeld2 => ?_)
     clear hK K hHeld
     have hHeld := hHeld2
     clear hHeld2
     try simp only [Act.put, O]
     refine dv 10 rfl ?_
     refine dv 11 rfl ?_
     refine aa 12 rfl (by kernel_rfl) (fun K hK => ?_)
     have hl := HR6.out
     have gl := HF6.out
     try (rw [if_pos]; case hc => rfl)
     go_simp
     clear hl gl
     refine hK.out _ _ HS6.out (fun hHeld2 => ?_)
     clear hK K hHeld
     have hHeld := hHeld2
     clear hHeld2
     refine wpAnyH_done (by kernel_rfl) ?_ _
     go_wp2_with fail
     go_ret
     exact ak.ok HT.out HK6.out (HN0.out.trans (HN1.out.trans (HNL.out.trans (HN2.out.trans ((Nxt.of_below (Below.drew (Below.refl _ _))).trans HN6.out)))))
  ·by_cases h3 : op = 3
   ·subst h3
    clear hn2
    have HT : Hid (Bo.block 3 64 s = .ok (s.op [] [])) := J (by unfold Bo.block Bo.ends; rw [if_neg (by decide), if_pos rfl, if_pos rfl])
    have HXL := HX0
    have HGXL := HGX
    have HOP := J (ck H0.out hs (by omega) [] [] (.slice none 0 0) (.slice none 0 0) (ab.nil _ _) (ab.nil _ _) (by simp) (by simp))
    have HNL := J (Nxt.refl G w0)
    go_upto_region 10 with (go_at_call 70; refine (HOP.out).mono ?_; rintro e w2 ⟨rfl, G2, h2, n2⟩; obtain ⟨hx2, hg2⟩ := Nxt.keep n2 HXL.out HGXL.out; have H2 := J h2; have HN2 := J n2; have HX2 := J hx2; have HGX2 := J hg2; clear h2 n2 hx2 hg2)
    have H2d := J (H2.out.on (Below.drew (Below.refl _ _)))
    obtain ⟨A6, c6, hpush⟩ := H2d.out.pushO false ho
    obtain ⟨hl6, A5, c5, w5, hrun, hr6, hf6, hkeep, G6, hk6, hn6⟩ := hpush w2.drew (Below.refl _ _)
    have hl7 := (hpush (w2.drew.alloc (.cells #[.bool false] 4)) ((Below.refl _ _).alloc (Nat.le_refl _) _)).1
    have HL7 : Hid ((w2.alloc (.cells #[.bool false] 4)).drew.cell? ⟨R, 6, none⟩ = some (.slice A6 o.length c6)) := J hl7
    have HRUN := J hrun
    have HL6 := J hl6
    have HR6 := J hr6
    have HF6 := J hf6
    have HK6 := J hk6
    have HN6 := J hn6
    have HS0 : Hid (w2.drew.cell? ⟨X, 0, none⟩ = some (.int .u8 3)) := J (cells5 HX2.out).1
    have HS1 : Hid ((w2.drew.alloc (.cells #[.bool false] 4)).cell? ⟨X, 0, none⟩ = some (.int .u8 3)) := J (cells5 ((Below.heap_alloc _ _ _ HGX2.out.2).trans HX2.out)).1
    have HS5 : Hid (w5.cell? ⟨X, 0, none⟩ = some (.int .u8 3)) := J (cells5 ((hkeep X HGX2.out.2 HGX2.out.1).trans HX2.out)).1
    have HS6 : Hid ((w5.setCell ⟨R, 6, none⟩ (.slice A5 (o.length + 1) c5)).cell? ⟨X, 0, none⟩ = some (.int .u8 3)) := J (cells5 (Nxt.keep hn6 (show w2.drew.heap[X]? = some _ from HX2.out) HGX2.out).1).1
    clear hl6 hl7 hrun hr6 hf6 hkeep hk6 hn6 hpush
    generalize o.length = ol at HRUN HL6 HL7 HR6 HK6 HN6 HS6
    refine wp_region_held_drew (S := fun W' => W'.cell? ⟨X, 0, none⟩ = some (.int .u8 3)) (by kernel_rfl) (HS0.out) (fun hHeld => ?_)
    refine dv 0 rfl ?_
    refine dv 1 rfl ?_
    refine dv 2 rfl ?_
    refine dv 3 rfl ?_
    refine dv 5 rfl ?_
    refine dv 6 rfl ?_
    refine dv 7 rfl ?_
    refine ah 4 8 rfl rfl (by kernel_rfl) (fun K hK => ?_) (fun K hK => ?_)
    ·have hl := HL6.out
     try (rw [if_pos]; case hc => rfl)
     go_simp
     clear hl
     refine hK.out _ _ hHeld (fun hHeld2 => ?_)
     clear hK K hHeld
     have hHeld := hHeld2
     clear hHeld2
     refine aa 8 rfl (by kernel_rfl) (fun K hK => ?_)
     try (rw [if_pos]; case hc => rfl)
     go_simp
     refine hK.out _ _ HS1.out (fun hHeld2 => ?_)
     clear hK K hHeld
     have hHeld := hHeld2
     clear hHeld2
     refine aa 9 rfl (by kernel_rfl) (fun K hK => ?_)
     rw [if_pos]
     case hc => rfl
     refine ai (.tmp 41) (.tmp 45) 117 rfl _ _ _ w5 rfl rfl HRUN.out ?_
     refine hK.out _ _ HS5.out (fun hHeld2 => ?_)
     clear hK K hHeld
     have hHeld := hHeld2
     clear hHeld2
     try simp only [Act.put, O]
     refine dv 10 rfl ?_
     refine dv 11 rfl ?_
     refine aa 12 rfl (by kernel_rfl) (fun K hK => ?_)
     have hl := HR6.out
     have gl := HF6.out
     try (rw [if_pos]; case hc => rfl)
     go_simp
     clear hl gl
     refine hK.out _ _ HS6.out (fun hHeld2 => ?_)
     clear hK K hHeld
     have hHeld := hHeld2
     clear hHeld2
     refine wpAnyH_done (by kernel_rfl) ?_ _
     go_wp2_with fail
     go_ret
     exact ak.ok HT.out HK6.out (HN0.out.trans (HNL.out.trans (HN2.out.trans ((Nxt.of_below (Below.drew (Below.refl _ _))).trans HN6.out))))
    ·try (rw [if_pos]; case hc => rfl)
     go_simp
     refine hK.out _ _ HS1.out (fun hHeld2 => ?_)
     clear hK K hHeld
     have hHeld := hHeld2
     clear hHeld2
     refine aa 4 rfl (by kernel_rfl) (fun K hK => ?_)
     have hl := HL7.out
     try (rw [if_pos]; case hc => rfl)
     go_simp
     clear hl
     refine hK.out _ _ hHeld (fun hHeld2 => ?_)
     clear hK K hHeld
     have hHeld := hHeld2
     clear hHeld2
     refine aa 9 rfl (by kernel_rfl) (fun K hK => ?_)
     rw [if_pos]
     case hc => rfl
     refine ai (.tmp 41) (.tmp 45) 117 rfl _ _ _ w5 rfl rfl HRUN.out ?_
     refine hK.out _ _ HS5.out (fun hHeld2 => ?_)
     clear hK K hHeld
     have hHeld := hHeld2
     clear hHeld2
     try simp only [Act.put, O]
     refine dv 10 rfl ?_
     refine dv 11 rfl ?_
     refine aa 12 rfl (by kernel_rfl) (fun K hK => ?_)
     have hl := HR6.out
     have gl := HF6.out
     try (rw [if_pos]; case hc => rfl)
     go_simp
     clear hl gl
     refine hK.out _ _ HS6.out (fun hHeld2 => ?_)
     clear hK K hHeld
     have hHeld := hHeld2
     clear hHeld2
     refine wpAnyH_done (by kernel_rfl) ?_ _
     go_wp2_with fail
     go_ret
     exact ak.ok HT.out HK6.out (HN0.out.trans (HNL.out.trans (HN2.out.trans ((Nxt.of_below (Below.drew (Below.refl _ _))).trans HN6.out))))
   ·have h4i : ¬ ((op : Int) = 4) := by omega
    have h3i : ¬ ((op : Int) = 3) := by omega
    have h4b : ((op : Int) == 4) = false := by rw [beq_eq_false_iff_ne]; omega
    have h4d : decide (op = 4) = false := decide_eq_false h4
    clear hn2
    have HT : Hid (Bo.block op 64 s = .ok (s.op [] [])) := J (by unfold Bo.block Bo.ends; rw [if_neg h4, if_neg h3, if_pos rfl])
    have HXL := HX0
    have HGXL := HGX
    have HOP := J (ck H0.out hs (by omega) [] [] (.slice none 0 0) (.slice none 0 0) (ab.nil _ _) (ab.nil _ _) (by simp) (by simp))
    have HNL := J (Nxt.refl G w0)
    go_upto_region 10 with (go_at_call 70; refine (HOP.out).mono ?_; rintro e w2 ⟨rfl, G2, h2, n2⟩; obtain ⟨hx2, hg2⟩ := Nxt.keep n2 HXL.out HGXL.out; have H2 := J h2; have HN2 := J n2; have HX2 := J hx2; have HGX2 := J hg2; clear h2 n2 hx2 hg2)
    have H2d := J (H2.out.on (Below.drew (Below.refl _ _)))
    obtain ⟨A6, c6, hpush⟩ := H2d.out.pushO false ho
    obtain ⟨hl6, A5, c5, w5, hrun, hr6, hf6, hkeep, G6, hk6, hn6⟩ := hpush w2.drew (Below.refl _ _)
    have hl7 := (hpush (w2.drew.alloc (.cells #[.bool false] 4)) ((Below.refl _ _).alloc (Nat.le_refl _) _)).1
    have HL7 : Hid ((w2.alloc (.cells #[.bool false] 4)).drew.cell? ⟨R, 6, none⟩ = some (.slice A6 o.length c6)) := J hl7
    have HRUN := J hrun
    have HL6 := J hl6
    have HR6 := J hr6
    have HF6 := J hf6
    have HK6 := J hk6
    have HN6 := J hn6
    have HS0 : Hid (w2.drew.cell? ⟨X, 0, none⟩ = some (.int .u8 (op : Int))) := J (cells5 HX2.out).1
    have HS1 : Hid ((w2.drew.alloc (.cells #[.bool false] 4)).cell? ⟨X, 0, none⟩ = some (.int .u8 (op : Int))) := J (cells5 ((Below.heap_alloc _ _ _ HGX2.out.2).trans HX2.out)).1
    have HS5 : Hid (w5.cell? ⟨X, 0, none⟩ = some (.int .u8 (op : Int))) := J (cells5 ((hkeep X HGX2.out.2 HGX2.out.1).trans HX2.out)).1
    have HS6 : Hid ((w5.setCell ⟨R, 6, none⟩ (.slice A5 (o.length + 1) c5)).cell? ⟨X, 0, none⟩ = some (.int .u8 (op : Int))) := J (cells5 (Nxt.keep hn6 (show w2.drew.heap[X]? = some _ from HX2.out) HGX2.out).1).1
    clear hl6 hl7 hrun hr6 hf6 hkeep hk6 hn6 hpush
    generalize o.length = ol at HRUN HL6 HL7 HR6 HK6 HN6 HS6
    refine wp_region_held_drew (S := fun W' => W'.cell? ⟨X, 0, none⟩ = some (.int .u8 (op : Int))) (by kernel_rfl) (HS0.out) (fun hHeld => ?_)
    refine dv 0 rfl ?_
    refine dv 1 rfl ?_
    refine dv 2 rfl ?_
    refine dv 3 rfl ?_
    refine dv 5 rfl ?_
    refine dv 6 rfl ?_
    refine dv 7 rfl ?_
    refine ah 4 8 rfl rfl (by kernel_rfl) (fun K hK => ?_) (fun K hK => ?_)
    ·have hl := HL6.out
     try (rw [if_pos]; case hc => rfl)
     go_simp
     clear hl
     refine hK.out _ _ hHeld (fun hHeld2 => ?_)
     clear hK K hHeld
     have hHeld := hHeld2
     clear hHeld2
     refine aa 8 rfl (by kernel_rfl) (fun K hK => ?_)
     try (rw [if_pos]; case hc => rfl)
     go_simp
     refine hK.out _ _ HS1.out (fun hHeld2 => ?_)
     clear hK K hHeld
     have hHeld := hHeld2
     clear hHeld2
     refine aa 9 rfl (by kernel_rfl) (fun K hK => ?_)
     rw [if_pos]
     case hc => rfl
     refine ai (.tmp 41) (.tmp 45) 117 rfl _ _ _ w5 rfl rfl HRUN.out ?_
     refine hK.out _ _ HS5.out (fun hHeld2 => ?_)
     clear hK K hHeld
     have hHeld := hHeld2
     clear hHeld2
     try simp only [Act.put, O]
     refine dv 10 rfl ?_
     refine dv 11 rfl ?_
     refine aa 12 rfl (by kernel_rfl) (fun K hK => ?_)
     have hl := HR6.out
     have gl := HF6.out
     try (rw [if_pos]; case hc => rfl)
     go_simp
     clear hl gl
     refine hK.out _ _ HS6.out (fun hHeld2 => ?_)
     clear hK K hHeld
     have hHeld := hHeld2
     clear hHeld2
     refine wpAnyH_done (by kernel_rfl) ?_ _
     go_wp2_with fail
     go_ret
     exact ak.ok HT.out (by rw [h4d]; exact HK6.out) (HN0.out.trans (HNL.out.trans (HN2.out.trans ((Nxt.of_below (Below.drew (Below.refl _ _))).trans HN6.out))))
    ·try (rw [if_pos]; case hc => rfl)
     go_simp
     refine hK.out _ _ HS1.out (fun hHeld2 => ?_)
     clear hK K hHeld
     have hHeld := hHeld2
     clear hHeld2
     refine aa 4 rfl (by kernel_rfl) (fun K hK => ?_)
     have hl := HL7.out
     try (rw [if_pos]; case hc => rfl)
     go_simp
     clear hl
     refine hK.out _ _ hHeld (fun hHeld2 => ?_)
     clear hK K hHeld
     have hHeld := hHeld2
     clear hHeld2
     refine aa 9 rfl (by kernel_rfl) (fun K hK => ?_)
     rw [if_pos]
     case hc => rfl
     refine ai (.tmp 41) (.tmp 45) 117 rfl _ _ _ w5 rfl rfl HRUN.out ?_
     refine hK.out _ _ HS5.out (fun hHeld2 => ?_)
     clear hK K hHeld
     have hHeld := hHeld2
     clear hHeld2
     try simp only [Act.put, O]
     refine dv 10 rfl ?_
     refine dv 11 rfl ?_
     refine aa 12 rfl (by kernel_rfl) (fun K hK => ?_)
     have hl := HR6.out
     have gl := HF6.out
     try (rw [if_pos]; case hc => rfl)
     go_simp
     clear hl gl
     refine hK.out _ _ HS6.out (fun hHeld2 => ?_)
     clear hK K hHeld
     have hHeld := hHeld2
     clear hHeld2
     refine wpAnyH_done (by kernel_rfl) ?_ _
     go_wp2_with fail
     go_ret
     exact ak.ok HT.out (by rw [h4d]; exact HK6.out) (HN0.out.trans (HNL.out.trans (HN2.out.trans ((Nxt.of_below (Below.drew (Below.refl _ _))).trans HN6.out))))
 ·have hai : ¬ ((a : Int) = 64) := by omega
  by_cases h4 : op = 4
  ·subst h4
   clear hn2
   have hwa := H0.out.i32 hs (by omega)
   cases hw : s.wantA [127] with
   | false =>
    rw [hw] at hwa
    have HWA := J hwa
    have HT : Hid (Bo.block 4 a s = .error 100) := J (by unfold Bo.block; rw [if_pos rfl, hw]; rfl)
    clear hw hwa hs hn ho
    go_wp2_with (go_at_call 104; refine HWA.out.mono ?_; rintro e w1 ⟨rfl, G1, h1, n1⟩; have HN1 := J n1; clear h1 n1)
    go_ret
    exact ak.err HT.out (H0.out.below HN1.out)
   | true =>
    rw [hw] at hwa
    have HWA := J hwa
    have HT : Hid (Bo.block 4 a s = .ok ((s.want [127]).op [UInt8.ofNat a] [UInt8.ofNat a])) := J (by unfold Bo.block Bo.ends; rw [if_pos rfl, hw]; rw [if_pos rfl, if_neg ha])
    clear hw hwa
    go_upto_region 10 with (first | (go_at_call 104; refine HWA.out.mono ?_; rintro e w1 ⟨rfl, G1, h1, n1⟩; have H1 := J h1; have HN1 := J n1; obtain ⟨_, _, _, _, _, r5⟩ := h1.cells; obtain ⟨hx1, hg1⟩ := Nxt.keep n1 HX0.out HGX.out; obtain ⟨x0, x1, x2, x3, x4⟩ := cells5 hx1; have HX1 := J hx1; have HGX1 := J hg1; obtain ⟨ql1, ql2, ql3⟩ := H1.out.lit8 a; have HXL : Hid ((w1.alloc (.cells #[.int .u8 ((a : Int) % 256)] 5)).heap[X]? = _) := J ((Below.heap_alloc _ _ _ HGX1.out.2).trans HX1.out); have HGXL : Hid (¬ G1 X ∧ X < (w1.alloc (.cells #[.int .u8 ((a : Int) % 256)] 5)).heap.size) := J ⟨HGX1.out.1, by have := HGX1.out.2; simp; omega⟩; have HNL := J ql2; have HOP := J (ck ql1 (Ty.sm_want hs _) (by omega) [UInt8.ofNat a] [UInt8.ofNat a] (.slice (some ⟨w1.heap.size, 0, none⟩) 1 1) (.slice (some ⟨w1.heap.size, 0, none⟩) 1 1) ql3 ql3 (by simp) (by simp)); obtain ⟨v0, v1, v2, v3, v4⟩ := cells5 HXL.out; obtain ⟨_, _, _, _, _, v5⟩ := ql1.cells; clear ql1 ql2 ql3; clear h1 n1 hx1 hg1) | (go_at_call 70; refine (HOP.out).mono ?_; rintro e w2 ⟨rfl, G2, h2, n2⟩; obtain ⟨hx2, hg2⟩ := Nxt.keep n2 HXL.out HGXL.out; have H2 := J h2; have HN2 := J n2; have HX2 := J hx2; have HGX2 := J hg2; clear h2 n2 hx2 hg2))
    have H2d := J (H2.out.on (Below.drew (Below.refl _ _)))
    obtain ⟨A6, c6, hpush⟩ := H2d.out.pushO true ho
    obtain ⟨hl6, A5, c5, w5, hrun, hr6, hf6, hkeep, G6, hk6, hn6⟩ := hpush w2.drew (Below.refl _ _)
    have hl7 := (hpush (w2.drew.alloc (.cells #[.bool true] 4)) ((Below.refl _ _).alloc (Nat.le_refl _) _)).1
    have HL7 : Hid ((w2.alloc (.cells #[.bool true] 4)).drew.cell? ⟨R, 6, none⟩ = some (.slice A6 o.length c6)) := J hl7
    have HRUN := J hrun
    have HL6 := J hl6
    have HR6 := J hr6
    have HF6 := J hf6
    have HK6 := J hk6
    have HN6 := J hn6
    have HS0 : Hid (w2.drew.cell? ⟨X, 0, none⟩ = some (.int .u8 4)) := J (cells5 HX2.out).1
    have HS1 : Hid ((w2.drew.alloc (.cells #[.bool true] 4)).cell? ⟨X, 0, none⟩ = some (.int .u8 4)) := J (cells5 ((Below.heap_alloc _ _ _ HGX2.out.2).trans HX2.out)).1
    have HS5 : Hid (w5.cell? ⟨X, 0, none⟩ = some (.int .u8 4)) := J (cells5 ((hkeep X HGX2.out.2 HGX2.out.1).trans HX2.out)).1
    have HS6 : Hid ((w5.setCell ⟨R, 6, none⟩ (.slice A5 (o.length + 1) c5)).cell? ⟨X, 0, none⟩ = some (.int .u8 4)) := J (cells5 (Nxt.keep hn6 (show w2.drew.heap[X]? = some _ from HX2.out) HGX2.out).1).1
    clear hl6 hl7 hrun hr6 hf6 hkeep hk6 hn6 hpush
    generalize o.length = ol at HRUN HL6 HL7 HR6 HK6 HN6 HS6
    refine wp_region_held_drew (S := fun W' => W'.cell? ⟨X, 0, none⟩ = some (.int .u8 4)) (by kernel_rfl) (HS0.out) (fun hHeld => ?_)
    refine dv 0 rfl ?_
    refine dv 1 rfl ?_
    refine dv 2 rfl ?_
    refine dv 3 rfl ?_
    refine dv 5 rfl ?_
    refine dv 6 rfl ?_
    refine dv 7 rfl ?_
    refine ah 4 8 rfl rfl (by kernel_rfl) (fun K hK => ?_) (fun K hK => ?_)
    ·have hl := HL6.out
     try (rw [if_pos]; case hc => rfl)
     go_simp
     clear hl
     refine hK.out _ _ hHeld (fun hHeld2 => ?_)
     clear hK K hHeld
     have hHeld := hHeld2
     clear hHeld2
     refine aa 8 rfl (by kernel_rfl) (fun K hK => ?_)
     try (rw [if_pos]; case hc => rfl)
     go_simp
     refine hK.out _ _ HS1.out (fun hHeld2 => ?_)
     clear hK K hHeld
     have hHeld := hHeld2
     clear hHeld2
     refine aa 9 rfl (by kernel_rfl) (fun K hK => ?_)
     rw [if_pos]
     case hc => rfl
     refine ai (.tmp 41) (.tmp 45) 117 rfl _ _ _ w5 rfl rfl HRUN.out ?_
     refine hK.out _ _ HS5.out (fun hHeld2 => ?_)
     clear hK K hHeld
     have hHeld := hHeld2
     clear hHeld2
     try simp only [Act.put, O]
     refine dv 10 rfl ?_
     refine dv 11 rfl ?_
     refine aa 12 rfl (by kernel_rfl) (fun K hK => ?_)
     have hl := HR6.out
     have gl := HF6.out
     try (rw [if_pos]; case hc => rfl)
     go_simp
     clear hl gl
     refine hK.out _ _ HS6.out (fun hHeld2 => ?_)
     clear hK K hHeld
     have hHeld := hHeld2
     clear hHeld2
     refine wpAnyH_done (by kernel_rfl) ?_ _
     go_wp2_with fail
     go_ret
     exact ak.ok HT.out HK6.out (HN0.out.trans (HN1.out.trans (HNL.out.trans (HN2.out.trans ((Nxt.of_below (Below.drew (Below.refl _ _))).trans HN6.out)))))
    ·try (rw [if_pos]; case hc => rfl)
     go_simp
     refine hK.out _ _ HS1.out (fun hHeld2 => ?_)
     clear hK K hHeld
     have hHeld := hHeld2
     clear hHeld2
     refine aa 4 rfl (by kernel_rfl) (fun K hK => ?_)
     have hl := HL7.out
     try (rw [if_pos]; case hc => rfl)
     go_simp
     clear hl
     refine hK.out _ _ hHeld (fun hHeld2 => ?_)
     clear hK K hHeld
     have hHeld := hHeld2
     clear hHeld2
     refine aa 9 rfl (by kernel_rfl) (fun K hK => ?_)
     rw [if_pos]
     case hc => rfl
     refine ai (.tmp 41) (.tmp 45) 117 rfl _ _ _ w5 rfl rfl HRUN.out ?_
     refine hK.out _ _ HS5.out (fun hHeld2 => ?_)
     clear hK K hHeld
     have hHeld := hHeld2
     clear hHeld2
     try simp only [Act.put, O]
     refine dv 10 rfl ?_
     refine dv 11 rfl ?_
     refine aa 12 rfl (by kernel_rfl) (fun K hK => ?_)
     have hl := HR6.out
     have gl := HF6.out
     try (rw [if_pos]; case hc => rfl)
     go_simp
     clear hl gl
     refine hK.out _ _ HS6.out (fun hHeld2 => ?_)
     clear hK K hHeld
     have hHeld := hHeld2
     clear hHeld2
     refine wpAnyH_done (by kernel_rfl) ?_ _
     go_wp2_with fail
     go_ret
     exact ak.ok HT.out HK6.out (HN0.out.trans (HN1.out.trans (HNL.out.trans (HN2.out.trans ((Nxt.of_below (Below.drew (Below.refl _ _))).trans HN6.out)))))
  ·by_cases h3 : op = 3
   ·subst h3
    clear hn2
    have HT : Hid (Bo.block 3 a s = .ok (s.op [] [UInt8.ofNat a])) := J (by unfold Bo.block Bo.ends; rw [if_neg (by decide), if_pos rfl, if_neg ha])
    obtain ⟨ql1, ql2, ql3⟩ := H0.out.lit8 a
    have HXL : Hid ((w0.alloc (.cells #[.int .u8 ((a : Int) % 256)] 5)).heap[X]? = _) := J ((Below.heap_alloc _ _ _ HGX.out.2).trans HX0.out)
    have HGXL : Hid (¬ G X ∧ X < (w0.alloc (.cells #[.int .u8 ((a : Int) % 256)] 5)).heap.size) := J ⟨HGX.out.1, by have := HGX.out.2; simp; omega⟩
    have HNL := J ql2
    have HOP := J (ck ql1 hs (by omega) [] [UInt8.ofNat a] (.slice none 0 0) (.slice (some ⟨w0.heap.size, 0, none⟩) 1 1) (ab.nil _ _) ql3 (by simp) (by simp))
    obtain ⟨v0, v1, v2, v3, v4⟩ := cells5 HXL.out
    obtain ⟨_, _, _, _, _, v5⟩ := ql1.cells
    clear ql1 ql2 ql3
    go_upto_region 10 with (go_at_call 70; refine (HOP.out).mono ?_; rintro e w2 ⟨rfl, G2, h2, n2⟩; obtain ⟨hx2, hg2⟩ := Nxt.keep n2 HXL.out HGXL.out; have H2 := J h2; have HN2 := J n2; have HX2 := J hx2; have HGX2 := J hg2; clear h2 n2 hx2 hg2)
    have H2d := J (H2.out.on (Below.drew (Below.refl _ _)))
    obtain ⟨A6, c6, hpush⟩ := H2d.out.pushO false ho
    obtain ⟨hl6, A5, c5, w5, hrun, hr6, hf6, hkeep, G6, hk6, hn6⟩ := hpush w2.drew (Below.refl _ _)
    have hl7 := (hpush (w2.drew.alloc (.cells #[.bool false] 4)) ((Below.refl _ _).alloc (Nat.le_refl _) _)).1
    have HL7 : Hid ((w2.alloc (.cells #[.bool false] 4)).drew.cell? ⟨R, 6, none⟩ = some (.slice A6 o.length c6)) := J hl7
    have HRUN := J hrun
    have HL6 := J hl6
    have HR6 := J hr6
    have HF6 := J hf6
    have HK6 := J hk6
    have HN6 := J hn6
    have HS0 : Hid (w2.drew.cell? ⟨X, 0, none⟩ = some (.int .u8 3)) := J (cells5 HX2.out).1
    have HS1 : Hid ((w2.drew.alloc (.cells #[.bool false] 4)).cell? ⟨X, 0, none⟩ = some (.int .u8 3)) := J (cells5 ((Below.heap_alloc _ _ _ HGX2.out.2).trans HX2.out)).1
    have HS5 : Hid (w5.cell? ⟨X, 0, none⟩ = some (.int .u8 3)) := J (cells5 ((hkeep X HGX2.out.2 HGX2.out.1).trans HX2.out)).1
    have HS6 : Hid ((w5.setCell ⟨R, 6, none⟩ (.slice A5 (o.length + 1) c5)).cell? ⟨X, 0, none⟩ = some (.int .u8 3)) := J (cells5 (Nxt.keep hn6 (show w2.drew.heap[X]? = some _ from HX2.out) HGX2.out).1).1
    clear hl6 hl7 hrun hr6 hf6 hkeep hk6 hn6 hpush
    generalize o.length = ol at HRUN HL6 HL7 HR6 HK6 HN6 HS6
    refine wp_region_held_drew (S := fun W' => W'.cell? ⟨X, 0, none⟩ = some (.int .u8 3)) (by kernel_rfl) (HS0.out) (fun hHeld => ?_)
    refine dv 0 rfl ?_
    refine dv 1 rfl ?_
    refine dv 2 rfl ?_
    refine dv 3 rfl ?_
    refine dv 5 rfl ?_
    refine dv 6 rfl ?_
    refine dv 7 rfl ?_
    refine ah 4 8 rfl rfl (by kernel_rfl) (fun K hK => ?_) (fun K hK => ?_)
    ·have hl := HL6.out
     try (rw [if_pos]; case hc => rfl)
     go_simp
     clear hl
     refine hK.out _ _ hHeld (fun hHeld2 => ?_)
     clear hK K hHeld
     have hHeld := hHeld2
     clear hHeld2
     refine aa 8 rfl (by kernel_rfl) (fun K hK => ?_)
     try (rw [if_pos]; case hc => rfl)
     go_simp
     refine hK.out _ _ HS1.out (fun hHeld2 => ?_)
     clear hK K hHeld
     have hHeld := hHeld2
     clear hHeld2
     refine aa 9 rfl (by kernel_rfl) (fun K hK => ?_)
     rw [if_pos]
     case hc => rfl
     refine ai (.tmp 41) (.tmp 45) 117 rfl _ _ _ w5 rfl rfl HRUN.out ?_
     refine hK.out _ _ HS5.out (fun hHeld2 => ?_)
     clear hK K hHeld
     have hHeld := hHeld2
     clear hHeld2
     try simp only [Act.put, O]
     refine dv 10 rfl ?_
     refine dv 11 rfl ?_
     refine aa 12 rfl (by kernel_rfl) (fun K hK => ?_)
     have hl := HR6.out
     have gl := HF6.out
     try (rw [if_pos]; case hc => rfl)
     go_simp
     clear hl gl
     refine hK.out _ _ HS6.out (fun hHeld2 => ?_)
     clear hK K hHeld
     have hHeld := hHeld2
     clear hHeld2
     refine wpAnyH_done (by kernel_rfl) ?_ _
     go_wp2_with fail
     go_ret
     exact ak.ok HT.out HK6.out (HN0.out.trans (HNL.out.trans (HN2.out.trans ((Nxt.of_below (Below.drew (Below.refl _ _))).trans HN6.out))))
    ·try (rw [if_pos]; case hc => rfl)
     go_simp
     refine hK.out _ _ HS1.out (fun hHeld2 => ?_)
     clear hK K hHeld
     have hHeld := hHeld2
     clear hHeld2
     refine aa 4 rfl (by kernel_rfl) (fun K hK => ?_)
     have hl := HL7.out
     try (rw [if_pos]; case hc => rfl)
     go_simp
     clear hl
     refine hK.out _ _ hHeld (fun hHeld2 => ?_)
     clear hK K hHeld
     have hHeld := hHeld2
     clear hHeld2
     refine aa 9 rfl (by kernel_rfl) (fun K hK => ?_)
     rw [if_pos]
     case hc => rfl
     refine ai (.tmp 41) (.tmp 45) 117 rfl _ _ _ w5 rfl rfl HRUN.out ?_
     refine hK.out _ _ HS5.out (fun hHeld2 => ?_)
     clear hK K hHeld
     have hHeld := hHeld2
     clear hHeld2
     try simp only [Act.put, O]
     refine dv 10 rfl ?_
     refine dv 11 rfl ?_
     refine aa 12 rfl (by kernel_rfl) (fun K hK => ?_)
     have hl := HR6.out
     have gl := HF6.out
     try (rw [if_pos]; case hc => rfl)
     go_simp
     clear hl gl
     refine hK.out _ _ HS6.out (fun hHeld2 => ?_)
     clear hK K hHeld
     have hHeld := hHeld2
     clear hHeld2
     refine wpAnyH_done (by kernel_rfl) ?_ _
     go_wp2_with fail
     go_ret
     exact ak.ok HT.out HK6.out (HN0.out.trans (HNL.out.trans (HN2.out.trans ((Nxt.of_below (Below.drew (Below.refl _ _))).trans HN6.out))))
   ·have h4i : ¬ ((op : Int) = 4) := by omega
    have h3i : ¬ ((op : Int) = 3) := by omega
    have h4b : ((op : Int) == 4) = false := by rw [beq_eq_false_iff_ne]; omega
    have h4d : decide (op = 4) = false := decide_eq_false h4
    clear hn2
    have HT : Hid (Bo.block op a s = .ok (s.op [UInt8.ofNat a] [UInt8.ofNat a])) := J (by unfold Bo.block Bo.ends; rw [if_neg h4, if_neg h3, if_neg ha])
    obtain ⟨ql1, ql2, ql3⟩ := H0.out.lit8 a
    have HXL : Hid ((w0.alloc (.cells #[.int .u8 ((a : Int) % 256)] 5)).heap[X]? = _) := J ((Below.heap_alloc _ _ _ HGX.out.2).trans HX0.out)
    have HGXL : Hid (¬ G X ∧ X < (w0.alloc (.cells #[.int .u8 ((a : Int) % 256)] 5)).heap.size) := J ⟨HGX.out.1, by have := HGX.out.2; simp; omega⟩
    have HNL := J ql2
    have HOP := J (ck ql1 hs (by omega) [UInt8.ofNat a] [UInt8.ofNat a] (.slice (some ⟨w0.heap.size, 0, none⟩) 1 1) (.slice (some ⟨w0.heap.size, 0, none⟩) 1 1) ql3 ql3 (by simp) (by simp))
    obtain ⟨v0, v1, v2, v3, v4⟩ := cells5 HXL.out
    obtain ⟨_, _, _, _, _, v5⟩ := ql1.cells
    clear ql1 ql2 ql3
    go_upto_region 10 with (go_at_call 70; refine (HOP.out).mono ?_; rintro e w2 ⟨rfl, G2, h2, n2⟩; obtain ⟨hx2, hg2⟩ := Nxt.keep n2 HXL.out HGXL.out; have H2 := J h2; have HN2 := J n2; have HX2 := J hx2; have HGX2 := J hg2; clear h2 n2 hx2 hg2)
    have H2d := J (H2.out.on (Below.drew (Below.refl _ _)))
    obtain ⟨A6, c6, hpush⟩ := H2d.out.pushO false ho
    obtain ⟨hl6, A5, c5, w5, hrun, hr6, hf6, hkeep, G6, hk6, hn6⟩ := hpush w2.drew (Below.refl _ _)
    have hl7 := (hpush (w2.drew.alloc (.cells #[.bool false] 4)) ((Below.refl _ _).alloc (Nat.le_refl _) _)).1
    have HL7 : Hid ((w2.alloc (.cells #[.bool false] 4)).drew.cell? ⟨R, 6, none⟩ = some (.slice A6 o.length c6)) := J hl7
    have HRUN := J hrun
    have HL6 := J hl6
    have HR6 := J hr6
    have HF6 := J hf6
    have HK6 := J hk6
    have HN6 := J hn6
    have HS0 : Hid (w2.drew.cell? ⟨X, 0, none⟩ = some (.int .u8 (op : Int))) := J (cells5 HX2.out).1
    have HS1 : Hid ((w2.drew.alloc (.cells #[.bool false] 4)).cell? ⟨X, 0, none⟩ = some (.int .u8 (op : Int))) := J (cells5 ((Below.heap_alloc _ _ _ HGX2.out.2).trans HX2.out)).1
    have HS5 : Hid (w5.cell? ⟨X, 0, none⟩ = some (.int .u8 (op : Int))) := J (cells5 ((hkeep X HGX2.out.2 HGX2.out.1).trans HX2.out)).1
    have HS6 : Hid ((w5.setCell ⟨R, 6, none⟩ (.slice A5 (o.length + 1) c5)).cell? ⟨X, 0, none⟩ = some (.int .u8 (op : Int))) := J (cells5 (Nxt.keep hn6 (show w2.drew.heap[X]? = some _ from HX2.out) HGX2.out).1).1
    clear hl6 hl7 hrun hr6 hf6 hkeep hk6 hn6 hpush
    generalize o.length = ol at HRUN HL6 HL7 HR6 HK6 HN6 HS6
    refine wp_region_held_drew (S := fun W' => W'.cell? ⟨X, 0, none⟩ = some (.int .u8 (op : Int))) (by kernel_rfl) (HS0.out) (fun hHeld => ?_)
    refine dv 0 rfl ?_
    refine dv 1 rfl ?_
    refine dv 2 rfl ?_
    refine dv 3 rfl ?_
    refine dv 5 rfl ?_
    refine dv 6 rfl ?_
    refine dv 7 rfl ?_
    refine ah 4 8 rfl rfl (by kernel_rfl) (fun K hK => ?_) (fun K hK => ?_)
    ·have hl := HL6.out
     try (rw [if_pos]; case hc => rfl)
     go_simp
     clear hl
     refine hK.out _ _ hHeld (fun hHeld2 => ?_)
     clear hK K hHeld
     have hHeld := hHeld2
     clear hHeld2
     refine aa 8 rfl (by kernel_rfl) (fun K hK => ?_)
     try (rw [if_pos]; case hc => rfl)
     go_simp
     refine hK.out _ _ HS1.out (fun hHeld2 => ?_)
     clear hK K hHeld
     have hHeld := hHeld2
     clear hHeld2
     refine aa 9 rfl (by kernel_rfl) (fun K hK => ?_)
     rw [if_pos]
     case hc => rfl
     refine ai (.tmp 41) (.tmp 45) 117 rfl _ _ _ w5 rfl rfl HRUN.out ?_
     refine hK.out _ _ HS5.out (fun hHeld2 => ?_)
     clear hK K hHeld
     have hHeld := hHeld2
     clear hHeld2
     try simp only [Act.put, O]
     refine dv 10 rfl ?_
     refine dv 11 rfl ?_
     refine aa 12 rfl (by kernel_rfl) (fun K hK => ?_)
     have hl := HR6.out
     have gl := HF6.out
     try (rw [if_pos]; case hc => rfl)
     go_simp
     clear hl gl
     refine hK.out _ _ HS6.out (fun hHeld2 => ?_)
     clear hK K hHeld
     have hHeld := hHeld2
     clear hHeld2
     refine wpAnyH_done (by kernel_rfl) ?_ _
     go_wp2_with fail
     go_ret
     exact ak.ok HT.out (by rw [h4d]; exact HK6.out) (HN0.out.trans (HNL.out.trans (HN2.out.trans ((Nxt.of_below (Below.drew (Below.refl _ _))).trans HN6.out))))
    ·try (rw [if_pos]; case hc => rfl)
     go_simp
     refine hK.out _ _ HS1.out (fun hHeld2 => ?_)
     clear hK K hHeld
     have hHeld := hHeld2
     clear hHeld2
     refine aa 4 rfl (by kernel_rfl) (fun K hK => ?_)
     have hl := HL7.out
     try (rw [if_pos]; case hc => rfl)
     go_simp
     clear hl
     refine hK.out _ _ hHeld (fun hHeld2 => ?_)
     clear hK K hHeld
     have hHeld := hHeld2
     clear hHeld2
     refine aa 9 rfl (by kernel_rfl) (fun K hK => ?_)
     rw [if_pos]
     case hc => rfl
     refine ai (.tmp 41) (.tmp 45) 117 rfl _ _ _ w5 rfl rfl HRUN.out ?_
     refine hK.out _ _ HS5.out (fun hHeld2 => ?_)
     clear hK K hHeld
     have hHeld := hHeld2
     clear hHeld2
     try simp only [Act.put, O]
     refine dv 10 rfl ?_
     refine dv 11 rfl ?_
     refine aa 12 rfl (by kernel_rfl) (fun K hK => ?_)
     have hl := HR6.out
     have gl := HF6.out
     try (rw [if_pos]; case hc => rfl)
     go_simp
     clear hl gl
     refine hK.out _ _ HS6.out (fun hHeld2 => ?_)
     clear hK K hHeld
     have hHeld := hHeld2
     clear hHeld2
     refine wpAnyH_done (by kernel_rfl) ?_ _
     go_wp2_with fail
     go_ret
     exact ak.ok HT.out (by rw [h4d]; exact HK6.out) (HN0.out.trans (HNL.out.trans (HN2.out.trans ((Nxt.of_below (Below.drew (Below.refl _ _))).trans HN6.out))))
end Go.Proofs.YtelcdmkbaegjoaaGreat
