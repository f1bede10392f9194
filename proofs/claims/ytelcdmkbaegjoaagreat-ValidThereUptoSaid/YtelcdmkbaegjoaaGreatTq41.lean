/-
  Layer 10's program: else and end. (gen/body/meth6.py)
-/
import Derived.Test.YtelcdmkbaegjoaaGreatTq01
import Derived.Test.YtelcdmkbaegjoaaGreatTq40
set_option maxRecDepth 100000
set_option maxHeartbeats 4000000
namespace Go.Proofs.YtelcdmkbaegjoaaGreat
open Go.RowKit Ins Bin Sp
theorem bother_any {C : Ctx} {R P n : Nat} {w : World} {G : Nat → Prop} {s : Ty.T} {o : List Bool} (h : Wk C R P w G s o) (hs : s.sm n) (hn : n ≤ 400000000) (op a b : Nat) (c : Int) (A4 : Option Addr) (l4 c4 : Nat) (i : List Bool) (f : Bool) (hi : o = i ++ [f]) :
  Calls Tryz.prog 72 #[.pointer (some ⟨R, 0, none⟩), .agg #[.int .u8 (op : Int), .int .u32 (a : Int), .int .u32 (b : Int), .int .i64 c, .slice A4 l4 c4]] w (ai C R P G (i ++ [false]) w (Bo.other s)) := by
 subst hi
 have HX0 := J (heap_alloc_new w (.cells #[.int .u8 (op : Int), .int .u32 (a : Int), .int .u32 (b : Int), .int .i64 c, .slice A4 l4 c4] 57))
 have HB0 : Hid (Below w.heap.size w (w.alloc (.cells #[.int .u8 (op : Int), .int .u32 (a : Int), .int .u32 (b : Int), .int .i64 c, .slice A4 l4 c4] 57))) := J ((Below.refl _ _).alloc (Nat.le_refl _) _)
 have H0 := J (h.on HB0.out)
 have HN0 : Hid (Nxt G w G (w.alloc (.cells #[.int .u8 (op : Int), .int .u32 (a : Int), .int .u32 (b : Int), .int .i64 c, .slice A4 l4 c4] 57))) := J (Nxt.of_below HB0.out)
 have HGX : Hid (¬ G w.heap.size ∧ w.heap.size < (w.alloc (.cells #[.int .u8 (op : Int), .int .u32 (a : Int), .int .u32 (b : Int), .int .i64 c, .slice A4 l4 c4] 57)).heap.size) := J ⟨fun hg => Nat.lt_irrefl _ (h.out _ hg).2, by simp⟩
 clear h
 go_enter Tryz.func72, Tryz.ntmps72
 go_upto_region 1 with fail
 generalize (w.alloc (.cells #[.int .u8 (op : Int), .int .u32 (a : Int), .int .u32 (b : Int), .int .i64 c, .slice A4 l4 c4] 57)) = w0 at HX0 HB0 H0 HN0 HGX ⊢
 obtain ⟨X, hX⟩ : ∃ X, w.heap.size = X := ⟨_, rfl⟩
 rw [hX] at HX0 HGX
 simp only [hX]
 clear hX HB0
 obtain ⟨z0, z1, z2, z3, z4⟩ := cells5 HX0.out
 obtain ⟨q0, q1, q2, q3, q4, q5⟩ := H0.out.cells
 have hcl := dK H0.out hs (by omega)
 cases hc : s.closeA with
 | none =>
  rw [hc] at hcl
  have HCL := J hcl
  have HT : Hid (Bo.other s = .error 100) := J (by unfold Bo.other; rw [hc])
  clear hc hcl hs hn
  go_wp2_with (go_at_call 49; refine HCL.out.mono ?_; rintro e w1 ⟨he, G1, h1, n1⟩; obtain rfl : e = .returned (.tuple #[.slice none 0 0, .bool false]) := he; have HN1 := J n1; clear h1 n1)
  go_ret
  exact ai.err HT.out (H0.out.below HN1.out)
 | some ee =>
  rw [hc] at hcl
  have HCL := J hcl
  have hel := Bo.closeA_len hs hc
  have HT : Hid (Bo.other s = .ok (s.close.op ee ee)) := J (by unfold Bo.other; rw [hc])
  have HOP := J (fun W G1 v (hW : Wk C R P W G1 s.close (i ++ [f])) (hv : ab W (· < W.heap.size) ee v) => wk_openL hW (Ty.sm_close hs) (by omega) ee ee v v hv hv (by omega) (by omega))
  generalize ee.length = el at HCL
  clear hc hcl hs hn hel
  go_upto_region 5 with (first | (go_at_call 49; refine HCL.out.mono ?_; rintro e w1 ⟨⟨A1, c1, rfl, hv⟩, G1, h1, n1⟩; have H1 := J h1; have HN1 := J n1; have HV := J hv; obtain ⟨_, _, _, _, _, r5⟩ := h1.cells; clear h1 n1 hv) | (go_at_call 70; refine (HOP.out _ _ _ H1.out HV.out).mono ?_; rintro e w2 ⟨rfl, G2, h2, n2⟩; have H2 := J h2; have HN2 := J n2; clear h2 n2))
  obtain ⟨g, c6, hl6, hgR, hfr, hcell, hc1, hc2, hl7, hk6, hn6⟩ := (H2.out.on (Below.drew (Below.refl _ _))).setO false
  have HL6 := J hl6
  have HFR := J hfr
  have HCE := J hcell
  have HL7 := J hl7
  have HK6 := J hk6
  have HN6 := J hn6
  clear hl6 hfr hcell hl7 hk6 hn6
  generalize i.length = il at HL6 HFR HCE HL7 HK6 HN6 hc1
  unfold maxLen at hc2
  have hwr : IntKind.i64.wrap (il : Int) = (il : Int) := by simp [IntKind.wrap, IntKind.bits, IntKind.signed]; omega
  have hil1 : (il : Int) < (il : Int) + 1 := by omega
  have hil0 : (0 : Int) ≤ (il : Int) := by omega
  refine wp_region_held_drew (S := fun W' => W'.cell? ⟨R, 6, none⟩ = some (.slice (some ⟨g, 0, none⟩) (il + 1) c6)) (by kernel_rfl) (HL6.out) (fun hHeld => ?_)
  refine dv 0 rfl ?_
  refine dv 1 rfl ?_
  refine dv 2 rfl ?_
  refine dv 3 rfl ?_
  refine dv 4 rfl ?_
  refine dv 5 rfl ?_
  refine dv 6 rfl ?_
  refine dv 7 rfl ?_
  refine dv 8 rfl ?_
  refine dv 9 rfl ?_
  refine dv 10 rfl ?_
  refine aa 11 rfl (by kernel_rfl) (fun K hK => ?_)
  have hl := HCE.out
  have gl := HFR.out
  try (rw [if_pos]; case hc => rfl)
  go_simp
  clear hl gl
  refine hK.out _ _ HL7.out (fun hHeld2 => ?_)
  clear hK K hHeld
  have hHeld := hHeld2
  clear hHeld2
  refine wpAnyH_done (by kernel_rfl) ?_ _
  go_wp2_with fail
  go_ret
  exact ai.ok HT.out HK6.out (HN0.out.trans (HN1.out.trans (HN2.out.trans ((Nxt.of_below (Below.drew (Below.refl _ _))).trans HN6.out))))
theorem bend_any {C : Ctx} {R P n : Nat} {w : World} {G : Nat → Prop} {s : Ty.T} {o : List Bool} (h : Wk C R P w G s o) (hs : s.sm n) (hn : n ≤ 400000000) (op a b : Nat) (c : Int) (A4 : Option Addr) (l4 c4 : Nat) (i : List Bool) (f : Bool) (hi : o = i ++ [f]) :
  Calls Tryz.prog 73 #[.pointer (some ⟨R, 0, none⟩), .agg #[.int .u8 (op : Int), .int .u32 (a : Int), .int .u32 (b : Int), .int .i64 c, .slice A4 l4 c4]] w (ai C R P G i w (Bo.fin f s)) := by
 subst hi
 have HX0 := J (heap_alloc_new w (.cells #[.int .u8 (op : Int), .int .u32 (a : Int), .int .u32 (b : Int), .int .i64 c, .slice A4 l4 c4] 57))
 have HB0 : Hid (Below w.heap.size w (w.alloc (.cells #[.int .u8 (op : Int), .int .u32 (a : Int), .int .u32 (b : Int), .int .i64 c, .slice A4 l4 c4] 57))) := J ((Below.refl _ _).alloc (Nat.le_refl _) _)
 have H0 := J (h.on HB0.out)
 have HN0 : Hid (Nxt G w G (w.alloc (.cells #[.int .u8 (op : Int), .int .u32 (a : Int), .int .u32 (b : Int), .int .i64 c, .slice A4 l4 c4] 57))) := J (Nxt.of_below HB0.out)
 have HGX : Hid (¬ G w.heap.size ∧ w.heap.size < (w.alloc (.cells #[.int .u8 (op : Int), .int .u32 (a : Int), .int .u32 (b : Int), .int .i64 c, .slice A4 l4 c4] 57)).heap.size) := J ⟨fun hg => Nat.lt_irrefl _ (h.out _ hg).2, by simp⟩
 clear h
 go_enter Tryz.func73, Tryz.ntmps73
 go_upto_region 1 with fail
 generalize (w.alloc (.cells #[.int .u8 (op : Int), .int .u32 (a : Int), .int .u32 (b : Int), .int .i64 c, .slice A4 l4 c4] 57)) = w0 at HX0 HB0 H0 HN0 HGX ⊢
 obtain ⟨X, hX⟩ : ∃ X, w.heap.size = X := ⟨_, rfl⟩
 rw [hX] at HX0 HGX
 simp only [hX]
 clear hX HB0
 obtain ⟨z0, z1, z2, z3, z4⟩ := cells5 HX0.out
 obtain ⟨q0, q1, q2, q3, q4, q5⟩ := H0.out.cells
 obtain ⟨g, c6, hl6, hfr, hcell, hc1, hc2, hk6, hn6⟩ := H0.out.cutO
 have HKC := J hk6
 have HNC := J hn6
 have hfix : Hid ((w0.setCell ⟨R, 6, none⟩ (.slice (some ⟨g, 0, none⟩) i.length c6)).cell? ⟨R, 5, none⟩ = some (.pointer (some ⟨P, 0, none⟩))) := J hk6.cells.2.2.2.2.2
 have hcl := dK HKC.out hs (by omega)
 clear hk6 hn6
 unfold maxLen at hc2
 obtain ⟨il, hil⟩ : ∃ il, i.length = il := ⟨_, rfl⟩
 simp only [hil] at hl6 hcell hc1 hfix hcl HKC HNC
 clear hil
 have hc3 : il ≤ c6 := by omega
 have hc4 : (il : Int) ≤ (c6 : Int) := by omega
 go_upto_region 4 with fail
 clear hl6 hcell hfr z0 z1 z2 z3 z4 q0 q1 q2 q3 q4 q5
 generalize w0.setCell ⟨R, 6, none⟩ (.slice (some ⟨g, 0, none⟩) il c6) = wc at HKC HNC hfix hcl ⊢
 have q5 := hfix.out
 clear hfix
 cases hc : s.closeA with
 | none =>
  rw [hc] at hcl
  have HCL := J hcl
  have HT : Hid (Bo.fin f s = .error 100) := J (by unfold Bo.fin; rw [hc])
  clear hc hcl hs hn
  go_wp2_with (go_at_call 49; refine HCL.out.mono ?_; rintro e w1 ⟨he, G1, h1, n1⟩; obtain rfl : e = .returned (.tuple #[.slice none 0 0, .bool false]) := he; have HN1 := J n1; clear h1 n1)
  go_ret
  exact ai.err HT.out (HKC.out.below HN1.out)
 | some ee =>
  rw [hc] at hcl
  have HCL := J hcl
  have hel := Bo.closeA_len hs hc
  cases f with
  | false =>
   have HT : Hid (Bo.fin false s = .ok (s.close.push ee)) := J (by unfold Bo.fin; rw [hc]; rfl)
   have HPU := J (fun W G1 v (hW : Wk C R P W G1 s.close i) (hv : ab W (· < W.heap.size) ee v) => wk_pushL hW (Ty.sm_close hs) (by omega) ee v hv (by omega))
   generalize ee.length = el at HCL
   clear hc hcl hs hn hel
   go_wp2_with (first | (go_at_call 49; refine HCL.out.mono ?_; rintro e w1 ⟨⟨A1, c1, rfl, hv⟩, G1, h1, n1⟩; have H1 := J h1; have HN1 := J n1; have HV := J hv; obtain ⟨_, _, _, _, _, r5⟩ := h1.cells; clear h1 n1 hv) | (go_at_call 105; refine (HPU.out _ _ _ H1.out HV.out).mono ?_; rintro e w2 ⟨rfl, G2, h2, n2⟩; have H2 := J h2; have HN2 := J n2; clear h2 n2))
   go_ret
   exact ai.ok HT.out H2.out (HN0.out.trans (HNC.out.trans (HN1.out.trans HN2.out)))
  | true =>
   cases ee with
   | nil =>
    have HCL : Hid (Calls Tryz.prog 49 #[.pointer (some ⟨P, 0, none⟩)] wc fun e w' => (∃ A1 c1, e = .returned (.tuple #[.slice A1 0 c1, .bool true]) ∧ ab w' (· < w'.heap.size) ([] : List UInt8) (.slice A1 0 c1)) ∧ ∃ G', Wk C R P w' G' s.close i ∧ Nxt G wc G' w') := HCL
    have HT : Hid (Bo.fin true s = .ok (s.close.push ([]))) := J (by unfold Bo.fin; rw [hc]; rfl)
    have HPU := J (fun W G1 v (hW : Wk C R P W G1 s.close i) (hv : ab W (· < W.heap.size) ([]) v) => wk_pushL hW (Ty.sm_close hs) (by omega) ([]) v hv (by omega))
    clear hc hcl hs hn hel
    go_wp2_with (first | (go_at_call 49; refine HCL.out.mono ?_; rintro e w1 ⟨⟨A1, c1, rfl, hv⟩, G1, h1, n1⟩; have H1 := J h1; have HN1 := J n1; have HV := J hv; obtain ⟨_, _, _, _, _, r5⟩ := h1.cells; clear h1 n1 hv) | (go_at_call 105; refine (HPU.out _ _ _ H1.out HV.out).mono ?_; rintro e w2 ⟨rfl, G2, h2, n2⟩; have H2 := J h2; have HN2 := J n2; clear h2 n2))
    go_ret
    exact ai.ok HT.out H2.out (HN0.out.trans (HNC.out.trans (HN1.out.trans HN2.out)))
   | cons x xs =>
    have HT : Hid (Bo.fin true s = .error 100) := J (by unfold Bo.fin; rw [hc]; rfl)
    clear hc hcl hs hn hel
    have HCL : Hid (Calls Tryz.prog 49 #[.pointer (some ⟨P, 0, none⟩)] wc fun e w' => (∃ A1 c1, e = .returned (.tuple #[.slice A1 (xs.length + 1) c1, .bool true]) ∧ ab w' (· < w'.heap.size) (x :: xs) (.slice A1 (xs.length + 1) c1)) ∧ ∃ G', Wk C R P w' G' s.close i ∧ Nxt G wc G' w') := HCL
    generalize xs.length = el at HCL
    have hpos : (0 : Int) < ((el : Int) + 1) := by omega
    go_wp2_with (go_at_call 49; refine HCL.out.mono ?_; rintro e w1 ⟨⟨A1, c1, rfl, hv⟩, G1, h1, n1⟩; have H1 := J h1; have HN1 := J n1; have HV := J hv; obtain ⟨_, _, _, _, _, r5⟩ := h1.cells; clear h1 n1 hv)
    go_ret
    exact ai.err HT.out (HKC.out.below HN1.out)
end Go.Proofs.YtelcdmkbaegjoaaGreat
