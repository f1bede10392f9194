/-
  Layer 10's program: unreachable, return, drop, select, plain, memory.size and memory.grow. (gen/body/meth1.py)
-/
import Derived.Test.YtelcdmkbaegjoaaGreatTq01
import Derived.Test.YtelcdmkbaegjoaaGreatTq32
import Derived.Test.YtelcdmkbaegjoaaGreatTq14
set_option maxRecDepth 100000
set_option maxHeartbeats 4000000
namespace Go.Proofs.YtelcdmkbaegjoaaGreat
open Go.RowKit Ins Bin Sp
theorem ai.num {C : Ctx} {R P : Nat} {G : Nat → Prop} {o' : List Bool} {w w' : World} {r : Bo.R} {e : Ending} (h : ai C R P G o' w r e w') : ∃ k : Int, e = .returned (.int .i64 k) ∧ ai C R P G o' w r (.returned (.int .i64 k)) w' := by
 cases r with
 | error n =>
  obtain ⟨rfl, h2⟩ := h
  exact ⟨_, rfl, rfl, h2⟩
 | ok s' =>
  obtain ⟨rfl, h2⟩ := h
  exact ⟨0, rfl, rfl, h2⟩
theorem ai.err {C : Ctx} {R P : Nat} {G : Nat → Prop} {o' : List Bool} {w w' : World} {r : Bo.R} {n : Nat} (hr : r = .error n) (h : Below C.B C.w0 w') : ai C R P G o' w r (.returned (.int .i64 (n : Int))) w' := by
 subst hr
 exact ⟨rfl, h⟩
theorem ai.ok {C : Ctx} {R P : Nat} {G G' : Nat → Prop} {o' : List Bool} {w w' : World} {r : Bo.R} {s' : Ty.T} (hr : r = .ok s') (h : Wk C R P w' G' s' o') (hn : Nxt G w G' w') : ai C R P G o' w r (.returned (.int .i64 0)) w' := by
 subst hr
 exact ⟨rfl, _, h, hn⟩
theorem Wk.lit {C : Ctx} {R P : Nat} {w : World} {G : Nat → Prop} {s : Ty.T} {o : List Bool} (h : Wk C R P w G s o) (x : UInt8) : Wk C R P (w.alloc (.cells #[.int .u8 (x.toNat : Int)] 5)) G s o ∧ Nxt G w G (w.alloc (.cells #[.int .u8 (x.toNat : Int)] 5)) ∧ ab (w.alloc (.cells #[.int .u8 (x.toNat : Int)] 5)) (Apt (w.alloc (.cells #[.int .u8 (x.toNat : Int)] 5)) G) [x] (.slice (some ⟨w.heap.size, 0, none⟩) 1 1) := by
 have hb : Below w.heap.size w (w.alloc (.cells #[.int .u8 (x.toNat : Int)] 5)) := (Below.refl _ _).alloc (Nat.le_refl _) _
 exact ⟨h.on hb, Nxt.of_below hb, h.fresh hb (lit1 w x)⟩
theorem Wk.i32 {C : Ctx} {R P n : Nat} {w : World} {G : Nat → Prop} {s : Ty.T} {o : List Bool} (h : Wk C R P w G s o) (hs : s.sm n) (hn : n ≤ 500000000) :
  Calls Tryz.prog 104 #[.pointer (some ⟨P, 0, none⟩), .slice (some ⟨w.heap.size, 0, none⟩) 1 1] (w.alloc (.cells #[.int .u8 127] 5)) fun e w' => e = .returned (.bool (s.wantA [127])) ∧ ∃ G', Wk C R P w' G' (s.want [127]) o ∧ Nxt G w G' w' := by
 obtain ⟨h1, h2, h3⟩ := h.lit 127
 refine (eE h1 hs hn [127] _ h3 (by decide)).mono ?_
 rintro e w' ⟨rfl, G', q1, q2⟩
 exact ⟨rfl, G', q1, h2.trans q2⟩
theorem eo {C : Ctx} {R P n : Nat} {w : World} {G : Nat → Prop} {s : Ty.T} {o : List Bool} (h : Wk C R P w G s o) (hs : s.sm n) (hn : n ≤ 400000000) (op a b : Nat) (c : Int) (A4 : Option Addr) (l4 c4 : Nat) :
  Calls Tryz.prog 78 #[.pointer (some ⟨R, 0, none⟩), .agg #[.int .u8 (op : Int), .int .u32 (a : Int), .int .u32 (b : Int), .int .i64 c, .slice A4 l4 c4]] w (ai C R P G o w (Bo.goes s [])) := by
 have HX0 := J (heap_alloc_new w (.cells #[.int .u8 (op : Int), .int .u32 (a : Int), .int .u32 (b : Int), .int .i64 c, .slice A4 l4 c4] 57))
 have HB0 : Hid (Below w.heap.size w (w.alloc (.cells #[.int .u8 (op : Int), .int .u32 (a : Int), .int .u32 (b : Int), .int .i64 c, .slice A4 l4 c4] 57))) := J ((Below.refl _ _).alloc (Nat.le_refl _) _)
 have H0 := J (h.on HB0.out)
 have HN0 : Hid (Nxt G w G (w.alloc (.cells #[.int .u8 (op : Int), .int .u32 (a : Int), .int .u32 (b : Int), .int .i64 c, .slice A4 l4 c4] 57))) := J (Nxt.of_below HB0.out)
 have HGX : Hid (¬ G w.heap.size ∧ w.heap.size < (w.alloc (.cells #[.int .u8 (op : Int), .int .u32 (a : Int), .int .u32 (b : Int), .int .i64 c, .slice A4 l4 c4] 57)).heap.size) := J ⟨fun hg => Nat.lt_irrefl _ (h.out _ hg).2, by simp⟩
 clear h
 go_enter Tryz.func78, Tryz.ntmps78
 go_upto_region 1 with fail
 generalize (w.alloc (.cells #[.int .u8 (op : Int), .int .u32 (a : Int), .int .u32 (b : Int), .int .i64 c, .slice A4 l4 c4] 57)) = w0 at HX0 HB0 H0 HN0 HGX ⊢
 obtain ⟨X, hX⟩ : ∃ X, w.heap.size = X := ⟨_, rfl⟩
 rw [hX] at HX0 HGX
 simp only [hX]
 clear hX HB0
 obtain ⟨z0, z1, z2, z3, z4⟩ := cells5 HX0.out
 obtain ⟨q0, q1, q2, q3, q4, q5⟩ := H0.out.cells
 have HGO := J (cJ H0.out hs hn [] (.slice none 0 0) (ab.nil _ _) (by simp))
 clear hs hn
 go_wp2_with (go_at_call 107; refine (HGO.out).mono ?_; rintro e w9 he; obtain ⟨k, rfl, hk⟩ := he.num; have HK := J hk; clear he hk)
 go_ret
 exact HK.out.ahead HN0.out
theorem bleave_any {C : Ctx} {R P n : Nat} {w : World} {G : Nat → Prop} {s : Ty.T} {o : List Bool} (hC : C.Good) (h : Wk C R P w G s o) (hs : s.sm n) (hn : n ≤ 400000000) (op a b : Nat) (c : Int) (A4 : Option Addr) (l4 c4 : Nat) :
  Calls Tryz.prog 77 #[.pointer (some ⟨R, 0, none⟩), .agg #[.int .u8 (op : Int), .int .u32 (a : Int), .int .u32 (b : Int), .int .i64 c, .slice A4 l4 c4]] w (ai C R P G o w (Bo.goes s C.rs)) := by
 have HX0 := J (heap_alloc_new w (.cells #[.int .u8 (op : Int), .int .u32 (a : Int), .int .u32 (b : Int), .int .i64 c, .slice A4 l4 c4] 57))
 have HB0 : Hid (Below w.heap.size w (w.alloc (.cells #[.int .u8 (op : Int), .int .u32 (a : Int), .int .u32 (b : Int), .int .i64 c, .slice A4 l4 c4] 57))) := J ((Below.refl _ _).alloc (Nat.le_refl _) _)
 have H0 := J (h.on HB0.out)
 have HN0 : Hid (Nxt G w G (w.alloc (.cells #[.int .u8 (op : Int), .int .u32 (a : Int), .int .u32 (b : Int), .int .i64 c, .slice A4 l4 c4] 57))) := J (Nxt.of_below HB0.out)
 have HGX : Hid (¬ G w.heap.size ∧ w.heap.size < (w.alloc (.cells #[.int .u8 (op : Int), .int .u32 (a : Int), .int .u32 (b : Int), .int .i64 c, .slice A4 l4 c4] 57)).heap.size) := J ⟨fun hg => Nat.lt_irrefl _ (h.out _ hg).2, by simp⟩
 have HV := J (fun (W : World) (hW : Wk C R P W G s o) => cJ hW hs hn C.rs C.v2 (hW.old hC.rs) (by have := hC.lr; omega))
 obtain ⟨A2, c2, e2, _⟩ := hC.rs
 rw [e2] at HV
 clear h hC hs hn
 go_enter Tryz.func77, Tryz.ntmps77
 go_upto_region 1 with fail
 generalize (w.alloc (.cells #[.int .u8 (op : Int), .int .u32 (a : Int), .int .u32 (b : Int), .int .i64 c, .slice A4 l4 c4] 57)) = w0 at HX0 HB0 H0 HN0 HGX ⊢
 obtain ⟨X, hX⟩ : ∃ X, w.heap.size = X := ⟨_, rfl⟩
 rw [hX] at HX0 HGX
 simp only [hX]
 clear hX HB0
 obtain ⟨z0, z1, z2, z3, z4⟩ := cells5 HX0.out
 obtain ⟨q0, q1, q2, q3, q4, q5⟩ := H0.out.cells
 have HGO := J (HV.out _ H0.out)
 clear HV
 rw [e2] at q2
 clear e2
 generalize C.rs.length = n2 at q2 HGO
 go_wp2_with (go_at_call 107; refine (HGO.out).mono ?_; rintro e w9 he; obtain ⟨k, rfl, hk⟩ := he.num; have HK := J hk; clear he hk)
 go_ret
 exact HK.out.ahead HN0.out
theorem bdrop_any {C : Ctx} {R P n : Nat} {w : World} {G : Nat → Prop} {s : Ty.T} {o : List Bool} (h : Wk C R P w G s o) (hs : s.sm n) (hn : n ≤ 400000000) (op a b : Nat) (c : Int) (A4 : Option Addr) (l4 c4 : Nat) :
  Calls Tryz.prog 81 #[.pointer (some ⟨R, 0, none⟩), .agg #[.int .u8 (op : Int), .int .u32 (a : Int), .int .u32 (b : Int), .int .i64 c, .slice A4 l4 c4]] w (ai C R P G o w (Bo.drop s)) := by
 have HX0 := J (heap_alloc_new w (.cells #[.int .u8 (op : Int), .int .u32 (a : Int), .int .u32 (b : Int), .int .i64 c, .slice A4 l4 c4] 57))
 have HB0 : Hid (Below w.heap.size w (w.alloc (.cells #[.int .u8 (op : Int), .int .u32 (a : Int), .int .u32 (b : Int), .int .i64 c, .slice A4 l4 c4] 57))) := J ((Below.refl _ _).alloc (Nat.le_refl _) _)
 have H0 := J (h.on HB0.out)
 have HN0 : Hid (Nxt G w G (w.alloc (.cells #[.int .u8 (op : Int), .int .u32 (a : Int), .int .u32 (b : Int), .int .i64 c, .slice A4 l4 c4] 57))) := J (Nxt.of_below HB0.out)
 have HGX : Hid (¬ G w.heap.size ∧ w.heap.size < (w.alloc (.cells #[.int .u8 (op : Int), .int .u32 (a : Int), .int .u32 (b : Int), .int .i64 c, .slice A4 l4 c4] 57)).heap.size) := J ⟨fun hg => Nat.lt_irrefl _ (h.out _ hg).2, by simp⟩
 clear h
 go_enter Tryz.func81, Tryz.ntmps81
 go_upto_region 1 with fail
 generalize (w.alloc (.cells #[.int .u8 (op : Int), .int .u32 (a : Int), .int .u32 (b : Int), .int .i64 c, .slice A4 l4 c4] 57)) = w0 at HX0 HB0 H0 HN0 HGX ⊢
 obtain ⟨X, hX⟩ : ∃ X, w.heap.size = X := ⟨_, rfl⟩
 rw [hX] at HX0 HGX
 simp only [hX]
 clear hX HB0
 obtain ⟨z0, z1, z2, z3, z4⟩ := cells5 HX0.out
 obtain ⟨q0, q1, q2, q3, q4, q5⟩ := H0.out.cells
 have hpo := wk_pop H0.out hs (by omega)
 cases hp : s.popA.2 with
 | false =>
  rw [hp] at hpo
  have HT : Hid (Bo.drop s = .error 100) := J (by unfold Bo.drop; rw [hp]; rfl)
  have HPO := J hpo
  clear hpo hp hs hn
  go_wp2_with (go_at_call 109; refine HPO.out.mono ?_; rintro e w1 ⟨rfl, G1, h1, n1⟩; have H1 := J h1; have HN1 := J n1; clear h1 n1)
  go_ret
  exact ai.err HT.out (H0.out.below HN1.out)
 | true =>
  rw [hp] at hpo
  have HT : Hid (Bo.drop s = .ok s.pop) := J (by unfold Bo.drop; rw [hp]; rfl)
  have HPO := J hpo
  clear hpo hp hs hn
  go_wp2_with (go_at_call 109; refine HPO.out.mono ?_; rintro e w1 ⟨rfl, G1, h1, n1⟩; have H1 := J h1; have HN1 := J n1; clear h1 n1)
  go_ret
  exact ai.ok HT.out H1.out (HN0.out.trans HN1.out)
theorem cy {C : Ctx} {R P n : Nat} {w : World} {G : Nat → Prop} {s : Ty.T} {o : List Bool} (h : Wk C R P w G s o) (hs : s.sm n) (hn : n ≤ 400000000) (op a b : Nat) (c : Int) (A4 : Option Addr) (l4 c4 : Nat) :
  Calls Tryz.prog 89 #[.pointer (some ⟨R, 0, none⟩), .agg #[.int .u8 (op : Int), .int .u32 (a : Int), .int .u32 (b : Int), .int .i64 c, .slice A4 l4 c4]] w (ai C R P G o w (Bo.plain op s)) := by
 have HX0 := J (heap_alloc_new w (.cells #[.int .u8 (op : Int), .int .u32 (a : Int), .int .u32 (b : Int), .int .i64 c, .slice A4 l4 c4] 57))
 have HB0 : Hid (Below w.heap.size w (w.alloc (.cells #[.int .u8 (op : Int), .int .u32 (a : Int), .int .u32 (b : Int), .int .i64 c, .slice A4 l4 c4] 57))) := J ((Below.refl _ _).alloc (Nat.le_refl _) _)
 have H0 := J (h.on HB0.out)
 have HN0 : Hid (Nxt G w G (w.alloc (.cells #[.int .u8 (op : Int), .int .u32 (a : Int), .int .u32 (b : Int), .int .i64 c, .slice A4 l4 c4] 57))) := J (Nxt.of_below HB0.out)
 have HGX : Hid (¬ G w.heap.size ∧ w.heap.size < (w.alloc (.cells #[.int .u8 (op : Int), .int .u32 (a : Int), .int .u32 (b : Int), .int .i64 c, .slice A4 l4 c4] 57)).heap.size) := J ⟨fun hg => Nat.lt_irrefl _ (h.out _ hg).2, by simp⟩
 have HTU : Hid (∀ W v1 v2, Wk C R P W G s o → ab W (Apt W G) (Opc.sigP op) v1 → ab W (Apt W G) (Opc.sigR op) v2 → Calls Tryz.prog 108 #[.pointer (some ⟨R, 0, none⟩), v1, v2] W (ai C R P G o W (Bo.plain op s))) := J (fun W v1 v2 hW h1 h2 => aK hW hs hn _ _ v1 v2 h1 h2 (by have := (Bo.sig_len op).1; omega) (by have := (Bo.sig_len op).2; omega))
 clear h hs hn
 go_enter Tryz.func89, Tryz.ntmps89
 go_upto_region 1 with fail
 generalize (w.alloc (.cells #[.int .u8 (op : Int), .int .u32 (a : Int), .int .u32 (b : Int), .int .i64 c, .slice A4 l4 c4] 57)) = w0 at HX0 HB0 H0 HN0 HGX ⊢
 obtain ⟨X, hX⟩ : ∃ X, w.heap.size = X := ⟨_, rfl⟩
 rw [hX] at HX0 HGX
 simp only [hX]
 clear hX HB0
 obtain ⟨z0, z1, z2, z3, z4⟩ := cells5 HX0.out
 obtain ⟨q0, q1, q2, q3, q4, q5⟩ := H0.out.cells
 have HSG := J (sigV_any (op : Int) w0)
 generalize Opc.sigP op = p1 at HTU HSG
 generalize Opc.sigR op = p2 at HTU HSG
 generalize Opc.plain op = pk at HSG
 go_wp2_with (first | (go_at_call 113; refine HSG.out.mono ?_; rintro e w1 ⟨A1, A2, rfl, s1, s2, hb⟩; have H1 := J (H0.out.on hb); have HV1 := J (H0.out.fresh hb s1); have HV2 := J (H0.out.fresh hb s2); have HN1 : Hid (Nxt G w0 G w1) := J (Nxt.of_below hb); clear s1 s2 hb) | (go_at_call 108; refine (HTU.out _ _ _ H1.out HV1.out HV2.out).mono ?_; rintro e w9 he; obtain ⟨k, rfl, hk⟩ := he.num; have HK := J hk; clear he hk))
 go_ret
 exact (HK.out.ahead HN1.out).ahead HN0.out
theorem dm {C : Ctx} {R P n : Nat} {w : World} {G : Nat → Prop} {s : Ty.T} {o : List Bool} (hC : C.Good) (h : Wk C R P w G s o) (hs : s.sm n) (hn : n ≤ 400000000) (op a b : Nat) (c : Int) (A4 : Option Addr) (l4 c4 : Nat) :
  Calls Tryz.prog 86 #[.pointer (some ⟨R, 0, none⟩), .agg #[.int .u8 (op : Int), .int .u32 (a : Int), .int .u32 (b : Int), .int .i64 c, .slice A4 l4 c4]] w (ai C R P G o w (Bo.pages C.env op s)) := by
 have HX0 := J (heap_alloc_new w (.cells #[.int .u8 (op : Int), .int .u32 (a : Int), .int .u32 (b : Int), .int .i64 c, .slice A4 l4 c4] 57))
 have HB0 : Hid (Below w.heap.size w (w.alloc (.cells #[.int .u8 (op : Int), .int .u32 (a : Int), .int .u32 (b : Int), .int .i64 c, .slice A4 l4 c4] 57))) := J ((Below.refl _ _).alloc (Nat.le_refl _) _)
 have H0 := J (h.on HB0.out)
 have HN0 : Hid (Nxt G w G (w.alloc (.cells #[.int .u8 (op : Int), .int .u32 (a : Int), .int .u32 (b : Int), .int .i64 c, .slice A4 l4 c4] 57))) := J (Nxt.of_below HB0.out)
 have HGX : Hid (¬ G w.heap.size ∧ w.heap.size < (w.alloc (.cells #[.int .u8 (op : Int), .int .u32 (a : Int), .int .u32 (b : Int), .int .i64 c, .slice A4 l4 c4] 57)).heap.size) := J ⟨fun hg => Nat.lt_irrefl _ (h.out _ hg).2, by simp⟩
 have HM := J (fun (W : World) (hW : Wk C R P W G s o) => dA (some ⟨C.sp, 0, none⟩) C.m 0 W (.inl ⟨C.sp, rfl, hC.space.grow hW.base⟩) (Lots.some hC.few) (by omega))
 have HPL : Hid (∀ W G1, Wk C R P W G1 s o → Calls Tryz.prog 89 #[.pointer (some ⟨R, 0, none⟩), .agg #[.int .u8 (op : Int), .int .u32 (a : Int), .int .u32 (b : Int), .int .i64 c, .slice A4 l4 c4]] W (ai C R P G1 o W (Bo.plain op s))) := J (fun W G1 hW => cy hW hs hn op a b c A4 l4 c4)
 clear h hs hn hC
 go_enter Tryz.func86, Tryz.ntmps86
 go_upto_region 1 with fail
 generalize (w.alloc (.cells #[.int .u8 (op : Int), .int .u32 (a : Int), .int .u32 (b : Int), .int .i64 c, .slice A4 l4 c4] 57)) = w0 at HX0 HB0 H0 HN0 HGX ⊢
 obtain ⟨X, hX⟩ : ∃ X, w.heap.size = X := ⟨_, rfl⟩
 rw [hX] at HX0 HGX
 simp only [hX]
 clear hX HB0
 obtain ⟨z0, z1, z2, z3, z4⟩ := cells5 HX0.out
 obtain ⟨q0, q1, q2, q3, q4, q5⟩ := H0.out.cells
 have hm := HM.out _ H0.out
 clear HM
 unfold bC at hm
 have HE : Hid (C.env.mem = ((mems C.m)[0]?).isSome) := J rfl
 obtain ⟨y1, y2, hy⟩ : ∃ y1 y2 : Int, limArr (((mems C.m)[0]?).getD ⟨0, 0⟩) = #[.int .u32 y1, .int .i64 y2] := ⟨_, _, rfl⟩
 rw [hy] at hm
 clear hy
 cases hp : ((mems C.m)[0]?).isSome with
 | false =>
  rw [hp] at hm HE
  have HT : Hid (Bo.pages C.env op s = .error 80) := J (by unfold Bo.pages; rw [HE.out]; rfl)
  have HM := J hm
  clear hm hp
  go_wp2_with (go_at_call 58; refine HM.out.mono ?_; rintro e w1 ⟨rfl, hb⟩; have HB1 := J hb; clear hb)
  go_ret
  exact ai.err HT.out (H0.out.on (HB1.out.alloc HB1.out.size _)).base
 | true =>
  rw [hp] at hm HE
  have HT : Hid (Bo.pages C.env op s = Bo.plain op s) := J (by unfold Bo.pages; rw [HE.out]; rfl)
  have HM := J hm
  clear hm hp
  go_wp2_with (first | (go_at_call 58; refine HM.out.mono ?_; rintro e w1 ⟨rfl, hb⟩; have hb2 : Below w0.heap.size w0 (w1.alloc (.cells #[.int .u32 y1, .int .i64 y2] 65)) := hb.alloc hb.size _; obtain ⟨x0, x1, x2, x3, x4⟩ := cells5 ((hb2.block X HGX.out.2).trans HX0.out); have HB1 := J hb2; clear hb hb2) | (go_at_call 89; refine (HPL.out _ _ (H0.out.on HB1.out)).mono ?_; rintro e w9 he; obtain ⟨k, rfl, hk⟩ := he.num; have HK := J hk; clear he hk))
  go_ret
  rw [HT.out]
  exact (HK.out.ahead (Nxt.of_below HB1.out)).ahead HN0.out
theorem asks2_any (R : Nat) (w : World) : Calls Tryz.prog 48 #[.pointer (some ⟨R, 0, none⟩), .int .u8 2] w fun e w' => e = .returned (.func (.func 71) #[.pointer (some ⟨R, 0, none⟩)] #[]) ∧ w = w' := by
 go_enter Tryz.func48, Tryz.ntmps48
 go_wp2_with fail
 go_ret
 exact ⟨rfl, rfl⟩
theorem asks3_any (R : Nat) (w : World) : Calls Tryz.prog 48 #[.pointer (some ⟨R, 0, none⟩), .int .u8 3] w fun e w' => e = .returned (.func (.func 71) #[.pointer (some ⟨R, 0, none⟩)] #[]) ∧ w = w' := by
 go_enter Tryz.func48, Tryz.ntmps48
 go_wp2_with fail
 go_ret
 exact ⟨rfl, rfl⟩
theorem asks4_any (R : Nat) (w : World) : Calls Tryz.prog 48 #[.pointer (some ⟨R, 0, none⟩), .int .u8 4] w fun e w' => e = .returned (.func (.func 71) #[.pointer (some ⟨R, 0, none⟩)] #[]) ∧ w = w' := by
 go_enter Tryz.func48, Tryz.ntmps48
 go_wp2_with fail
 go_ret
 exact ⟨rfl, rfl⟩
theorem asks5_any (R : Nat) (w : World) : Calls Tryz.prog 48 #[.pointer (some ⟨R, 0, none⟩), .int .u8 5] w fun e w' => e = .returned (.func (.func 72) #[.pointer (some ⟨R, 0, none⟩)] #[]) ∧ w = w' := by
 go_enter Tryz.func48, Tryz.ntmps48
 go_wp2_with fail
 go_ret
 exact ⟨rfl, rfl⟩
theorem asks11_any (R : Nat) (w : World) : Calls Tryz.prog 48 #[.pointer (some ⟨R, 0, none⟩), .int .u8 11] w fun e w' => e = .returned (.func (.func 73) #[.pointer (some ⟨R, 0, none⟩)] #[]) ∧ w = w' := by
 go_enter Tryz.func48, Tryz.ntmps48
 go_wp2_with fail
 go_ret
 exact ⟨rfl, rfl⟩
theorem asks12_any (R : Nat) (w : World) : Calls Tryz.prog 48 #[.pointer (some ⟨R, 0, none⟩), .int .u8 12] w fun e w' => e = .returned (.func (.func 74) #[.pointer (some ⟨R, 0, none⟩)] #[]) ∧ w = w' := by
 go_enter Tryz.func48, Tryz.ntmps48
 go_wp2_with fail
 go_ret
 exact ⟨rfl, rfl⟩
theorem asks13_any (R : Nat) (w : World) : Calls Tryz.prog 48 #[.pointer (some ⟨R, 0, none⟩), .int .u8 13] w fun e w' => e = .returned (.func (.func 75) #[.pointer (some ⟨R, 0, none⟩)] #[]) ∧ w = w' := by
 go_enter Tryz.func48, Tryz.ntmps48
 go_wp2_with fail
 go_ret
 exact ⟨rfl, rfl⟩
theorem asks14_any (R : Nat) (w : World) : Calls Tryz.prog 48 #[.pointer (some ⟨R, 0, none⟩), .int .u8 14] w fun e w' => e = .returned (.func (.func 76) #[.pointer (some ⟨R, 0, none⟩)] #[]) ∧ w = w' := by
 go_enter Tryz.func48, Tryz.ntmps48
 go_wp2_with fail
 go_ret
 exact ⟨rfl, rfl⟩
theorem asks15_any (R : Nat) (w : World) : Calls Tryz.prog 48 #[.pointer (some ⟨R, 0, none⟩), .int .u8 15] w fun e w' => e = .returned (.func (.func 77) #[.pointer (some ⟨R, 0, none⟩)] #[]) ∧ w = w' := by
 go_enter Tryz.func48, Tryz.ntmps48
 go_wp2_with fail
 go_ret
 exact ⟨rfl, rfl⟩
theorem asks0_any (R : Nat) (w : World) : Calls Tryz.prog 48 #[.pointer (some ⟨R, 0, none⟩), .int .u8 0] w fun e w' => e = .returned (.func (.func 78) #[.pointer (some ⟨R, 0, none⟩)] #[]) ∧ w = w' := by
 go_enter Tryz.func48, Tryz.ntmps48
 go_wp2_with fail
 go_ret
 exact ⟨rfl, rfl⟩
theorem asks16_any (R : Nat) (w : World) : Calls Tryz.prog 48 #[.pointer (some ⟨R, 0, none⟩), .int .u8 16] w fun e w' => e = .returned (.func (.func 79) #[.pointer (some ⟨R, 0, none⟩)] #[]) ∧ w = w' := by
 go_enter Tryz.func48, Tryz.ntmps48
 go_wp2_with fail
 go_ret
 exact ⟨rfl, rfl⟩
theorem asks17_any (R : Nat) (w : World) : Calls Tryz.prog 48 #[.pointer (some ⟨R, 0, none⟩), .int .u8 17] w fun e w' => e = .returned (.func (.func 80) #[.pointer (some ⟨R, 0, none⟩)] #[]) ∧ w = w' := by
 go_enter Tryz.func48, Tryz.ntmps48
 go_wp2_with fail
 go_ret
 exact ⟨rfl, rfl⟩
theorem asks26_any (R : Nat) (w : World) : Calls Tryz.prog 48 #[.pointer (some ⟨R, 0, none⟩), .int .u8 26] w fun e w' => e = .returned (.func (.func 81) #[.pointer (some ⟨R, 0, none⟩)] #[]) ∧ w = w' := by
 go_enter Tryz.func48, Tryz.ntmps48
 go_wp2_with fail
 go_ret
 exact ⟨rfl, rfl⟩
theorem asks27_any (R : Nat) (w : World) : Calls Tryz.prog 48 #[.pointer (some ⟨R, 0, none⟩), .int .u8 27] w fun e w' => e = .returned (.func (.func 82) #[.pointer (some ⟨R, 0, none⟩)] #[]) ∧ w = w' := by
 go_enter Tryz.func48, Tryz.ntmps48
 go_wp2_with fail
 go_ret
 exact ⟨rfl, rfl⟩
theorem asks32_any (R : Nat) (w : World) : Calls Tryz.prog 48 #[.pointer (some ⟨R, 0, none⟩), .int .u8 32] w fun e w' => e = .returned (.func (.func 83) #[.pointer (some ⟨R, 0, none⟩)] #[]) ∧ w = w' := by
 go_enter Tryz.func48, Tryz.ntmps48
 go_wp2_with fail
 go_ret
 exact ⟨rfl, rfl⟩
theorem asks33_any (R : Nat) (w : World) : Calls Tryz.prog 48 #[.pointer (some ⟨R, 0, none⟩), .int .u8 33] w fun e w' => e = .returned (.func (.func 83) #[.pointer (some ⟨R, 0, none⟩)] #[]) ∧ w = w' := by
 go_enter Tryz.func48, Tryz.ntmps48
 go_wp2_with fail
 go_ret
 exact ⟨rfl, rfl⟩
theorem asks34_any (R : Nat) (w : World) : Calls Tryz.prog 48 #[.pointer (some ⟨R, 0, none⟩), .int .u8 34] w fun e w' => e = .returned (.func (.func 83) #[.pointer (some ⟨R, 0, none⟩)] #[]) ∧ w = w' := by
 go_enter Tryz.func48, Tryz.ntmps48
 go_wp2_with fail
 go_ret
 exact ⟨rfl, rfl⟩
theorem asks35_any (R : Nat) (w : World) : Calls Tryz.prog 48 #[.pointer (some ⟨R, 0, none⟩), .int .u8 35] w fun e w' => e = .returned (.func (.func 84) #[.pointer (some ⟨R, 0, none⟩)] #[]) ∧ w = w' := by
 go_enter Tryz.func48, Tryz.ntmps48
 go_wp2_with fail
 go_ret
 exact ⟨rfl, rfl⟩
theorem asks36_any (R : Nat) (w : World) : Calls Tryz.prog 48 #[.pointer (some ⟨R, 0, none⟩), .int .u8 36] w fun e w' => e = .returned (.func (.func 85) #[.pointer (some ⟨R, 0, none⟩)] #[]) ∧ w = w' := by
 go_enter Tryz.func48, Tryz.ntmps48
 go_wp2_with fail
 go_ret
 exact ⟨rfl, rfl⟩
theorem asks63_any (R : Nat) (w : World) : Calls Tryz.prog 48 #[.pointer (some ⟨R, 0, none⟩), .int .u8 63] w fun e w' => e = .returned (.func (.func 86) #[.pointer (some ⟨R, 0, none⟩)] #[]) ∧ w = w' := by
 go_enter Tryz.func48, Tryz.ntmps48
 go_wp2_with fail
 go_ret
 exact ⟨rfl, rfl⟩
theorem asks64_any (R : Nat) (w : World) : Calls Tryz.prog 48 #[.pointer (some ⟨R, 0, none⟩), .int .u8 64] w fun e w' => e = .returned (.func (.func 86) #[.pointer (some ⟨R, 0, none⟩)] #[]) ∧ w = w' := by
 go_enter Tryz.func48, Tryz.ntmps48
 go_wp2_with fail
 go_ret
 exact ⟨rfl, rfl⟩
theorem asksAcc_any (R op : Nat) (h0 : ¬ op = 0) (h2 : ¬ op = 2) (h3 : ¬ op = 3) (h4 : ¬ op = 4) (h5 : ¬ op = 5) (h11 : ¬ op = 11) (h12 : ¬ op = 12) (h13 : ¬ op = 13) (h14 : ¬ op = 14) (h15 : ¬ op = 15) (h16 : ¬ op = 16) (h17 : ¬ op = 17) (h26 : ¬ op = 26) (h27 : ¬ op = 27) (h32 : ¬ op = 32) (h33 : ¬ op = 33) (h34 : ¬ op = 34) (h35 : ¬ op = 35) (h36 : ¬ op = 36) (h63 : ¬ op = 63) (h64 : ¬ op = 64) (hw : 0 < Opc.width op) (w : World) : Calls Tryz.prog 48 #[.pointer (some ⟨R, 0, none⟩), .int .u8 (op : Int)] w fun e w' => e = .returned (.func (.func 88) #[.pointer (some ⟨R, 0, none⟩)] #[]) ∧ w = w' := by
 have i0 : ((op : Int) == 0) = false := by rw [beq_eq_false_iff_ne]; omega
 have j0 : ¬ ((op : Int) = 0) := by omega
 have i2 : ((op : Int) == 2) = false := by rw [beq_eq_false_iff_ne]; omega
 have j2 : ¬ ((op : Int) = 2) := by omega
 have i3 : ((op : Int) == 3) = false := by rw [beq_eq_false_iff_ne]; omega
 have j3 : ¬ ((op : Int) = 3) := by omega
 have i4 : ((op : Int) == 4) = false := by rw [beq_eq_false_iff_ne]; omega
 have j4 : ¬ ((op : Int) = 4) := by omega
 have i5 : ((op : Int) == 5) = false := by rw [beq_eq_false_iff_ne]; omega
 have j5 : ¬ ((op : Int) = 5) := by omega
 have i11 : ((op : Int) == 11) = false := by rw [beq_eq_false_iff_ne]; omega
 have j11 : ¬ ((op : Int) = 11) := by omega
 have i12 : ((op : Int) == 12) = false := by rw [beq_eq_false_iff_ne]; omega
 have j12 : ¬ ((op : Int) = 12) := by omega
 have i13 : ((op : Int) == 13) = false := by rw [beq_eq_false_iff_ne]; omega
 have j13 : ¬ ((op : Int) = 13) := by omega
 have i14 : ((op : Int) == 14) = false := by rw [beq_eq_false_iff_ne]; omega
 have j14 : ¬ ((op : Int) = 14) := by omega
 have i15 : ((op : Int) == 15) = false := by rw [beq_eq_false_iff_ne]; omega
 have j15 : ¬ ((op : Int) = 15) := by omega
 have i16 : ((op : Int) == 16) = false := by rw [beq_eq_false_iff_ne]; omega
 have j16 : ¬ ((op : Int) = 16) := by omega
 have i17 : ((op : Int) == 17) = false := by rw [beq_eq_false_iff_ne]; omega
 have j17 : ¬ ((op : Int) = 17) := by omega
 have i26 : ((op : Int) == 26) = false := by rw [beq_eq_false_iff_ne]; omega
 have j26 : ¬ ((op : Int) = 26) := by omega
 have i27 : ((op : Int) == 27) = false := by rw [beq_eq_false_iff_ne]; omega
 have j27 : ¬ ((op : Int) = 27) := by omega
 have i32 : ((op : Int) == 32) = false := by rw [beq_eq_false_iff_ne]; omega
 have j32 : ¬ ((op : Int) = 32) := by omega
 have i33 : ((op : Int) == 33) = false := by rw [beq_eq_false_iff_ne]; omega
 have j33 : ¬ ((op : Int) = 33) := by omega
 have i34 : ((op : Int) == 34) = false := by rw [beq_eq_false_iff_ne]; omega
 have j34 : ¬ ((op : Int) = 34) := by omega
 have i35 : ((op : Int) == 35) = false := by rw [beq_eq_false_iff_ne]; omega
 have j35 : ¬ ((op : Int) = 35) := by omega
 have i36 : ((op : Int) == 36) = false := by rw [beq_eq_false_iff_ne]; omega
 have j36 : ¬ ((op : Int) = 36) := by omega
 have i63 : ((op : Int) == 63) = false := by rw [beq_eq_false_iff_ne]; omega
 have j63 : ¬ ((op : Int) = 63) := by omega
 have i64 : ((op : Int) == 64) = false := by rw [beq_eq_false_iff_ne]; omega
 have j64 : ¬ ((op : Int) = 64) := by omega
 have HWD : Hid (∀ W, Calls Tryz.prog 87 #[.int .u8 (op : Int)] W fun e w' => e = .returned (.int .i64 (Opc.width op)) ∧ W = w') := J (fun W => cj (op : Int) W)
 generalize Opc.width op = wd at HWD hw
 have hwd : decide (0 < wd) = true := decide_eq_true hw
 go_enter Tryz.func48, Tryz.ntmps48
 go_wp2_with (go_at_call 87; refine (HWD.out _).mono ?_; rintro e w9 ⟨rfl, rfl⟩)
 go_ret
 exact ⟨rfl, rfl⟩
theorem asksPln_any (R op : Nat) (h0 : ¬ op = 0) (h2 : ¬ op = 2) (h3 : ¬ op = 3) (h4 : ¬ op = 4) (h5 : ¬ op = 5) (h11 : ¬ op = 11) (h12 : ¬ op = 12) (h13 : ¬ op = 13) (h14 : ¬ op = 14) (h15 : ¬ op = 15) (h16 : ¬ op = 16) (h17 : ¬ op = 17) (h26 : ¬ op = 26) (h27 : ¬ op = 27) (h32 : ¬ op = 32) (h33 : ¬ op = 33) (h34 : ¬ op = 34) (h35 : ¬ op = 35) (h36 : ¬ op = 36) (h63 : ¬ op = 63) (h64 : ¬ op = 64) (hw : ¬ 0 < Opc.width op) (w : World) : Calls Tryz.prog 48 #[.pointer (some ⟨R, 0, none⟩), .int .u8 (op : Int)] w fun e w' => e = .returned (.func (.func 89) #[.pointer (some ⟨R, 0, none⟩)] #[]) ∧ w = w' := by
 have i0 : ((op : Int) == 0) = false := by rw [beq_eq_false_iff_ne]; omega
 have j0 : ¬ ((op : Int) = 0) := by omega
 have i2 : ((op : Int) == 2) = false := by rw [beq_eq_false_iff_ne]; omega
 have j2 : ¬ ((op : Int) = 2) := by omega
 have i3 : ((op : Int) == 3) = false := by rw [beq_eq_false_iff_ne]; omega
 have j3 : ¬ ((op : Int) = 3) := by omega
 have i4 : ((op : Int) == 4) = false := by rw [beq_eq_false_iff_ne]; omega
 have j4 : ¬ ((op : Int) = 4) := by omega
 have i5 : ((op : Int) == 5) = false := by rw [beq_eq_false_iff_ne]; omega
 have j5 : ¬ ((op : Int) = 5) := by omega
 have i11 : ((op : Int) == 11) = false := by rw [beq_eq_false_iff_ne]; omega
 have j11 : ¬ ((op : Int) = 11) := by omega
 have i12 : ((op : Int) == 12) = false := by rw [beq_eq_false_iff_ne]; omega
 have j12 : ¬ ((op : Int) = 12) := by omega
 have i13 : ((op : Int) == 13) = false := by rw [beq_eq_false_iff_ne]; omega
 have j13 : ¬ ((op : Int) = 13) := by omega
 have i14 : ((op : Int) == 14) = false := by rw [beq_eq_false_iff_ne]; omega
 have j14 : ¬ ((op : Int) = 14) := by omega
 have i15 : ((op : Int) == 15) = false := by rw [beq_eq_false_iff_ne]; omega
 have j15 : ¬ ((op : Int) = 15) := by omega
 have i16 : ((op : Int) == 16) = false := by rw [beq_eq_false_iff_ne]; omega
 have j16 : ¬ ((op : Int) = 16) := by omega
 have i17 : ((op : Int) == 17) = false := by rw [beq_eq_false_iff_ne]; omega
 have j17 : ¬ ((op : Int) = 17) := by omega
 have i26 : ((op : Int) == 26) = false := by rw [beq_eq_false_iff_ne]; omega
 have j26 : ¬ ((op : Int) = 26) := by omega
 have i27 : ((op : Int) == 27) = false := by rw [beq_eq_false_iff_ne]; omega
 have j27 : ¬ ((op : Int) = 27) := by omega
 have i32 : ((op : Int) == 32) = false := by rw [beq_eq_false_iff_ne]; omega
 have j32 : ¬ ((op : Int) = 32) := by omega
 have i33 : ((op : Int) == 33) = false := by rw [beq_eq_false_iff_ne]; omega
 have j33 : ¬ ((op : Int) = 33) := by omega
 have i34 : ((op : Int) == 34) = false := by rw [beq_eq_false_iff_ne]; omega
 have j34 : ¬ ((op : Int) = 34) := by omega
 have i35 : ((op : Int) == 35) = false := by rw [beq_eq_false_iff_ne]; omega
 have j35 : ¬ ((op : Int) = 35) := by omega
 have i36 : ((op : Int) == 36) = false := by rw [beq_eq_false_iff_ne]; omega
 have j36 : ¬ ((op : Int) = 36) := by omega
 have i63 : ((op : Int) == 63) = false := by rw [beq_eq_false_iff_ne]; omega
 have j63 : ¬ ((op : Int) = 63) := by omega
 have i64 : ((op : Int) == 64) = false := by rw [beq_eq_false_iff_ne]; omega
 have j64 : ¬ ((op : Int) = 64) := by omega
 have HWD : Hid (∀ W, Calls Tryz.prog 87 #[.int .u8 (op : Int)] W fun e w' => e = .returned (.int .i64 (Opc.width op)) ∧ W = w') := J (fun W => cj (op : Int) W)
 generalize Opc.width op = wd at HWD hw
 have hwd : decide (0 < wd) = false := decide_eq_false hw
 go_enter Tryz.func48, Tryz.ntmps48
 go_wp2_with (go_at_call 87; refine (HWD.out _).mono ?_; rintro e w9 ⟨rfl, rfl⟩)
 go_ret
 exact ⟨rfl, rfl⟩
end Go.Proofs.YtelcdmkbaegjoaaGreat
