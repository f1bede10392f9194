/-
  Layer 10's program: unreachable, return, drop, select, plain, memory.size and memory.grow. (gen/body/meth1.py)
-/
import Derived.Test.YtakbehoglgebmaaQ21
namespace Go.Proofs.Ytakbehoglgebmaa
open Go.RowKit Ins Bin Sp
theorem WPost.num {C : Ctx} {R P : Nat} {G : Nat → Prop} {o' : List Bool} {w w' : World} {r : Bo.R} {e : Ending} (h : WPost C R P G o' w r e w') : ∃ k : Int, e = .returned (.int .i64 k) ∧ WPost C R P G o' w r (.returned (.int .i64 k)) w' := by
  cases r with
  | error n =>
    obtain ⟨rfl, h2⟩ := h
    exact ⟨_, rfl, rfl, h2⟩
  | ok s' =>
    obtain ⟨rfl, h2⟩ := h
    exact ⟨0, rfl, rfl, h2⟩
theorem WPost.err {C : Ctx} {R P : Nat} {G : Nat → Prop} {o' : List Bool} {w w' : World} {r : Bo.R} {n : Nat} (hr : r = .error n) (h : Below C.B C.w0 w') : WPost C R P G o' w r (.returned (.int .i64 (n : Int))) w' := by
  subst hr
  exact ⟨rfl, h⟩
theorem WPost.ok {C : Ctx} {R P : Nat} {G G' : Nat → Prop} {o' : List Bool} {w w' : World} {r : Bo.R} {s' : Ty.T} (hr : r = .ok s') (h : Wk C R P w' G' s' o') (hn : Nxt G w G' w') : WPost C R P G o' w r (.returned (.int .i64 0)) w' := by
  subst hr
  exact ⟨rfl, _, h, hn⟩
/-- A literal laid beside the walk. -/
theorem Wk.lit {C : Ctx} {R P : Nat} {w : World} {G : Nat → Prop} {s : Ty.T} {o : List Bool} (h : Wk C R P w G s o) (x : UInt8) : Wk C R P (w.alloc (.cells #[.int .u8 (x.toNat : Int)] 5)) G s o ∧ Nxt G w G (w.alloc (.cells #[.int .u8 (x.toNat : Int)] 5)) ∧ SliceV (w.alloc (.cells #[.int .u8 (x.toNat : Int)] 5)) (Apt (w.alloc (.cells #[.int .u8 (x.toNat : Int)] 5)) G) [x] (.slice (some ⟨w.heap.size, 0, none⟩) 1 1) := by
  have hb : Below w.heap.size w (w.alloc (.cells #[.int .u8 (x.toNat : Int)] 5)) := (Below.refl _ _).alloc (Nat.le_refl _) _
  exact ⟨h.on hb, Nxt.of_below hb, h.fresh hb (lit1 w x)⟩
theorem Wk.i32 {C : Ctx} {R P n : Nat} {w : World} {G : Nat → Prop} {s : Ty.T} {o : List Bool} (h : Wk C R P w G s o) (hs : s.sm n) (hn : n ≤ 500000000) :
    Calls Try.prog 67 #[.pointer (some ⟨P, 0, none⟩), .slice (some ⟨w.heap.size, 0, none⟩) 1 1] (w.alloc (.cells #[.int .u8 127] 5)) fun e w' => e = .returned (.bool (s.wantA [127])) ∧ ∃ G', Wk C R P w' G' (s.want [127]) o ∧ Nxt G w G' w' := by
  obtain ⟨h1, h2, h3⟩ := h.lit 127
  refine (wk_want h1 hs hn [127] _ h3 (by decide)).mono ?_
  rintro e w' ⟨rfl, G', q1, q2⟩
  exact ⟨rfl, G', q1, h2.trans q2⟩
set_option maxRecDepth 100000 in
set_option maxHeartbeats 4000000 in
theorem bunreach_any {C : Ctx} {R P n : Nat} {w : World} {G : Nat → Prop} {s : Ty.T} {o : List Bool} (h : Wk C R P w G s o) (hs : s.sm n) (hn : n ≤ 400000000) (op a b : Nat) (c : Int) (A4 : Option Addr) (l4 c4 : Nat) :
    Calls Try.prog 44 #[.pointer (some ⟨R, 0, none⟩), .agg #[.int .u8 (op : Int), .int .u32 (a : Int), .int .u32 (b : Int), .int .i64 c, .slice A4 l4 c4]] w (WPost C R P G o w (Bo.goes s [])) := by
  have HX0 := Lib.hid (heap_alloc_new w (.cells #[.int .u8 (op : Int), .int .u32 (a : Int), .int .u32 (b : Int), .int .i64 c, .slice A4 l4 c4] 49))
  have HB0 : Hid (Below w.heap.size w (w.alloc (.cells #[.int .u8 (op : Int), .int .u32 (a : Int), .int .u32 (b : Int), .int .i64 c, .slice A4 l4 c4] 49))) := Lib.hid ((Below.refl _ _).alloc (Nat.le_refl _) _)
  have H0 := Lib.hid (h.on HB0.out)
  have HN0 : Hid (Nxt G w G (w.alloc (.cells #[.int .u8 (op : Int), .int .u32 (a : Int), .int .u32 (b : Int), .int .i64 c, .slice A4 l4 c4] 49))) := Lib.hid (Nxt.of_below HB0.out)
  have HGX : Hid (¬ G w.heap.size ∧ w.heap.size < (w.alloc (.cells #[.int .u8 (op : Int), .int .u32 (a : Int), .int .u32 (b : Int), .int .i64 c, .slice A4 l4 c4] 49)).heap.size) := Lib.hid ⟨fun hg => Nat.lt_irrefl _ (h.out _ hg).2, by simp⟩
  clear h
  go_enter Try.func44, Try.ntmps44
  go_upto_region 1 with fail
  generalize (w.alloc (.cells #[.int .u8 (op : Int), .int .u32 (a : Int), .int .u32 (b : Int), .int .i64 c, .slice A4 l4 c4] 49)) = w0 at HX0 HB0 H0 HN0 HGX ⊢
  obtain ⟨X, hX⟩ : ∃ X, w.heap.size = X := ⟨_, rfl⟩
  rw [hX] at HX0 HGX
  simp only [hX]
  clear hX HB0
  obtain ⟨z0, z1, z2, z3, z4⟩ := cells5 HX0.out
  obtain ⟨q0, q1, q2, q3, q4, q5⟩ := H0.out.cells
  have HGO := Lib.hid (goes_any H0.out hs hn [] (.slice none 0 0) (SliceV.nil _ _) (by simp))
  clear hs hn
  go_wp2_with (go_at_call 70; refine (HGO.out).mono ?_; rintro e w9 he; obtain ⟨k, rfl, hk⟩ := he.num; have HK := Lib.hid hk; clear he hk)
  go_ret
  exact HK.out.ahead HN0.out
set_option maxRecDepth 100000 in
set_option maxHeartbeats 4000000 in
theorem bleave_any {C : Ctx} {R P n : Nat} {w : World} {G : Nat → Prop} {s : Ty.T} {o : List Bool} (hC : C.Good) (h : Wk C R P w G s o) (hs : s.sm n) (hn : n ≤ 400000000) (op a b : Nat) (c : Int) (A4 : Option Addr) (l4 c4 : Nat) :
    Calls Try.prog 43 #[.pointer (some ⟨R, 0, none⟩), .agg #[.int .u8 (op : Int), .int .u32 (a : Int), .int .u32 (b : Int), .int .i64 c, .slice A4 l4 c4]] w (WPost C R P G o w (Bo.goes s C.rs)) := by
  have HX0 := Lib.hid (heap_alloc_new w (.cells #[.int .u8 (op : Int), .int .u32 (a : Int), .int .u32 (b : Int), .int .i64 c, .slice A4 l4 c4] 49))
  have HB0 : Hid (Below w.heap.size w (w.alloc (.cells #[.int .u8 (op : Int), .int .u32 (a : Int), .int .u32 (b : Int), .int .i64 c, .slice A4 l4 c4] 49))) := Lib.hid ((Below.refl _ _).alloc (Nat.le_refl _) _)
  have H0 := Lib.hid (h.on HB0.out)
  have HN0 : Hid (Nxt G w G (w.alloc (.cells #[.int .u8 (op : Int), .int .u32 (a : Int), .int .u32 (b : Int), .int .i64 c, .slice A4 l4 c4] 49))) := Lib.hid (Nxt.of_below HB0.out)
  have HGX : Hid (¬ G w.heap.size ∧ w.heap.size < (w.alloc (.cells #[.int .u8 (op : Int), .int .u32 (a : Int), .int .u32 (b : Int), .int .i64 c, .slice A4 l4 c4] 49)).heap.size) := Lib.hid ⟨fun hg => Nat.lt_irrefl _ (h.out _ hg).2, by simp⟩
  have HV := Lib.hid (fun (W : World) (hW : Wk C R P W G s o) => goes_any hW hs hn C.rs C.v2 (hW.old hC.rs) (by have := hC.lr; omega))
  obtain ⟨A2, c2, e2, _⟩ := hC.rs
  rw [e2] at HV
  clear h hC hs hn
  go_enter Try.func43, Try.ntmps43
  go_upto_region 1 with fail
  generalize (w.alloc (.cells #[.int .u8 (op : Int), .int .u32 (a : Int), .int .u32 (b : Int), .int .i64 c, .slice A4 l4 c4] 49)) = w0 at HX0 HB0 H0 HN0 HGX ⊢
  obtain ⟨X, hX⟩ : ∃ X, w.heap.size = X := ⟨_, rfl⟩
  rw [hX] at HX0 HGX
  simp only [hX]
  clear hX HB0
  obtain ⟨z0, z1, z2, z3, z4⟩ := cells5 HX0.out
  obtain ⟨q0, q1, q2, q3, q4, q5⟩ := H0.out.cells
  have HGO := Lib.hid (HV.out _ H0.out)
  clear HV
  rw [e2] at q2
  clear e2
  generalize C.rs.length = n2 at q2 HGO
  go_wp2_with (go_at_call 70; refine (HGO.out).mono ?_; rintro e w9 he; obtain ⟨k, rfl, hk⟩ := he.num; have HK := Lib.hid hk; clear he hk)
  go_ret
  exact HK.out.ahead HN0.out
set_option maxRecDepth 100000 in
set_option maxHeartbeats 4000000 in
theorem bdrop_any {C : Ctx} {R P n : Nat} {w : World} {G : Nat → Prop} {s : Ty.T} {o : List Bool} (h : Wk C R P w G s o) (hs : s.sm n) (hn : n ≤ 400000000) (op a b : Nat) (c : Int) (A4 : Option Addr) (l4 c4 : Nat) :
    Calls Try.prog 47 #[.pointer (some ⟨R, 0, none⟩), .agg #[.int .u8 (op : Int), .int .u32 (a : Int), .int .u32 (b : Int), .int .i64 c, .slice A4 l4 c4]] w (WPost C R P G o w (Bo.drop s)) := by
  have HX0 := Lib.hid (heap_alloc_new w (.cells #[.int .u8 (op : Int), .int .u32 (a : Int), .int .u32 (b : Int), .int .i64 c, .slice A4 l4 c4] 49))
  have HB0 : Hid (Below w.heap.size w (w.alloc (.cells #[.int .u8 (op : Int), .int .u32 (a : Int), .int .u32 (b : Int), .int .i64 c, .slice A4 l4 c4] 49))) := Lib.hid ((Below.refl _ _).alloc (Nat.le_refl _) _)
  have H0 := Lib.hid (h.on HB0.out)
  have HN0 : Hid (Nxt G w G (w.alloc (.cells #[.int .u8 (op : Int), .int .u32 (a : Int), .int .u32 (b : Int), .int .i64 c, .slice A4 l4 c4] 49))) := Lib.hid (Nxt.of_below HB0.out)
  have HGX : Hid (¬ G w.heap.size ∧ w.heap.size < (w.alloc (.cells #[.int .u8 (op : Int), .int .u32 (a : Int), .int .u32 (b : Int), .int .i64 c, .slice A4 l4 c4] 49)).heap.size) := Lib.hid ⟨fun hg => Nat.lt_irrefl _ (h.out _ hg).2, by simp⟩
  clear h
  go_enter Try.func47, Try.ntmps47
  go_upto_region 1 with fail
  generalize (w.alloc (.cells #[.int .u8 (op : Int), .int .u32 (a : Int), .int .u32 (b : Int), .int .i64 c, .slice A4 l4 c4] 49)) = w0 at HX0 HB0 H0 HN0 HGX ⊢
  obtain ⟨X, hX⟩ : ∃ X, w.heap.size = X := ⟨_, rfl⟩
  rw [hX] at HX0 HGX
  simp only [hX]
  clear hX HB0
  obtain ⟨z0, z1, z2, z3, z4⟩ := cells5 HX0.out
  obtain ⟨q0, q1, q2, q3, q4, q5⟩ := H0.out.cells
  have hpo := wk_pop H0.out hs (by omega)
  cases hp : s.popA.2 with
  | false =>
    rw [hp] at hpo
    have HT : Hid (Bo.drop s = .error 100) := Lib.hid (by unfold Bo.drop; rw [hp]; rfl)
    have HPO := Lib.hid hpo
    clear hpo hp hs hn
    go_wp2_with (go_at_call 76; refine HPO.out.mono ?_; rintro e w1 ⟨rfl, G1, h1, n1⟩; have H1 := Lib.hid h1; have HN1 := Lib.hid n1; clear h1 n1)
    go_ret
    exact WPost.err HT.out (H0.out.below HN1.out)
  | true =>
    rw [hp] at hpo
    have HT : Hid (Bo.drop s = .ok s.pop) := Lib.hid (by unfold Bo.drop; rw [hp]; rfl)
    have HPO := Lib.hid hpo
    clear hpo hp hs hn
    go_wp2_with (go_at_call 76; refine HPO.out.mono ?_; rintro e w1 ⟨rfl, G1, h1, n1⟩; have H1 := Lib.hid h1; have HN1 := Lib.hid n1; clear h1 n1)
    go_ret
    exact WPost.ok HT.out H1.out (HN0.out.trans HN1.out)
set_option maxRecDepth 100000 in
set_option maxHeartbeats 4000000 in
theorem bplain_any {C : Ctx} {R P n : Nat} {w : World} {G : Nat → Prop} {s : Ty.T} {o : List Bool} (h : Wk C R P w G s o) (hs : s.sm n) (hn : n ≤ 400000000) (op a b : Nat) (c : Int) (A4 : Option Addr) (l4 c4 : Nat) :
    Calls Try.prog 55 #[.pointer (some ⟨R, 0, none⟩), .agg #[.int .u8 (op : Int), .int .u32 (a : Int), .int .u32 (b : Int), .int .i64 c, .slice A4 l4 c4]] w (WPost C R P G o w (Bo.plain op s)) := by
  have HX0 := Lib.hid (heap_alloc_new w (.cells #[.int .u8 (op : Int), .int .u32 (a : Int), .int .u32 (b : Int), .int .i64 c, .slice A4 l4 c4] 49))
  have HB0 : Hid (Below w.heap.size w (w.alloc (.cells #[.int .u8 (op : Int), .int .u32 (a : Int), .int .u32 (b : Int), .int .i64 c, .slice A4 l4 c4] 49))) := Lib.hid ((Below.refl _ _).alloc (Nat.le_refl _) _)
  have H0 := Lib.hid (h.on HB0.out)
  have HN0 : Hid (Nxt G w G (w.alloc (.cells #[.int .u8 (op : Int), .int .u32 (a : Int), .int .u32 (b : Int), .int .i64 c, .slice A4 l4 c4] 49))) := Lib.hid (Nxt.of_below HB0.out)
  have HGX : Hid (¬ G w.heap.size ∧ w.heap.size < (w.alloc (.cells #[.int .u8 (op : Int), .int .u32 (a : Int), .int .u32 (b : Int), .int .i64 c, .slice A4 l4 c4] 49)).heap.size) := Lib.hid ⟨fun hg => Nat.lt_irrefl _ (h.out _ hg).2, by simp⟩
  have HTU : Hid (∀ W v1 v2, Wk C R P W G s o → SliceV W (Apt W G) (Opc.sigP op) v1 → SliceV W (Apt W G) (Opc.sigR op) v2 → Calls Try.prog 71 #[.pointer (some ⟨R, 0, none⟩), v1, v2] W (WPost C R P G o W (Bo.plain op s))) := Lib.hid (fun W v1 v2 hW h1 h2 => turned_any hW hs hn _ _ v1 v2 h1 h2 (by have := (Bo.sig_len op).1; omega) (by have := (Bo.sig_len op).2; omega))
  clear h hs hn
  go_enter Try.func55, Try.ntmps55
  go_upto_region 1 with fail
  generalize (w.alloc (.cells #[.int .u8 (op : Int), .int .u32 (a : Int), .int .u32 (b : Int), .int .i64 c, .slice A4 l4 c4] 49)) = w0 at HX0 HB0 H0 HN0 HGX ⊢
  obtain ⟨X, hX⟩ : ∃ X, w.heap.size = X := ⟨_, rfl⟩
  rw [hX] at HX0 HGX
  simp only [hX]
  clear hX HB0
  obtain ⟨z0, z1, z2, z3, z4⟩ := cells5 HX0.out
  obtain ⟨q0, q1, q2, q3, q4, q5⟩ := H0.out.cells
  have HSG := Lib.hid (sigV_any (op : Int) w0)
  generalize Opc.sigP op = p1 at HTU HSG
  generalize Opc.sigR op = p2 at HTU HSG
  generalize Opc.plain op = pk at HSG
  go_wp2_with (first | (go_at_call 80; refine HSG.out.mono ?_; rintro e w1 ⟨A1, A2, rfl, s1, s2, hb⟩; have H1 := Lib.hid (H0.out.on hb); have HV1 := Lib.hid (H0.out.fresh hb s1); have HV2 := Lib.hid (H0.out.fresh hb s2); have HN1 : Hid (Nxt G w0 G w1) := Lib.hid (Nxt.of_below hb); clear s1 s2 hb) | (go_at_call 71; refine (HTU.out _ _ _ H1.out HV1.out HV2.out).mono ?_; rintro e w9 he; obtain ⟨k, rfl, hk⟩ := he.num; have HK := Lib.hid hk; clear he hk))
  go_ret
  exact (HK.out.ahead HN1.out).ahead HN0.out
set_option maxRecDepth 100000 in
set_option maxHeartbeats 4000000 in
theorem bpages_any {C : Ctx} {R P n : Nat} {w : World} {G : Nat → Prop} {s : Ty.T} {o : List Bool} (hC : C.Good) (h : Wk C R P w G s o) (hs : s.sm n) (hn : n ≤ 400000000) (op a b : Nat) (c : Int) (A4 : Option Addr) (l4 c4 : Nat) :
    Calls Try.prog 52 #[.pointer (some ⟨R, 0, none⟩), .agg #[.int .u8 (op : Int), .int .u32 (a : Int), .int .u32 (b : Int), .int .i64 c, .slice A4 l4 c4]] w (WPost C R P G o w (Bo.pages C.env op s)) := by
  have HX0 := Lib.hid (heap_alloc_new w (.cells #[.int .u8 (op : Int), .int .u32 (a : Int), .int .u32 (b : Int), .int .i64 c, .slice A4 l4 c4] 49))
  have HB0 : Hid (Below w.heap.size w (w.alloc (.cells #[.int .u8 (op : Int), .int .u32 (a : Int), .int .u32 (b : Int), .int .i64 c, .slice A4 l4 c4] 49))) := Lib.hid ((Below.refl _ _).alloc (Nat.le_refl _) _)
  have H0 := Lib.hid (h.on HB0.out)
  have HN0 : Hid (Nxt G w G (w.alloc (.cells #[.int .u8 (op : Int), .int .u32 (a : Int), .int .u32 (b : Int), .int .i64 c, .slice A4 l4 c4] 49))) := Lib.hid (Nxt.of_below HB0.out)
  have HGX : Hid (¬ G w.heap.size ∧ w.heap.size < (w.alloc (.cells #[.int .u8 (op : Int), .int .u32 (a : Int), .int .u32 (b : Int), .int .i64 c, .slice A4 l4 c4] 49)).heap.size) := Lib.hid ⟨fun hg => Nat.lt_irrefl _ (h.out _ hg).2, by simp⟩
  have HM := Lib.hid (fun (W : World) (hW : Wk C R P W G s o) => smem_any (some ⟨C.sp, 0, none⟩) C.m 0 W (.inl ⟨C.sp, rfl, hC.space.grow hW.base⟩) (Few.some hC.few) (by omega))
  have HPL : Hid (∀ W G1, Wk C R P W G1 s o → Calls Try.prog 55 #[.pointer (some ⟨R, 0, none⟩), .agg #[.int .u8 (op : Int), .int .u32 (a : Int), .int .u32 (b : Int), .int .i64 c, .slice A4 l4 c4]] W (WPost C R P G1 o W (Bo.plain op s))) := Lib.hid (fun W G1 hW => bplain_any hW hs hn op a b c A4 l4 c4)
  clear h hs hn hC
  go_enter Try.func52, Try.ntmps52
  go_upto_region 1 with fail
  generalize (w.alloc (.cells #[.int .u8 (op : Int), .int .u32 (a : Int), .int .u32 (b : Int), .int .i64 c, .slice A4 l4 c4] 49)) = w0 at HX0 HB0 H0 HN0 HGX ⊢
  obtain ⟨X, hX⟩ : ∃ X, w.heap.size = X := ⟨_, rfl⟩
  rw [hX] at HX0 HGX
  simp only [hX]
  clear hX HB0
  obtain ⟨z0, z1, z2, z3, z4⟩ := cells5 HX0.out
  obtain ⟨q0, q1, q2, q3, q4, q5⟩ := H0.out.cells
  have hm := HM.out _ H0.out
  clear HM
  unfold LimPost at hm
  have HE : Hid (C.env.mem = ((mems C.m)[0]?).isSome) := Lib.hid rfl
  obtain ⟨y1, y2, hy⟩ : ∃ y1 y2 : Int, limArr (((mems C.m)[0]?).getD ⟨0, 0⟩) = #[.int .u32 y1, .int .i64 y2] := ⟨_, _, rfl⟩
  rw [hy] at hm
  clear hy
  cases hp : ((mems C.m)[0]?).isSome with
  | false =>
    rw [hp] at hm HE
    have HT : Hid (Bo.pages C.env op s = .error 80) := Lib.hid (by unfold Bo.pages; rw [HE.out]; rfl)
    have HM := Lib.hid hm
    clear hm hp
    go_wp2_with (go_at_call 78; refine HM.out.mono ?_; rintro e w1 ⟨rfl, hb⟩; have HB1 := Lib.hid hb; clear hb)
    go_ret
    exact WPost.err HT.out (H0.out.on (HB1.out.alloc HB1.out.size _)).base
  | true =>
    rw [hp] at hm HE
    have HT : Hid (Bo.pages C.env op s = Bo.plain op s) := Lib.hid (by unfold Bo.pages; rw [HE.out]; rfl)
    have HM := Lib.hid hm
    clear hm hp
    go_wp2_with (first | (go_at_call 78; refine HM.out.mono ?_; rintro e w1 ⟨rfl, hb⟩; have hb2 : Below w0.heap.size w0 (w1.alloc (.cells #[.int .u32 y1, .int .i64 y2] 64)) := hb.alloc hb.size _; obtain ⟨x0, x1, x2, x3, x4⟩ := cells5 ((hb2.block X HGX.out.2).trans HX0.out); have HB1 := Lib.hid hb2; clear hb hb2) | (go_at_call 55; refine (HPL.out _ _ (H0.out.on HB1.out)).mono ?_; rintro e w9 he; obtain ⟨k, rfl, hk⟩ := he.num; have HK := Lib.hid hk; clear he hk))
    go_ret
    rw [HT.out]
    exact (HK.out.ahead (Nxt.of_below HB1.out)).ahead HN0.out
end Go.Proofs.Ytakbehoglgebmaa
