/-
  Layer 8's statements: the chapter's rows hold, and no space tells nothing. (gen/space/known2.py)
-/
import Derived.Test.YtgnbkfkiigcdgaaSpKnown1
namespace Go.Proofs.Ytgnbkfkiigcdgaa
open Go.RowKit Ins Bin Sp
def KF (xs ys : List UInt8) (n1 n2 : Nat) (b : Bool) (w : World) (e : Ending) (w' : World) : Prop := ∃ A c A' c', e = .returned (.tuple #[.agg #[.slice A n1 c, .slice A' n2 c'], .bool b]) ∧ SliceV w' (· < w'.heap.size) xs (.slice A n1 c) ∧ SliceV w' (· < w'.heap.size) ys (.slice A' n2 c') ∧ Below w.heap.size w w'
theorem FuncPost.kf {o : Option FT} {xs ys : List UInt8} {n1 n2 : Nat} {b : Bool} {w w' : World} {e : Ending} (h : FuncPost o w e w') (h1 : (o.getD ⟨[], []⟩).params = xs) (h2 : (o.getD ⟨[], []⟩).results = ys) (h3 : xs.length = n1) (h4 : ys.length = n2) (h5 : o.isSome = b) : KF xs ys n1 n2 b w e w' := by
  subst h1 h2 h3 h4 h5
  obtain ⟨u, v, rfl, hu, hv, hb⟩ := h
  have hu2 := hu
  have hv2 := hv
  obtain ⟨A, c, rfl, _⟩ := hu
  obtain ⟨A', c', rfl, _⟩ := hv
  exact ⟨A, c, A', c', rfl, hu2, hv2, hb⟩
theorem mk8_some : Some6 mk8 := by
  constructor
  · decide
  · intro x hx
    simp only [mk8, List.mem_cons, List.not_mem_nil, or_false] at hx
    rcases hx with rfl | rfl <;> decide
  · decide
  · decide
  · decide
  · decide
  · decide
theorem mk8_few : Few mk8 := by
  constructor
  · decide
  · decide
  · decide
  · decide
  · decide
  · decide
  · decide
  · intro x hx
    simp only [mk8, List.mem_cons, List.not_mem_nil, or_false] at hx
    rcases hx with rfl | rfl <;> decide
theorem mk8_funs : ∀ t ∈ funs mk8, t < 4294967296 := by decide
theorem noM_funs : ∀ t ∈ funs noM, t < 4294967296 := by decide
theorem kc0 (p : Option Addr) (w : World) (h : Recv w p mk8) : Calls Try.prog 20 #[.pointer p, .int .u8 0] w fun e w' => e = .returned (.int .i64 4) ∧ Below w.heap.size w w' := by
  have h1 := scount_any p mk8 0 (by decide) w h mk8_some
  rw [show count mk8 0 = 4 by decide] at h1
  exact h1
theorem ki0 (p : Option Addr) (w : World) (h : Recv w p mk8) : Calls Try.prog 22 #[.pointer p, .int .u8 0] w fun e w' => e = .returned (.int .i64 2) ∧ Below w.heap.size w w' := by
  have h1 := simported_any p mk8 0 (by decide) w h mk8_some
  rw [show imported mk8 0 = 2 by decide] at h1
  exact h1
theorem kc3 (p : Option Addr) (w : World) (h : Recv w p mk8) : Calls Try.prog 20 #[.pointer p, .int .u8 3] w fun e w' => e = .returned (.int .i64 0) ∧ Below w.heap.size w w' := by
  have h1 := scount_any p mk8 3 (by decide) w h mk8_some
  rw [show count mk8 3 = 0 by decide] at h1
  exact h1
theorem kc4 (p : Option Addr) (w : World) (h : Recv w p mk8) : Calls Try.prog 20 #[.pointer p, .int .u8 4] w fun e w' => e = .returned (.int .i64 0) ∧ Below w.heap.size w w' := by
  have h1 := scount_any p mk8 4 (by decide) w h mk8_some
  rw [show count mk8 4 = 0 by decide] at h1
  exact h1
theorem nc0 (p : Option Addr) (w : World) (h : Recv w p noM) : Calls Try.prog 20 #[.pointer p, .int .u8 0] w fun e w' => e = .returned (.int .i64 0) ∧ Below w.heap.size w w' := by
  have h1 := scount_any p noM 0 (by decide) w h noM_some
  rw [show count noM 0 = 0 by decide] at h1
  exact h1
theorem ni0 (p : Option Addr) (w : World) (h : Recv w p noM) : Calls Try.prog 22 #[.pointer p, .int .u8 0] w fun e w' => e = .returned (.int .i64 0) ∧ Below w.heap.size w w' := by
  have h1 := simported_any p noM 0 (by decide) w h noM_some
  rw [show imported noM 0 = 0 by decide] at h1
  exact h1
theorem kf0 (p : Option Addr) (w : World) (h : Recv w p mk8) : Calls Try.prog 9 #[.pointer p, .int .u32 0] w fun e w' => KF [127] [] 1 0 true w e w' :=
  (sfunc_any p mk8 0 w h mk8_some (by decide) mk8_funs).mono fun _ _ hq => FuncPost.kf hq (by decide) (by decide) rfl rfl (by decide)
theorem kf1 (p : Option Addr) (w : World) (h : Recv w p mk8) : Calls Try.prog 9 #[.pointer p, .int .u32 1] w fun e w' => KF [] [] 0 0 true w e w' :=
  (sfunc_any p mk8 1 w h mk8_some (by decide) mk8_funs).mono fun _ _ hq => FuncPost.kf hq (by decide) (by decide) rfl rfl (by decide)
theorem kf2 (p : Option Addr) (w : World) (h : Recv w p mk8) : Calls Try.prog 9 #[.pointer p, .int .u32 2] w fun e w' => KF [127] [] 1 0 true w e w' :=
  (sfunc_any p mk8 2 w h mk8_some (by decide) mk8_funs).mono fun _ _ hq => FuncPost.kf hq (by decide) (by decide) rfl rfl (by decide)
theorem kf3 (p : Option Addr) (w : World) (h : Recv w p mk8) : Calls Try.prog 9 #[.pointer p, .int .u32 3] w fun e w' => KF [] [] 0 0 false w e w' :=
  (sfunc_any p mk8 3 w h mk8_some (by decide) mk8_funs).mono fun _ _ hq => FuncPost.kf hq (by decide) (by decide) rfl rfl (by decide)
theorem kf4 (p : Option Addr) (w : World) (h : Recv w p mk8) : Calls Try.prog 9 #[.pointer p, .int .u32 4] w fun e w' => KF [] [] 0 0 false w e w' :=
  (sfunc_any p mk8 4 w h mk8_some (by decide) mk8_funs).mono fun _ _ hq => FuncPost.kf hq (by decide) (by decide) rfl rfl (by decide)
theorem nf0 (p : Option Addr) (w : World) (h : Recv w p noM) : Calls Try.prog 9 #[.pointer p, .int .u32 0] w fun e w' => KF [] [] 0 0 false w e w' :=
  (sfunc_any p noM 0 w h noM_some (by decide) noM_funs).mono fun _ _ hq => FuncPost.kf hq (by decide) (by decide) rfl rfl (by decide)
theorem nt0 (p : Option Addr) (w : World) (h : Recv w p noM) : Calls Try.prog 17 #[.pointer p, .int .u32 0] w fun e w' => KF [] [] 0 0 false w e w' :=
  (stype_any p noM 0 w h noM_some (by decide)).mono fun _ _ hq => FuncPost.kf hq.func (by decide) (by decide) rfl rfl (by decide)
theorem km0 (p : Option Addr) (w : World) (h : Recv w p mk8) : Calls Try.prog 16 #[.pointer p, .int .u32 0] w fun e w' => e = .returned (.tuple #[.agg #[.int .u32 1, .int .i64 (-1)], .bool true]) ∧ Below w.heap.size w w' := smem_any p mk8 0 w h mk8_some (by decide)
theorem km1 (p : Option Addr) (w : World) (h : Recv w p mk8) : Calls Try.prog 16 #[.pointer p, .int .u32 1] w fun e w' => e = .returned (.tuple #[.agg #[.int .u32 0, .int .i64 0], .bool false]) ∧ Below w.heap.size w w' := smem_any p mk8 1 w h mk8_some (by decide)
theorem kg0 (p : Option Addr) (w : World) (h : Recv w p mk8) : Calls Try.prog 11 #[.pointer p, .int .u32 0] w fun e w' => e = .returned (.tuple #[.agg #[.int .u8 0, .bool false], .bool false]) ∧ Below w.heap.size w w' := sglobal_any p mk8 0 w h mk8_some (by decide)
theorem ke0 (p : Option Addr) (w : World) (h : Recv w p mk8) : Calls Try.prog 18 #[.pointer p, .string ⟨#[109, 97, 105, 110]⟩, .int .u8 0] w fun e w' => e = .returned (.tuple #[.int .u32 2, .bool true]) ∧ Below w.heap.size w w' := by
  have h1 := sexport_any p mk8 [109, 97, 105, 110] 0 (by decide) w h mk8_some
  rw [show expo mk8 [109, 97, 105, 110] 0 = some ⟨[109, 97, 105, 110], 0, 2⟩ by decide] at h1
  exact h1
theorem ke2 (p : Option Addr) (w : World) (h : Recv w p mk8) : Calls Try.prog 18 #[.pointer p, .string ⟨#[109, 97, 105, 110]⟩, .int .u8 2] w fun e w' => e = .returned (.tuple #[.int .u32 0, .bool false]) ∧ Below w.heap.size w w' := by
  have h1 := sexport_any p mk8 [109, 97, 105, 110] 2 (by decide) w h mk8_some
  rw [show expo mk8 [109, 97, 105, 110] 2 = none by decide] at h1
  exact h1
theorem ne0 (p : Option Addr) (w : World) (h : Recv w p noM) : Calls Try.prog 18 #[.pointer p, .string ⟨#[]⟩, .int .u8 0] w fun e w' => e = .returned (.tuple #[.int .u32 0, .bool false]) ∧ Below w.heap.size w w' := by
  have h1 := sexport_any p noM [] 0 (by decide) w h noM_some
  rw [show expo noM [] 0 = none by decide] at h1
  exact h1
theorem ks1 (A1 A2 A3 A4 : Option Addr) (c1 c2 c3 c4 : Nat) (w : World) (h1 : SliceV w (· < w.heap.size) ([127] : List UInt8) (.slice A1 1 c1)) (h2 : SliceV w (· < w.heap.size) ([] : List UInt8) (.slice A2 0 c2)) (h3 : SliceV w (· < w.heap.size) ([127] : List UInt8) (.slice A3 1 c3)) (h4 : SliceV w (· < w.heap.size) ([] : List UInt8) (.slice A4 0 c4)) :
    Calls Try.prog 24 #[.agg #[.slice A1 1 c1, .slice A2 0 c2], .agg #[.slice A3 1 c3, .slice A4 0 c4]] w fun e w' => e = .returned (.bool true) ∧ Below w.heap.size w w' :=
  ssame_any ⟨[127], []⟩ ⟨[127], []⟩ _ _ _ _ w h1 h2 h3 h4 (by decide) (by decide)
theorem ks2 (A1 A2 A3 A4 : Option Addr) (c1 c2 c3 c4 : Nat) (w : World) (h1 : SliceV w (· < w.heap.size) ([127] : List UInt8) (.slice A1 1 c1)) (h2 : SliceV w (· < w.heap.size) ([] : List UInt8) (.slice A2 0 c2)) (h3 : SliceV w (· < w.heap.size) ([] : List UInt8) (.slice A3 0 c3)) (h4 : SliceV w (· < w.heap.size) ([] : List UInt8) (.slice A4 0 c4)) :
    Calls Try.prog 24 #[.agg #[.slice A1 1 c1, .slice A2 0 c2], .agg #[.slice A3 0 c3, .slice A4 0 c4]] w fun e w' => e = .returned (.bool false) ∧ Below w.heap.size w w' :=
  ssame_any ⟨[127], []⟩ ⟨[], []⟩ _ _ _ _ w h1 h2 h3 h4 (by decide) (by decide)
set_option maxRecDepth 100000 in
set_option maxHeartbeats 8000000 in
theorem known8 (w : World) : Calls Try.prog 6 #[] w fun e w' => e = .returned (.bool true) ∧ Below w.heap.size w w' := by
  have HNIL : Hid (∀ W, Recv W none noM) := Lib.hid (fun W => .inr ⟨rfl, rfl⟩)
  go_enter Try.func6, Try.ntmps6
  go_upto_region 2 with (first | (go_at_call 25; refine (smodule_any _).mono ?_; rintro e w1 ⟨v1, v2, v3, v4, v5, v6, v7, v8, v9, v10, rfl, hM, hb⟩; have HM := Lib.hid hM; have HB1 := Lib.hid hb; clear hM hb) | (go_at_call 8; refine (sof_any mk8 _ _ _ _ _ _ _ _ _ _ w1 HM.out mk8_few).mono ?_; rintro e x0 ⟨P, rfl, hs, hb⟩; have HS := Lib.hid hs; have HCUR := Lib.hid (HB1.out.trans (hb.mono HB1.out.size)); clear hs hb))
  have HALL := Lib.hid (fun W (hW : Below x0.heap.size x0 W) => ((.inl ⟨P, rfl, HS.out.grow hW⟩ : Recv W (some ⟨P, 0, none⟩) mk8)))
  clear HS HM HB1
  have tokA : True := trivial
  have tokB : True := trivial
  have tokC : True := trivial
  go_upto_region 4 with (first | (go_at_call 20; clear tokA; refine (kc0 _ _ (HALL.out _ (Below.refl _ _))).mono ?_; rintro e x1 ⟨rfl, hb⟩; have HCUR := Lib.hid (HCUR.out.trans (hb.mono HCUR.out.size)); have HALL := Lib.hid (fun W (hW : Below _ _ W) => HALL.out W (hb.trans (hW.mono hb.size))); clear hb) | (go_at_call 22; refine (ki0 _ _ (HALL.out _ (Below.refl _ _))).mono ?_; rintro e x2 ⟨rfl, hb⟩; have HCUR := Lib.hid (HCUR.out.trans (hb.mono HCUR.out.size)); have HALL := Lib.hid (fun W (hW : Below _ _ W) => HALL.out W (hb.trans (hW.mono hb.size))); clear hb) | (go_at_call 20; clear tokB; refine (kc3 _ _ (HALL.out _ (Below.refl _ _))).mono ?_; rintro e x3 ⟨rfl, hb⟩; have HCUR := Lib.hid (HCUR.out.trans (hb.mono HCUR.out.size)); have HALL := Lib.hid (fun W (hW : Below _ _ W) => HALL.out W (hb.trans (hW.mono hb.size))); clear hb) | (go_at_call 20; clear tokC; refine (kc4 _ _ (HALL.out _ (Below.refl _ _))).mono ?_; rintro e x4 ⟨rfl, hb⟩; have HCUR := Lib.hid (HCUR.out.trans (hb.mono HCUR.out.size)); have HALL := Lib.hid (fun W (hW : Below _ _ W) => HALL.out W (hb.trans (hW.mono hb.size))); clear hb))
  go_upto_region 5 with (go_at_call 9; refine (kf0 _ _ (HALL.out _ (Below.refl _ _))).mono ?_; rintro e x5 hq; obtain ⟨A5, c5, B5, d5, rfl, hs1, hs2, hb⟩ := hq; have HP5 := Lib.hid hs1; have HQ5 := Lib.hid hs2; have HCUR := Lib.hid (HCUR.out.trans (hb.mono HCUR.out.size)); have HALL := Lib.hid (fun W (hW : Below _ _ W) => HALL.out W (hb.trans (hW.mono hb.size))); clear hb hs1 hs2)
  have hba : Below x5.heap.size x5 (x5.alloc (.cells #[.slice A5 1 c5, .slice B5 0 d5] 40)) := (Below.refl _ _).alloc (Nat.le_refl _) _
  have hva := Lib.hid (heap_alloc_new x5 (.cells #[.slice A5 1 c5, .slice B5 0 d5] 40))
  have HCUR := Lib.hid (HCUR.out.trans (hba.mono HCUR.out.size))
  have HALL := Lib.hid (fun W (hW : Below (x5.alloc (.cells #[.slice A5 1 c5, .slice B5 0 d5] 40)).heap.size (x5.alloc (.cells #[.slice A5 1 c5, .slice B5 0 d5] 40)) W) => And.intro (HALL.out W (hba.trans (hW.mono hba.size))) (And.intro (two_cells ((hW.block _ (Array.getElem?_eq_some_iff.1 hva.out).1).trans hva.out)) (And.intro ((HP5.out.grow hba).grow hW) ((HQ5.out.grow hba).grow hW))))
  obtain ⟨V5, hV5⟩ : ∃ V, x5.heap.size = V := ⟨_, rfl⟩
  generalize x5.alloc (.cells #[.slice A5 1 c5, .slice B5 0 d5] 40) = y5 at HALL HCUR ⊢
  rw [hV5] at HALL
  simp only [hV5]
  clear hba hva hV5 HP5 HQ5
  go_upto_region 6 with (go_at_call 9; refine (kf1 _ _ (HALL.out _ (Below.refl _ _)).1).mono ?_; rintro e x6 hq; obtain ⟨A6, c6, B6, d6, rfl, hs1, hs2, hb⟩ := hq; have HP6 := Lib.hid hs1; have HQ6 := Lib.hid hs2; have HCUR := Lib.hid (HCUR.out.trans (hb.mono HCUR.out.size)); have HALL := Lib.hid (fun W (hW : Below _ _ W) => HALL.out W (hb.trans (hW.mono hb.size))); clear hb hs1 hs2)
  have hba : Below x6.heap.size x6 (x6.alloc (.cells #[.slice A6 0 c6, .slice B6 0 d6] 40)) := (Below.refl _ _).alloc (Nat.le_refl _) _
  have hva := Lib.hid (heap_alloc_new x6 (.cells #[.slice A6 0 c6, .slice B6 0 d6] 40))
  have HCUR := Lib.hid (HCUR.out.trans (hba.mono HCUR.out.size))
  have HALL := Lib.hid (fun W (hW : Below (x6.alloc (.cells #[.slice A6 0 c6, .slice B6 0 d6] 40)).heap.size (x6.alloc (.cells #[.slice A6 0 c6, .slice B6 0 d6] 40)) W) => And.intro (HALL.out W (hba.trans (hW.mono hba.size))) (And.intro (two_cells ((hW.block _ (Array.getElem?_eq_some_iff.1 hva.out).1).trans hva.out)) (And.intro ((HP6.out.grow hba).grow hW) ((HQ6.out.grow hba).grow hW))))
  obtain ⟨V6, hV6⟩ : ∃ V, x6.heap.size = V := ⟨_, rfl⟩
  generalize x6.alloc (.cells #[.slice A6 0 c6, .slice B6 0 d6] 40) = y6 at HALL HCUR ⊢
  rw [hV6] at HALL
  simp only [hV6]
  clear hba hva hV6 HP6 HQ6
  go_upto_region 7 with (go_at_call 9; refine (kf2 _ _ (HALL.out _ (Below.refl _ _)).1.1).mono ?_; rintro e x7 hq; obtain ⟨A7, c7, B7, d7, rfl, hs1, hs2, hb⟩ := hq; have HP7 := Lib.hid hs1; have HQ7 := Lib.hid hs2; have HCUR := Lib.hid (HCUR.out.trans (hb.mono HCUR.out.size)); have HALL := Lib.hid (fun W (hW : Below _ _ W) => HALL.out W (hb.trans (hW.mono hb.size))); clear hb hs1 hs2)
  have hba : Below x7.heap.size x7 (x7.alloc (.cells #[.slice A7 1 c7, .slice B7 0 d7] 40)) := (Below.refl _ _).alloc (Nat.le_refl _) _
  have hva := Lib.hid (heap_alloc_new x7 (.cells #[.slice A7 1 c7, .slice B7 0 d7] 40))
  have HCUR := Lib.hid (HCUR.out.trans (hba.mono HCUR.out.size))
  have HALL := Lib.hid (fun W (hW : Below (x7.alloc (.cells #[.slice A7 1 c7, .slice B7 0 d7] 40)).heap.size (x7.alloc (.cells #[.slice A7 1 c7, .slice B7 0 d7] 40)) W) => And.intro (HALL.out W (hba.trans (hW.mono hba.size))) (And.intro (two_cells ((hW.block _ (Array.getElem?_eq_some_iff.1 hva.out).1).trans hva.out)) (And.intro ((HP7.out.grow hba).grow hW) ((HQ7.out.grow hba).grow hW))))
  obtain ⟨V7, hV7⟩ : ∃ V, x7.heap.size = V := ⟨_, rfl⟩
  generalize x7.alloc (.cells #[.slice A7 1 c7, .slice B7 0 d7] 40) = y7 at HALL HCUR ⊢
  rw [hV7] at HALL
  simp only [hV7]
  clear hba hva hV7 HP7 HQ7
  go_upto_region 8 with (go_at_call 9; refine (kf3 _ _ (HALL.out _ (Below.refl _ _)).1.1.1).mono ?_; rintro e x8 hq; obtain ⟨A8, c8, B8, d8, rfl, hs1, hs2, hb⟩ := hq; have HP8 := Lib.hid hs1; have HQ8 := Lib.hid hs2; have HCUR := Lib.hid (HCUR.out.trans (hb.mono HCUR.out.size)); have HALL := Lib.hid (fun W (hW : Below _ _ W) => HALL.out W (hb.trans (hW.mono hb.size))); clear hb hs1 hs2)
  have hba : Below x8.heap.size x8 (x8.alloc (.cells #[.slice A8 0 c8, .slice B8 0 d8] 40)) := (Below.refl _ _).alloc (Nat.le_refl _) _
  have hva := Lib.hid (heap_alloc_new x8 (.cells #[.slice A8 0 c8, .slice B8 0 d8] 40))
  have HCUR := Lib.hid (HCUR.out.trans (hba.mono HCUR.out.size))
  have HALL := Lib.hid (fun W (hW : Below (x8.alloc (.cells #[.slice A8 0 c8, .slice B8 0 d8] 40)).heap.size (x8.alloc (.cells #[.slice A8 0 c8, .slice B8 0 d8] 40)) W) => And.intro (HALL.out W (hba.trans (hW.mono hba.size))) (two_cells ((hW.block _ (Array.getElem?_eq_some_iff.1 hva.out).1).trans hva.out)))
  obtain ⟨V8, hV8⟩ : ∃ V, x8.heap.size = V := ⟨_, rfl⟩
  generalize x8.alloc (.cells #[.slice A8 0 c8, .slice B8 0 d8] 40) = y8 at HALL HCUR ⊢
  rw [hV8] at HALL
  simp only [hV8]
  clear hba hva hV8 HP8 HQ8
  go_upto_region 9 with (go_at_call 9; refine (kf4 _ _ (HALL.out _ (Below.refl _ _)).1.1.1.1).mono ?_; rintro e x9 hq; obtain ⟨A9, c9, B9, d9, rfl, hs1, hs2, hb⟩ := hq; have HP9 := Lib.hid hs1; have HQ9 := Lib.hid hs2; have HCUR := Lib.hid (HCUR.out.trans (hb.mono HCUR.out.size)); have HALL := Lib.hid (fun W (hW : Below _ _ W) => HALL.out W (hb.trans (hW.mono hb.size))); clear hb hs1 hs2)
  have hba : Below x9.heap.size x9 (x9.alloc (.cells #[.slice A9 0 c9, .slice B9 0 d9] 40)) := (Below.refl _ _).alloc (Nat.le_refl _) _
  have hva := Lib.hid (heap_alloc_new x9 (.cells #[.slice A9 0 c9, .slice B9 0 d9] 40))
  have HCUR := Lib.hid (HCUR.out.trans (hba.mono HCUR.out.size))
  have HALL := Lib.hid (fun W (hW : Below (x9.alloc (.cells #[.slice A9 0 c9, .slice B9 0 d9] 40)).heap.size (x9.alloc (.cells #[.slice A9 0 c9, .slice B9 0 d9] 40)) W) => And.intro (HALL.out W (hba.trans (hW.mono hba.size))) (two_cells ((hW.block _ (Array.getElem?_eq_some_iff.1 hva.out).1).trans hva.out)))
  obtain ⟨V9, hV9⟩ : ∃ V, x9.heap.size = V := ⟨_, rfl⟩
  generalize x9.alloc (.cells #[.slice A9 0 c9, .slice B9 0 d9] 40) = y9 at HALL HCUR ⊢
  rw [hV9] at HALL
  simp only [hV9]
  clear hba hva hV9 HP9 HQ9
  go_upto_region 10 with (go_at_call 16; refine (km0 _ _ (HALL.out _ (Below.refl _ _)).1.1.1.1.1).mono ?_; rintro e x10 ⟨rfl, hb⟩; have HCUR := Lib.hid (HCUR.out.trans (hb.mono HCUR.out.size)); have HALL := Lib.hid (fun W (hW : Below _ _ W) => HALL.out W (hb.trans (hW.mono hb.size))); clear hb)
  have hba : Below x10.heap.size x10 (x10.alloc (.cells #[.int .u32 1, .int .i64 (-1)] 51)) := (Below.refl _ _).alloc (Nat.le_refl _) _
  have hva := Lib.hid (heap_alloc_new x10 (.cells #[.int .u32 1, .int .i64 (-1)] 51))
  have HCUR := Lib.hid (HCUR.out.trans (hba.mono HCUR.out.size))
  have HALL := Lib.hid (fun W (hW : Below (x10.alloc (.cells #[.int .u32 1, .int .i64 (-1)] 51)).heap.size (x10.alloc (.cells #[.int .u32 1, .int .i64 (-1)] 51)) W) => And.intro (HALL.out W (hba.trans (hW.mono hba.size))) (two_cells ((hW.block _ (Array.getElem?_eq_some_iff.1 hva.out).1).trans hva.out)))
  obtain ⟨V10, hV10⟩ : ∃ V, x10.heap.size = V := ⟨_, rfl⟩
  generalize x10.alloc (.cells #[.int .u32 1, .int .i64 (-1)] 51) = y10 at HALL HCUR ⊢
  rw [hV10] at HALL
  simp only [hV10]
  clear hba hva hV10
  go_upto_region 11 with (go_at_call 16; refine (km1 _ _ (HALL.out _ (Below.refl _ _)).1.1.1.1.1.1).mono ?_; rintro e x11 ⟨rfl, hb⟩; have HCUR := Lib.hid (HCUR.out.trans (hb.mono HCUR.out.size)); have HALL := Lib.hid (fun W (hW : Below _ _ W) => HALL.out W (hb.trans (hW.mono hb.size))); clear hb)
  have hba : Below x11.heap.size x11 (x11.alloc (.cells #[.int .u32 0, .int .i64 0] 51)) := (Below.refl _ _).alloc (Nat.le_refl _) _
  have hva := Lib.hid (heap_alloc_new x11 (.cells #[.int .u32 0, .int .i64 0] 51))
  have HCUR := Lib.hid (HCUR.out.trans (hba.mono HCUR.out.size))
  have HALL := Lib.hid (fun W (hW : Below (x11.alloc (.cells #[.int .u32 0, .int .i64 0] 51)).heap.size (x11.alloc (.cells #[.int .u32 0, .int .i64 0] 51)) W) => And.intro (HALL.out W (hba.trans (hW.mono hba.size))) (two_cells ((hW.block _ (Array.getElem?_eq_some_iff.1 hva.out).1).trans hva.out)))
  obtain ⟨V11, hV11⟩ : ∃ V, x11.heap.size = V := ⟨_, rfl⟩
  generalize x11.alloc (.cells #[.int .u32 0, .int .i64 0] 51) = y11 at HALL HCUR ⊢
  rw [hV11] at HALL
  simp only [hV11]
  clear hba hva hV11
  go_upto_region 12 with (go_at_call 11; refine (kg0 _ _ (HALL.out _ (Below.refl _ _)).1.1.1.1.1.1.1).mono ?_; rintro e x12 ⟨rfl, hb⟩; have HCUR := Lib.hid (HCUR.out.trans (hb.mono HCUR.out.size)); have HALL := Lib.hid (fun W (hW : Below _ _ W) => HALL.out W (hb.trans (hW.mono hb.size))); clear hb)
  have hba : Below x12.heap.size x12 (x12.alloc (.cells #[.int .u8 0, .bool false] 45)) := (Below.refl _ _).alloc (Nat.le_refl _) _
  have hva := Lib.hid (heap_alloc_new x12 (.cells #[.int .u8 0, .bool false] 45))
  have HCUR := Lib.hid (HCUR.out.trans (hba.mono HCUR.out.size))
  have HALL := Lib.hid (fun W (hW : Below (x12.alloc (.cells #[.int .u8 0, .bool false] 45)).heap.size (x12.alloc (.cells #[.int .u8 0, .bool false] 45)) W) => And.intro (HALL.out W (hba.trans (hW.mono hba.size))) (two_cells ((hW.block _ (Array.getElem?_eq_some_iff.1 hva.out).1).trans hva.out)))
  obtain ⟨V12, hV12⟩ : ∃ V, x12.heap.size = V := ⟨_, rfl⟩
  generalize x12.alloc (.cells #[.int .u8 0, .bool false] 45) = y12 at HALL HCUR ⊢
  rw [hV12] at HALL
  simp only [hV12]
  clear hba hva hV12
  obtain ⟨qf00, qf01⟩ := (HALL.out _ (Below.refl _ _)).1.1.1.1.1.1.1.2.1
  obtain ⟨qf10, qf11⟩ := (HALL.out _ (Below.refl _ _)).1.1.1.1.1.1.2.1
  obtain ⟨qf20, qf21⟩ := (HALL.out _ (Below.refl _ _)).1.1.1.1.1.2.1
  obtain ⟨qm00, qm01⟩ := (HALL.out _ (Below.refl _ _)).1.1.2
  go_upto_region 14 with fail
  clear qf00 qf01 qf10 qf11 qf20 qf21 qm00 qm01
  go_upto_region 15 with (go_at_call 18; refine (ke0 _ _ (HALL.out _ (Below.refl _ _)).1.1.1.1.1.1.1.1).mono ?_; rintro e x13 ⟨rfl, hb⟩; have HCUR := Lib.hid (HCUR.out.trans (hb.mono HCUR.out.size)); have HALL := Lib.hid (fun W (hW : Below _ _ W) => HALL.out W (hb.trans (hW.mono hb.size))); clear hb)
  go_upto_region 16 with (go_at_call 18; refine (ke2 _ _ (HALL.out _ (Below.refl _ _)).1.1.1.1.1.1.1.1).mono ?_; rintro e x14 ⟨rfl, hb⟩; have HCUR := Lib.hid (HCUR.out.trans (hb.mono HCUR.out.size)); have HALL := Lib.hid (fun W (hW : Below _ _ W) => HALL.out W (hb.trans (hW.mono hb.size))); clear hb)
  go_upto_region 18 with (go_at_call 9; refine (nf0 _ _ (HNIL.out _)).mono ?_; rintro e x15 hq; obtain ⟨A15, c15, B15, d15, rfl, hs1, hs2, hb⟩ := hq; have HP15 := Lib.hid hs1; have HQ15 := Lib.hid hs2; have HCUR := Lib.hid (HCUR.out.trans (hb.mono HCUR.out.size)); have HALL := Lib.hid (fun W (hW : Below _ _ W) => HALL.out W (hb.trans (hW.mono hb.size))); clear hb hs1 hs2)
  have hba : Below x15.heap.size x15 (x15.alloc (.cells #[.slice A15 0 c15, .slice B15 0 d15] 40)) := (Below.refl _ _).alloc (Nat.le_refl _) _
  have hva := Lib.hid (heap_alloc_new x15 (.cells #[.slice A15 0 c15, .slice B15 0 d15] 40))
  have HCUR := Lib.hid (HCUR.out.trans (hba.mono HCUR.out.size))
  have HALL := Lib.hid (fun W (hW : Below (x15.alloc (.cells #[.slice A15 0 c15, .slice B15 0 d15] 40)).heap.size (x15.alloc (.cells #[.slice A15 0 c15, .slice B15 0 d15] 40)) W) => And.intro (HALL.out W (hba.trans (hW.mono hba.size))) (two_cells ((hW.block _ (Array.getElem?_eq_some_iff.1 hva.out).1).trans hva.out)))
  obtain ⟨V15, hV15⟩ : ∃ V, x15.heap.size = V := ⟨_, rfl⟩
  generalize x15.alloc (.cells #[.slice A15 0 c15, .slice B15 0 d15] 40) = y15 at HALL HCUR ⊢
  rw [hV15] at HALL
  simp only [hV15]
  clear hba hva hV15 HP15 HQ15
  go_upto_region 19 with (go_at_call 17; refine (nt0 _ _ (HNIL.out _)).mono ?_; rintro e x16 hq; obtain ⟨A16, c16, B16, d16, rfl, hs1, hs2, hb⟩ := hq; have HP16 := Lib.hid hs1; have HQ16 := Lib.hid hs2; have HCUR := Lib.hid (HCUR.out.trans (hb.mono HCUR.out.size)); have HALL := Lib.hid (fun W (hW : Below _ _ W) => HALL.out W (hb.trans (hW.mono hb.size))); clear hb hs1 hs2)
  have hba : Below x16.heap.size x16 (x16.alloc (.cells #[.slice A16 0 c16, .slice B16 0 d16] 40)) := (Below.refl _ _).alloc (Nat.le_refl _) _
  have hva := Lib.hid (heap_alloc_new x16 (.cells #[.slice A16 0 c16, .slice B16 0 d16] 40))
  have HCUR := Lib.hid (HCUR.out.trans (hba.mono HCUR.out.size))
  have HALL := Lib.hid (fun W (hW : Below (x16.alloc (.cells #[.slice A16 0 c16, .slice B16 0 d16] 40)).heap.size (x16.alloc (.cells #[.slice A16 0 c16, .slice B16 0 d16] 40)) W) => And.intro (HALL.out W (hba.trans (hW.mono hba.size))) (two_cells ((hW.block _ (Array.getElem?_eq_some_iff.1 hva.out).1).trans hva.out)))
  obtain ⟨V16, hV16⟩ : ∃ V, x16.heap.size = V := ⟨_, rfl⟩
  generalize x16.alloc (.cells #[.slice A16 0 c16, .slice B16 0 d16] 40) = y16 at HALL HCUR ⊢
  rw [hV16] at HALL
  simp only [hV16]
  clear hba hva hV16 HP16 HQ16
  go_upto_region 20 with (go_at_call 18; refine (ne0 _ _ (HNIL.out _)).mono ?_; rintro e x17 ⟨rfl, hb⟩; have HCUR := Lib.hid (HCUR.out.trans (hb.mono HCUR.out.size)); have HALL := Lib.hid (fun W (hW : Below _ _ W) => HALL.out W (hb.trans (hW.mono hb.size))); clear hb)
  obtain ⟨qf00, qf01⟩ := (HALL.out _ (Below.refl _ _)).1.1.1.1.1.1.1.1.1.2.1
  obtain ⟨qf10, qf11⟩ := (HALL.out _ (Below.refl _ _)).1.1.1.1.1.1.1.1.2.1
  obtain ⟨qf20, qf21⟩ := (HALL.out _ (Below.refl _ _)).1.1.1.1.1.1.1.2.1
  have tokS : True := trivial
  go_wp2_with (first | (go_at_call 24; clear tokS; refine (ks1 _ _ _ _ _ _ _ _ _ (HALL.out _ (Below.refl _ _)).1.1.1.1.1.1.1.1.1.2.2.1 (HALL.out _ (Below.refl _ _)).1.1.1.1.1.1.1.1.1.2.2.2 (HALL.out _ (Below.refl _ _)).1.1.1.1.1.1.1.2.2.1 (HALL.out _ (Below.refl _ _)).1.1.1.1.1.1.1.2.2.2).mono ?_; rintro e x18 ⟨rfl, hb⟩; have HCUR := Lib.hid (HCUR.out.trans (hb.mono HCUR.out.size)); have HALL := Lib.hid (fun W (hW : Below _ _ W) => HALL.out W (hb.trans (hW.mono hb.size))); clear qf00 qf01 qf10 qf11 qf20 qf21; obtain ⟨qf00, qf01⟩ := (HALL.out _ (Below.refl _ _)).1.1.1.1.1.1.1.1.1.2.1; obtain ⟨qf10, qf11⟩ := (HALL.out _ (Below.refl _ _)).1.1.1.1.1.1.1.1.2.1; obtain ⟨qf20, qf21⟩ := (HALL.out _ (Below.refl _ _)).1.1.1.1.1.1.1.2.1; clear hb) | (go_at_call 24; refine (ks2 _ _ _ _ _ _ _ _ _ (HALL.out _ (Below.refl _ _)).1.1.1.1.1.1.1.1.1.2.2.1 (HALL.out _ (Below.refl _ _)).1.1.1.1.1.1.1.1.1.2.2.2 (HALL.out _ (Below.refl _ _)).1.1.1.1.1.1.1.1.2.2.1 (HALL.out _ (Below.refl _ _)).1.1.1.1.1.1.1.1.2.2.2).mono ?_; rintro e x19 ⟨rfl, hb⟩; have HCUR := Lib.hid (HCUR.out.trans (hb.mono HCUR.out.size)); have HALL := Lib.hid (fun W (hW : Below _ _ W) => HALL.out W (hb.trans (hW.mono hb.size))); clear qf00 qf01 qf10 qf11 qf20 qf21; clear hb) | (go_at_call 20; refine (nc0 _ _ (HNIL.out _)).mono ?_; rintro e x20 ⟨rfl, hb⟩; have HCUR := Lib.hid (HCUR.out.trans (hb.mono HCUR.out.size)); have HALL := Lib.hid (fun W (hW : Below _ _ W) => HALL.out W (hb.trans (hW.mono hb.size))); clear hb) | (go_at_call 22; refine (ni0 _ _ (HNIL.out _)).mono ?_; rintro e x21 ⟨rfl, hb⟩; have HCUR := Lib.hid (HCUR.out.trans (hb.mono HCUR.out.size)); have HALL := Lib.hid (fun W (hW : Below _ _ W) => HALL.out W (hb.trans (hW.mono hb.size))); clear hb))
  go_ret
  exact ⟨rfl, HCUR.out⟩
end Go.Proofs.Ytgnbkfkiigcdgaa
