/-
  Layer 9's known. (gen/typing/known.py)
-/
import Derived.Test.YthkglmkpnhhboaaTyDeadWalk
namespace Ty
def k1 : T := ⟨[], [⟨[127], [127], 0, false⟩], 0⟩
def k2 : T := ⟨[127, 126], [⟨[127], [127], 0, false⟩], 2⟩
def k3 : T := ⟨[], [⟨[127], [127], 0, false⟩], 2⟩
def k4 : T := ⟨[], [⟨[127], [127], 0, true⟩], 2⟩
def k5 : T := ⟨[126], [⟨[127], [127], 0, true⟩], 2⟩
def k6 : T := ⟨[], [], 2⟩
def k7 : T := ⟨[], [⟨[127], [127], 0, false⟩, ⟨[126], [], 0, false⟩], 0⟩
theorem kNew : T.new [127] = k1 := by kernel_rfl
theorem kPush : k1.push [127, 126] = k2 := by kernel_rfl
theorem kWant : k2.wantA [127, 126] = true ∧ k2.want [127, 126] = k3 := ⟨by kernel_rfl, by kernel_rfl⟩
theorem kPop : k3.popA = (0, false) ∧ k3.pop = k3 := ⟨by kernel_rfl, by kernel_rfl⟩
theorem kDead : k3.kill = k4 := by kernel_rfl
theorem kPop2 : k4.popA = (0, true) ∧ k4.pop = k4 := ⟨by kernel_rfl, by kernel_rfl⟩
theorem kPush2 : k4.push [126] = k5 := by kernel_rfl
theorem kWant2 : k5.wantA [127, 126] = true ∧ k5.want [127, 126] = k4 := ⟨by kernel_rfl, by kernel_rfl⟩
theorem kWant3 : k4.wantA [126] = true ∧ k4.want [126] = k4 := ⟨by kernel_rfl, by kernel_rfl⟩
theorem kClose : k4.closeA = some [127] ∧ k4.close = k6 := ⟨by kernel_rfl, by kernel_rfl⟩
theorem kOpen : k1.op [126] [] = k7 := by kernel_rfl
theorem kLab0 : k7.labelA 0 = some [126] := by kernel_rfl
theorem kLab1 : k7.labelA 1 = some [127] := by kernel_rfl
theorem kLab2 : k7.labelA 2 = none := by kernel_rfl
theorem kPop3 : k7.popA = (0, false) ∧ k7.pop = k7 := ⟨by kernel_rfl, by kernel_rfl⟩
theorem kClose2 : k7.closeA = some [] ∧ k7.close = k1 := ⟨by kernel_rfl, by kernel_rfl⟩
theorem smk (s : T) (h1 : s.ops.length ≤ 9) (h2 : s.most ≤ 9) (h3 : s.frs.length ≤ 9) (h4 : ∀ f ∈ s.frs, f.label.length ≤ 9 ∧ f.ends.length ≤ 9) : s.sm 9 := ⟨h1, h2, h3, h4⟩
theorem m1 : k1.sm 9 := smk k1 (by decide) (by decide) (by decide) (fun f hf => by simp [k1] at hf; subst hf; simp)
theorem m2 : k2.sm 9 := smk k2 (by decide) (by decide) (by decide) (fun f hf => by simp [k2] at hf; subst hf; simp)
theorem m3 : k3.sm 9 := smk k3 (by decide) (by decide) (by decide) (fun f hf => by simp [k3] at hf; subst hf; simp)
theorem m4 : k4.sm 9 := smk k4 (by decide) (by decide) (by decide) (fun f hf => by simp [k4] at hf; subst hf; simp)
theorem m5 : k5.sm 9 := smk k5 (by decide) (by decide) (by decide) (fun f hf => by simp [k5] at hf; subst hf; simp)
theorem m7 : k7.sm 9 := smk k7 (by decide) (by decide) (by decide) (fun f hf => by simp [k7] at hf; rcases hf with rfl | rfl <;> simp)
end Ty
namespace Go.Proofs.Ythkglmkpnhhboaa
open Go.RowKit Ins Bin
/-- A literal of types. -/
theorem lit_sl (w : World) (l : List UInt8) (vs : Array Value) (hv : vs = (bytesOf l).toArray) (n : Nat) (hn : n = l.length) (hl : l.length ≤ 1000) :
    SliceV (w.alloc (.cells vs 5)) (· < (w.alloc (.cells vs 5)).heap.size) l (.slice (some ⟨w.heap.size, 0, none⟩) n n) := by
  subst hv hn
  refine ⟨_, l.length, rfl, Nat.le_refl _, by unfold maxLen; omega, fun e => (by cases e), fun k x hk => ⟨w.heap.size, 0, [.int .u8 (x.toNat : Int)], rfl, by simp, by simp, rfl, fun j u hj => ?_⟩⟩
  cases j with
  | zero =>
    simp at hj
    subst hj
    obtain ⟨ad, e, _, hc⟩ := Has.lit w l 5 k x hk
    injection e with e
    subst e
    rw [addr_at] at hc
    have e2 : (0 + k : Nat) = 0 + k * Lay.size UInt8 + 0 := by show 0 + k = 0 + k * 1 + 0; omega
    rwa [e2] at hc
  | succ j => simp at hj
theorem SliceV.hasA {w : World} {S : Nat → Prop} {l : List UInt8} {A : Option Addr} {n c : Nat} (h : SliceV w S l (.slice A n c)) : Has w w.heap.size A l := by
  obtain ⟨A', c', e, _, _, _, h5⟩ := h
  injection e with e1 _ _
  subst e1
  exact h5.has
theorem stepX {w0 W W' : World} {F F' : Nat → Prop} (hf : ∀ k, F k → w0.heap.size ≤ k) (hb : Below w0.heap.size w0 W) (hn : Nxt F W F' W') : (∀ k, F' k → w0.heap.size ≤ k) ∧ Below w0.heap.size w0 W' :=
  ⟨fun k hk => by
    rcases hn.1 k hk with h | h
    · exact hf k h
    · exact Nat.le_trans hb.size h, hb.trans (hn.2.below hb.size (fun k hk h => by have := hf k h; omega))⟩
/-- What lies in none of a stack's blocks stays behind a call of it. -/
theorem keepX {F F' : Nat → Prop} {W W' : World} {l : List UInt8} {v : Value} (h : SliceV W (fun k => ¬ F k) l v) (hn : Nxt F W F' W') : SliceV W' (fun k => ¬ F' k) l v := by
  have h1 := h.more (S' := fun k => ¬ F k ∧ k < W.heap.size) (fun k hk hs => ⟨hs, hk⟩)
  have h2 := h1.mod hn.2 (fun k _ hs => hs.1)
  exact h2.more (fun k _ hs hf => by
    rcases hn.1 k hf with e | e
    · exact hs.1 e
    · have := hs.2; omega)
set_option maxRecDepth 100000 in
set_option maxHeartbeats 4000000 in
theorem known9 : KnownOk := fun w => by
  go_enter Try.func6, Try.ntmps6
  go_upto_region 2 with (go_at_call 8; (have hc := st1_new [127] _ (w.alloc (.cells #[.int .u8 127] 5)) (lit_sl w [127] #[.int .u8 127] rfl 1 rfl (by decide)) (by decide)); refine hc.mono ?_; rintro e w1 ⟨P, rfl, ho⟩; rw [Ty.kNew] at ho; have HO1 := Lib.hid ho; clear ho hc)
  go_upto_region 3 with (go_at_call 10; (have hc := st1_push (HO1.out.on ((Below.refl _ _).alloc (Nat.le_refl _) _)) Ty.m1 (by omega) [127, 126] _ 2 (lit_sl w1 [127, 126] #[.int .u8 127, .int .u8 126] rfl 2 rfl (by decide)).hasA (by decide)); refine hc.mono ?_; rintro e w2 ⟨rfl, ho⟩; rw [Ty.kPush] at ho; have HO2 := Lib.hid ho; clear ho hc)
  go_upto_region 5 with (go_at_call 14; (have hc := st1_want (HO2.out.on ((Below.refl _ _).alloc (Nat.le_refl _) _)) Ty.m2 (by omega) [127, 126] _ 2 (lit_sl w2 [127, 126] #[.int .u8 127, .int .u8 126] rfl 2 rfl (by decide)).hasA (by decide)); rw [Ty.kWant.1] at hc; refine hc.mono ?_; rintro e w3 ⟨rfl, ho⟩; rw [Ty.kWant.2] at ho; have HO3 := Lib.hid ho; clear ho hc)
  go_upto_region 8 with (go_at_call 12; (have hc := st1_pop HO3.out Ty.m3 (by omega)); rw [Ty.kPop.1] at hc; refine hc.mono ?_; rintro e w4 ⟨rfl, ho⟩; rw [Ty.kPop.2] at ho; have HO4 := Lib.hid ho; clear ho hc)
  go_upto_region 9 with (go_at_call 20; (have hc := st1_dead HO4.out Ty.m3 (by omega)); refine hc.mono ?_; rintro e w5 ⟨rfl, ho⟩; rw [Ty.kDead] at ho; have HO5 := Lib.hid ho; clear ho hc)
  go_upto_region 10 with (go_at_call 12; (have hc := st1_pop HO5.out Ty.m4 (by omega)); rw [Ty.kPop2.1] at hc; refine hc.mono ?_; rintro e w6 ⟨rfl, ho⟩; rw [Ty.kPop2.2] at ho; have HO6 := Lib.hid ho; clear ho hc)
  go_upto_region 11 with (go_at_call 10; (have hc := st1_push (HO6.out.on ((Below.refl _ _).alloc (Nat.le_refl _) _)) Ty.m4 (by omega) [126] _ 1 (lit_sl w6 [126] #[.int .u8 126] rfl 1 rfl (by decide)).hasA (by decide)); refine hc.mono ?_; rintro e w7 ⟨rfl, ho⟩; rw [Ty.kPush2] at ho; have HO7 := Lib.hid ho; clear ho hc)
  have tok1 : True := trivial
  go_upto_region 12 with (first | (clear tok1; (go_at_call 14; (have hc := st1_want (HO7.out.on ((Below.refl _ _).alloc (Nat.le_refl _) _)) Ty.m5 (by omega) [127, 126] _ 2 (lit_sl w7 [127, 126] #[.int .u8 127, .int .u8 126] rfl 2 rfl (by decide)).hasA (by decide)); rw [Ty.kWant2.1] at hc; refine hc.mono ?_; rintro e w8 ⟨rfl, ho⟩; rw [Ty.kWant2.2] at ho; have HO8 := Lib.hid ho; clear ho hc)) | (go_at_call 14; (have hc := st1_want (HO8.out.on ((Below.refl _ _).alloc (Nat.le_refl _) _)) Ty.m4 (by omega) [126] _ 1 (lit_sl w8 [126] #[.int .u8 126] rfl 1 rfl (by decide)).hasA (by decide)); rw [Ty.kWant3.1] at hc; refine hc.mono ?_; rintro e w9 ⟨rfl, ho⟩; rw [Ty.kWant3.2] at ho; have HO9 := Lib.hid ho; clear ho hc))
  go_upto_region 13 with (go_at_call 18; (have hc := st1_close HO9.out Ty.m4 (by omega)); rw [Ty.kClose.1] at hc; refine hc.mono ?_; rintro e w10 ⟨⟨A8, c8, he, _, _, _, hh⟩, ho⟩; have he2 : e = .returned (.tuple #[.slice A8 1 c8, .bool true]) := he; subst he2; rw [Ty.kClose.2] at ho; have HO10 := Lib.hid ho; have hs1 : (convert 22 9 (.slice A8 1 c8)).run Try.prog w10 = .ok (.string ⟨[127].toArray⟩) w10 := run_str hh rfl c8; have hs2 : (convert 22 9 (.slice (some ⟨w10.heap.size, 0, none⟩) 1 1)).run Try.prog (w10.alloc (.cells #[.int .u8 127] 5)) = .ok (.string ⟨[127].toArray⟩) (w10.alloc (.cells #[.int .u8 127] 5)) := run_str (lit_sl w10 [127] #[.int .u8 127] rfl 1 rfl (by decide)).hasA rfl 1; clear he hh ho hc)
  go_upto_region 15 with (go_at_call 24; (have hc := st1_frames (One.on (w' := w10.alloc (.cells #[.int .u8 127] 5)) HO10.out ((Below.refl _ _).alloc (Nat.le_refl _) _))); rw [show Ty.k6.frs.length = 0 from rfl] at hc; refine hc.mono ?_; rintro e w11 ⟨hw, rfl⟩; have HBA : Hid (Below w.heap.size w w11) := Lib.hid (by rw [hw]; exact (Below.trans ((Below.refl _ _).alloc (Nat.le_refl _) _) (HO10.out.below.mono (by simp))).alloc ((Below.trans ((Below.refl _ _).alloc (Nat.le_refl _) _) (HO10.out.below.mono (by simp))).size) _); clear hw hc hs1 hs2)
  go_upto_region 16 with (go_at_call 8; (have hc := at_new [127] _ (w11.alloc (.cells #[.int .u8 127] 5)) (lit_sl w11 [127] #[.int .u8 127] rfl 1 rfl (by decide)) (by decide)); refine hc.mono ?_; rintro e w12 ⟨P2, F, rfl, ha, hf, hb⟩; rw [Ty.kNew] at ha; have HA12 := Lib.hid ha; have hbb : Below w.heap.size w (w11.alloc (.cells #[.int .u8 127] 5)) := HBA.out.alloc HBA.out.size _; have HF12 : Hid (∀ k, F k → w.heap.size ≤ k) := Lib.hid (fun k hk => Nat.le_trans hbb.size (hf k hk)); have HB12 : Hid (Below w.heap.size w w12) := Lib.hid (hbb.trans (hb.mono hbb.size)); clear ha hf hb hbb hc)
  go_upto_region 17 with (go_at_call 16; (have hc := at_open (HA12.out.on ((Below.refl _ _).alloc (Nat.le_refl _) _)) Ty.m1 (by omega) [126] [] _ (.slice none 0 0) (lit_sl w12 [126] #[.int .u8 126] rfl 1 rfl (by decide)) (SliceV.nil _ _) (by decide) (by decide)); refine hc.mono ?_; rintro e w13 ⟨rfl, F1, ha, hn⟩; rw [Ty.kOpen] at ha; have HA13 := Lib.hid ha; have hs := stepX HF12.out (HB12.out.alloc HB12.out.size _) hn; have HF13 := Lib.hid hs.1; have HB13 := Lib.hid hs.2; clear ha hn hs hc)
  go_upto_region 18 with (go_at_call 22; (have hc := at_label HA13.out Ty.m7 (by omega) 0 (by omega)); rw [Ty.kLab0, show ((0 : Nat) : Int) = 0 from rfl] at hc; refine hc.mono ?_; rintro e w14 ⟨⟨AX, cX, he, hx⟩, hb⟩; have he2 : e = .returned (.tuple #[.slice AX 1 cX, .bool true]) := he; subst he2; have hx2 : SliceV w14 (fun x => w13.heap.size ≤ x) ([126] : List UInt8) (.slice AX 1 cX) := hx; have HX14 : Hid (SliceV w14 (fun k => ¬ F1 k) ([126] : List UInt8) (.slice AX 1 cX)) := Lib.hid (hx2.more (fun k _ hk hf => by have := HA13.out.2.2 k hf; have h2 : w13.heap.size ≤ k := hk; omega)); clear hx hx2 he; have HA14 := Lib.hid (HA13.out.on hb); have HB14 : Hid (Below w.heap.size w w14) := Lib.hid (HB13.out.trans (hb.mono HB13.out.size)); clear hb hc)
  go_upto_region 19 with (go_at_call 22; (have hc := at_label HA14.out Ty.m7 (by omega) 1 (by omega)); rw [Ty.kLab1, show ((1 : Nat) : Int) = 1 from rfl] at hc; refine hc.mono ?_; rintro e w15 ⟨⟨AY, cY, he, hx⟩, hb⟩; have he2 : e = .returned (.tuple #[.slice AY 1 cY, .bool true]) := he; subst he2; have hx2 : SliceV w15 (fun x => w14.heap.size ≤ x) ([127] : List UInt8) (.slice AY 1 cY) := hx; have HY15 : Hid (SliceV w15 (fun k => ¬ F1 k) ([127] : List UInt8) (.slice AY 1 cY)) := Lib.hid (hx2.more (fun k _ hk hf => by have := HA14.out.2.2 k hf; have h2 : w14.heap.size ≤ k := hk; omega)); clear hx hx2 he; have HA15 := Lib.hid (HA14.out.on hb); have HB15 : Hid (Below w.heap.size w w15) := Lib.hid (HB14.out.trans (hb.mono HB14.out.size)); have HX15 := Lib.hid (HX14.out.mod (T := fun _ => False) (Mod.of_below hb) (fun _ _ _ h => h)); clear hb hc)
  go_upto_region 20 with (go_at_call 22; (have hc := at_label HA15.out Ty.m7 (by omega) 2 (by omega)); rw [Ty.kLab2, show ((2 : Nat) : Int) = 2 from rfl] at hc; refine hc.mono ?_; rintro e w16 ⟨rfl, hb⟩; have HA16 := Lib.hid (HA15.out.on hb); have HB16 : Hid (Below w.heap.size w w16) := Lib.hid (HB15.out.trans (hb.mono HB15.out.size)); have HX16 := Lib.hid (HX15.out.mod (T := fun _ => False) (Mod.of_below hb) (fun _ _ _ h => h)); have HY16 := Lib.hid (HY15.out.mod (T := fun _ => False) (Mod.of_below hb) (fun _ _ _ h => h)); clear hb hc)
  go_upto_region 21 with (go_at_call 12; (have hc := at_pop HA16.out Ty.m7 (by omega)); rw [Ty.kPop3.1, Ty.kPop3.2] at hc; refine hc.mono ?_; rintro e w17 ⟨rfl, F2, ha, hn⟩; have HA17 := Lib.hid ha; have hs := stepX HF13.out HB16.out hn; have HF17 := Lib.hid hs.1; have HB17 := Lib.hid hs.2; have HX17 := Lib.hid (keepX HX16.out hn); have HY17 := Lib.hid (keepX HY16.out hn); clear ha hn hs hc)
  go_upto_region 23 with (go_at_call 18; (have hc := at_close HA17.out Ty.m7 (by omega)); rw [Ty.kClose2.1, Ty.kClose2.2] at hc; refine hc.mono ?_; rintro e w18 ⟨⟨A18, c18, he, _⟩, F3, ha, hn⟩; have he2 : e = .returned (.tuple #[.slice A18 0 c18, .bool true]) := he; subst he2; have hs := stepX HF17.out HB17.out hn; have HB18 := Lib.hid hs.2; have HX18 := Lib.hid (keepX HX17.out hn); have HY18 := Lib.hid (keepX HY17.out hn); clear ha hn hs hc he)
  go_upto_region 24 with (go_at_call 10; refine (npush_any _ _).mono ?_; rintro e w19 ⟨rfl, hw⟩; have hbl : Below w18.heap.size w18 w19 := (by rw [hw]; exact (Below.refl _ _).alloc (Nat.le_refl _) _); clear hw; have HB19 : Hid (Below w.heap.size w w19) := Lib.hid (HB18.out.trans (hbl.mono HB18.out.size)); have HX19 := Lib.hid (HX18.out.mod (T := fun _ => False) (Mod.of_below hbl) (fun _ _ _ h => h)); have HY19 := Lib.hid (HY18.out.mod (T := fun _ => False) (Mod.of_below hbl) (fun _ _ _ h => h)); clear hbl)
  go_upto_region 25 with (go_at_call 16; refine (nopen_any _ _ _).mono ?_; rintro e wz ⟨rfl, hw⟩; obtain rfl : w19 = wz := hw.symm)
  go_upto_region 26 with (go_at_call 20; refine (ndead_any _).mono ?_; rintro e wz ⟨rfl, hw⟩; obtain rfl : w19 = wz := hw.symm)
  go_upto_region 27 with (go_at_call 12; refine (npop_any _).mono ?_; rintro e wz ⟨rfl, hw⟩; obtain rfl : w19 = wz := hw.symm)
  go_upto_region 28 with (go_at_call 18; refine (nclose_any _).mono ?_; rintro e wz ⟨rfl, hw⟩; obtain rfl : w19 = wz := hw.symm)
  go_upto_region 29 with (go_at_call 22; refine (nlabel_any _).mono ?_; rintro e wz ⟨rfl, hw⟩; obtain rfl : w19 = wz := hw.symm)
  have hs1 : (convert 22 9 (.slice AX 1 cX)).run Try.prog w19 = .ok (.string ⟨[126].toArray⟩) w19 := run_str HX19.out.hasA rfl cX
  have hs2 : (convert 22 9 (.slice (some ⟨w19.heap.size, 0, none⟩) 1 1)).run Try.prog (w19.alloc (.cells #[.int .u8 126] 5)) = .ok (.string ⟨[126].toArray⟩) (w19.alloc (.cells #[.int .u8 126] 5)) := run_str (lit_sl w19 [126] #[.int .u8 126] rfl 1 rfl (by decide)).hasA rfl 1
  have hs3 : (convert 22 9 (.slice AY 1 cY)).run Try.prog (w19.alloc (.cells #[.int .u8 126] 5)) = .ok (.string ⟨[127].toArray⟩) (w19.alloc (.cells #[.int .u8 126] 5)) := run_str (HY19.out.hasA.on ((Below.refl _ _).alloc (Nat.le_refl _) _)) rfl cY
  have hs4 : (convert 22 9 (.slice (some ⟨(w19.alloc (.cells #[.int .u8 126] 5)).heap.size, 0, none⟩) 1 1)).run Try.prog ((w19.alloc (.cells #[.int .u8 126] 5)).alloc (.cells #[.int .u8 127] 5)) = .ok (.string ⟨[127].toArray⟩) ((w19.alloc (.cells #[.int .u8 126] 5)).alloc (.cells #[.int .u8 127] 5)) := run_str (lit_sl (w19.alloc (.cells #[.int .u8 126] 5)) [127] #[.int .u8 127] rfl 1 rfl (by decide)).hasA rfl 1
  rw [show (w19.alloc (.cells #[.int .u8 126] 5)).heap.size = w19.heap.size + 1 by simp] at hs4
  go_wp2_with (first | (go_at_call 14; refine (nwant_any _ _).mono ?_; rintro e wz ⟨rfl, hw⟩; subst hw) | (go_at_call 24; refine (nframes_any _).mono ?_; rintro e wz ⟨rfl, hw⟩; subst hw) | (go_at_call 25; refine (nheight_any _).mono ?_; rintro e wz ⟨rfl, hw⟩; subst hw) | (go_at_call 27; refine (nmost_any _).mono ?_; rintro e wz ⟨rfl, hw⟩; subst hw))
  go_ret
  exact ⟨by simp, (HB19.out.alloc HB19.out.size _).alloc ((HB19.out.alloc HB19.out.size _).size) _⟩
end Go.Proofs.Ythkglmkpnhhboaa
