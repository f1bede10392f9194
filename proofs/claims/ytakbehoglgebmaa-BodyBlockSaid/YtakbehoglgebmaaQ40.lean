/-
  The document's Great, Same and SameAll: they tell what the plain functions tell, and leave all that was there as it was.
-/
import Derived.Test.YtakbehoglgebmaaQ21
import Derived.Test.YtakbehoglgebmaaQ03
import Derived.Deep.Cut
import Derived.Deep.RegionHeld3
import Derived.Test.YtakbehoglgebmaaQ39
namespace Ins
/-- Instructions and labels together. -/
def many : List I → Nat
  | [] => 0
  | x :: xs => 1 + x.l.length + many xs
theorem many_append : ∀ (a b : List I), many (a ++ b) = many a + many b
  | [], b => by simp [many]
  | x :: a, b => by simp only [List.cons_append, many, many_append a b]; omega
theorem many_take {xs : List I} {j : Nat} {x : I} (h : xs[j]? = some x) : many (xs.take (j + 1)) = many (xs.take j) + (1 + x.l.length) := by
  rw [List.take_add_one, h, many_append]; simp [many]
theorem many_take_le (xs : List I) (j : Nat) : many (xs.take j) ≤ many xs := by
  have h := many_append (xs.take j) (xs.drop j)
  rw [List.take_append_drop] at h
  omega
theorem tot_many : ∀ (xs : List I), tot xs ≤ 5 * many xs
  | [] => by simp [tot]
  | x :: xs => by have := tot_many xs; simp only [tot, many]; omega
end Ins
namespace Go.Proofs.Ytakbehoglgebmaa
open Go.RowKit Ins
set_option maxRecDepth 100000 in
set_option maxHeartbeats 2000000 in
theorem great_any (S : Nat → Prop) (B : Option Addr) (xs : List I) (cx : Nat) (w : World) (hX : HasI w S B xs) (hlen : xs.length ≤ 140737488355328) (hl : ∀ x ∈ xs, x.l.length ≤ 140737488355328) :
    Calls Try.prog 15 #[.slice B xs.length cx] w fun e w' => e = .returned (.bool (decide (3000 < many xs))) ∧ w = w' := by
  have HX := Lib.hid hX
  have HL := Lib.hid hl
  obtain ⟨n, hn⟩ : ∃ n, xs.length = n := ⟨_, rfl⟩
  rw [hn] at hlen ⊢
  have HN := Lib.hid hn
  clear hX hn hl
  obtain ⟨M, hM⟩ : ∃ M, M = many xs := ⟨_, rfl⟩
  have HM := Lib.hid hM
  rw [← hM]
  clear hM
  go_enter Try.func15, Try.ntmps15
  go_wp2_with fail
  go_loop [3, 4] (fun m i => ∃ (j k : Nat), j ≤ n ∧ i = .int .i64 (j : Int) ∧ m = .int .i64 (k : Int) ∧ Hid (k = many (xs.take j)) ∧ k ≤ 140737488360000) (fun _ i => n - (intOf i).toNat)
  case atStart => exact ⟨0, 0, by omega, rfl, rfl, Lib.hid rfl, by omega⟩
  case round =>
    obtain ⟨j, k, hj, rfl, rfl, HK, hk⟩ := hrel
    by_cases hjn : j < n
    · by_cases hk3 : k ≤ 3000
      · obtain ⟨x, hx⟩ : ∃ x, xs[j]? = some x := ⟨_, List.getElem?_eq_getElem (by have := HN.out; omega)⟩
        have hxl := HL.out x (List.mem_of_getElem? hx)
        have hmt := many_take hx
        obtain ⟨g, oo, A4, c4, rfl, _, _, _, _, _, hcells⟩ := HX.out j x hx
        have k4 : w.cell? ⟨g, oo + j * 5 + 4, none⟩ = some (.slice A4 x.l.length c4) := hcells 4 _ rfl
        have HMT := Lib.hid hmt
        obtain ⟨q, hq⟩ : ∃ q, x.l.length = q := ⟨_, rfl⟩
        rw [hq] at k4 hxl
        have HQ := Lib.hid hq
        have hji : (j : Int) < (n : Int) := by omega
        have hk4 : (k : Int) ≤ 3000 := by omega
        clear hx hcells hmt hq
        go_wp2_with fail
        go_round
        case rel => exact ⟨j + 1, k + 1 + q, by omega, by go_num, by go_num, Lib.hid (by rw [HMT.out, ← HK.out, HQ.out]; omega), by omega⟩
        case measure => simp [intOf]; omega
      · have hlt : (3000 : Int) < (k : Int) := by omega
        have hle : decide ((k : Int) ≤ 3000) = false := by simp; omega
        have hd : decide (3000 < M) = true := by
          have := many_take_le xs j
          rw [← HK.out, ← HM.out] at this
          simp; omega
        have hji : (j : Int) < (n : Int) := by omega
        have HD := Lib.hid hd
        clear hd
        go_wp2_with fail
        go_ret
        exact ⟨ret_b (by rw [HD.out]), rfl⟩
    · obtain rfl : j = n := by omega
      have hkm : k = M := by rw [HK.out, HM.out, ← HN.out, List.take_length]
      have HKM := Lib.hid hkm
      clear hkm
      go_wp2_with fail
      go_ret
      exact ⟨ret_b (by rw [← HKM.out, Bool.eq_iff_iff]; simp; omega), rfl⟩
end Go.Proofs.Ytakbehoglgebmaa
/-
  Layer 10's statements: what the chapter's examples come to; instructions laid as literals.
-/
namespace Go.Proofs.Ytakbehoglgebmaa
open Go.RowKit Ins Bin Sp
def envOf (m : M) (ps rs : List UInt8) (ls : List Lc) : Bo.Env := ⟨fun i => (func m i).map Bo.ftP, ((tabs m)[0]?).isSome, fun i => (m.types[i]?).map Bo.ftP, fun i => Bo.local' ps ls i, fun i => ((globs m)[i]?).map fun g => (g.t, g.mu), ((mems m)[0]?).isSome, rs⟩
theorem env_eq (C : Ctx) : C.env = envOf C.m C.ps C.rs C.ls := rfl
/-- Check, its arguments written out. -/
theorem check_at (m : M) (P : Nat) (ps rs : List UInt8) (ls : List Lc) (xs : List I) (u1 u2 u3 u4 : Value) (w : World) (hS : SpaceV w P m) (hF : Few m) (hf : ∀ t ∈ funs m, t < 4294967296)
    (h1 : SliceV w (· < w.heap.size) ps u1) (h2 : SliceV w (· < w.heap.size) rs u2) (h3 : SliceV w (· < w.heap.size) ls u3) (h4 : SliceV w (· < w.heap.size) xs u4) (l1 : ps.length ≤ 1000) (l2 : rs.length ≤ 1000) (l3 : ls.length ≤ 1000) (l4 : xs.length ≤ 10000) (l5 : tot xs ≤ 100000000) :
    Calls Try.prog 8 #[.pointer (some ⟨P, 0, none⟩), .agg #[u1, u2], .agg #[u3, u4]] w fun e w' => e = chkE (Bo.chk (envOf m ps rs ls) (Bo.locB ls) xs) ∧ Below w.heap.size w w' := by
  obtain ⟨A2, c2, e2, _⟩ := id h2
  obtain ⟨A3, c3, e3, _⟩ := id h3
  obtain ⟨A4, c4, e4, _⟩ := id h4
  have h := bcheck_any ⟨w, P, m, ps, rs, ls, u1, u2, u3, u4⟩ ⟨hS, hF, hf, h1, h2, h3, l1, l2, l3⟩ xs h4 l4 (fun x hx => by have := tot_mem hx; omega) l5 w u1 A2 A3 A4 rs.length ls.length xs.length c2 c3 c4 rfl rfl e2 e3 e4
  rw [env_eq] at h
  rw [e2, e3, e4]
  exact h
/-- Instructions without labels, laid as a literal. -/
theorem lit_ins (w : World) (xs : List I) (vs : Array Value) (hv : vs = (rowI (xs.map fun x => (x, none, 0))).toArray) (hw : ∀ x ∈ xs, x.wf ∧ x.l = []) : HasL (w.alloc (.cells vs 49)) (w.heap.size ≤ ·) (some ⟨w.heap.size, 0, none⟩) xs := by
  subst hv
  intro k x hx
  obtain ⟨h1, h2⟩ := hw x (List.mem_of_getElem? hx)
  refine ⟨w.heap.size, 0, insCells x none 0, rfl, Nat.le_refl _, by simp, ⟨none, 0, rfl, h1, by simp [h2], by unfold maxLen; omega, by rw [h2]; exact HasU.nil _ _ _⟩, fun j u hj => ?_⟩
  have hr := rowI_at (xs.map fun x => (x, (none : Option Addr), 0)) k (x, none, 0) (by simp [hx]) j u hj
  have hc := cells_new w _ 49 (k * 5 + j) u hr
  rw [addr_at] at hc
  show World.cell? _ ⟨w.heap.size, 0 + k * 5 + j, none⟩ = some u
  rw [← hc]
  congr 2
  omega
theorem lit_sli (w : World) (xs : List I) (vs : Array Value) (hv : vs = (rowI (xs.map fun x => (x, none, 0))).toArray) (hw : ∀ x ∈ xs, x.wf ∧ x.l = []) (n : Nat) (hn : n = xs.length) (hl : n ≤ 1000) : SliceV (w.alloc (.cells vs 49)) (w.heap.size ≤ ·) xs (.slice (some ⟨w.heap.size, 0, none⟩) n n) :=
  ⟨_, n, by rw [hn], by omega, by unfold maxLen; omega, (fun e => by cases e), lit_ins w xs vs hv hw⟩
def wfB (x : I) : Bool := decide (x.op < 256) && decide (x.a < 4294967296) && decide (x.b < 4294967296) && decide (-9223372036854775808 ≤ x.c) && decide (x.c ≤ 9223372036854775807) && x.l.isEmpty
theorem wfB_of {xs : List I} (h : xs.all wfB = true) : ∀ x ∈ xs, x.wf ∧ x.l = [] := fun x hx => by
  have := List.all_eq_true.1 h x hx
  unfold wfB at this
  simp only [Bool.and_eq_true, decide_eq_true_eq, List.isEmpty_iff] at this
  obtain ⟨⟨⟨⟨⟨h1, h2⟩, h3⟩, h4⟩, h5⟩, h6⟩ := this
  exact ⟨⟨h1, h2, h3, h4, h5, by rw [h6]; simp⟩, h6⟩
theorem lit_slb (w : World) (xs : List I) (vs : Array Value) (hv : vs = (rowI (xs.map fun x => (x, none, 0))).toArray) (hw : xs.all wfB = true) (n : Nat) (hn : n = xs.length) (hl : n ≤ 1000) : SliceV (w.alloc (.cells vs 49)) (w.heap.size ≤ ·) xs (.slice (some ⟨w.heap.size, 0, none⟩) n n) := lit_sli w xs vs hv (wfB_of hw) n hn hl
/-- The examples' function, in a module that has nothing. -/
def kE : Bo.Env := envOf noM [127] [126] []
def gI : I := ⟨32, 0, 0, 0, []⟩
def oI : I := ⟨66, 0, 0, 1, []⟩
theorem k1 : Bo.chk kE true [gI, ⟨173, 0, 0, 0, []⟩] = .ok 1 := by rfl
theorem k2 : Bo.chk kE true [⟨0, 0, 0, 0, []⟩] = .ok 0 := by rfl
theorem k3 : Bo.chk kE true [⟨15, 0, 0, 0, []⟩] = .error 100 := by rfl
theorem k4 : Bo.chk kE true [oI, ⟨12, 0, 0, 0, []⟩] = .ok 1 := by rfl
theorem k5 : Bo.chk kE true [⟨32, 1, 0, 0, []⟩] = .error 80 := by rfl
theorem k6 : Bo.chk kE true [⟨12, 1, 0, 0, []⟩] = .error 101 := by rfl
theorem k7 : Bo.chk kE true [⟨65, 0, 0, 0, []⟩] = .error 100 := by rfl
theorem k8 : Bo.chk kE true [⟨16, 0, 0, 0, []⟩] = .error 80 := by rfl
theorem k9 : Bo.chk kE true [oI, gI, ⟨4, 64, 0, 0, []⟩, ⟨11, 0, 0, 0, []⟩] = .ok 2 := by rfl
theorem des_sins : (Try.prog.underlying 49).map aggS = some true := by kernel_rfl
theorem siz_sins : (Try.prog.info? 49).map (·.size) = some 5 := by kernel_rfl
set_option maxRecDepth 100000 in
set_option maxHeartbeats 4000000 in
theorem kget_any (w : World) : Calls Try.prog 11 #[] w fun e w' => e = .returned (.agg #[.int .u8 32, .int .u32 0, .int .u32 0, .int .i64 0, .slice none 0 0]) ∧ Below w.heap.size w w' := by
  obtain ⟨D, hu, hd⟩ := descOf des_sins
  have HU := Lib.hid hu
  have HD := Lib.hid hd
  clear hu hd
  have HZ := Lib.hid (heap_alloc_new w (.cells #[.int .u8 0, .int .u32 0, .int .u32 0, .int .i64 0, .slice none 0 0] 49))
  have HB : Hid (Below w.heap.size w (w.alloc (.cells #[.int .u8 0, .int .u32 0, .int .u32 0, .int .i64 0, .slice none 0 0] 49))) := Lib.hid ((Below.refl _ _).alloc (Nat.le_refl _) _)
  go_enter Try.func11, Try.ntmps11
  go_wp2_with (refine wpList_store_to rfl 49 (.tmp 0) (.tmp 1) rfl rfl w.heap.size #[.int .u8 32, .int .u32 0, .int .u32 0, .int .i64 0, .slice none 0 0] rfl rfl 49 #[.int .u8 0, .int .u32 0, .int .u32 0, .int .i64 0, .slice none 0 0] HZ.out siz_sins rfl (by simp [Value.oneCell']) ?_)
  refine bodyPost_ret (v := .agg #[.int .u8 32, .int .u32 0, .int .u32 0, .int .i64 0, .slice none 0 0]) (res_cell (p := 0) (ty := 49) (by kernel_rfl) _ _ w.heap.size 49 #[.int .u8 32, .int .u32 0, .int .u32 0, .int .i64 0, .slice none 0 0] (0, 0) D rfl (setRow_heap _ _ #[.int .u8 0, .int .u32 0, .int .u32 0, .int .i64 0, .slice none 0 0] _ _ _ HZ.out) HU.out HD.out siz_sins) rfl ?_
  exact ⟨rfl, below_setRow HB.out (Nat.le_refl _) _⟩
set_option maxRecDepth 100000 in
set_option maxHeartbeats 4000000 in
theorem kone_any (w : World) : Calls Try.prog 12 #[] w fun e w' => e = .returned (.agg #[.int .u8 66, .int .u32 0, .int .u32 0, .int .i64 1, .slice none 0 0]) ∧ Below w.heap.size w w' := by
  obtain ⟨D, hu, hd⟩ := descOf des_sins
  have HU := Lib.hid hu
  have HD := Lib.hid hd
  clear hu hd
  have HZ := Lib.hid (heap_alloc_new w (.cells #[.int .u8 0, .int .u32 0, .int .u32 0, .int .i64 0, .slice none 0 0] 49))
  have HB : Hid (Below w.heap.size w (w.alloc (.cells #[.int .u8 0, .int .u32 0, .int .u32 0, .int .i64 0, .slice none 0 0] 49))) := Lib.hid ((Below.refl _ _).alloc (Nat.le_refl _) _)
  go_enter Try.func12, Try.ntmps12
  go_wp2_with (refine wpList_store_to rfl 49 (.tmp 0) (.tmp 1) rfl rfl w.heap.size #[.int .u8 66, .int .u32 0, .int .u32 0, .int .i64 1, .slice none 0 0] rfl rfl 49 #[.int .u8 0, .int .u32 0, .int .u32 0, .int .i64 0, .slice none 0 0] HZ.out siz_sins rfl (by simp [Value.oneCell']) ?_)
  refine bodyPost_ret (v := .agg #[.int .u8 66, .int .u32 0, .int .u32 0, .int .i64 1, .slice none 0 0]) (res_cell (p := 0) (ty := 49) (by kernel_rfl) _ _ w.heap.size 49 #[.int .u8 66, .int .u32 0, .int .u32 0, .int .i64 1, .slice none 0 0] (0, 0) D rfl (setRow_heap _ _ #[.int .u8 0, .int .u32 0, .int .u32 0, .int .i64 0, .slice none 0 0] _ _ _ HZ.out) HU.out HD.out siz_sins) rfl ?_
  exact ⟨rfl, below_setRow HB.out (Nat.le_refl _) _⟩
set_option maxRecDepth 100000 in
set_option maxHeartbeats 4000000 in
theorem kfn_any (w : World) : Calls Try.prog 13 #[] w fun e w' => ∃ u v, e = .returned (.agg #[.slice u 1 1, .slice v 1 1]) ∧ SliceV w' (· < w'.heap.size) ([127] : List UInt8) (.slice u 1 1) ∧ SliceV w' (· < w'.heap.size) ([126] : List UInt8) (.slice v 1 1) ∧ Below w.heap.size w w' := by
  obtain ⟨D, hu, hd⟩ := descOf des_sft
  have HU := Lib.hid hu
  have HD := Lib.hid hd
  clear hu hd
  have HZ0 := Lib.hid (heap_alloc_new w (.cells #[.slice none 0 0, .slice none 0 0] 36))
  have HB0 : Hid (Below w.heap.size w (w.alloc (.cells #[.slice none 0 0, .slice none 0 0] 36))) := Lib.hid ((Below.refl _ _).alloc (Nat.le_refl _) _)
  go_enter Try.func13, Try.ntmps13
  go_upto_region 1 with fail
  generalize w.alloc (.cells #[.slice none 0 0, .slice none 0 0] 36) = w0 at HZ0 HB0 ⊢
  obtain ⟨Y, hY⟩ : ∃ Y, w.heap.size = Y := ⟨_, rfl⟩
  rw [hY] at HZ0
  have HY : Hid (w.heap.size ≤ Y) := Lib.hid (by omega)
  simp only [hY]
  clear hY
  have HYL : Hid (Y < w0.heap.size) := Lib.hid (Array.getElem?_eq_some_iff.1 HZ0.out).1
  have HS1 := Lib.hid (litN w0 [127] #[.int .u8 127] rfl 1 rfl (by decide))
  have HS2 := Lib.hid (litN (w0.alloc (.cells #[.int .u8 127] 5)) [126] #[.int .u8 126] rfl 1 rfl (by decide))
  have HB2 : Hid (Below w0.heap.size w0 ((w0.alloc (.cells #[.int .u8 127] 5)).alloc (.cells #[.int .u8 126] 5))) := Lib.hid (((Below.refl _ _).alloc (Nat.le_refl _) _).alloc (by simp) _)
  have HB3 : Hid (Below (w0.alloc (.cells #[.int .u8 127] 5)).heap.size (w0.alloc (.cells #[.int .u8 127] 5)) ((w0.alloc (.cells #[.int .u8 127] 5)).alloc (.cells #[.int .u8 126] 5))) := Lib.hid ((Below.refl _ _).alloc (Nat.le_refl _) _)
  have hsz : (w0.alloc (.cells #[.int .u8 127] 5)).heap.size = w0.heap.size + 1 := by simp
  rw [hsz] at HS2
  have HSZ := Lib.hid hsz
  clear hsz
  have HZ2 := Lib.hid ((HB2.out.block Y HYL.out).trans HZ0.out)
  have HT1 := Lib.hid (HS1.out.mod (T := fun _ => False) (Mod.of_below HB3.out) (fun _ _ _ h => h))
  go_wp2_with (refine wpList_store_to rfl 36 (.tmp 0) (.tmp 3) rfl rfl Y #[.slice (some ⟨w0.heap.size, 0, none⟩) 1 1, .slice (some ⟨w0.heap.size + 1, 0, none⟩) 1 1] rfl rfl 36 #[.slice none 0 0, .slice none 0 0] HZ2.out siz_sft rfl (by simp [Value.oneCell']) ?_)
  refine bodyPost_ret (v := .agg #[.slice (some ⟨w0.heap.size, 0, none⟩) 1 1, .slice (some ⟨w0.heap.size + 1, 0, none⟩) 1 1]) (res_cell (p := 0) (ty := 36) (by kernel_rfl) _ _ Y 36 #[.slice (some ⟨w0.heap.size, 0, none⟩) 1 1, .slice (some ⟨w0.heap.size + 1, 0, none⟩) 1 1] (0, 0) D rfl (setRow_heap _ _ #[.slice none 0 0, .slice none 0 0] _ _ _ HZ2.out) HU.out HD.out siz_sft) rfl ?_
  have hk1 := HT1.out
  have hk2 := HS2.out
  refine ⟨_, _, rfl, (row_keep hk1 _ (fun k _ hk e => ?_)).more (fun k hk _ => hk), (row_keep hk2 _ (fun k _ hk e => ?_)).more (fun k hk _ => hk), below_setRow (HB0.out.trans (HB2.out.mono HB0.out.size)) HY.out _⟩
  · have hk' : w0.heap.size ≤ k := hk
    have := HYL.out
    omega
  · have hk' : w0.heap.size + 1 ≤ k := hk
    have := HYL.out
    omega
theorem noM_few : Few noM := by
  constructor <;> simp [noM]
theorem noM_rep (w : World) : RepM w (· < w.heap.size) noM (.slice none 0 0) (.slice none 0 0) (.slice none 0 0) (.slice none 0 0) (.slice none 0 0) (.slice none 0 0) (.slice none 0 0) (.slice none 0 0) (.slice none 0 0) (.slice none 0 0) :=
  ⟨SliceV.nil _ _, SliceV.nil _ _, SliceV.nil _ _, SliceV.nil _ _, SliceV.nil _ _, SliceV.nil _ _, SliceV.nil _ _, by decide, SliceV.nil _ _, SliceV.nil _ _, SliceV.nil _ _⟩
set_option maxRecDepth 100000 in
set_option maxHeartbeats 4000000 in
theorem kof_any (xs : List I) (A : Option Addr) (n c : Nat) (w : World) (hx : SliceV w (· < w.heap.size) xs (.slice A n c)) (l4 : xs.length ≤ 10000) (l5 : tot xs ≤ 100000000) :
    Calls Try.prog 10 #[.slice A n c] w fun e w' => e = chkE (Bo.chk kE true xs) ∧ Below w.heap.size w w' := by
  have HSO := Lib.hid (sof_any noM _ _ _ _ _ _ _ _ _ _ w (noM_rep w) noM_few)
  have HFN := Lib.hid (fun W => kfn_any W)
  have HCK : Hid (∀ W P u v, Below w.heap.size w W → SpaceV W P noM → SliceV W (· < W.heap.size) ([127] : List UInt8) (.slice u 1 1) → SliceV W (· < W.heap.size) ([126] : List UInt8) (.slice v 1 1) → Calls Try.prog 8 #[.pointer (some ⟨P, 0, none⟩), .agg #[.slice u 1 1, .slice v 1 1], .agg #[.slice none 0 0, .slice A n c]] W fun e w' => e = chkE (Bo.chk kE true xs) ∧ Below W.heap.size W w') := Lib.hid (fun W P u v hb hS h1 h2 =>
    check_at noM P [127] [126] [] xs _ _ (.slice none 0 0) (.slice A n c) W hS noM_few (by simp [Sp.funs, noM, imps]) h1 h2 (SliceV.nil _ _) (hx.grow hb) (by decide) (by decide) (by decide) l4 l5)
  have hans : ∃ a b : Int, chkE (Bo.chk kE true xs) = .returned (.tuple #[.int .i64 a, .int .i64 b]) := by
    cases Bo.chk kE true xs with
    | error n => exact ⟨0, n, rfl⟩
    | ok h => exact ⟨h, 0, rfl⟩
  obtain ⟨a, b, hab⟩ := hans
  rw [hab] at HCK ⊢
  clear hx l4 l5 hab
  go_enter Try.func10, Try.ntmps10
  go_wp2_with (first | (go_at_call 7; refine HSO.out.mono ?_; rintro e w1 ⟨P, rfl, hs, hb⟩; have HS1 := Lib.hid hs; have HB1 := Lib.hid hb; clear hs hb) | (go_at_call 13; refine (HFN.out _).mono ?_; rintro e w2 ⟨u, v, rfl, s1, s2, hb⟩; have HS2 := Lib.hid (HS1.out.grow hb); have HV1 := Lib.hid s1; have HV2 := Lib.hid s2; have HB2 := Lib.hid (HB1.out.trans (hb.mono HB1.out.size)); clear s1 s2 hb) | (go_at_call 8; refine (HCK.out _ _ _ _ HB2.out HS2.out HV1.out HV2.out).mono ?_; rintro e w3 ⟨rfl, hb⟩; have HB3 := Lib.hid (HB2.out.trans (hb.mono HB2.out.size)); clear hb))
  go_ret2
  exact ⟨rfl, HB3.out⟩
set_option maxRecDepth 100000 in
set_option maxHeartbeats 4000000 in
theorem check_nil (u1 u2 : Value) (w : World) : Calls Try.prog 8 #[.pointer none, .agg #[u1, u2], .agg #[.slice none 0 0, .slice none 0 0]] w fun e w' => e = .returned (.tuple #[.int .i64 0, .int .i64 1]) ∧ Below w.heap.size w w' := by
  obtain ⟨t0, t1, t2⟩ := two_new w u1 u2 (.slice none 0 0) (.slice none 0 0) 36 40
  have HB0 := Lib.hid t2
  clear t0 t1 t2
  go_enter Try.func8, Try.ntmps8
  go_wp2_with fail
  go_ret2
  exact ⟨rfl, HB0.out⟩
set_option maxRecDepth 100000 in
set_option maxHeartbeats 4000000 in
theorem known10 (w : World) : Calls Try.prog 5 #[] w fun e w' => e = .returned (.bool true) ∧ Below w.heap.size w w' := by
  have HBz : Hid (Below w.heap.size w w) := Lib.hid (Below.refl _ _)
  go_enter Try.func5, Try.ntmps5
  go_upto_region 2 with (first | (go_at_call 11; refine (kget_any _).mono ?_; rintro e y1 ⟨rfl, hb⟩; have HBy1 : Hid (Below w.heap.size w y1) := Lib.hid (HBz.out.trans (hb.mono HBz.out.size)); clear hb) | (go_at_call 10; (have hc := kof_any [gI, ⟨173, 0, 0, 0, []⟩] _ 2 2 (y1.alloc (.cells #[.int .u8 32, .int .u32 0, .int .u32 0, .int .i64 0, .slice none 0 0, .int .u8 173, .int .u32 0, .int .u32 0, .int .i64 0, .slice none 0 0] 49)) ((lit_slb y1 [gI, ⟨173, 0, 0, 0, []⟩] _ rfl rfl 2 rfl (by decide)).more (fun k hk _ => hk)) (by decide) (by decide)); rw [k1] at hc; refine hc.mono ?_; rintro e w1 ⟨he, hb⟩; obtain rfl : e = .returned (.tuple #[.int .i64 1, .int .i64 0]) := he; have HB1 : Hid (Below w.heap.size w w1) := Lib.hid ((HBy1.out.alloc HBy1.out.size _).trans (hb.mono (by have := HBy1.out.size; simp; omega))); clear hb hc))
  go_upto_region 5 with (go_at_call 10; (have hc := kof_any [⟨0, 0, 0, 0, []⟩] _ 1 1 (w1.alloc (.cells #[.int .u8 0, .int .u32 0, .int .u32 0, .int .i64 0, .slice none 0 0] 49)) ((lit_slb w1 [⟨0, 0, 0, 0, []⟩] _ rfl rfl 1 rfl (by decide)).more (fun k hk _ => hk)) (by decide) (by decide)); rw [k2] at hc; refine hc.mono ?_; rintro e w2 ⟨he, hb⟩; obtain rfl : e = .returned (.tuple #[.int .i64 0, .int .i64 0]) := he; have HB2 : Hid (Below w.heap.size w w2) := Lib.hid ((HB1.out.alloc HB1.out.size _).trans (hb.mono (by have := HB1.out.size; simp; omega))); clear hb hc)
  go_upto_region 6 with (go_at_call 10; (have hc := kof_any [⟨15, 0, 0, 0, []⟩] _ 1 1 (w2.alloc (.cells #[.int .u8 15, .int .u32 0, .int .u32 0, .int .i64 0, .slice none 0 0] 49)) ((lit_slb w2 [⟨15, 0, 0, 0, []⟩] _ rfl rfl 1 rfl (by decide)).more (fun k hk _ => hk)) (by decide) (by decide)); rw [k3] at hc; refine hc.mono ?_; rintro e w3 ⟨he, hb⟩; obtain rfl : e = .returned (.tuple #[.int .i64 0, .int .i64 100]) := he; have HB3 : Hid (Below w.heap.size w w3) := Lib.hid ((HB2.out.alloc HB2.out.size _).trans (hb.mono (by have := HB2.out.size; simp; omega))); clear hb hc)
  go_upto_region 7 with (first | (go_at_call 12; refine (kone_any _).mono ?_; rintro e y4 ⟨rfl, hb⟩; have HBy4 : Hid (Below w.heap.size w y4) := Lib.hid (HB3.out.trans (hb.mono HB3.out.size)); clear hb) | (go_at_call 10; (have hc := kof_any [oI, ⟨12, 0, 0, 0, []⟩] _ 2 2 (y4.alloc (.cells #[.int .u8 66, .int .u32 0, .int .u32 0, .int .i64 1, .slice none 0 0, .int .u8 12, .int .u32 0, .int .u32 0, .int .i64 0, .slice none 0 0] 49)) ((lit_slb y4 [oI, ⟨12, 0, 0, 0, []⟩] _ rfl rfl 2 rfl (by decide)).more (fun k hk _ => hk)) (by decide) (by decide)); rw [k4] at hc; refine hc.mono ?_; rintro e w4 ⟨he, hb⟩; obtain rfl : e = .returned (.tuple #[.int .i64 1, .int .i64 0]) := he; have HB4 : Hid (Below w.heap.size w w4) := Lib.hid ((HBy4.out.alloc HBy4.out.size _).trans (hb.mono (by have := HBy4.out.size; simp; omega))); clear hb hc))
  go_upto_region 10 with (go_at_call 10; (have hc := kof_any [⟨32, 1, 0, 0, []⟩] _ 1 1 (w4.alloc (.cells #[.int .u8 32, .int .u32 1, .int .u32 0, .int .i64 0, .slice none 0 0] 49)) ((lit_slb w4 [⟨32, 1, 0, 0, []⟩] _ rfl rfl 1 rfl (by decide)).more (fun k hk _ => hk)) (by decide) (by decide)); rw [k5] at hc; refine hc.mono ?_; rintro e w5 ⟨he, hb⟩; obtain rfl : e = .returned (.tuple #[.int .i64 0, .int .i64 80]) := he; have HB5 : Hid (Below w.heap.size w w5) := Lib.hid ((HB4.out.alloc HB4.out.size _).trans (hb.mono (by have := HB4.out.size; simp; omega))); clear hb hc)
  go_upto_region 11 with (go_at_call 10; (have hc := kof_any [⟨12, 1, 0, 0, []⟩] _ 1 1 (w5.alloc (.cells #[.int .u8 12, .int .u32 1, .int .u32 0, .int .i64 0, .slice none 0 0] 49)) ((lit_slb w5 [⟨12, 1, 0, 0, []⟩] _ rfl rfl 1 rfl (by decide)).more (fun k hk _ => hk)) (by decide) (by decide)); rw [k6] at hc; refine hc.mono ?_; rintro e w6 ⟨he, hb⟩; obtain rfl : e = .returned (.tuple #[.int .i64 0, .int .i64 101]) := he; have HB6 : Hid (Below w.heap.size w w6) := Lib.hid ((HB5.out.alloc HB5.out.size _).trans (hb.mono (by have := HB5.out.size; simp; omega))); clear hb hc)
  go_upto_region 12 with (go_at_call 10; (have hc := kof_any [⟨65, 0, 0, 0, []⟩] _ 1 1 (w6.alloc (.cells #[.int .u8 65, .int .u32 0, .int .u32 0, .int .i64 0, .slice none 0 0] 49)) ((lit_slb w6 [⟨65, 0, 0, 0, []⟩] _ rfl rfl 1 rfl (by decide)).more (fun k hk _ => hk)) (by decide) (by decide)); rw [k7] at hc; refine hc.mono ?_; rintro e w7 ⟨he, hb⟩; obtain rfl : e = .returned (.tuple #[.int .i64 0, .int .i64 100]) := he; have HB7 : Hid (Below w.heap.size w w7) := Lib.hid ((HB6.out.alloc HB6.out.size _).trans (hb.mono (by have := HB6.out.size; simp; omega))); clear hb hc)
  go_upto_region 13 with (go_at_call 10; (have hc := kof_any [⟨16, 0, 0, 0, []⟩] _ 1 1 (w7.alloc (.cells #[.int .u8 16, .int .u32 0, .int .u32 0, .int .i64 0, .slice none 0 0] 49)) ((lit_slb w7 [⟨16, 0, 0, 0, []⟩] _ rfl rfl 1 rfl (by decide)).more (fun k hk _ => hk)) (by decide) (by decide)); rw [k8] at hc; refine hc.mono ?_; rintro e w8 ⟨he, hb⟩; obtain rfl : e = .returned (.tuple #[.int .i64 0, .int .i64 80]) := he; have HB8 : Hid (Below w.heap.size w w8) := Lib.hid ((HB7.out.alloc HB7.out.size _).trans (hb.mono (by have := HB7.out.size; simp; omega))); clear hb hc)
  go_upto_region 14 with (first | (go_at_call 12; refine (kone_any _).mono ?_; rintro e y9 ⟨rfl, hb⟩; have HBy9 : Hid (Below w.heap.size w y9) := Lib.hid (HB8.out.trans (hb.mono HB8.out.size)); clear hb) | (go_at_call 11; refine (kget_any _).mono ?_; rintro e y10 ⟨rfl, hb⟩; have HBy10 : Hid (Below w.heap.size w y10) := Lib.hid (HBy9.out.trans (hb.mono HBy9.out.size)); clear hb) | (go_at_call 10; (have hc := kof_any [oI, gI, ⟨4, 64, 0, 0, []⟩, ⟨11, 0, 0, 0, []⟩] _ 4 4 (y10.alloc (.cells #[.int .u8 66, .int .u32 0, .int .u32 0, .int .i64 1, .slice none 0 0, .int .u8 32, .int .u32 0, .int .u32 0, .int .i64 0, .slice none 0 0, .int .u8 4, .int .u32 64, .int .u32 0, .int .i64 0, .slice none 0 0, .int .u8 11, .int .u32 0, .int .u32 0, .int .i64 0, .slice none 0 0] 49)) ((lit_slb y10 [oI, gI, ⟨4, 64, 0, 0, []⟩, ⟨11, 0, 0, 0, []⟩] _ rfl rfl 4 rfl (by decide)).more (fun k hk _ => hk)) (by decide) (by decide)); rw [k9] at hc; refine hc.mono ?_; rintro e w9 ⟨he, hb⟩; obtain rfl : e = .returned (.tuple #[.int .i64 2, .int .i64 0]) := he; have HB9 : Hid (Below w.heap.size w w9) := Lib.hid ((HBy10.out.alloc HBy10.out.size _).trans (hb.mono (by have := HBy10.out.size; simp; omega))); clear hb hc))
  go_upto_region 15 with (first | (go_at_call 13; refine (kfn_any _).mono ?_; rintro e y11 ⟨u, v, rfl, _, _, hb⟩; have HBy11 : Hid (Below w.heap.size w y11) := Lib.hid (HB9.out.trans (hb.mono HB9.out.size)); clear hb) | (go_at_call 8; refine (check_nil _ _ _).mono ?_; rintro e w10 ⟨rfl, hb⟩; have HB10 : Hid (Below w.heap.size w w10) := Lib.hid (HBy11.out.trans (hb.mono HBy11.out.size)); clear hb))
  go_wp2_with fail
  go_ret
  exact ⟨rfl, HB10.out⟩
end Go.Proofs.Ytakbehoglgebmaa
