/-
  The walk over InstrAppends.
-/
import Derived.Test.YtnechkmdmjhhbaaInsRExpr
import Derived.Test.YtnechkmdmjhhbaaInsApp
import Derived.Test.YtnechkmdmjhhbaaInsBack
import Derived.Test.YtnechkmdmjhhbaaInsKnown2
import Derived.Test.YtnechkmdmjhhbaaDrawn
import Derived.Deep.Cut
namespace Go.Proofs.Ytnechkmdmjhhbaa
open Go.RowKit Ins
/-- A literal slice of one instruction. -/
theorem lit1_hasI (w : World) (x : I) (A : Option Addr) (c : Nat) (t : TypeId) (S : Nat → Prop) (hwf : x.wf) (hc1 : x.l.length ≤ c) (hc2 : c ≤ maxLen) (hU : HasU w S A x.l) : HasI (w.alloc (.cells (insCells x A c).toArray t)) (fun _ => True) (some ⟨w.heap.size, 0, none⟩) [x] := by
  intro k y hk
  cases k with
  | succ k => simp at hk
  | zero =>
    obtain rfl : x = y := by simpa using hk
    refine ⟨_, 0, A, c, rfl, trivial, hwf, hc1, hc2, (hU.mod (Mod.of_below (T := fun _ => False) ((Below.refl _ _).alloc (Nat.le_refl _) _)) (fun _ _ _ h => h)).more (fun _ _ _ => trivial), fun j u hj => ?_⟩
    rw [show 0 + 0 * 5 + j = j by omega, World.cell?_alloc_new]
    simpa using hj
theorem great_one (w : World) (x : I) (A : Option Addr) (c : Nat) (S : Nat → Prop) (hwf : x.wf) (hc1 : x.l.length ≤ c) (hc2 : c ≤ maxLen) (hU : HasU w S A x.l) (hl : x.l.length ≤ 140737488355328) :
    Calls Try.prog 7 #[.slice (some ⟨w.heap.size, 0, none⟩) 1 1] (w.alloc (.cells (insCells x A c).toArray 26)) fun e w' => e = .returned (.bool (decide (3000 < 1 + x.l.length))) ∧ (w.alloc (.cells (insCells x A c).toArray 26)) = w' := by
  have h := great_any _ _ [x] 1 _ (lit1_hasI w x A c 26 S hwf hc1 hc2 hU) (by simp) (fun y hy => by
    obtain rfl : y = x := by simpa using hy
    exact hl)
  have e : many [x] = 1 + x.l.length := by simp [many]
  rw [e] at h
  exact h
set_option maxRecDepth 100000 in
set_option maxHeartbeats 4000000 in
theorem appends_great (A : Option Addr) (n c : Nat) (x : I) (A2 : Option Addr) (c2 : Nat) (B : Option Addr) (xs : List I) (m cx : Nat) (w : World) (hU : HasU w (· < w.heap.size) A2 x.l) (hwf : x.wf) (hc1 : x.l.length ≤ c2) (hc2 : c2 ≤ maxLen) (hxl : x.l.length ≤ 140737488355328)
    (hX : HasI w (· < w.heap.size) B xs) (hm : m = xs.length) (hmm : m ≤ 140737488355328) (hl : ∀ x ∈ xs, x.l.length ≤ 140737488355328) (h : 1000 < n ∨ 3000 < many xs ∨ 3000 < 1 + x.l.length) :
    Calls Try.prog 3 #[.slice A n c, insVal x A2 c2, .slice B m cx] w fun e w' => e = .returned (.bool true) ∧ Below w.heap.size w w' := by
  have HG := Lib.hid (fun W (hb : Below w.heap.size w W) => great_any _ B xs cx W (hX.mod (Mod.of_below (T := fun _ => False) hb) (fun _ _ _ h => h)) (by omega) hl)
  rw [← hm] at HG
  have HGX := Lib.hid (fun W (hb : Below w.heap.size w W) => great_one W x A2 c2 _ hwf hc1 hc2 (hU.mod (Mod.of_below (T := fun _ => False) hb) (fun _ _ _ h => h)) hxl)
  generalize hd1 : decide (3000 < many xs) = d1 at HG
  generalize hd2 : decide (3000 < 1 + x.l.length) = d2 at HGX
  have hd : 1000 < n ∨ d1 = true ∨ d2 = true := by
    rcases h with h | h | h
    · exact .inl h
    · exact .inr (.inl (by rw [← hd1]; exact decide_eq_true h))
    · exact .inr (.inr (by rw [← hd2]; exact decide_eq_true h))
  obtain ⟨op, xa, xb, xc, xl⟩ := x
  simp only [insVal, insCells] at HGX ⊢
  clear hU hwf hc1 hc2 hxl hX hm hmm hl h hd1 hd2
  generalize xl.length = q at HGX ⊢
  have HX0 : Hid ((w.alloc (.cells #[.int .u8 (op : Int), .int .u32 (xa : Int), .int .u32 (xb : Int), .int .i64 xc, .slice A2 q c2] 26)).heap[w.heap.size]? = some (.cells #[.int .u8 (op : Int), .int .u32 (xa : Int), .int .u32 (xb : Int), .int .i64 xc, .slice A2 q c2] 26 (0, 0))) := Lib.hid (heap_alloc_new w _)
  have HB0 : Hid (Below w.heap.size w (w.alloc (.cells #[.int .u8 (op : Int), .int .u32 (xa : Int), .int .u32 (xb : Int), .int .i64 xc, .slice A2 q c2] 26))) := Lib.hid ((Below.refl _ _).alloc (Nat.le_refl _) _)
  have hs0 : w.heap.size < (w.alloc (.cells #[.int .u8 (op : Int), .int .u32 (xa : Int), .int .u32 (xb : Int), .int .i64 xc, .slice A2 q c2] 26)).heap.size := by simp
  by_cases hn : 1000 < n
  · have hni : (1000 : Int) < (n : Int) := by omega
    clear hd HG HGX
    go_enter Try.func3, Try.ntmps3
    go_upto_region 1 with (fail)
    generalize w.alloc (.cells #[.int .u8 (op : Int), .int .u32 (xa : Int), .int .u32 (xb : Int), .int .i64 xc, .slice A2 q c2] 26) = w0 at HB0 HX0 hs0 ⊢
    go_wp2_with fail
    refine (rows_hold w0).mono ?_
    rintro e w1 ⟨rfl, hb⟩
    have HB1 := Lib.hid (HB0.out.trans (hb.mono HB0.out.size))
    clear hb
    go_wp2_with fail
    go_ret
    exact ⟨rfl, HB1.out⟩
  · have hni : decide ((1000 : Int) < (n : Int)) = false := by simp; omega
    cases d1 with
    | true =>
      clear hd HGX
      go_enter Try.func3, Try.ntmps3
      go_upto_region 1 with (fail)
      generalize w.alloc (.cells #[.int .u8 (op : Int), .int .u32 (xa : Int), .int .u32 (xb : Int), .int .i64 xc, .slice A2 q c2] 26) = w0 at HB0 HX0 hs0 ⊢
      go_wp2_with fail
      refine (rows_hold w0).mono ?_
      rintro e w1 ⟨rfl, hb⟩
      have HB1 := Lib.hid (HB0.out.trans (hb.mono HB0.out.size))
      clear hb
      go_wp2_with (go_at_call 7; refine (HG.out _ HB1.out).mono ?_; rintro e w2 ⟨rfl, rfl⟩)
      go_ret
      exact ⟨rfl, HB1.out⟩
    | false =>
      obtain rfl : d2 = true := by
        rcases hd with h | h | h
        · exact absurd h hn
        · cases h
        · exact h
      clear hd
      have tok1 : True := trivial
      go_enter Try.func3, Try.ntmps3
      go_upto_region 1 with (fail)
      generalize w.alloc (.cells #[.int .u8 (op : Int), .int .u32 (xa : Int), .int .u32 (xb : Int), .int .i64 xc, .slice A2 q c2] 26) = w0 at HB0 HX0 hs0 ⊢
      go_wp2_with fail
      refine (rows_hold w0).mono ?_
      rintro e w1 ⟨rfl, hb⟩
      have HB1 := Lib.hid (HB0.out.trans (hb.mono HB0.out.size))
      obtain ⟨y0, y1, y2, y3, y4⟩ := cells5 ((hb.block _ hs0).trans HX0.out)
      clear hb
      go_wp2_with (first | (go_at_call 7; clear tok1; refine (HG.out _ HB1.out).mono ?_; rintro e w2 ⟨rfl, rfl⟩) | (go_at_call 7; refine (HGX.out _ HB1.out).mono ?_; rintro e w3 ⟨rfl, rfl⟩))
      go_ret
      exact ⟨rfl, HB1.out.alloc HB1.out.size _⟩
theorem app_both (A : Option Addr) (l : List UInt8) (n c : Nat) (x : I) (A2 : Option Addr) (c2 : Nat) (w : World) (hA : Has w w.heap.size A l) (hn : n = l.length) (hU : HasU w (· < w.heap.size) A2 x.l) (hwf : x.wf) (hc1 : x.l.length ≤ c2) (hc2 : c2 ≤ maxLen) (hxl : x.l.length < 4294967296) (hsz : n + 10 * (x.l.length + 5) ≤ 100000000000000) :
    Calls Try.prog 8 #[.slice A n c, insVal x A2 c2] w fun e w' => ∃ (A' : Option Addr) (n' c' E : Nat), e = .returned (.tuple #[.slice A' n' c', .int .i64 (E : Int)]) ∧ Below w.heap.size w w' ∧ (may x = true → E = 0 ∧ n' = (l ++ enc x).length ∧ Has w' w'.heap.size A' (l ++ enc x)) ∧ (may x = false → E = 2 ∧ n' = 0) := by
  refine (append_any A l n c x A2 c2 w hA hn hU hwf hc1 hc2 hxl hsz).mono ?_
  intro e w' h
  unfold AppPost at h
  cases hm : may x with
  | true =>
    rw [if_pos hm] at h
    obtain ⟨v, rfl, ho, hb⟩ := h
    obtain ⟨A', c', rfl, _, _, _, _, hh⟩ := own_slice ho
    exact ⟨A', _, c', 0, rfl, hb, fun _ => ⟨rfl, rfl, hh⟩, fun h => (by cases h)⟩
  | false =>
    rw [if_neg (by rw [hm]; decide)] at h
    obtain ⟨rfl, hb⟩ := h
    exact ⟨none, 0, 0, 2, rfl, hb, fun h => (by cases h), fun _ => ⟨rfl, rfl⟩⟩
set_option maxRecDepth 100000 in
set_option maxHeartbeats 4000000 in
theorem appends_main (A : Option Addr) (l : List UInt8) (n c : Nat) (x : I) (A2 : Option Addr) (c2 : Nat) (B : Option Addr) (xs : List I) (m cx : Nat) (w : World) (hA : Has w w.heap.size A l) (hn : n = l.length) (hU : HasU w (· < w.heap.size) A2 x.l) (hwf : x.wf) (hc1 : x.l.length ≤ c2) (hc2 : c2 ≤ maxLen)
    (hX : HasI w (· < w.heap.size) B xs) (hm : m = xs.length) (hn1 : n ≤ 1000) (hm1 : many xs ≤ 3000) (hx1 : 1 + x.l.length ≤ 3000) :
    Calls Try.prog 3 #[.slice A n c, insVal x A2 c2, .slice B m cx] w fun e w' => e = .returned (.bool true) ∧ Below w.heap.size w w' := by
  have hl4 : ∀ x ∈ xs, x.wf ∧ x.l.length < 4294967296 := fun x h => ⟨hX.wf x h, by have := many_len h; omega⟩
  have htl := tot_len xs
  have htm := tot_many xs
  have hl3 : ∀ x ∈ xs, x.l.length ≤ 140737488355328 := fun x h => by have := (hl4 x h).2; omega
  have HX := Lib.hid (fun W (hb : Below w.heap.size w W) => (hX.mod (Mod.of_below (T := fun _ => False) hb) (fun _ _ _ h => h)).more (S' := (· < W.heap.size)) (fun k _ h => Nat.lt_of_lt_of_le h hb.size))
  have HU := Lib.hid (fun W (hb : Below w.heap.size w W) => (hU.mod (Mod.of_below (T := fun _ => False) hb) (fun _ _ _ h => h)).more (S' := (· < W.heap.size)) (fun k _ h => Nat.lt_of_lt_of_le h hb.size))
  have HG := Lib.hid (fun W (hb : Below w.heap.size w W) => great_any _ B xs cx W (HX.out W hb) (by omega) hl3)
  rw [← hm] at HG
  have HGX := Lib.hid (fun W (hb : Below w.heap.size w W) => great_one W x A2 c2 _ hwf hc1 hc2 (HU.out W hb) (by omega))
  rw [decide_eq_false (show ¬ 3000 < many xs by omega)] at HG
  rw [decide_eq_false (show ¬ 3000 < 1 + x.l.length by omega)] at HGX
  have HAP := Lib.hid (fun W (hb : Below w.heap.size w W) => app_both A l n c x A2 c2 W (hA.on hb) hn (HU.out W hb) hwf hc1 hc2 (by omega) (by omega))
  have HMY := Lib.hid (fun W => rmay_any x A2 c2 W hwf)
  have HBY := Lib.hid (fun W (hb : Below w.heap.size w W) (hm : may x = true) => rbytes_any (· < W.heap.size) A2 c2 x W (HU.out W hb) (fun _ h => h) hwf hm (by omega))
  have HAE := Lib.hid (fun W (hb : Below w.heap.size w W) => appendExpr_any A l c B xs cx W (hA.on hb) (HX.out W hb) (fun x h => (hl4 x h).2) (by omega))
  have HRE := Lib.hid (fun W (hb : Below w.heap.size w W) => rexpr_any B xs m cx W (HX.out W hb) hm hm1)
  rw [← hn, ← hm] at HAE
  have HKV := Lib.hid (fun W (hb : Below w.heap.size w W) => run_str (hA.on hb) hn c)
  have hle := enc_le x hwf (by omega)
  have HEL : Hid ((exprEnc xs).length ≤ 200000) := Lib.hid (by have h1 := exprEnc_le xs hl4; omega)
  have HN := Lib.hid hn
  have hni : decide ((1000 : Int) < (n : Int)) = false := by simp; omega
  generalize hex : enc x = ex at HAP HBY hle
  generalize hmx : may x = mx at HAP HBY HMY
  obtain ⟨op, xa, xb, xc, xl⟩ := x
  simp only [insVal, insCells] at HGX HAP HMY HBY ⊢
  clear hA hn hU hwf hc1 hc2 hX hm hl4 htl htm hl3 hex hmx
  generalize xl.length = q at HGX HAP HMY HBY hx1 hle ⊢
  have HX0 : Hid ((w.alloc (.cells #[.int .u8 (op : Int), .int .u32 (xa : Int), .int .u32 (xb : Int), .int .i64 xc, .slice A2 q c2] 26)).heap[w.heap.size]? = some (.cells #[.int .u8 (op : Int), .int .u32 (xa : Int), .int .u32 (xb : Int), .int .i64 xc, .slice A2 q c2] 26 (0, 0))) := Lib.hid (heap_alloc_new w _)
  have HB0 : Hid (Below w.heap.size w (w.alloc (.cells #[.int .u8 (op : Int), .int .u32 (xa : Int), .int .u32 (xb : Int), .int .i64 xc, .slice A2 q c2] 26))) := Lib.hid ((Below.refl _ _).alloc (Nat.le_refl _) _)
  have hs0 : w.heap.size < (w.alloc (.cells #[.int .u8 (op : Int), .int .u32 (xa : Int), .int .u32 (xb : Int), .int .i64 xc, .slice A2 q c2] 26)).heap.size := by simp
  have tok1 : True := trivial
  go_enter Try.func3, Try.ntmps3
  go_upto_region 1 with (fail)
  generalize w.alloc (.cells #[.int .u8 (op : Int), .int .u32 (xa : Int), .int .u32 (xb : Int), .int .i64 xc, .slice A2 q c2] 26) = w0 at HB0 HX0 hs0 ⊢
  go_wp2_with fail
  refine (rows_hold w0).mono ?_
  rintro e w1 ⟨rfl, hb⟩
  have HB1 := Lib.hid (HB0.out.trans (hb.mono HB0.out.size))
  have HX1 : Hid (w1.heap[w.heap.size]? = some (.cells #[.int .u8 (op : Int), .int .u32 (xa : Int), .int .u32 (xb : Int), .int .i64 xc, .slice A2 q c2] 26 (0, 0))) := Lib.hid ((hb.block _ hs0).trans HX0.out)
  have hs1 : w.heap.size < w1.heap.size := Nat.lt_of_lt_of_le hs0 hb.size
  clear hb HX0 HB0 hs0
  obtain ⟨y0, y1, y2, y3, y4⟩ := cells5 HX1.out
  go_upto_region 5 with (first | (go_at_call 7; clear tok1; refine (HG.out _ HB1.out).mono ?_; rintro e w2 ⟨rfl, rfl⟩) | (go_at_call 7; refine (HGX.out _ HB1.out).mono ?_; rintro e w3 ⟨rfl, rfl⟩))
  clear y0 y1 y2 y3 y4 HG HGX
  have HX2 : Hid ((w1.alloc (.cells #[.int .u8 (op : Int), .int .u32 (xa : Int), .int .u32 (xb : Int), .int .i64 xc, .slice A2 q c2] 26)).heap[w.heap.size]? = some (.cells #[.int .u8 (op : Int), .int .u32 (xa : Int), .int .u32 (xb : Int), .int .i64 xc, .slice A2 q c2] 26 (0, 0))) := Lib.hid ((Below.heap_alloc _ _ _ hs1).trans HX1.out)
  have HB2 : Hid (Below w.heap.size w (w1.alloc (.cells #[.int .u8 (op : Int), .int .u32 (xa : Int), .int .u32 (xb : Int), .int .i64 xc, .slice A2 q c2] 26))) := Lib.hid (HB1.out.alloc HB1.out.size _)
  have hs2 : w.heap.size < (w1.alloc (.cells #[.int .u8 (op : Int), .int .u32 (xa : Int), .int .u32 (xb : Int), .int .i64 xc, .slice A2 q c2] 26)).heap.size := by simp; omega
  clear HX1 HB1 hs1
  generalize w1.alloc (.cells #[.int .u8 (op : Int), .int .u32 (xa : Int), .int .u32 (xb : Int), .int .i64 xc, .slice A2 q c2] 26) = w2 at HX2 HB2 hs2 ⊢
  obtain ⟨y0, y1, y2, y3, y4⟩ := cells5 HX2.out
  go_upto_region 6 with (go_at_call 8; refine (HAP.out _ HB2.out).mono ?_; rintro e w3 ⟨A7, n7, c7, E7, rfl, hb3, h7, h7'⟩; have HB3 := Lib.hid (HB2.out.trans (hb3.mono HB2.out.size)); have HX3 : Hid (w3.heap[w.heap.size]? = some (.cells #[.int .u8 (op : Int), .int .u32 (xa : Int), .int .u32 (xb : Int), .int .i64 xc, .slice A2 q c2] 26 (0, 0))) := Lib.hid ((hb3.block _ hs2).trans HX2.out); have hs3 : w.heap.size < w3.heap.size := Nat.lt_of_lt_of_le hs2 hb3.size; have H7 := Lib.hid h7; have H7' := Lib.hid h7'; clear hb3 h7 h7')
  clear y0 y1 y2 y3 y4 HAP HX2 HB2 hs2
  have HCX := Lib.hid (fun W (hb : Below w3.heap.size w3 W) => cells5 ((hb.block _ hs3).trans HX3.out))
  go_cut [63] from 31 (fun s63 wx => s63 = .bool false ∧ Hid (Below w3.heap.size w3 wx))
  case first =>
    have hB0 : Below w3.heap.size w3 w3.drew := Below.drew (Below.refl _ _)
    have HB0 := Lib.hid hB0
    obtain ⟨y0, y1, y2, y3, y4⟩ := HCX.out _ hB0
    clear hB0
    cases mx with
    | false =>
      obtain ⟨rfl, rfl⟩ := H7'.out (by first | rfl | trivial)
      clear HKV HAE HRE HBY H7 H7' HX3
      refine wp_region_held_drew (S := (fun w' => (w'.cell? ⟨w.heap.size, 0, none⟩ = some (.int .u8 (op : Int)) ∧ w'.cell? ⟨w.heap.size, 1, none⟩ = some (.int .u32 (xa : Int)) ∧ w'.cell? ⟨w.heap.size, 2, none⟩ = some (.int .u32 (xb : Int)) ∧ w'.cell? ⟨w.heap.size, 3, none⟩ = some (.int .i64 xc) ∧ w'.cell? ⟨w.heap.size, 4, none⟩ = some (.slice A2 q c2)) ∧ Hid (Below w3.heap.size w3 w'))) (by kernel_rfl) (⟨HCX.out _ HB0.out, HB0⟩) (fun hHeld => ?_)
      refine drawn_take 0 rfl (by kernel_rfl) (by kernel_rfl) (by kernel_rfl) (fun _ _ _ h => h) (by rfl) (by assumption) (v := ?_) ?_ ?_
      rotate_left
      · (intro wy hSw; (try dsimp only at hSw); go_simp; try with_reducible rfl)
      simp only [Act.put, List.setIfInBounds_toArray, List.set_cons_zero, List.set_cons_succ]
      refine drawn_take 2 rfl (by kernel_rfl) (by kernel_rfl) (by kernel_rfl) (fun _ _ _ h => h) (by rfl) (by assumption) (v := ?_) ?_ ?_
      rotate_left
      · (intro wy hSw; (try dsimp only at hSw); go_simp; try with_reducible rfl)
      simp only [Act.put, List.setIfInBounds_toArray, List.set_cons_zero, List.set_cons_succ]
      refine drawn_take 3 rfl (by kernel_rfl) (by kernel_rfl) (by kernel_rfl) (fun _ _ _ h => h) (by rfl) (by assumption) (v := ?_) ?_ ?_
      rotate_left
      · (intro wy hSw; (try dsimp only at hSw); go_simp; try with_reducible rfl)
      simp only [Act.put, List.setIfInBounds_toArray, List.set_cons_zero, List.set_cons_succ]
      refine drawn_sole 1 rfl (by kernel_rfl) (fun K hK => ?_)
      go_simp
      refine (HMY.out _).mono ?_
      rintro e w4 ⟨rfl, hb4⟩
      have HB4 := Lib.hid (HB0.out.trans (hb4.mono HB0.out.size))
      clear hb4
      go_wp2_with fail
      refine hK.out _ _ (⟨HCX.out _ HB4.out, HB4⟩) (fun hHeld2 => ?_)
      clear hK K
      clear hHeld
      have hHeld := hHeld2
      clear hHeld2
      refine drawn_take 4 rfl (by kernel_rfl) (by kernel_rfl) (by kernel_rfl) (fun _ _ _ h => h) (by rfl) (by assumption) (v := ?_) ?_ ?_
      rotate_left
      · (intro wy hSw; (try dsimp only at hSw); go_simp; try with_reducible rfl)
      simp only [Act.put, List.setIfInBounds_toArray, List.set_cons_zero, List.set_cons_succ]
      refine drawn_take 5 rfl (by kernel_rfl) (by kernel_rfl) (by kernel_rfl) (fun _ _ _ h => h) (by rfl) (by assumption) (v := ?_) ?_ ?_
      rotate_left
      · (intro wy hSw; (try dsimp only at hSw); go_simp; try with_reducible rfl)
      simp only [Act.put, List.setIfInBounds_toArray, List.set_cons_zero, List.set_cons_succ]
      refine drawn_take 6 rfl (by kernel_rfl) (by kernel_rfl) (by kernel_rfl) (fun _ _ _ h => h) (by rfl) (by assumption) (v := ?_) ?_ ?_
      rotate_left
      · (intro wy hSw; (try dsimp only at hSw); go_simp; try with_reducible rfl)
      simp only [Act.put, List.setIfInBounds_toArray, List.set_cons_zero, List.set_cons_succ]
      refine drawn_take 7 rfl (by kernel_rfl) (by kernel_rfl) (by kernel_rfl) (fun _ _ _ h => h) (by rfl) (by assumption) (v := ?_) ?_ ?_
      rotate_left
      · (intro wy hSw; (try dsimp only at hSw); go_simp; try with_reducible rfl)
      simp only [Act.put, List.setIfInBounds_toArray, List.set_cons_zero, List.set_cons_succ]
      refine drawn_take 8 rfl (by kernel_rfl) (by kernel_rfl) (by kernel_rfl) (fun _ _ _ h => h) (by rfl) (by assumption) (v := ?_) ?_ ?_
      rotate_left
      · (intro wy hSw; (try dsimp only at hSw); go_simp; try with_reducible rfl)
      simp only [Act.put, List.setIfInBounds_toArray, List.set_cons_zero, List.set_cons_succ]
      refine drawn_take 9 rfl (by kernel_rfl) (by kernel_rfl) (by kernel_rfl) (fun _ _ _ h => h) (by rfl) (by assumption) (v := ?_) ?_ ?_
      rotate_left
      · (intro wy hSw; (try dsimp only at hSw); go_simp; try with_reducible rfl)
      simp only [Act.put, List.setIfInBounds_toArray, List.set_cons_zero, List.set_cons_succ]
      refine drawn_take 10 rfl (by kernel_rfl) (by kernel_rfl) (by kernel_rfl) (fun _ _ _ h => h) (by rfl) (by assumption) (v := ?_) ?_ ?_
      rotate_left
      · (intro wy hSw; (try dsimp only at hSw); go_simp; try with_reducible rfl)
      simp only [Act.put, List.setIfInBounds_toArray, List.set_cons_zero, List.set_cons_succ]
      refine drawn_take 11 rfl (by kernel_rfl) (by kernel_rfl) (by kernel_rfl) (fun _ _ _ h => h) (by rfl) (by assumption) (v := ?_) ?_ ?_
      rotate_left
      · (intro wy hSw; (try dsimp only at hSw); go_simp; try with_reducible rfl)
      simp only [Act.put, List.setIfInBounds_toArray, List.set_cons_zero, List.set_cons_succ]
      refine drawn_take 12 rfl (by kernel_rfl) (by kernel_rfl) (by kernel_rfl) (fun _ _ _ h => h) (by rfl) (by assumption) (v := ?_) ?_ ?_
      rotate_left
      · (intro wy hSw; (try dsimp only at hSw); go_simp; try with_reducible rfl)
      simp only [Act.put, List.setIfInBounds_toArray, List.set_cons_zero, List.set_cons_succ]
      refine drawn_take 13 rfl (by kernel_rfl) (by kernel_rfl) (by kernel_rfl) (fun _ _ _ h => h) (by rfl) (by assumption) (v := ?_) ?_ ?_
      rotate_left
      · (intro wy hSw; (try dsimp only at hSw); go_simp; try with_reducible rfl)
      simp only [Act.put, List.setIfInBounds_toArray, List.set_cons_zero, List.set_cons_succ]
      refine drawn_take 14 rfl (by kernel_rfl) (by kernel_rfl) (by kernel_rfl) (fun _ _ _ h => h) (by rfl) (by assumption) (v := ?_) ?_ ?_
      rotate_left
      · (intro wy hSw; (try dsimp only at hSw); go_simp; try with_reducible rfl)
      simp only [Act.put, List.setIfInBounds_toArray, List.set_cons_zero, List.set_cons_succ]
      refine drawn_take 15 rfl (by kernel_rfl) (by kernel_rfl) (by kernel_rfl) (fun _ _ _ h => h) (by rfl) (by assumption) (v := ?_) ?_ ?_
      rotate_left
      · (intro wy hSw; (try dsimp only at hSw); go_simp; try with_reducible rfl)
      simp only [Act.put, List.setIfInBounds_toArray, List.set_cons_zero, List.set_cons_succ]
      refine drawn_take 16 rfl (by kernel_rfl) (by kernel_rfl) (by kernel_rfl) (fun _ _ _ h => h) (by rfl) (by assumption) (v := ?_) ?_ ?_
      rotate_left
      · (intro wy hSw; (try dsimp only at hSw); go_simp; try with_reducible rfl)
      simp only [Act.put, List.setIfInBounds_toArray, List.set_cons_zero, List.set_cons_succ]
      refine drawn_take 17 rfl (by kernel_rfl) (by kernel_rfl) (by kernel_rfl) (fun _ _ _ h => h) (by rfl) (by assumption) (v := ?_) ?_ ?_
      rotate_left
      · (intro wy hSw; (try dsimp only at hSw); go_simp; try with_reducible rfl)
      simp only [Act.put, List.setIfInBounds_toArray, List.set_cons_zero, List.set_cons_succ]
      refine drawn_take 18 rfl (by kernel_rfl) (by kernel_rfl) (by kernel_rfl) (fun _ _ _ h => h) (by rfl) (by assumption) (v := ?_) ?_ ?_
      rotate_left
      · (intro wy hSw; (try dsimp only at hSw); go_simp; try with_reducible rfl)
      simp only [Act.put, List.setIfInBounds_toArray, List.set_cons_zero, List.set_cons_succ]
      refine drawn_take 19 rfl (by kernel_rfl) (by kernel_rfl) (by kernel_rfl) (fun _ _ _ h => h) (by rfl) (by assumption) (v := ?_) ?_ ?_
      rotate_left
      · (intro wy hSw; (try dsimp only at hSw); go_simp; try with_reducible rfl)
      simp only [Act.put, List.setIfInBounds_toArray, List.set_cons_zero, List.set_cons_succ]
      refine drawn_take 20 rfl (by kernel_rfl) (by kernel_rfl) (by kernel_rfl) (fun _ _ _ h => h) (by rfl) (by assumption) (v := ?_) ?_ ?_
      rotate_left
      · (intro wy hSw; (try dsimp only at hSw); go_simp; try with_reducible rfl)
      simp only [Act.put, List.setIfInBounds_toArray, List.set_cons_zero, List.set_cons_succ]
      refine drawn_take 21 rfl (by kernel_rfl) (by kernel_rfl) (by kernel_rfl) (fun _ _ _ h => h) (by rfl) (by assumption) (v := ?_) ?_ ?_
      rotate_left
      · (intro wy hSw; (try dsimp only at hSw); go_simp; try with_reducible rfl)
      simp only [Act.put, List.setIfInBounds_toArray, List.set_cons_zero, List.set_cons_succ]
      refine drawn_skip 22 rfl (by kernel_rfl) (by kernel_rfl) (by kernel_rfl) (fun _ _ _ h => h) (by rfl) (by assumption) ?_
      simp only [Act.put, List.setIfInBounds_toArray, List.set_cons_zero, List.set_cons_succ]
      refine drawn_skip 23 rfl (by kernel_rfl) (by kernel_rfl) (by kernel_rfl) (fun _ _ _ h => h) (by rfl) (by assumption) ?_
      simp only [Act.put, List.setIfInBounds_toArray, List.set_cons_zero, List.set_cons_succ]
      refine drawn_skip 24 rfl (by kernel_rfl) (by kernel_rfl) (by kernel_rfl) (fun _ _ _ h => h) (by rfl) (by assumption) ?_
      simp only [Act.put, List.setIfInBounds_toArray, List.set_cons_zero, List.set_cons_succ]
      refine drawn_skip 25 rfl (by kernel_rfl) (by kernel_rfl) (by kernel_rfl) (fun _ _ _ h => h) (by rfl) (by assumption) ?_
      simp only [Act.put, List.setIfInBounds_toArray, List.set_cons_zero, List.set_cons_succ]
      refine drawn_skip 26 rfl (by kernel_rfl) (by kernel_rfl) (by kernel_rfl) (fun _ _ _ h => h) (by rfl) (by assumption) ?_
      simp only [Act.put, List.setIfInBounds_toArray, List.set_cons_zero, List.set_cons_succ]
      refine drawn_skip 27 rfl (by kernel_rfl) (by kernel_rfl) (by kernel_rfl) (fun _ _ _ h => h) (by rfl) (by assumption) ?_
      simp only [Act.put, List.setIfInBounds_toArray, List.set_cons_zero, List.set_cons_succ]
      refine drawn_skip 28 rfl (by kernel_rfl) (by kernel_rfl) (by kernel_rfl) (fun _ _ _ h => h) (by rfl) (by assumption) ?_
      simp only [Act.put, List.setIfInBounds_toArray, List.set_cons_zero, List.set_cons_succ]
      refine drawn_skip 29 rfl (by kernel_rfl) (by kernel_rfl) (by kernel_rfl) (fun _ _ _ h => h) (by rfl) (by assumption) ?_
      simp only [Act.put, List.setIfInBounds_toArray, List.set_cons_zero, List.set_cons_succ]
      refine drawn_skip 30 rfl (by kernel_rfl) (by kernel_rfl) (by kernel_rfl) (fun _ _ _ h => h) (by rfl) (by assumption) ?_
      simp only [Act.put, List.setIfInBounds_toArray, List.set_cons_zero, List.set_cons_succ]
      refine drawn_take 31 rfl (by kernel_rfl) (by kernel_rfl) (by kernel_rfl) (fun _ _ _ h => h) (by rfl) (by assumption) (v := ?_) ?_ ?_
      rotate_left
      · (intro wy hSw; (try dsimp only at hSw); go_simp; try with_reducible rfl)
      simp only [Act.put, List.setIfInBounds_toArray, List.set_cons_zero, List.set_cons_succ]
      refine drawn_take 32 rfl (by kernel_rfl) (by kernel_rfl) (by kernel_rfl) (fun _ _ _ h => h) (by rfl) (by assumption) (v := ?_) ?_ ?_
      rotate_left
      · (intro wy hSw; (try dsimp only at hSw); go_simp; try with_reducible rfl)
      simp only [Act.put, List.setIfInBounds_toArray, List.set_cons_zero, List.set_cons_succ]
      refine wpAnyH_done (by kernel_rfl) ?_ _
      go_wp2_with fail
      go_meet
      case rel => exact ⟨rfl, HB4⟩
    | true =>
      obtain ⟨rfl, hn7, hh7⟩ := H7.out (by first | rfl | trivial)
      have KO := Lib.hid (fun W (hb : Below w3.heap.size w3 W) => run_str (hh7.on hb) hn7 c7)
      have KV := Lib.hid (fun W (hb : Below w3.heap.size w3 W) => HKV.out W (HB3.out.trans (hb.mono HB3.out.size)))
      have HBW := Lib.hid (fun W (hb : Below w3.heap.size w3 W) => HBY.out W (HB3.out.trans (hb.mono HB3.out.size)) (by first | rfl | trivial))
      have hs1 : ¬ 9223372036854775807 < l.length + ex.length := by have := HN.out; omega
      obtain ⟨X, hX⟩ : ∃ X, X = l ++ ex := ⟨_, rfl⟩
      rw [← hX] at KO
      have HXX := Lib.hid hX
      unfold RBPost at HBW
      have HEQ : Hid ((!(X == (ByteArray.mk l.toArray ++ ByteArray.mk ex.toArray).toList)) = false) := Lib.hid (by rw [hX, ByteArray.mk_append_mk, ByteArray.toList_eq]; simp)
      clear HKV HAE HRE HBY H7 H7' HX3 hn7 hh7 hX
      refine wp_region_held_drew (S := (fun w' => (w'.cell? ⟨w.heap.size, 0, none⟩ = some (.int .u8 (op : Int)) ∧ w'.cell? ⟨w.heap.size, 1, none⟩ = some (.int .u32 (xa : Int)) ∧ w'.cell? ⟨w.heap.size, 2, none⟩ = some (.int .u32 (xb : Int)) ∧ w'.cell? ⟨w.heap.size, 3, none⟩ = some (.int .i64 xc) ∧ w'.cell? ⟨w.heap.size, 4, none⟩ = some (.slice A2 q c2)) ∧ (convert 22 9 (.slice A7 n7 c7)).run Try.prog w' = .ok (.string ⟨X.toArray⟩) w' ∧ (convert 22 9 (.slice A n c)).run Try.prog w' = .ok (.string ⟨l.toArray⟩) w' ∧ Hid (Below w3.heap.size w3 w'))) (by kernel_rfl) (⟨HCX.out _ HB0.out, KO.out _ HB0.out, KV.out _ HB0.out, HB0⟩) (fun hHeld => ?_)
      refine drawn_take 0 rfl (by kernel_rfl) (by kernel_rfl) (by kernel_rfl) (fun _ _ _ h => h) (by rfl) (by assumption) (v := ?_) ?_ ?_
      rotate_left
      · (intro wy hSw; (try dsimp only at hSw); go_simp; try with_reducible rfl)
      simp only [Act.put, List.setIfInBounds_toArray, List.set_cons_zero, List.set_cons_succ]
      refine drawn_take 2 rfl (by kernel_rfl) (by kernel_rfl) (by kernel_rfl) (fun _ _ _ h => h) (by rfl) (by assumption) (v := ?_) ?_ ?_
      rotate_left
      · (intro wy hSw; (try dsimp only at hSw); go_simp; try with_reducible rfl)
      simp only [Act.put, List.setIfInBounds_toArray, List.set_cons_zero, List.set_cons_succ]
      refine drawn_take 3 rfl (by kernel_rfl) (by kernel_rfl) (by kernel_rfl) (fun _ _ _ h => h) (by rfl) (by assumption) (v := ?_) ?_ ?_
      rotate_left
      · (intro wy hSw; (try dsimp only at hSw); go_simp; try with_reducible rfl)
      simp only [Act.put, List.setIfInBounds_toArray, List.set_cons_zero, List.set_cons_succ]
      refine drawn_sole 1 rfl (by kernel_rfl) (fun K hK => ?_)
      go_simp
      refine (HMY.out _).mono ?_
      rintro e w4 ⟨rfl, hb4⟩
      have HB4 := Lib.hid (HB0.out.trans (hb4.mono HB0.out.size))
      clear hb4
      go_wp2_with fail
      refine hK.out _ _ (⟨HCX.out _ HB4.out, KO.out _ HB4.out, KV.out _ HB4.out, HB4⟩) (fun hHeld2 => ?_)
      clear hK K
      clear hHeld
      have hHeld := hHeld2
      clear hHeld2
      refine drawn_take 4 rfl (by kernel_rfl) (by kernel_rfl) (by kernel_rfl) (fun _ _ _ h => h) (by rfl) (by assumption) (v := ?_) ?_ ?_
      rotate_left
      · (intro wy hSw; (try dsimp only at hSw); go_simp; try with_reducible rfl)
      simp only [Act.put, List.setIfInBounds_toArray, List.set_cons_zero, List.set_cons_succ]
      refine drawn_take 5 rfl (by kernel_rfl) (by kernel_rfl) (by kernel_rfl) (fun _ _ _ h => h) (by rfl) (by assumption) (v := ?_) ?_ ?_
      rotate_left
      · (intro wy hSw; (try dsimp only at hSw); go_simp; try with_reducible rfl)
      simp only [Act.put, List.setIfInBounds_toArray, List.set_cons_zero, List.set_cons_succ]
      refine drawn_take 6 rfl (by kernel_rfl) (by kernel_rfl) (by kernel_rfl) (fun _ _ _ h => h) (by rfl) (by assumption) (v := ?_) ?_ ?_
      rotate_left
      · (intro wy hSw; (try dsimp only at hSw); go_simp; try with_reducible rfl)
      simp only [Act.put, List.setIfInBounds_toArray, List.set_cons_zero, List.set_cons_succ]
      refine drawn_take 7 rfl (by kernel_rfl) (by kernel_rfl) (by kernel_rfl) (fun _ _ _ h => h) (by rfl) (by assumption) (v := ?_) ?_ ?_
      rotate_left
      · (intro wy hSw; (try dsimp only at hSw); go_simp; try with_reducible rfl)
      simp only [Act.put, List.setIfInBounds_toArray, List.set_cons_zero, List.set_cons_succ]
      refine drawn_take 8 rfl (by kernel_rfl) (by kernel_rfl) (by kernel_rfl) (fun _ _ _ h => h) (by rfl) (by assumption) (v := ?_) ?_ ?_
      rotate_left
      · (intro wy hSw; (try dsimp only at hSw); go_simp; try with_reducible rfl)
      simp only [Act.put, List.setIfInBounds_toArray, List.set_cons_zero, List.set_cons_succ]
      refine drawn_skip 9 rfl (by kernel_rfl) (by kernel_rfl) (by kernel_rfl) (fun _ _ _ h => h) (by rfl) (by assumption) ?_
      simp only [Act.put, List.setIfInBounds_toArray, List.set_cons_zero, List.set_cons_succ]
      refine drawn_skip 10 rfl (by kernel_rfl) (by kernel_rfl) (by kernel_rfl) (fun _ _ _ h => h) (by rfl) (by assumption) ?_
      simp only [Act.put, List.setIfInBounds_toArray, List.set_cons_zero, List.set_cons_succ]
      refine drawn_skip 11 rfl (by kernel_rfl) (by kernel_rfl) (by kernel_rfl) (fun _ _ _ h => h) (by rfl) (by assumption) ?_
      simp only [Act.put, List.setIfInBounds_toArray, List.set_cons_zero, List.set_cons_succ]
      refine drawn_skip 12 rfl (by kernel_rfl) (by kernel_rfl) (by kernel_rfl) (fun _ _ _ h => h) (by rfl) (by assumption) ?_
      simp only [Act.put, List.setIfInBounds_toArray, List.set_cons_zero, List.set_cons_succ]
      refine drawn_skip 13 rfl (by kernel_rfl) (by kernel_rfl) (by kernel_rfl) (fun _ _ _ h => h) (by rfl) (by assumption) ?_
      simp only [Act.put, List.setIfInBounds_toArray, List.set_cons_zero, List.set_cons_succ]
      refine drawn_skip 14 rfl (by kernel_rfl) (by kernel_rfl) (by kernel_rfl) (fun _ _ _ h => h) (by rfl) (by assumption) ?_
      simp only [Act.put, List.setIfInBounds_toArray, List.set_cons_zero, List.set_cons_succ]
      refine drawn_skip 15 rfl (by kernel_rfl) (by kernel_rfl) (by kernel_rfl) (fun _ _ _ h => h) (by rfl) (by assumption) ?_
      simp only [Act.put, List.setIfInBounds_toArray, List.set_cons_zero, List.set_cons_succ]
      refine drawn_take 16 rfl (by kernel_rfl) (by kernel_rfl) (by kernel_rfl) (fun _ _ _ h => h) (by rfl) (by assumption) (v := ?_) ?_ ?_
      rotate_left
      · (intro wy hSw; (try dsimp only at hSw); go_simp; try with_reducible rfl)
      simp only [Act.put, List.setIfInBounds_toArray, List.set_cons_zero, List.set_cons_succ]
      refine drawn_take 17 rfl (by kernel_rfl) (by kernel_rfl) (by kernel_rfl) (fun _ _ _ h => h) (by rfl) (by assumption) (v := ?_) ?_ ?_
      rotate_left
      · (intro wy hSw; (try dsimp only at hSw); go_simp; try with_reducible rfl)
      simp only [Act.put, List.setIfInBounds_toArray, List.set_cons_zero, List.set_cons_succ]
      refine drawn_take 18 rfl (by kernel_rfl) (by kernel_rfl) (by kernel_rfl) (fun _ _ _ h => h) (by rfl) (by assumption) (v := ?_) ?_ ?_
      rotate_left
      · (intro wy hSw; (try dsimp only at hSw); go_simp; try with_reducible rfl)
      simp only [Act.put, List.setIfInBounds_toArray, List.set_cons_zero, List.set_cons_succ]
      refine drawn_take 19 rfl (by kernel_rfl) (by kernel_rfl) (by kernel_rfl) (fun _ _ _ h => h) (by rfl) (by assumption) (v := ?_) ?_ ?_
      rotate_left
      · (intro wy hSw; (try dsimp only at hSw); go_simp; try with_reducible rfl)
      simp only [Act.put, List.setIfInBounds_toArray, List.set_cons_zero, List.set_cons_succ]
      refine drawn_take 20 rfl (by kernel_rfl) (by kernel_rfl) (by kernel_rfl) (fun _ _ _ h => h) (by rfl) (by assumption) (v := ?_) ?_ ?_
      rotate_left
      · (intro wy hSw; (try dsimp only at hSw); go_simp; try with_reducible rfl)
      simp only [Act.put, List.setIfInBounds_toArray, List.set_cons_zero, List.set_cons_succ]
      refine drawn_take 21 rfl (by kernel_rfl) (by kernel_rfl) (by kernel_rfl) (fun _ _ _ h => h) (by rfl) (by assumption) (v := ?_) ?_ ?_
      rotate_left
      · (intro wy hSw; (try dsimp only at hSw); go_simp; try with_reducible rfl)
      simp only [Act.put, List.setIfInBounds_toArray, List.set_cons_zero, List.set_cons_succ]
      refine drawn_take 22 rfl (by kernel_rfl) (by kernel_rfl) (by kernel_rfl) (fun _ _ _ h => h) (by rfl) (by assumption) (v := ?_) ?_ ?_
      rotate_left
      · (intro wy hSw; (try dsimp only at hSw); go_simp; try with_reducible rfl)
      simp only [Act.put, List.setIfInBounds_toArray, List.set_cons_zero, List.set_cons_succ]
      refine drawn_take 23 rfl (by kernel_rfl) (by kernel_rfl) (by kernel_rfl) (fun _ _ _ h => h) (by rfl) (by assumption) (v := ?_) ?_ ?_
      rotate_left
      · (intro wy hSw; (try dsimp only at hSw); go_simp; try with_reducible rfl)
      simp only [Act.put, List.setIfInBounds_toArray, List.set_cons_zero, List.set_cons_succ]
      refine drawn_take 24 rfl (by kernel_rfl) (by kernel_rfl) (by kernel_rfl) (fun _ _ _ h => h) (by rfl) (by assumption) (v := ?_) ?_ ?_
      rotate_left
      · (intro wy hSw; (try dsimp only at hSw); go_simp; try with_reducible rfl)
      simp only [Act.put, List.setIfInBounds_toArray, List.set_cons_zero, List.set_cons_succ]
      refine drawn_take 25 rfl (by kernel_rfl) (by kernel_rfl) (by kernel_rfl) (fun _ _ _ h => h) (by rfl) (by assumption) (v := ?_) ?_ ?_
      rotate_left
      · (intro wy hSw; (try dsimp only at hSw); go_simp; try with_reducible rfl)
      simp only [Act.put, List.setIfInBounds_toArray, List.set_cons_zero, List.set_cons_succ]
      refine drawn_take 26 rfl (by kernel_rfl) (by kernel_rfl) (by kernel_rfl) (fun _ _ _ h => h) (by rfl) (by assumption) (v := ?_) ?_ ?_
      rotate_left
      · (intro wy hSw; (try dsimp only at hSw); go_simp; try with_reducible rfl)
      simp only [Act.put, List.setIfInBounds_toArray, List.set_cons_zero, List.set_cons_succ]
      refine drawn_sole 27 rfl (by kernel_rfl) (fun K hK => ?_)
      go_simp
      refine (HBW.out _ HB4.out).mono ?_
      rintro e w5 ⟨v5, rfl, ho5, hb5⟩
      obtain ⟨A5, c5, rfl, hx51, hx52, hh5⟩ := Has.own ho5
      have HB5 := Lib.hid (HB4.out.trans (hb5.mono HB4.out.size))
      have kb5 := run_str hh5 rfl c5
      clear ho5 hh5 hb5 hx51 hx52
      go_wp2_with fail
      refine hK.out _ _ (⟨HCX.out _ HB5.out, KO.out _ HB5.out, KV.out _ HB5.out, HB5⟩) (fun hHeld2 => ?_)
      clear hK K
      clear hHeld
      have hHeld := hHeld2
      clear hHeld2
      refine drawn_sole 28 rfl (by kernel_rfl) (fun K hK => ?_)
      go_simp
      skip
      refine hK.out _ _ (⟨HCX.out _ HB5.out, KO.out _ HB5.out, KV.out _ HB5.out, HB5⟩) (fun hHeld2 => ?_)
      clear hK K
      clear hHeld
      have hHeld := hHeld2
      clear hHeld2
      refine drawn_take 29 rfl (by kernel_rfl) (by kernel_rfl) (by kernel_rfl) (fun _ _ _ h => h) (by rfl) (by assumption) (v := ?_) ?_ ?_
      rotate_left
      · (intro wy hSw; (try dsimp only at hSw); go_simp; try with_reducible rfl)
      simp only [Act.put, List.setIfInBounds_toArray, List.set_cons_zero, List.set_cons_succ]
      refine drawn_take 30 rfl (by kernel_rfl) (by kernel_rfl) (by kernel_rfl) (fun _ _ _ h => h) (by rfl) (by assumption) (v := ?_) ?_ ?_
      rotate_left
      · (intro wy hSw; (try dsimp only at hSw); go_simp; try with_reducible rfl)
      simp only [Act.put, List.setIfInBounds_toArray, List.set_cons_zero, List.set_cons_succ]
      refine drawn_take 31 rfl (by kernel_rfl) (by kernel_rfl) (by kernel_rfl) (fun _ _ _ h => h) (by rfl) (by assumption) (v := ?_) ?_ ?_
      rotate_left
      · (intro wy hSw; (try dsimp only at hSw); go_simp; try with_reducible rfl)
      simp only [Act.put, List.setIfInBounds_toArray, List.set_cons_zero, List.set_cons_succ]
      refine drawn_take 32 rfl (by kernel_rfl) (by kernel_rfl) (by kernel_rfl) (fun _ _ _ h => h) (by rfl) (by assumption) (v := ?_) ?_ ?_
      rotate_left
      · (intro wy hSw; (try dsimp only at hSw); go_simp; try with_reducible rfl)
      simp only [Act.put, List.setIfInBounds_toArray, List.set_cons_zero, List.set_cons_succ]
      refine wpAnyH_done (by kernel_rfl) ?_ _
      go_wp2_with fail
      go_meet
      case rel => exact ⟨congrArg Value.bool HEQ.out, HB5⟩
  case rest =>
    obtain ⟨rfl, HBc⟩ := hcut
    have HB4 := Lib.hid (HB3.out.trans (HBc.out.mono HB3.out.size))
    clear HBY HMY H7 H7' HCX HX3 HB3 HBc HU
    unfold AEPost at HAE
    unfold REPost at HRE
    cases hx : exprB xs with
    | false =>
      rw [hx] at HAE HRE
      simp only [Bool.false_eq_true, if_false] at HAE
      clear HKV hx
      go_wp2_with (first | (go_at_call 11; refine (HAE.out _ HB4.out).mono ?_; rintro e w5 ⟨rfl, hb5⟩; have HB5 := Lib.hid (HB4.out.trans (hb5.mono HB4.out.size)); clear hb5) | (go_at_call 12; refine (HRE.out _ HB5.out).mono ?_; rintro e w6 ⟨hb6, v6, rfl, _⟩; have HB6 := Lib.hid (HB5.out.trans (hb6.mono HB5.out.size)); clear hb6))
      go_ret
      exact ⟨rfl, HB6.out⟩
    | true =>
      rw [hx] at HAE HRE
      simp only [if_true] at HAE
      have hel : (exprEnc xs).length ≤ 200000 := HEL.out
      generalize exprEnc xs = EX at HAE HRE hel
      obtain ⟨Y, hY⟩ : ∃ Y, Y = l ++ EX := ⟨_, rfl⟩
      rw [← hY] at HAE
      have HEQ : Hid ((Y == (ByteArray.mk l.toArray ++ ByteArray.mk EX.toArray).toList) = true) := Lib.hid (by rw [hY, ByteArray.mk_append_mk, ByteArray.toList_eq]; simp)
      have hs1 : ¬ 9223372036854775807 < l.length + EX.length := by have := HN.out; omega
      clear hx hY hel
      go_wp2_with (first | (go_at_call 11; refine (HAE.out _ HB4.out).mono ?_; rintro e w5 ⟨v5, rfl, ho5, hb5⟩; obtain ⟨A5, c5, rfl, hx51, hx52, hh5⟩ := Has.own ho5; have HH5 := Lib.hid hh5; have HB5 := Lib.hid (HB4.out.trans (hb5.mono HB4.out.size)); clear hb5 ho5 hh5 hx51 hx52) | (go_at_call 12; refine (HRE.out _ HB5.out).mono ?_; rintro e w6 ⟨hb6, v6, rfl, ho6⟩; obtain ⟨A6, c6, rfl, hx61, hx62, hh6⟩ := Has.own (ho6 (by first | rfl | trivial)); have HB6 := Lib.hid (HB5.out.trans (hb6.mono HB5.out.size)); have kv6 := HKV.out _ HB6.out; have ky6 := run_str (HH5.out.on hb6) rfl c5; have kx6 := run_str hh6 rfl c6; clear hb6 ho6 hh6 hx61 hx62))
      go_ret
      exact ⟨congrArg Ending.returned (congrArg Value.bool HEQ.out), HB6.out⟩
/-- The walk, for every argument that the form lets in. -/
theorem appends_any (A : Option Addr) (l : List UInt8) (n c : Nat) (x : I) (A2 : Option Addr) (c2 : Nat) (B : Option Addr) (xs : List I) (m cx : Nat) (w : World) (hA : Has w w.heap.size A l) (hn : n = l.length) (hU : HasU w (· < w.heap.size) A2 x.l) (hwf : x.wf) (hc1 : x.l.length ≤ c2) (hc2 : c2 ≤ maxLen) (hxl : x.l.length ≤ 140737488355328)
    (hX : HasI w (· < w.heap.size) B xs) (hm : m = xs.length) (hmm : m ≤ 140737488355328) (hl : ∀ x ∈ xs, x.l.length ≤ 140737488355328) :
    Calls Try.prog 3 #[.slice A n c, insVal x A2 c2, .slice B m cx] w fun e w' => e = .returned (.bool true) ∧ Below w.heap.size w w' := by
  by_cases h : 1000 < n ∨ 3000 < many xs ∨ 3000 < 1 + x.l.length
  · exact appends_great A n c x A2 c2 B xs m cx w hU hwf hc1 hc2 hxl hX hm hmm hl h
  · exact appends_main A l n c x A2 c2 B xs m cx w hA hn hU hwf hc1 hc2 hX hm (by omega) (by omega) (by omega)
end Go.Proofs.Ytnechkmdmjhhbaa
