/-
  The document's May: whether an instruction has bytes, as the plain function tells it; of its two regions of guards each test by itself. (gen/may.py)
-/
import Derived.Test.YtnechkmdmjhhbaaOpcRow
import Derived.Test.YtnechkmdmjhhbaaInsPure
import Derived.Test.YtnechkmdmjhhbaaInsCut
import Derived.Test.YtnechkmdmjhhbaaInsRd5
import Derived.Deep.Cut
namespace Opc
theorem row_form {n : Nat} (h : n < 256) : ((row n).form : Int) = form n ∧ (row? n).isSome = known n := by
  have : ∀ n : Nat, n < 256 → ((row n).form : Int) = form n ∧ (row? n).isSome = known n := by decide +kernel
  exact this n h
end Opc
namespace Go.Proofs.Ytnechkmdmjhhbaa
open Go.RowKit Ins
/-- The document's Find, its row in letters. -/
theorem find_letters (op : Nat) (h : op < 256) : ∃ (o wd : Int) (nm sg : ByteArray), ∀ w, Calls Try.prog 20 #[.int .u8 (op : Int)] w fun e w' => e = .returned (.tuple #[.agg #[.int .u8 o, .string nm, .int .u8 (Opc.form op), .string sg, .int .i64 wd], .bool (Opc.known op)]) ∧ Below w.heap.size w w' := by
  obtain ⟨h1, h2⟩ := Opc.row_form h
  refine ⟨((Opc.row op).op : Int), ((Opc.row op).width : Int), ⟨(Opc.row op).name.toArray⟩, ⟨(Opc.row op).sig.toArray⟩, fun w => (row_find op w).mono ?_⟩
  rintro e w' ⟨rfl, hb⟩
  refine ⟨?_, hb⟩
  rw [← h1, ← h2]
  rfl
set_option maxRecDepth 100000 in
set_option maxHeartbeats 4000000 in
theorem may_at (op a b : Nat) (n : Int) (m : Nat) (A : Option Addr) (c : Nat) (w : World) (F o wd : Int) (nm sg : ByteArray) (k : Bool) (p1 p2 q1 q2 q3 q4 : Bool)
    (HFI : Hid (∀ w, Calls Try.prog 20 #[.int .u8 (op : Int)] w fun e w' => e = .returned (.tuple #[.agg #[.int .u8 o, .string nm, .int .u8 F, .string sg, .int .i64 wd], .bool k]) ∧ Below w.heap.size w w'))
    (H1 : Hid (p1 = (!k || ((((F == 1 && (a : Int) != 64) && (a : Int) != 127)) && (a : Int) != 126)))) (H2 : Hid (p2 = (p1 || (F == 8 && (decide (n < -2147483648) || decide (2147483647 < n))))))
    (H3 : Hid (q1 = ((F == 0 || decide (6 < F)) && (a : Int) != 0))) (H4 : Hid (q2 = (q1 || (F != 6 && (b : Int) != 0)))) (H5 : Hid (q3 = (q2 || (decide (F < 8) && n != 0)))) (H6 : Hid (q4 = (q3 || (F != 3 && decide (0 < (m : Int)))))) :
    Calls Try.prog 9 #[.agg #[.int .u8 (op : Int), .int .u32 (a : Int), .int .u32 (b : Int), .int .i64 n, .slice A m c]] w fun e w' => e = .returned (.bool (!p2 && !q4)) ∧ Below w.heap.size w w' := by
  have HX0 : Hid ((w.alloc (.cells #[.int .u8 (op : Int), .int .u32 (a : Int), .int .u32 (b : Int), .int .i64 n, .slice A m c] 26)).heap[w.heap.size]? = some (.cells #[.int .u8 (op : Int), .int .u32 (a : Int), .int .u32 (b : Int), .int .i64 n, .slice A m c] 26 (0, 0))) := Lib.hid (heap_alloc_new w _)
  have HB0 : Hid (Below w.heap.size w (w.alloc (.cells #[.int .u8 (op : Int), .int .u32 (a : Int), .int .u32 (b : Int), .int .i64 n, .slice A m c] 26))) := Lib.hid ((Below.refl _ _).alloc (Nat.le_refl _) _)
  have hs0 : w.heap.size < (w.alloc (.cells #[.int .u8 (op : Int), .int .u32 (a : Int), .int .u32 (b : Int), .int .i64 n, .slice A m c] 26)).heap.size := by simp
  go_enter Try.func9, Try.ntmps9
  go_upto_region 1 with (fail)
  generalize w.alloc (.cells #[.int .u8 (op : Int), .int .u32 (a : Int), .int .u32 (b : Int), .int .i64 n, .slice A m c] 26) = w0 at HB0 HX0 hs0 ⊢
  obtain ⟨y0, y1, y2, y3, y4⟩ := cells5 HX0.out
  go_upto_region 2 with (go_at_call 20; refine (HFI.out _).mono ?_; rintro e w1 ⟨rfl, hb1⟩; have HB1 := Lib.hid (HB0.out.trans (hb1.mono HB0.out.size)); have HC1 := Lib.hid hb1; clear hb1)
  have HX2 : Hid ((w1.alloc (.cells #[.int .u8 o, .string nm, .int .u8 F, .string sg, .int .i64 wd] 51)).heap[w.heap.size]? = some (.cells #[.int .u8 (op : Int), .int .u32 (a : Int), .int .u32 (b : Int), .int .i64 n, .slice A m c] 26 (0, 0))) := Lib.hid ((Below.heap_alloc _ _ _ (Nat.lt_of_lt_of_le hs0 HC1.out.size)).trans ((HC1.out.block _ hs0).trans HX0.out))
  have HR2 : Hid ((w1.alloc (.cells #[.int .u8 o, .string nm, .int .u8 F, .string sg, .int .i64 wd] 51)).heap[w1.heap.size]? = some (.cells #[.int .u8 o, .string nm, .int .u8 F, .string sg, .int .i64 wd] 51 (0, 0))) := Lib.hid (heap_alloc_new w1 _)
  have HB2 : Hid (Below w.heap.size w (w1.alloc (.cells #[.int .u8 o, .string nm, .int .u8 F, .string sg, .int .i64 wd] 51))) := Lib.hid (HB1.out.alloc HB1.out.size _)
  obtain ⟨R, hR⟩ : ∃ R, R = w1.heap.size := ⟨_, rfl⟩
  rw [← hR] at HR2 ⊢
  clear hR y0 y1 y2 y3 y4 HX0 HB0 HB1 HC1 hs0
  generalize w1.alloc (.cells #[.int .u8 o, .string nm, .int .u8 F, .string sg, .int .i64 wd] 51) = w2 at HX2 HR2 HB2 ⊢
  obtain ⟨y0, y1, y2, y3, y4⟩ := cells5 HX2.out
  obtain ⟨z0, z1, z2, z3, z4⟩ := cells5 HR2.out
  clear HX2 HR2 HFI
  go_upto_region 3 with (fail)
  apply region_light
  simp only [List.map_cons, List.map_nil, strip, thin]
  refine wpList_cut (fun (ax : Act) (wx : World) => wx = w2 ∧ ∃ t : Nat → Value, ax = ⟨#[(Value.agg #[.int .u8 (op : Int), .int .u32 (a : Int), .int .u32 (b : Int), .int .i64 n, .slice A m c]), (.pointer (some ⟨w.heap.size, 0, none⟩)), (.bool false), (.pointer (some ⟨R, 0, none⟩)), (.bool k), (.int .u8 F), t 6, t 7, t 8, t 9, t 10, t 11, t 12, t 13, t 14, t 15, t 16, t 17, t 18, t 19, t 20, t 21, t 22, t 23, t 24, t 25, t 26, t 27, t 28, t 29, t 30, t 31, t 32, t 33, (.bool p1), undef, undef, undef, undef, undef, undef, undef, undef, undef, undef, undef, undef, undef, undef, undef, undef, undef, undef, undef, undef, undef, undef, undef, undef, undef, undef, undef, undef, undef, undef, undef, undef, undef, undef, undef, undef, undef, undef, undef, undef, undef, undef, undef, undef, undef, undef, undef, undef, undef, undef, undef, undef, undef], []⟩) 21 _ _ _ ?_ ?_
  · dsimp only [List.take]
    obtain rfl := H1.out
    cases k
    · go_wp2_with fail
      all_goals (first | exact ⟨rfl, rfl, cutFin rfl⟩ | (rename_i hx _; simp [undef] at hx))
    cases ht1 : (F == 1)
    · go_wp2_with fail
      all_goals (first | exact ⟨rfl, rfl, cutFin rfl⟩ | (rename_i hx _; simp [undef] at hx))
    cases ht2 : ((a : Int) != 64)
    · go_wp2_with fail
      all_goals (first | exact ⟨rfl, rfl, cutFin rfl⟩ | (rename_i hx _; simp [undef] at hx))
    cases ht3 : ((a : Int) != 127)
    · go_wp2_with fail
      all_goals (first | exact ⟨rfl, rfl, cutFin rfl⟩ | (rename_i hx _; simp [undef] at hx))
    go_wp2_with fail
    all_goals (first | exact ⟨rfl, rfl, cutFin rfl⟩ | (rename_i hx _; simp [undef] at hx))
  intro ax wx hx
  obtain ⟨hwx, t, rfl⟩ := hx
  rw [hwx]
  clear hwx
  dsimp only [List.drop]
  refine wpList_cut (fun (ax : Act) (wx : World) => wx = w2 ∧ ∃ t : Nat → Value, ax = ⟨#[(Value.agg #[.int .u8 (op : Int), .int .u32 (a : Int), .int .u32 (b : Int), .int .i64 n, .slice A m c]), (.pointer (some ⟨w.heap.size, 0, none⟩)), (.bool false), (.pointer (some ⟨R, 0, none⟩)), (.bool k), (.int .u8 F), t 6, t 7, t 8, t 9, t 10, t 11, t 12, t 13, t 14, t 15, t 16, t 17, t 18, t 19, t 20, t 21, t 22, t 23, t 24, t 25, t 26, t 27, t 28, t 29, t 30, t 31, t 32, t 33, t 34, t 35, t 36, t 37, t 38, t 39, t 40, t 41, t 42, t 43, t 44, t 45, t 46, t 47, (.bool p2), undef, undef, undef, undef, undef, undef, undef, undef, undef, undef, undef, undef, undef, undef, undef, undef, undef, undef, undef, undef, undef, undef, undef, undef, undef, undef, undef, undef, undef, undef, undef, undef, undef, undef, undef, undef, undef, undef, undef], []⟩) 14 _ _ _ ?_ ?_
  · dsimp only [List.take]
    obtain rfl := H2.out
    cases p1
    rotate_left
    · go_wp2_with fail
      all_goals (first | exact ⟨rfl, rfl, cutFin rfl⟩ | (rename_i hx _; simp [undef] at hx))
    cases ht1 : (F == 8)
    · go_wp2_with fail
      all_goals (first | exact ⟨rfl, rfl, cutFin rfl⟩ | (rename_i hx _; simp [undef] at hx))
    cases ht2 : (decide (n < -2147483648))
    rotate_left
    · go_wp2_with fail
      all_goals (first | exact ⟨rfl, rfl, cutFin rfl⟩ | (rename_i hx _; simp [undef] at hx))
    go_wp2_with fail
    all_goals (first | exact ⟨rfl, rfl, cutFin rfl⟩ | (rename_i hx _; simp [undef] at hx))
  intro ax wx hx
  obtain ⟨hwx, t, rfl⟩ := hx
  rw [hwx]
  clear hwx
  dsimp only [List.drop]
  cases p2
  rotate_left
  · go_wp2_with fail
    go_ret
    exact ⟨rfl, HB2.out⟩
  go_upto_region 5 with (fail)
  apply region_light
  simp only [List.map_cons, List.map_nil, strip, thin]
  refine wpList_cut (fun (ax : Act) (wx : World) => wx = w2 ∧ ∃ t : Nat → Value, ax = ⟨#[(Value.agg #[.int .u8 (op : Int), .int .u32 (a : Int), .int .u32 (b : Int), .int .i64 n, .slice A m c]), (.pointer (some ⟨w.heap.size, 0, none⟩)), (.bool false), (.pointer (some ⟨R, 0, none⟩)), (.bool k), (.int .u8 F), t 6, t 7, t 8, t 9, t 10, t 11, t 12, t 13, t 14, t 15, t 16, t 17, t 18, t 19, t 20, t 21, t 22, t 23, t 24, t 25, t 26, t 27, t 28, t 29, t 30, t 31, t 32, t 33, t 34, t 35, t 36, t 37, t 38, t 39, t 40, t 41, t 42, t 43, t 44, t 45, t 46, t 47, t 48, t 49, t 50, t 51, t 52, t 53, t 54, t 55, t 56, t 57, t 58, (.bool q1), undef, undef, undef, undef, undef, undef, undef, undef, undef, undef, undef, undef, undef, undef, undef, undef, undef, undef, undef, undef, undef, undef, undef, undef, undef, undef, undef, undef], []⟩) 11 _ _ _ ?_ ?_
  · dsimp only [List.take]
    obtain rfl := H3.out
    cases ht0 : (F == 0)
    rotate_left
    · go_wp2_with fail
      all_goals (first | exact ⟨rfl, rfl, cutFin rfl⟩ | (rename_i hx _; simp [undef] at hx))
    cases ht1 : (decide (6 < F))
    · go_wp2_with fail
      all_goals (first | exact ⟨rfl, rfl, cutFin rfl⟩ | (rename_i hx _; simp [undef] at hx))
    go_wp2_with fail
    all_goals (first | exact ⟨rfl, rfl, cutFin rfl⟩ | (rename_i hx _; simp [undef] at hx))
  intro ax wx hx
  obtain ⟨hwx, t, rfl⟩ := hx
  rw [hwx]
  clear hwx
  dsimp only [List.drop]
  refine wpList_cut (fun (ax : Act) (wx : World) => wx = w2 ∧ ∃ t : Nat → Value, ax = ⟨#[(Value.agg #[.int .u8 (op : Int), .int .u32 (a : Int), .int .u32 (b : Int), .int .i64 n, .slice A m c]), (.pointer (some ⟨w.heap.size, 0, none⟩)), (.bool false), (.pointer (some ⟨R, 0, none⟩)), (.bool k), (.int .u8 F), t 6, t 7, t 8, t 9, t 10, t 11, t 12, t 13, t 14, t 15, t 16, t 17, t 18, t 19, t 20, t 21, t 22, t 23, t 24, t 25, t 26, t 27, t 28, t 29, t 30, t 31, t 32, t 33, t 34, t 35, t 36, t 37, t 38, t 39, t 40, t 41, t 42, t 43, t 44, t 45, t 46, t 47, t 48, t 49, t 50, t 51, t 52, t 53, t 54, t 55, t 56, t 57, t 58, t 59, t 60, t 61, t 62, t 63, t 64, t 65, t 66, t 67, (.bool q2), undef, undef, undef, undef, undef, undef, undef, undef, undef, undef, undef, undef, undef, undef, undef, undef, undef, undef, undef], []⟩) 9 _ _ _ ?_ ?_
  · dsimp only [List.take]
    obtain rfl := H4.out
    cases q1
    rotate_left
    · go_wp2_with fail
      all_goals (first | exact ⟨rfl, rfl, cutFin rfl⟩ | (rename_i hx _; simp [undef] at hx))
    cases ht1 : (F != 6)
    · go_wp2_with fail
      all_goals (first | exact ⟨rfl, rfl, cutFin rfl⟩ | (rename_i hx _; simp [undef] at hx))
    go_wp2_with fail
    all_goals (first | exact ⟨rfl, rfl, cutFin rfl⟩ | (rename_i hx _; simp [undef] at hx))
  intro ax wx hx
  obtain ⟨hwx, t, rfl⟩ := hx
  rw [hwx]
  clear hwx
  dsimp only [List.drop]
  refine wpList_cut (fun (ax : Act) (wx : World) => wx = w2 ∧ ∃ t : Nat → Value, ax = ⟨#[(Value.agg #[.int .u8 (op : Int), .int .u32 (a : Int), .int .u32 (b : Int), .int .i64 n, .slice A m c]), (.pointer (some ⟨w.heap.size, 0, none⟩)), (.bool false), (.pointer (some ⟨R, 0, none⟩)), (.bool k), (.int .u8 F), t 6, t 7, t 8, t 9, t 10, t 11, t 12, t 13, t 14, t 15, t 16, t 17, t 18, t 19, t 20, t 21, t 22, t 23, t 24, t 25, t 26, t 27, t 28, t 29, t 30, t 31, t 32, t 33, t 34, t 35, t 36, t 37, t 38, t 39, t 40, t 41, t 42, t 43, t 44, t 45, t 46, t 47, t 48, t 49, t 50, t 51, t 52, t 53, t 54, t 55, t 56, t 57, t 58, t 59, t 60, t 61, t 62, t 63, t 64, t 65, t 66, t 67, t 68, t 69, t 70, t 71, t 72, t 73, t 74, t 75, t 76, (.bool q3), undef, undef, undef, undef, undef, undef, undef, undef, undef, undef], []⟩) 9 _ _ _ ?_ ?_
  · dsimp only [List.take]
    obtain rfl := H5.out
    cases q2
    rotate_left
    · go_wp2_with fail
      all_goals (first | exact ⟨rfl, rfl, cutFin rfl⟩ | (rename_i hx _; simp [undef] at hx))
    cases ht1 : (decide (F < 8))
    · go_wp2_with fail
      all_goals (first | exact ⟨rfl, rfl, cutFin rfl⟩ | (rename_i hx _; simp [undef] at hx))
    go_wp2_with fail
    all_goals (first | exact ⟨rfl, rfl, cutFin rfl⟩ | (rename_i hx _; simp [undef] at hx))
  intro ax wx hx
  obtain ⟨hwx, t, rfl⟩ := hx
  rw [hwx]
  clear hwx
  dsimp only [List.drop]
  refine wpList_cut (fun (ax : Act) (wx : World) => wx = w2 ∧ ∃ t : Nat → Value, ax = ⟨#[(Value.agg #[.int .u8 (op : Int), .int .u32 (a : Int), .int .u32 (b : Int), .int .i64 n, .slice A m c]), (.pointer (some ⟨w.heap.size, 0, none⟩)), (.bool false), (.pointer (some ⟨R, 0, none⟩)), (.bool k), (.int .u8 F), t 6, t 7, t 8, t 9, t 10, t 11, t 12, t 13, t 14, t 15, t 16, t 17, t 18, t 19, t 20, t 21, t 22, t 23, t 24, t 25, t 26, t 27, t 28, t 29, t 30, t 31, t 32, t 33, t 34, t 35, t 36, t 37, t 38, t 39, t 40, t 41, t 42, t 43, t 44, t 45, t 46, t 47, t 48, t 49, t 50, t 51, t 52, t 53, t 54, t 55, t 56, t 57, t 58, t 59, t 60, t 61, t 62, t 63, t 64, t 65, t 66, t 67, t 68, t 69, t 70, t 71, t 72, t 73, t 74, t 75, t 76, t 77, t 78, t 79, t 80, t 81, t 82, t 83, t 84, t 85, t 86, (.bool q4)], []⟩) 10 _ _ _ ?_ ?_
  · dsimp only [List.take]
    obtain rfl := H6.out
    cases q3
    rotate_left
    · go_wp2_with fail
      all_goals (first | exact ⟨rfl, rfl, cutFin rfl⟩ | (rename_i hx _; simp [undef] at hx))
    cases ht1 : (F != 3)
    · go_wp2_with fail
      all_goals (first | exact ⟨rfl, rfl, cutFin rfl⟩ | (rename_i hx _; simp [undef] at hx))
    go_wp2_with fail
    all_goals (first | exact ⟨rfl, rfl, cutFin rfl⟩ | (rename_i hx _; simp [undef] at hx))
  intro ax wx hx
  obtain ⟨hwx, t, rfl⟩ := hx
  rw [hwx]
  clear hwx
  dsimp only [List.drop]
  cases q4
  · go_wp2_with fail
    go_ret
    exact ⟨rfl, HB2.out⟩
  · go_wp2_with fail
    go_ret
    exact ⟨rfl, HB2.out⟩
theorem may_bool (k : Bool) (F : Int) (hF : F = 0 ∨ F = 1 ∨ F = 2 ∨ F = 3 ∨ F = 4 ∨ F = 5 ∨ F = 6 ∨ F = 7 ∨ F = 8 ∨ F = 9) (x : I) : (k && mayF F x) =
    (!((!k || ((((F == 1 && (x.a : Int) != 64) && (x.a : Int) != 127)) && (x.a : Int) != 126)) || (F == 8 && (decide (x.c < -2147483648) || decide (2147483647 < x.c)))) &&
     !(((((F == 0 || decide (6 < F)) && (x.a : Int) != 0) || (F != 6 && (x.b : Int) != 0)) || (decide (F < 8) && x.c != 0)) || (F != 3 && decide (0 < (x.l.length : Int))))) := by
  obtain ⟨op, a, b, c, l⟩ := x
  have e0 : ((a : Int) != 0) = !(a == 0) := by rw [Bool.eq_iff_iff]; simp
  have e1 : ((b : Int) != 0) = !(b == 0) := by rw [Bool.eq_iff_iff]; simp
  have e2 : (c != 0) = !(c == 0) := rfl
  have e3 : decide (0 < (l.length : Int)) = !l.isEmpty := by cases l <;> simp
  have e4 : blockB a = !(((a : Int) != 64 && (a : Int) != 127) && (a : Int) != 126) := by
    unfold blockB; rw [Bool.eq_iff_iff]; simp; omega
  have e5 : in32 c = !(decide (c < -2147483648) || decide (2147483647 < c)) := by
    unfold in32; rw [Bool.eq_iff_iff]; simp
  simp only [e0, e1, e2, e3]
  cases k
  · simp
  · simp only [mayF, e4, e5]
    generalize (a == 0) = ta
    generalize (b == 0) = tb
    generalize (c == 0) = tc
    generalize l.isEmpty = tl
    generalize ((a : Int) != 64) = t1
    generalize ((a : Int) != 127) = t2
    generalize ((a : Int) != 126) = t3
    generalize decide (c < -2147483648) = t4
    generalize decide (2147483647 < c) = t5
    rcases hF with rfl | rfl | rfl | rfl | rfl | rfl | rfl | rfl | rfl | rfl <;> simp [hasA] <;> cases ta <;> cases tb <;> cases tc <;> cases tl <;> simp <;> cases t1 <;> cases t2 <;> cases t3 <;> cases t4 <;> cases t5 <;> rfl
/-- The document's May. -/
theorem rmay_any (x : I) (A : Option Addr) (c : Nat) (w : World) (hw : x.wf) : Calls Try.prog 9 #[insVal x A c] w fun e w' => e = .returned (.bool (may x)) ∧ Below w.heap.size w w' := by
  obtain ⟨op, a, b, n, l⟩ := x
  obtain ⟨o, wd, nm, sg, hfi⟩ := find_letters op hw.1
  have h := may_at op a b n l.length A c w (Opc.form op) o wd nm sg (Opc.known op) _ _ _ _ _ _ (Lib.hid hfi) (Lib.hid rfl) (Lib.hid rfl) (Lib.hid rfl) (Lib.hid rfl) (Lib.hid rfl) (Lib.hid rfl)
  have e : may ⟨op, a, b, n, l⟩ = _ := may_bool (Opc.known op) (Opc.form op) (form_range op) ⟨op, a, b, n, l⟩
  rw [e]
  exact h
end Go.Proofs.Ytnechkmdmjhhbaa
