/-
  Layer 13's statements: known.
-/
import Derived.Test.YtkclnilaldhhnaaDoorCoSum
import Derived.Deep.RegionHeld3
namespace Co
def rows : List (Nat × Nat) := [(1, 1), (66, 1), (11, 0), (3, 0), (130, 5), (108, 2), (62, 3), (16, 8)]
theorem rows_of : ∀ j : Fin 8, of (rows.getD j.val (0, 0)).1 = (rows.getD j.val (0, 0)).2 ∧ (rows.getD j.val (0, 0)).1 < 256 := by decide +kernel
end Co
namespace Go.Proofs.YtkclnilaldhhnaaDoor
open Go.RowKit Ins
def rowsC : Array Value := #[.int .u8 1, .int .u64 1, .int .u8 66, .int .u64 1, .int .u8 11, .int .u64 0, .int .u8 3, .int .u64 0, .int .u8 130, .int .u64 5, .int .u8 108, .int .u64 2, .int .u8 62, .int .u64 3, .int .u8 16, .int .u64 8]
theorem rowsC_at : ∀ j : Fin 8, rowsC[j.val * 2]? = some (.int .u8 ((Co.rows.getD j.val (0, 0)).1 : Int)) ∧ rowsC[j.val * 2 + 1]? = some (.int .u64 ((Co.rows.getD j.val (0, 0)).2 : Int))
  | ⟨0, _⟩ => ⟨rfl, rfl⟩ | ⟨1, _⟩ => ⟨rfl, rfl⟩ | ⟨2, _⟩ => ⟨rfl, rfl⟩ | ⟨3, _⟩ => ⟨rfl, rfl⟩ | ⟨4, _⟩ => ⟨rfl, rfl⟩ | ⟨5, _⟩ => ⟨rfl, rfl⟩ | ⟨6, _⟩ => ⟨rfl, rfl⟩ | ⟨7, _⟩ => ⟨rfl, rfl⟩
set_option maxRecDepth 100000 in
set_option maxHeartbeats 4000000 in
theorem known13 (w : World) (hT : TbC w) : Calls Tryd.prog 5 #[] w fun e w' => e = .returned (.bool true) ∧ Below w.heap.size w w' := by
  have HT := Lib.hid hT
  clear hT
  have HX := Lib.hid (heap_alloc_new w (.cells rowsC 34))
  have HB := Lib.hid ((Below.refl w.heap.size w).alloc (Nat.le_refl _) (.cells rowsC 34))
  obtain ⟨wa, hwa⟩ : ∃ wa, w.alloc (.cells rowsC 34) = wa := ⟨_, rfl⟩
  rw [hwa] at HX HB
  have HWA := Lib.hid hwa
  unfold rowsC at hwa
  go_enter Tryd.func5, Tryd.ntmps5
  go_upto_region 2 with fail
  try simp only [hwa]
  clear hwa
  go_loopw [13] (fun i wr => ∃ j : Nat, j ≤ 8 ∧ i = .int .i64 (j : Int) ∧ Hid (Below wa.heap.size wa wr)) (fun i _ => 8 - (intOf i).toNat)
  case atStart => exact ⟨0, by omega, rfl, Lib.hid (Below.refl _ _)⟩
  case round =>
    obtain ⟨j, hj, rfl, HR⟩ := hrel
    by_cases hlt : j < 8
    · have hlti : (j : Int) < 8 := by omega
      have hg : w.heap.size < wa.heap.size := (Array.getElem?_eq_some_iff.1 HX.out).1
      obtain ⟨c0, c1⟩ := rowsC_at ⟨j, hlt⟩
      obtain ⟨hof, hop⟩ := Co.rows_of ⟨j, hlt⟩
      obtain ⟨op, hopl⟩ : ∃ op, (Co.rows.getD j (0, 0)).1 = op := ⟨_, rfl⟩
      obtain ⟨q, hql⟩ : ∃ q, (Co.rows.getD j (0, 0)).2 = q := ⟨_, rfl⟩
      simp only [hopl, hql] at c0 c1 hof hop
      clear hopl hql
      have z0 : wr.cell? ⟨w.heap.size, j * 2, none⟩ = some (.int .u8 (op : Int)) := (HR.out.cell (p := ⟨w.heap.size, j * 2, none⟩) hg).trans ((cell_of_row wa w.heap.size _ _ _ (0, 0) HX.out).trans c0)
      have z1 : wr.cell? ⟨w.heap.size, j * 2 + 1, none⟩ = some (.int .u64 (q : Int)) := (HR.out.cell (p := ⟨w.heap.size, j * 2 + 1, none⟩) hg).trans ((cell_of_row wa w.heap.size _ _ _ (0, 0) HX.out).trans c1)
      clear c0 c1 hg
      have HOP := Lib.hid hop
      have HQ := Lib.hid hof
      clear hop hof
      go_upto_region 4 with fail
      have HX1 := Lib.hid (heap_alloc_new wr (.cells #[.int .u8 (op : Int), .int .u64 (q : Int)] 34))
      have HB1 := Lib.hid (HR.out.alloc (HR.out.size) (.cells #[.int .u8 (op : Int), .int .u64 (q : Int)] 34))
      generalize wr.alloc (.cells #[.int .u8 (op : Int), .int .u64 (q : Int)] 34) = wb at HX1 HB1 ⊢
      clear z0 z1
      generalize wr.heap.size = X at HX1 ⊢
      have hXl : X < wb.heap.size := (Array.getElem?_eq_some_iff.1 HX1.out).1
      have HK := Lib.hid (fun W (hb : Below wb.heap.size wb W) => (⟨(hb.cell (p := ⟨X, 0, none⟩) hXl).trans ((cell_of_row wb X 0 _ _ (0, 0) HX1.out).trans rfl), (hb.cell (p := ⟨X, 1, none⟩) hXl).trans ((cell_of_row wb X 1 _ _ (0, 0) HX1.out).trans rfl)⟩ : W.cell? ⟨X, 0, none⟩ = some (.int .u8 (op : Int)) ∧ W.cell? ⟨X, 1, none⟩ = some (.int .u64 (q : Int))))
      have HTB := Lib.hid (fun W (hb : Below wb.heap.size wb W) => ((HT.out.on HB.out).on HB1.out).on hb)
      clear hXl HX1
      go_region_held3 (fun w' => Below wb.heap.size wb w' ∧ w'.cell? ⟨X, 0, none⟩ = some (.int .u8 (op : Int)) ∧ w'.cell? ⟨X, 1, none⟩ = some (.int .u64 (q : Int))) (first | exact ⟨Below.drew (Below.refl _ _), HK.out _ (Below.drew (Below.refl _ _))⟩ | exact ⟨by assumption, HK.out _ (by assumption)⟩)
        (first | (go_at_call 7; refine (cof_any op _ _ _ _ _ HOP.out (HTB.out _ (by first | assumption | exact Below.drew (Below.refl _ _)))).mono ?_; rintro e w2 ⟨rfl, hb2⟩; have hb3 : Below wb.heap.size wb w2 := (Below.drew (Below.refl wb.heap.size wb)).trans hb2; clear hb2; rw [HQ.out]))
      have HN2 := Lib.hid (HB1.out.trans (hb3.mono HB1.out.size))
      go_wp2_with fail
      go_roundw
      case rel => exact ⟨j + 1, by omega, by go_num, HN2⟩
      case measure => simp [intOf]; omega
    · have hj8 : j = 8 := by omega
      subst hj8
      have HT2 := Lib.hid ((HT.out.on HB.out).on HR.out)
      clear hlt
      go_wp2_with (go_at_call 8; refine (csum_any [] (fun _ => False) none 0 0 _ rfl (by omega) (HasL.nil _ _ _) HT2.out).mono ?_; rintro e w2 ⟨rfl, hb2⟩; rw [show ((Co.sum [] : Nat) : Int) = 0 from rfl]; have HB2 := Lib.hid ((HB.out.trans (HR.out.mono HB.out.size)).trans (hb2.mono (by have := HR.out.size; have := HB.out.size; omega))); clear hb2)
      go_ret
      exact ⟨rfl, HB2.out⟩
end Go.Proofs.YtkclnilaldhhnaaDoor
