/-
  What layer 5's program calls below it: bytes.Equal, HasPrefix, CutPrefix, Clone, and the closure that tells whether numbers rise.
-/
import Derived.Test.YthkglmkpnhhboaaGreatDoorR01
import Derived.Test.YthkglmkpnhhboaaGreatDoorR11
import Derived.Test.YthkglmkpnhhboaaGreatDoorR04
import Derived.Lib.SliceRun
set_option maxRecDepth 100000
set_option maxHeartbeats 4000000
namespace Go.Proofs.YthkglmkpnhhboaaGreatDoor
open Go.RowKit
theorem equal_any (A B : Option Addr) (l m : List UInt8) (n1 c1 n2 c2 : Nat) (w : World) (hA : Has w w.heap.size A l) (hB : Has w w.heap.size B m) (hn1 : n1 = l.length) (hn2 : n2 = m.length) :
  Calls Tryz.prog 87 #[.slice A n1 c1, .slice B n2 c2] w fun e w' => e = .returned (.bool (l == m)) ∧ w = w' := by
 have k1 := bw hA hn1 c1
 have k2 := bw hB hn2 c2
 clear hA hB hn1 hn2
 go_enter Tryz.func87, Tryz.ntmps87
 go_wp2_with fail
 go_ret
 exact ⟨rfl, rfl⟩
theorem prefix_any (A B : Option Addr) (l m : List UInt8) (n1 c1 n2 c2 : Nat) (w : World) (hA : Has w w.heap.size A l) (hB : Has w w.heap.size B m) (hn1 : n1 = l.length) (hn2 : n2 = m.length) (hnc : n1 ≤ c1) :
  Calls Tryz.prog 45 #[.slice A n1 c1, .slice B n2 c2] w fun e w' => e = .returned (.bool (l.take m.length == m)) ∧ w = w' := by
 by_cases h : n1 < n2
 ·have hi : decide ((n2 : Int) ≤ (n1 : Int)) = false := decide_eq_false (by omega)
  have hno : (l.take m.length == m) = false := by
   rw [Bool.eq_false_iff]
   intro e
   have := congrArg List.length (beq_iff_eq.1 e)
   rw [List.length_take] at this
   omega
  rw [hno]
  clear hno hn1 hn2 hA hB
  go_enter Tryz.func45, Tryz.ntmps45
  go_wp2_with fail
  go_ret
  exact ⟨rfl, rfl⟩
 ·have hi : (n2 : Int) ≤ (n1 : Int) := by omega
  have h2c : (n2 : Int) ≤ (c1 : Int) := by omega
  have C := Y (equal_any A B (l.take m.length) m n2 c1 n2 c2 w (hA.take _) hB (by rw [List.length_take]; omega) hn2)
  generalize (l.take m.length == m) = eq at C ⊢
  clear hn1 hn2 hA hB
  go_enter Tryz.func45, Tryz.ntmps45
  go_wp2_with (go_at_call 87; refine C.out.mono ?_; rintro e w1 ⟨rfl, rfl⟩)
  go_ret
  exact ⟨rfl, rfl⟩
def CutLow (A : Option Addr) (l m : List UInt8) (n1 c1 n2 : Nat) (w : World) (e : Ending) (w' : World) : Prop :=
 w = w' ∧ if l.take m.length = m then ∃ A', e = .returned (.tuple #[.slice A' (n1 - n2) (c1 - n2), .bool true]) ∧ n2 ≤ n1 ∧ (A' = none → c1 - n2 = 0) ∧ ∀ W B, Has W B A l → Has W B A' (l.drop n2) else ∃ v, e = .returned (.tuple #[v, .bool false])
theorem cut_any (A B : Option Addr) (l m : List UInt8) (n1 c1 n2 c2 : Nat) (w : World) (hA : Has w w.heap.size A l) (hB : Has w w.heap.size B m) (hn1 : n1 = l.length) (hn2 : n2 = m.length) (hnc : n1 ≤ c1) (h0 : 0 < n2) (hA0 : A = none → c1 = 0) :
  Calls Tryz.prog 25 #[.slice A n1 c1, .slice B n2 c2] w (CutLow A l m n1 c1 n2 w) := by
 have C := Y (prefix_any A B l m n1 c1 n2 c2 w hA hB hn1 hn2 hnc)
 by_cases he : l.take m.length = m
 ·have hb : (l.take m.length == m) = true := beq_iff_eq.2 he
  have hlen : n2 ≤ n1 := by
   have := congrArg List.length he
   rw [List.length_take] at this
   omega
  rw [hb] at C
  obtain ⟨ad, rfl⟩ := hA.someAddr (by omega)
  have h1 : (n2 : Int) ≤ (n1 : Int) := by omega
  have h2 : (n2 : Int) ≤ (c1 : Int) := by omega
  have HE := Y he
  have HN := Y hn1
  clear hb he hA hB hn1 hn2 hA0
  by_cases hcc : c1 = n2
  ·subst hcc
   obtain rfl : n1 = c1 := by omega
   go_enter Tryz.func25, Tryz.ntmps25
   go_wp2_with (go_at_call 45; refine C.out.mono ?_; rintro e w1 ⟨rfl, rfl⟩)
   go_ret2
   refine ⟨rfl, ?_⟩
   rw [if_pos HE.out]
   refine ⟨some ad, by simp, Nat.le_refl _, (by simp), fun W B _ => ?_⟩
   rw [HN.out, List.drop_length]
   exact Has.nil _ _ _
  ·have hcc2 : ¬ (c1 - n2 = 0) := by omega
   go_enter Tryz.func25, Tryz.ntmps25
   go_wp2_with (go_at_call 45; refine C.out.mono ?_; rintro e w1 ⟨rfl, rfl⟩)
   go_ret2
   refine ⟨rfl, ?_⟩
   rw [if_pos HE.out]
   exact ⟨some (ad.add n2), rfl, hlen, (by simp), fun W B h => h.from n2⟩
 ·have hb : (l.take m.length == m) = false := by rw [Bool.eq_false_iff]; intro e; exact he (beq_iff_eq.1 e)
  rw [hb] at C
  have HE := Y he
  clear hb he hA hB hn1 hn2 hA0
  go_enter Tryz.func25, Tryz.ntmps25
  go_wp2_with (go_at_call 45; refine C.out.mono ?_; rintro e w1 ⟨rfl, rfl⟩)
  go_ret2
  refine ⟨rfl, ?_⟩
  rw [if_neg HE.out]
  exact ⟨_, rfl⟩
def Cl (w : World) (g k : Nat) : Prop := w.heap[g]? = some (.cells #[.int .u8 (k : Int)] 5 (0, 0))
theorem Cl.cell {w : World} {g k : Nat} (h : Cl w g k) : w.cell? ⟨g, 0, none⟩ = some (.int .u8 (k : Int)) := by
 rw [cell_of_row w g 0 _ _ _ h]; rfl
theorem Cl.mod {T : Nat → Prop} {w w' : World} {g k : Nat} (h : Cl w g k) (hm : Mod T w w') (ht : ¬ T g) : Cl w' g k := hm.heap h ht
theorem fk (id k g : Nat) (w : World) (hid : id < 256) (hp : Cl w g k) :
  Calls Tryz.prog 46 #[.int .u8 (id : Int), .pointer (some ⟨g, 0, none⟩)] w fun e w' => e = .returned (.bool (decide (k < id) && decide (id ≤ 11))) ∧ Mod (fun b => b = g) w w' ∧ Cl w' g (if k < id ∧ id ≤ 11 then id else k) := by
 have hc := hp.cell
 have hf := frozen_of_row w g 0 _ _ hp
 have HP := Y hp
 clear hp
 by_cases h1 : id ≤ k
 ·have h1i : (id : Int) ≤ (k : Int) := by omega
  have h2 : ¬ (k < id ∧ id ≤ 11) := by omega
  have h3 : (decide (k < id) && decide (id ≤ 11)) = false := by simp; omega
  rw [h3, if_neg h2]
  go_enter Tryz.func46, Tryz.ntmps46
  go_wp2_with fail
  go_ret
  exact ⟨rfl, Mod.refl _ _, HP.out⟩
 ·have h1i : decide ((id : Int) ≤ (k : Int)) = false := decide_eq_false (by omega)
  by_cases h2 : id ≤ 11
  ·have h2i : decide ((11 : Int) < (id : Int)) = false := decide_eq_false (by omega)
   have h3 : (decide (k < id) && decide (id ≤ 11)) = true := by simp; omega
   rw [h3, if_pos (by omega)]
   go_enter Tryz.func46, Tryz.ntmps46
   go_wp2_with fail
   go_ret
   exact ⟨rfl, Mod.setCell (T := fun b => b = g) (Mod.refl _ _) (fun _ => rfl) _, heap_setCell_same w g 0 _ _ _ HP.out⟩
  ·have h2i : decide ((11 : Int) < (id : Int)) = true := decide_eq_true (by omega)
   have h3 : (decide (k < id) && decide (id ≤ 11)) = false := by simp; omega
   rw [h3, if_neg (by omega)]
   go_enter Tryz.func46, Tryz.ntmps46
   go_wp2_with fail
   go_ret
   exact ⟨rfl, Mod.refl _ _, HP.out⟩
theorem fI (w : World) :
  Calls Tryz.prog 26 #[] w fun e w' => e = .returned (.func (.func 46) #[] #[.pointer (some ⟨w.heap.size, 0, none⟩)]) ∧ Cl w' w.heap.size 0 ∧ Below w.heap.size w w' ∧ w.heap.size < w'.heap.size := by
 go_enter Tryz.func26, Tryz.ntmps26
 go_wp2_with fail
 go_ret
 exact ⟨rfl, heap_alloc_new w _, (Below.refl _ _).alloc (Nat.le_refl _) _, by simp⟩
theorem iv (A : Option Addr) (l : List UInt8) (n c : Nat) (w : World) (hA : Has w w.heap.size A l) (hn : n = l.length) (hsz : n ≤ 140737488355328) (hA0 : A = none → c = 0) :
  Calls Tryz.prog 29 #[.slice A n c] w fun e w' => ∃ v, e = .returned v ∧ w'.ownsRow w.heap.size 5 1 v l.length (bytesOf l) ∧ Below w.heap.size w w' := by
 cases A with
 | none =>
  have hl : l = [] := by
   cases l with
   | nil => rfl
   | cons x r => obtain ⟨ad, h, _⟩ := hA 0 x (by simp); cases h
  subst hl
  obtain rfl : n = 0 := hn
  obtain rfl : c = 0 := hA0 rfl
  have heq := Lib.run_eql_slice_nil (P := Tryz.prog) w 36 5 none 0 0 0 0 und22
  clear hA0 hA hsz
  go_enter Tryz.func29, Tryz.ntmps29
  go_wp2_with fail
  go_ret
  exact ⟨_, rfl, World.ownsRow_nil _ _ _ _, Below.refl _ _⟩
 | some ad =>
  have hb1 : Below w.heap.size w (w.alloc (.cells #[] 5)) := (Below.refl _ _).alloc (Nat.le_refl _) _
  have ho1 : (w.alloc (.cells #[] 5)).ownsRow w.heap.size 5 1 (.slice (some ⟨w.heap.size, 0, none⟩) 0 0) ([] : List UInt8).length (bytesOf []) := World.ownsRow_lit (base := w.heap.size) (e := 5) (size := 1) w #[] 0 (Nat.le_refl _) (by unfold maxLen; omega) rfl
  obtain ⟨v6, w6, hr6, ha6⟩ := aT (w.alloc (.cells #[] 5)) w.heap.size n c _ [] l (some ad) ho1 (hA.on hb1) hn (by simp; omega) hb1.size
  rw [List.nil_append] at ha6
  have HR6 := Y hr6
  have HO6 := Y ha6.1
  have HB6 := Y (hb1.trans (ha6.below (aw ho1) hb1.size))
  clear hr6 ha6 ho1 hb1 hA hA0 hn
  have heq := Lib.run_eql_slice_nil (P := Tryz.prog) w 36 5 (some ad) n c 0 0 und22
  go_enter Tryz.func29, Tryz.ntmps29
  go_wp2_with (at_builtin; refine aa rfl (.tmp 5) (.tmp 6) 36 rfl _ _ _ w6 rfl rfl HR6.out ?_)
  go_ret
  exact ⟨_, rfl, HO6.out, HB6.out⟩
end Go.Proofs.YthkglmkpnhhboaaGreatDoor
